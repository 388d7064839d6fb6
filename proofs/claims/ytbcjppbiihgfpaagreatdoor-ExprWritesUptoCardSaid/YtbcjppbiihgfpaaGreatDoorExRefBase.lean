/-
  ExRefBase: ExRefChk, ExRefNum, ExRefShow in one. Written by wip/prgroups.py.
-/
import Derived.Test.YtbcjppbiihgfpaaGreatDoorExRefNode
import Derived.Test.YtbcjppbiihgfpaaGreatDoorExRefDeep
import Derived.Test.YtbcjppbiihgfpaaGreatDoorPrBase
namespace Go.Proofs.YtbcjppbiihgfpaaGreatDoor.Ex
open Go.ChangeShapes Go.WideShapes Go.ChangeAt Go.RowKit
open Go.Proofs.YtbcjppbiihgfpaaGreatDoor.Mem Go.Proofs.YtbcjppbiihgfpaaGreatDoor.Lik
set_option linter.unusedVariables false
set_option linter.unusedSimpArgs false
set_option maxRecDepth 100000
theorem rnode_told (x : T) (w : World) (h : x.ok w) (hw : Sta w) : RNodeTold x w where
  text := fun W b => quotable_any x.str W h.parts.2.2.1
  uid := fun W b => (Nam.ruid_any x.typ x.str W h.parts.2.2.2.1 h.parts.2.2.1).mono fun e w' he => ⟨_, he.1, uid_ud _ _, he.2⟩
  name := fun W b => label_any x.str W h.parts.2.2.1
  type := fun W b => Nam.rtype_any x.typ W h.parts.2.2.2.1
  names := fun W b => labels_any x.names x.nv W (h.parts.2.2.2.2.2.1.below b) h.parts.2.2.2.2.1
def RRight (x : T) : Prop := ∀ (w : World), x.ok w → Sta w → Calls Tryz.prog 31 #[x.val] w fun e w' => e = .returned (.bool (rightB x)) ∧ Below w.heap.size w w'
set_option maxHeartbeats 4000000 in
theorem rright_step (x : T) (ih : ∀ z ∈ x.list, RRight z) : RRight x := by
  intro w h hw
  have cN := hid (fun W (b : Below w.heap.size w W) => rnode_any x W (h.below b) (rnode_told x W (h.below b) (hw.below b)))
  obtain ⟨no, nc, lo, lc, e1, e2, l1, l2⟩ := h.forms
  rw [T.val_eq e1 e2] at cN ⊢
  have hR := hid (show rightB x = (rightAt x.list 0 && nodeB x) from (rightB_eq x).trans (Bool.and_comm _ _))
  generalize rightB x = R at hR ⊢
  generalize nodeB x = nb at hR cN
  have i2 : (x.list.length : Int) ≤ 9223372036854775807 := by omega
  have h' := hid h
  have ih' := hid ih
  have hw' := hid hw
  have e2' := hid e2
  clear ih h e1 e2 hw
  go_enter Tryz.func31, Tryz.ntmps31
  go_upto_region 1 with fail
  have K1 := hid (Blk.new w [.int .u8 (x.kind : Nat), .int .i64 x.num, .string x.str, .string x.typ, .slice no x.names.length nc, .slice lo x.list.length lc] 26)
  have bw := hid ((Below.refl w.heap.size w).alloc (Nat.le_refl _) (.cells #[.int .u8 (x.kind : Nat), .int .i64 x.num, .string x.str, .string x.typ, .slice no x.names.length nc, .slice lo x.list.length lc] 26))
  generalize w.alloc (.cells #[.int .u8 (x.kind : Nat), .int .i64 x.num, .string x.str, .string x.typ, .slice no x.names.length nc, .slice lo x.list.length lc] 26) = X0 at K1 bw ⊢
  obtain ⟨c0, c1, c2, c3, c4, c5, cf⟩ := six K1.out
  go_wp2_with fail
  clear c0 c1 c2 c3 c4 c5 cf
  go_loopw [8] (fun i wr => ∃ k : Nat, k ≤ x.list.length ∧ i = .int .i64 k ∧ Hid (R = (rightAt x.list k && nb)) ∧ Hid (Blk wr w.heap.size [.int .u8 (x.kind : Nat), .int .i64 x.num, .string x.str, .string x.typ, .slice no x.names.length nc, .slice lo x.list.length lc] 26) ∧ Hid (Below w.heap.size w wr)) (fun i _ => x.list.length - (intOf i).toNat)
  case atStart => exact ⟨0, by omega, rfl, hR, K1, bw⟩
  case round =>
    clear K1 bw hR
    obtain ⟨k, hk, rfl, hr, K1, bw'⟩ := hrel
    rename_i wr _
    by_cases hkl : k < x.list.length
    · have hki : (k : Int) < (x.list.length : Int) := by omega
      have hst := hid (hr.out.trans (congrArg (· && nb) (rightAt_step x.list k hkl)))
      clear hr
      obtain ⟨xb, xo, rfl, xf0, xf1, xf2, xf3, xf4, xf5⟩ := (h'.out.below bw'.out).part6 e2'.out k hkl
      have hrec := hid (fun W (b : Below w.heap.size w W) => ih'.out x.list[k] (List.getElem_mem hkl) W ((h'.out.below b).parts.2.2.2.2.2.2.2 _ (List.getElem_mem hkl)) (hw'.out.below b))
      have hzok := (h'.out.below bw'.out).parts.2.2.2.2.2.2.2 _ (List.getElem_mem hkl)
      generalize x.list[k] = z at xf0 xf1 xf2 xf3 xf4 xf5 hrec hst hzok
      obtain ⟨zno, znc, zlo, zlc, ez1, ez2, zl1, zl2⟩ := hzok.forms
      have hzv := T.val_eq ez1 ez2
      rw [ez1] at xf4
      rw [ez2] at xf5
      clear hzok ez1 ez2
      replace hrec := hid (show ∀ W, Below w.heap.size w W → Calls Tryz.prog 31 #[.agg #[.int .u8 (z.kind : Nat), .int .i64 z.num, .string z.str, .string z.typ, .slice zno z.names.length znc, .slice zlo z.list.length zlc]] W fun e w' => e = .returned (.bool (rightB z)) ∧ Below W.heap.size W w' from fun W b => by have := hrec.out W b; rw [hzv] at this; exact this)
      clear hzv
      generalize rightB z = rz at hst hrec
      go_upto_region 4 with fail
      have K4 := hid (Blk.new wr [.int .u8 (z.kind : Nat), .int .i64 z.num, .string z.str, .string z.typ, .slice zno z.names.length znc, .slice zlo z.list.length zlc] 26)
      replace K1 := hid (K1.out.alloc (.cells #[.int .u8 (z.kind : Nat), .int .i64 z.num, .string z.str, .string z.typ, .slice zno z.names.length znc, .slice zlo z.list.length zlc] 26))
      replace bw' := hid (bw'.out.alloc bw'.out.size (.cells #[.int .u8 (z.kind : Nat), .int .i64 z.num, .string z.str, .string z.typ, .slice zno z.names.length znc, .slice zlo z.list.length zlc] 26))
      clear xf0 xf1 xf2 xf3 xf4 xf5
      generalize wr.alloc (.cells #[.int .u8 (z.kind : Nat), .int .i64 z.num, .string z.str, .string z.typ, .slice zno z.names.length znc, .slice zlo z.list.length zlc] 26) = X3 at K1 K4 bw' ⊢
      obtain ⟨f0, f1, f2, f3, f4, f5, ff⟩ := six K4.out
      go_wp2_with fail
      refine (hrec.out _ bw'.out).mono ?_
      rintro e w2 ⟨rfl, b1⟩
      replace K1 := hid (K1.out.below b1 K1.out.lt)
      replace bw' := hid (bt bw'.out b1)
      clear b1 hrec f0 f1 f2 f3 f4 f5 ff K4
      cases rz with
      | false =>
        have hn := hid (show R = false by rw [hst.out]; rfl)
        clear hst
        go_wp2_with fail
        go_ret
        exact ⟨by rw [hn.out]; rfl, bw'.out⟩
      | true =>
        replace hst := hid (hst.out.trans (congrArg (· && nb) (Bool.true_and _)))
        go_wp2_with fail
        go_roundw
        case rel => exact ⟨k + 1, by omega, by go_num, hst, K1, bw'⟩
        case measure => simp [intOf]; omega
    · have hki : ¬ (k : Int) < (x.list.length : Int) := by omega
      have hn := hid (show R = nb by rw [hr.out, rightAt_end x.list k (by omega)]; rfl)
      have cQ := hid (cN.out wr bw'.out)
      clear hr
      obtain ⟨c0, c1, c2, c3, c4, c5, cf⟩ := six K1.out
      go_wp2_with fail
      refine cQ.out.mono ?_
      rintro e w2 ⟨rfl, b1⟩
      replace bw' := hid (bt bw'.out b1)
      clear b1 cQ cN c0 c1 c2 c3 c4 c5 cf K1
      go_wp2_with fail
      go_ret
      exact ⟨by rw [hn.out]; rfl, bw'.out⟩
theorem rright_any (x : T) : RRight x := by
  suffices h : ∀ n (x : T), x.size ≤ n → RRight x from h x.size x (Nat.le_refl _)
  intro n
  induction n with
  | zero => intro x hx; have := x.size_pos; omega
  | succ n ih => intro x hx; exact rright_step x (fun z hm => ih z (by have := T.size_part hm; omega))
set_option maxHeartbeats 4000000 in
theorem rcheck_any (x : T) (w : World) (h : x.ok w) (hz : x.size ≤ 8388608) (hw : Sta w) :
    Calls Tryz.prog 10 #[x.val] w fun e w' => e = .returned (.int .i64 (chkN x)) ∧ Below w.heap.size w w' := by
  have cR := hid (fun W (b : Below w.heap.size w W) => rright_any x W (h.below b) (hw.below b))
  have cD := hid (fun W (b : Below w.heap.size w W) => (show Calls Tryz.prog 32 #[x.val] W fun e w' => e = .returned (.int .i64 (deepN x : Nat)) ∧ Below W.heap.size W w' from dW_small x hz ▸ rdeep_any x W (h.below b)))
  have cS := hid (fun W (b : Below w.heap.size w W) => (show Calls Tryz.prog 33 #[x.val] W fun e w' => e = .returned (.int .i64 (x.size : Nat)) ∧ Below W.heap.size W w' from nW_small x hz ▸ rnodes_any x W (h.below b)))
  have hd : deepN x ≤ 8388608 := Nat.le_trans (deep_size x.size x (Nat.le_refl _)) hz
  obtain ⟨no, nc, lo, lc, e1, e2, l1, l2⟩ := h.forms
  rw [T.val_eq e1 e2] at cR cD cS ⊢
  obtain ⟨R, hR⟩ : ∃ R, chkN x = R := ⟨_, rfl⟩
  rw [hR]
  replace hR := hid (hR.symm.trans (show chkN x = _ by unfold chkN; rfl))
  clear h e1 e2 hw
  generalize rightB x = rb at *
  generalize deepN x = dn at *
  generalize x.size = sn at *
  go_enter Tryz.func10, Tryz.ntmps10
  go_upto_region 1 with fail
  have K1 := hid (Blk.new w [.int .u8 (x.kind : Nat), .int .i64 x.num, .string x.str, .string x.typ, .slice no x.names.length nc, .slice lo x.list.length lc] 26)
  have bw := hid ((Below.refl w.heap.size w).alloc (Nat.le_refl _) (.cells #[.int .u8 (x.kind : Nat), .int .i64 x.num, .string x.str, .string x.typ, .slice no x.names.length nc, .slice lo x.list.length lc] 26))
  generalize w.alloc (.cells #[.int .u8 (x.kind : Nat), .int .i64 x.num, .string x.str, .string x.typ, .slice no x.names.length nc, .slice lo x.list.length lc] 26) = X0 at K1 bw ⊢
  obtain ⟨c0, c1, c2, c3, c4, c5, cf⟩ := six K1.out
  go_wp2_with fail
  refine (cR.out _ bw.out).mono ?_
  rintro e w1 ⟨rfl, b1⟩
  replace K1 := hid (K1.out.below b1 K1.out.lt)
  replace bw := hid (bt bw.out b1)
  clear b1 cR c0 c1 c2 c3 c4 c5 cf
  obtain ⟨c0, c1, c2, c3, c4, c5, cf⟩ := six K1.out
  cases rb with
  | false =>
    replace hR := hid (hR.out.trans (if_pos rfl))
    go_wp2_with fail
    go_ret
    exact ⟨by rw [hR.out]; rfl, bw.out⟩
  | true =>
    replace hR := hid (hR.out.trans (if_neg (by simp)))
    go_wp2_with fail
    refine (cD.out _ bw.out).mono ?_
    rintro e w2 ⟨rfl, b1⟩
    replace K1 := hid (K1.out.below b1 K1.out.lt)
    replace bw := hid (bt bw.out b1)
    clear b1 cD c0 c1 c2 c3 c4 c5 cf
    obtain ⟨c0, c1, c2, c3, c4, c5, cf⟩ := six K1.out
    by_cases h1 : 16 < dn
    · have h1i : (16 : Int) < (dn : Int) := by omega
      replace hR := hid (hR.out.trans (if_pos h1))
      clear h1
      go_wp2_with fail
      go_ret
      exact ⟨by rw [hR.out]; rfl, bw.out⟩
    · have h1i : ¬ (16 : Int) < (dn : Int) := by omega
      replace hR := hid (hR.out.trans (if_neg h1))
      clear h1
      go_wp2_with fail
      refine (cS.out _ bw.out).mono ?_
      rintro e w3 ⟨rfl, b1⟩
      replace K1 := hid (K1.out.below b1 K1.out.lt)
      replace bw := hid (bt bw.out b1)
      clear b1 cS c0 c1 c2 c3 c4 c5 cf
      by_cases h2 : 128 < sn
      · have h2i : (128 : Int) < (sn : Int) := by omega
        replace hR := hid (hR.out.trans (if_pos h2))
        clear h2
        go_wp2_with fail
        go_ret
        exact ⟨by rw [hR.out]; rfl, bw.out⟩
      · have h2i : ¬ (128 : Int) < (sn : Int) := by omega
        replace hR := hid (hR.out.trans (if_neg h2))
        clear h2
        go_wp2_with fail
        go_ret
        exact ⟨by rw [hR.out]; rfl, bw.out⟩
theorem rname_told (s : ByteArray) (w : World) (hs : s.size ≤ 140737488355328) : Calls Tryz.prog 60 #[.string s] w fun e w' => e = .returned (.bool (Nam.nameB s)) ∧ Below w.heap.size w w' := Nam.rname_any s w hs
set_option maxHeartbeats 4000000 in
theorem named_any (s : ByteArray) (w : World) (hs : s.size ≤ 1048576) :
    Calls Tryz.prog 59 #[.string s] w fun e w' => e = .returned (.string (bs (namedL s))) ∧ Below w.heap.size w w' := by
  have hn := hid (Nam.rname_any s w (by omega))
  have hq := hid (fun W => Tok.quoted_any s W (by omega))
  obtain ⟨R, hR⟩ : ∃ R, bs (namedL s) = R := ⟨_, rfl⟩
  rw [hR]
  replace hR := hid (hR.symm.trans (show bs (namedL s) = _ by unfold namedL; rfl))
  clear hs
  go_enter Tryz.func59, Tryz.ntmps59
  cases hb : Nam.nameB s with
  | true =>
    rw [hb] at hn hR
    replace hR := hid (show R = s by rw [hR.out, if_pos rfl, bs_self])
    clear hb
    go_wp2_with fail
    refine hn.out.mono ?_
    rintro e w1 ⟨rfl, b1⟩
    have b1 := hid b1
    clear hn hq
    go_wp2_with fail
    go_ret
    exact ⟨by rw [hR.out]; rfl, b1.out⟩
  | false =>
    rw [hb] at hn hR
    replace hR := hid (show R = bs (Tok.quoteL s.data.toList) by rw [hR.out, if_neg (by simp)])
    clear hb
    go_wp2_with fail
    refine hn.out.mono ?_
    rintro e w1 ⟨rfl, b1⟩
    have b1 := hid b1
    clear hn
    go_wp2_with fail
    refine (hq.out _).mono ?_
    rintro e w2 ⟨rfl, b2⟩
    have b2 := hid (bt b1.out b2)
    clear hq b1
    go_wp2_with fail
    go_ret
    exact ⟨by rw [hR.out]; rfl, b2.out⟩
set_option maxHeartbeats 4000000 in
theorem word_27 (w : World) : Calls Tryz.prog 61 #[.int .u8 27] w fun e w' => e = .returned (.string (bs (spellT 27))) ∧ Below w.heap.size w w' := by
  go_enter Tryz.func61, Tryz.ntmps61
  go_wp2_with fail
  go_ret
  exact ⟨rfl, by go_grown⟩
set_option maxHeartbeats 4000000 in
theorem word_28 (w : World) : Calls Tryz.prog 61 #[.int .u8 28] w fun e w' => e = .returned (.string (bs (spellT 28))) ∧ Below w.heap.size w w' := by
  go_enter Tryz.func61, Tryz.ntmps61
  go_wp2_with fail
  go_ret
  exact ⟨rfl, by go_grown⟩
set_option maxHeartbeats 4000000 in
theorem word_29 (w : World) : Calls Tryz.prog 61 #[.int .u8 29] w fun e w' => e = .returned (.string (bs (spellT 29))) ∧ Below w.heap.size w w' := by
  go_enter Tryz.func61, Tryz.ntmps61
  go_wp2_with fail
  go_ret
  exact ⟨rfl, by go_grown⟩
theorem word_any (k : Nat) (h : 27 ≤ k ∧ k ≤ 29) (w : World) : Calls Tryz.prog 61 #[.int .u8 (k : Nat)] w fun e w' => e = .returned (.string (bs (spellT k))) ∧ Below w.heap.size w w' := by
  have : k = 27 ∨ k = 28 ∨ k = 29 := by omega
  rcases this with rfl | rfl | rfl
  · exact word_27 w
  · exact word_28 w
  · exact word_29 w
set_option maxHeartbeats 4000000 in
theorem sign_15 (w : World) : Calls Tryz.prog 62 #[.int .u8 15] w fun e w' => e = .returned (.string (bs (spellT 15))) ∧ Below w.heap.size w w' := by
  go_enter Tryz.func62, Tryz.ntmps62
  go_wp2_with fail
  go_ret
  exact ⟨rfl, by go_grown⟩
set_option maxHeartbeats 4000000 in
theorem sign_16 (w : World) : Calls Tryz.prog 62 #[.int .u8 16] w fun e w' => e = .returned (.string (bs (spellT 16))) ∧ Below w.heap.size w w' := by
  go_enter Tryz.func62, Tryz.ntmps62
  go_wp2_with fail
  go_ret
  exact ⟨rfl, by go_grown⟩
set_option maxHeartbeats 4000000 in
theorem sign_17 (w : World) : Calls Tryz.prog 62 #[.int .u8 17] w fun e w' => e = .returned (.string (bs (spellT 17))) ∧ Below w.heap.size w w' := by
  go_enter Tryz.func62, Tryz.ntmps62
  go_wp2_with fail
  go_ret
  exact ⟨rfl, by go_grown⟩
set_option maxHeartbeats 4000000 in
theorem sign_18 (w : World) : Calls Tryz.prog 62 #[.int .u8 18] w fun e w' => e = .returned (.string (bs (spellT 18))) ∧ Below w.heap.size w w' := by
  go_enter Tryz.func62, Tryz.ntmps62
  go_wp2_with fail
  go_ret
  exact ⟨rfl, by go_grown⟩
set_option maxHeartbeats 4000000 in
theorem sign_19 (w : World) : Calls Tryz.prog 62 #[.int .u8 19] w fun e w' => e = .returned (.string (bs (spellT 19))) ∧ Below w.heap.size w w' := by
  go_enter Tryz.func62, Tryz.ntmps62
  go_wp2_with fail
  go_ret
  exact ⟨rfl, by go_grown⟩
set_option maxHeartbeats 4000000 in
theorem sign_20 (w : World) : Calls Tryz.prog 62 #[.int .u8 20] w fun e w' => e = .returned (.string (bs (spellT 20))) ∧ Below w.heap.size w w' := by
  go_enter Tryz.func62, Tryz.ntmps62
  go_wp2_with fail
  go_ret
  exact ⟨rfl, by go_grown⟩
set_option maxHeartbeats 4000000 in
theorem sign_21 (w : World) : Calls Tryz.prog 62 #[.int .u8 21] w fun e w' => e = .returned (.string (bs (spellT 21))) ∧ Below w.heap.size w w' := by
  go_enter Tryz.func62, Tryz.ntmps62
  go_wp2_with fail
  go_ret
  exact ⟨rfl, by go_grown⟩
set_option maxHeartbeats 4000000 in
theorem sign_22 (w : World) : Calls Tryz.prog 62 #[.int .u8 22] w fun e w' => e = .returned (.string (bs (spellT 22))) ∧ Below w.heap.size w w' := by
  go_enter Tryz.func62, Tryz.ntmps62
  go_wp2_with fail
  go_ret
  exact ⟨rfl, by go_grown⟩
set_option maxHeartbeats 4000000 in
theorem sign_23 (w : World) : Calls Tryz.prog 62 #[.int .u8 23] w fun e w' => e = .returned (.string (bs (spellT 23))) ∧ Below w.heap.size w w' := by
  go_enter Tryz.func62, Tryz.ntmps62
  go_wp2_with fail
  go_ret
  exact ⟨rfl, by go_grown⟩
set_option maxHeartbeats 4000000 in
theorem sign_24 (w : World) : Calls Tryz.prog 62 #[.int .u8 24] w fun e w' => e = .returned (.string (bs (spellT 24))) ∧ Below w.heap.size w w' := by
  go_enter Tryz.func62, Tryz.ntmps62
  go_wp2_with fail
  go_ret
  exact ⟨rfl, by go_grown⟩
set_option maxHeartbeats 4000000 in
theorem sign_25 (w : World) : Calls Tryz.prog 62 #[.int .u8 25] w fun e w' => e = .returned (.string (bs (spellT 25))) ∧ Below w.heap.size w w' := by
  go_enter Tryz.func62, Tryz.ntmps62
  go_wp2_with fail
  go_ret
  exact ⟨rfl, by go_grown⟩
set_option maxHeartbeats 4000000 in
theorem sign_26 (w : World) : Calls Tryz.prog 62 #[.int .u8 26] w fun e w' => e = .returned (.string (bs (spellT 26))) ∧ Below w.heap.size w w' := by
  go_enter Tryz.func62, Tryz.ntmps62
  go_wp2_with fail
  go_ret
  exact ⟨rfl, by go_grown⟩
theorem sign_any (k : Nat) (h : 15 ≤ k ∧ k ≤ 26) (w : World) : Calls Tryz.prog 62 #[.int .u8 (k : Nat)] w fun e w' => e = .returned (.string (bs (spellT k))) ∧ Below w.heap.size w w' := by
  have : k = 15 ∨ k = 16 ∨ k = 17 ∨ k = 18 ∨ k = 19 ∨ k = 20 ∨ k = 21 ∨ k = 22 ∨ k = 23 ∨ k = 24 ∨ k = 25 ∨ k = 26 := by omega
  rcases this with rfl | rfl | rfl | rfl | rfl | rfl | rfl | rfl | rfl | rfl | rfl | rfl
  · exact sign_15 w
  · exact sign_16 w
  · exact sign_17 w
  · exact sign_18 w
  · exact sign_19 w
  · exact sign_20 w
  · exact sign_21 w
  · exact sign_22 w
  · exact sign_23 w
  · exact sign_24 w
  · exact sign_25 w
  · exact sign_26 w
end Go.Proofs.YtbcjppbiihgfpaaGreatDoor.Ex
namespace Go.Proofs.YtbcjppbiihgfpaaGreatDoor.Ex
open Go.ChangeShapes Go.WideShapes Go.ChangeAt Go.RowKit
open Go.Proofs.YtbcjppbiihgfpaaGreatDoor.Mem Go.Proofs.YtbcjppbiihgfpaaGreatDoor.Lik
set_option linter.unusedVariables false
set_option linter.unusedSimpArgs false
set_option maxRecDepth 100000
def dg8 (a : Nat) : UInt8 := UInt8.ofNat (48 + a)
def digL (m : Nat) : By := if m = 0 then [] else Lib.decDigits m
/-- what stands already of a number's digits, the rest being m -/
def NumIs (n m : Nat) (s : By) : Prop := (s = [] ∧ m = n) ∨ (s ≠ [] ∧ Lib.decDigits n = digL m ++ s)
theorem num_step {n m : Nat} {s : By} (h : NumIs n m s) (hg : s = [] ∨ 0 < m) : NumIs n (m / 10) (dg8 (m % 10) :: s) := by
  refine .inr ⟨by simp, ?_⟩
  have key : Lib.decDigits m = digL (m / 10) ++ [dg8 (m % 10)] := by
    rw [Lib.decDigits]
    unfold digL
    by_cases h1 : m < 10
    · rw [dif_pos h1, if_pos (by omega), Nat.mod_eq_of_lt h1]; rfl
    · rw [dif_neg h1, if_neg (by omega)]; rfl
  rcases h with ⟨rfl, rfl⟩ | ⟨h1, h2⟩
  · exact key
  · have hm : 0 < m := by rcases hg with h | h; exact absurd h h1; exact h
    rw [h2]
    unfold digL
    rw [if_neg (by omega), key]
    unfold digL
    simp
theorem num_done {n m : Nat} {s : By} (h : NumIs n m s) (h1 : s ≠ []) (h2 : m = 0) : s = Lib.decDigits n := by
  rcases h with ⟨h, _⟩ | ⟨_, h⟩
  · exact absurd h h1
  · rw [h, h2]; rfl
theorem num_len {n m : Nat} {s : By} (h : NumIs n m s) (hn : n ≤ 9223372036854775807) : s.length ≤ 20 := by
  rcases h with ⟨rfl, _⟩ | ⟨_, h⟩
  · simp
  · have := digits_len (n := (n : Int)) (by omega)
    have e : ((n : Int).toNat) = n := by omega
    rw [e, h, List.length_append] at this
    omega
theorem tenth (a : Nat) (h : a < 10) : (⟨#[48, 49, 50, 51, 52, 53, 54, 55, 56, 57]⟩ : ByteArray).extract a (a + 1) = ⟨#[dg8 a]⟩ := by
  have : a = 0 ∨ a = 1 ∨ a = 2 ∨ a = 3 ∨ a = 4 ∨ a = 5 ∨ a = 6 ∨ a = 7 ∨ a = 8 ∨ a = 9 := by omega
  rcases this with rfl | rfl | rfl | rfl | rfl | rfl | rfl | rfl | rfl | rfl <;> rfl
theorem ten_slice (a : Nat) (h : a < 10) (w : World) : (Instr.slice 9 (.string ⟨#[48, 49, 50, 51, 52, 53, 54, 55, 56, 57]⟩) (some (.int .i64 (a : Nat))) (some (.int .i64 ((a : Nat) + 1))) none).run Tryz.prog w = .ok (.string ⟨#[dg8 a]⟩) w := by
  have : a = 0 ∨ a = 1 ∨ a = 2 ∨ a = 3 ∨ a = 4 ∨ a = 5 ∨ a = 6 ∨ a = 7 ∨ a = 8 ∨ a = 9 := by omega
  rcases this with rfl | rfl | rfl | rfl | rfl | rfl | rfl | rfl | rfl | rfl <;> rfl
def szOf : Value → Nat
  | .string s => s.size
  | _ => 0
theorem bs_nil (s : By) : ((bs s).toList == []) = decide (s = []) := by
  rw [ByteArray.toList_eq]
  show (s == []) = _
  cases s <;> rfl
theorem bs_cons (c : UInt8) (s : By) : (⟨#[c]⟩ : ByteArray) ++ bs s = bs (c :: s) := by
  apply ByteArray.ext
  simp [bs]
set_option maxHeartbeats 4000000 in
theorem number_any (n : Int) (w : World) (h0 : 0 ≤ n) (h1 : n ≤ 9223372036854775807) :
    Calls Tryz.prog 57 #[.int .i64 n] w fun e w' => e = .returned (.string (bs (Lib.decDigits n.toNat))) ∧ Below w.heap.size w w' := by
  obtain ⟨N, rfl⟩ : ∃ N : Nat, n = N := ⟨n.toNat, by omega⟩
  have hN : N ≤ 9223372036854775807 := by omega
  rw [show ((N : Int).toNat) = N by omega]
  clear h0 h1
  have hN' := hid hN
  have bw := hid (Below.refl w.heap.size w)
  clear hN
  go_enter Tryz.func57, Tryz.ntmps57
  go_wp2_with fail
  go_loopw [0, 3] (fun v sv wr => ∃ (m : Nat) (s : By), v = .int .i64 m ∧ sv = .string (bs s) ∧ m ≤ 9223372036854775807 ∧ Hid (NumIs N m s) ∧ wr = w) (fun v sv _ => 2 * (intOf v).toNat + (if szOf sv = 0 then 1 else 0))
  case atStart => exact ⟨N, [], rfl, rfl, hN'.out, hid (.inl ⟨rfl, rfl⟩), rfl⟩
  case round =>
    obtain ⟨m, s, rfl, rfl, hm, hI, rfl⟩ := hrel
    have hsz : ((bs s).size : Int) ≤ 20 := by
      have := num_len hI.out hN'.out
      have e : (bs s).size = s.length := by simp [bs, ByteArray.size]
      omega
    have hcat : 1 + (bs s).size ≤ 9223372036854775807 := by omega
    have hne := bs_nil s
    by_cases hs : s = []
    · subst hs
      have hnil : (bs ([] : By)).toList = [] := by rw [ByteArray.toList_eq]; rfl
      clear hne
      have hs : ([] : By) = [] := rfl
      replace hs := hid hs
      have hq : wrap64 ((m : Int).tdiv 10) = ((m / 10 : Nat) : Int) := by
        rw [Int.tdiv_eq_ediv_of_nonneg (by omega)]
        unfold wrap64; omega
      have hr : (m : Int).tmod 10 = ((m % 10 : Nat) : Int) := by rw [Int.tmod_eq_emod_of_nonneg (by omega)]; omega
      have hst := hid (num_step hI.out (Or.inl rfl))
      have hex := tenth (m % 10) (by omega)
      have hm10 : m % 10 < 10 := by omega
      obtain ⟨a, ha⟩ : ∃ a, m % 10 = a := ⟨_, rfl⟩
      obtain ⟨q, hqe⟩ : ∃ q, m / 10 = q := ⟨_, rfl⟩
      rw [ha] at hr hst hex hm10
      rw [hqe] at hq hst
      replace hqe := hid hqe
      replace hI := hid hI
      clear ha
      go_wp2_with fail
      rw [ten_slice a hm10]
      simp only [Result.andThen]
      rw [Oper.upon_value]
      go_wp2_with fail
      go_roundw
      case rel => exact ⟨q, [dg8 a], by congr 1; have := hqe.out; omega, by first | (rw [bs_cons]; done) | rfl, by have := hqe.out; omega, hst, by first | rfl | trivial⟩
      case measure =>
        have := hqe.out
        simp [intOf, szOf, bs, ByteArray.size]
        try omega
    · rw [decide_eq_false hs] at hne
      by_cases hm0 : 0 < m
      · have hmi : (0 : Int) < (m : Int) := by omega
        have hq : wrap64 ((m : Int).tdiv 10) = ((m / 10 : Nat) : Int) := by
          rw [Int.tdiv_eq_ediv_of_nonneg (by omega)]
          unfold wrap64; omega
        have hr : (m : Int).tmod 10 = ((m % 10 : Nat) : Int) := by rw [Int.tmod_eq_emod_of_nonneg (by omega)]; omega
        have hst := hid (num_step hI.out (Or.inr hm0))
        have hex := tenth (m % 10) (by omega)
        have hm10 : m % 10 < 10 := by omega
        obtain ⟨a, ha⟩ : ∃ a, m % 10 = a := ⟨_, rfl⟩
        obtain ⟨q, hqe⟩ : ∃ q, m / 10 = q := ⟨_, rfl⟩
        rw [ha] at hr hst hex hm10
        rw [hqe] at hq hst
        replace hqe := hid hqe
        replace hI := hid hI
        clear ha
        go_wp2_with fail
        rw [ten_slice a hm10]
        simp only [Result.andThen]
        rw [Oper.upon_value]
        go_wp2_with fail
        go_roundw
        case rel => exact ⟨q, dg8 a :: s, by congr 1; have := hqe.out; omega, by first | (rw [bs_cons]; done) | (subst hs; rw [bs_cons]), by have := hqe.out; omega, hst, by first | rfl | trivial⟩
        case measure =>
          have := hqe.out
          simp [intOf, szOf, bs, ByteArray.size, hs]
          try omega
      · have hmi : ¬ (0 : Int) < (m : Int) := by omega
        have hd := hid (num_done hI.out hs (by omega))
        clear hI
        go_wp2_with fail
        go_ret
        exact ⟨by rw [← hd.out]; rfl, bw.out⟩
end Go.Proofs.YtbcjppbiihgfpaaGreatDoor.Ex
namespace Go.Proofs.YtbcjppbiihgfpaaGreatDoor.Ex
open Go.ChangeShapes Go.WideShapes Go.ChangeAt Go.RowKit
open Go.Proofs.YtbcjppbiihgfpaaGreatDoor.Mem Go.Proofs.YtbcjppbiihgfpaaGreatDoor.Lik
set_option linter.unusedVariables false
set_option linter.unusedSimpArgs false
set_option maxRecDepth 100000
def ksC (l : List T) : List Value := l.map fun y => .string (bs (showT y))
theorem ksC_len (l : List T) : (ksC l).length = l.length := by simp [ksC]
theorem ksC_step (l : List T) (k : Nat) (h : k < l.length) : ksC (l.take (k + 1)) = ksC (l.take k) ++ [.string (bs (showT l[k]))] := by
  unfold ksC
  rw [List.take_succ_eq_append_getElem h, List.map_append]
  rfl
theorem info_string : ∃ i, Tryz.prog.info? 9 = some i ∧ i.zero = some (.string ⟨#[]⟩) ∧ i.size = 1 ∧ i.bytes = 16 := ⟨_, rfl, rfl, rfl, rfl⟩
def RShow (x : T) : Prop := ∀ (w : World), x.ok w → x.size ≤ 8388608 → rightB x = true → Calls Tryz.prog 26 #[x.val] w fun e w' => e = .returned (.string (bs (showT x))) ∧ Below w.heap.size w w'
theorem bs_size (l : List UInt8) : (bs l).size = l.length := by simp [bs, ByteArray.size]
theorem quoteS_len (s : ByteArray) : (Tok.quoteL s.data.toList).length ≤ 2 * s.size + 2 := by
  have h2 := quoteL_len s.data.toList
  have e : s.data.toList.length = s.size := by simp
  omega
theorem ba_eq {a : ByteArray} {l : List UInt8} (h : a.data.toList = l) : a = bs l := by
  cases a
  subst h
  rfl
theorem part_len {x y : T} {w : World} (h : x.ok w) (hz : x.size ≤ 8388608) (hr : rightB x = true) (hy : y ∈ x.list) : (showT y).length ≤ 34359738368 := by
  have := show_len y w (h.parts.2.2.2.2.2.2.2 y hy) (right_kid hr hy)
  have := T.size_part hy
  omega
theorem whole_len {x : T} {w : World} (h : x.ok w) (hz : x.size ≤ 8388608) (hr : rightB x = true) : (showT x).length ≤ 34359738368 := by
  have := show_len x w h hr
  omega
/-- the cells of the parts' texts -/
theorem ks_open {W : World} {B n g : Nat} {ao : Option Addr} {cap : Nat} {l : List T} (h : W.ownsRow B 9 1 (.slice ao n cap) n (ksC l)) (hl : l.length = n) (hn : 0 < n) : ∃ g o, ao = some ⟨g, o, none⟩ ∧ ∀ i (hi : i < l.length), W.cell? ⟨g, o + i, none⟩ = some (.string (bs (showT l[i]))) := by
  obtain ⟨b, off, cap', e, h2, h3, h4, h5⟩ := SlV.open (SlV.own h) (by rw [ksC_len]; omega)
  simp only [Value.slice.injEq] at e
  refine ⟨b, off, e.1, fun i hi => ?_⟩
  rw [h5 i (by rw [ksC_len]; exact hi)]
  simp [ksC]
end Go.Proofs.YtbcjppbiihgfpaaGreatDoor.Ex
