/-
  expr.right, expr.Check: contracts, of any expression of at most 8388608 nodes.
-/
import Derived.Test.YtbcjppbiihgfpaaGreatDoorExCalls
import Derived.Test.YtbcjppbiihgfpaaGreatDoorExSpell
namespace Go.Proofs.YtbcjppbiihgfpaaGreatDoor.Ex
open Go.ChangeShapes Go.WideShapes Go.ChangeAt Go.RowKit
open Go.Proofs.YtbcjppbiihgfpaaGreatDoor.Mem
set_option linter.unusedVariables false
set_option linter.unusedSimpArgs false
set_option maxRecDepth 100000
theorem node_told (x : T) (w : World) (h : x.ok w) (hw : Sta w) : NodeTold x w where
  text := fun W b => text_any x.str W h.parts.2.2.1 (hw.below b)
  uid := fun W b => (Nam.uid_any Nam.split_told Nam.valid_told x.typ x.str W h.parts.2.2.2.1 h.parts.2.2.1 (hw.below b).ml (hw.below b).laid.tabs).mono fun e w' he => ⟨_, he.1, uid_ud _ _, he.2⟩
  var := fun W b => variable_any x.str W
  name := fun W b => nameRight_any x.str W h.parts.2.2.1 (hw.below b)
  type := fun W b => Nam.type_any Nam.split_told x.typ W h.parts.2.2.2.1 (hw.below b).ml
  names := fun W b => names_any x.names x.nv W (h.parts.2.2.2.2.2.1.below b) h.parts.2.2.2.2.1 (hw.below b)
  spell := fun W b W' b' => spell_any x.kind h.parts.1.1 W' ((hw.below b).below b').laid
def rightAt (l : List T) (k : Nat) : Bool := rightL (l.drop k)
theorem rightAt_step (l : List T) (k : Nat) (h : k < l.length) : rightAt l k = (rightB l[k] && rightAt l (k + 1)) := by
  unfold rightAt
  rw [List.drop_eq_getElem_cons h, rightL]
theorem rightAt_end (l : List T) (k : Nat) (h : l.length ≤ k) : rightAt l k = true := by
  unfold rightAt
  rw [List.drop_eq_nil_of_le h, rightL]
def Right (x : T) : Prop := ∀ (w : World), x.ok w → Sta w → Calls Tryz.prog 28 #[x.val] w fun e w' => e = .returned (.bool (rightB x)) ∧ Below w.heap.size w w'
set_option maxHeartbeats 4000000 in
theorem right_step (x : T) (ih : ∀ z ∈ x.list, Right z) : Right x := by
  intro w h hw
  have cN := hid (fun W (b : Below w.heap.size w W) => node_any x W (h.below b) (node_told x W (h.below b) (hw.below b)))
  obtain ⟨no, nc, lo, lc, e1, e2, l1, l2⟩ := h.forms
  rw [T.val_eq e1 e2] at cN ⊢
  have hR := hid (show rightB x = (nodeB x && rightAt x.list 0) from rightB_eq x)
  generalize rightB x = R at hR ⊢
  generalize nodeB x = nb at hR cN
  have i2 : (x.list.length : Int) ≤ 9223372036854775807 := by omega
  have h' := hid h
  have ih' := hid ih
  have hw' := hid hw
  have e2' := hid e2
  clear ih h e1 e2 hw
  go_enter Tryz.func28, Tryz.ntmps28
  go_upto_region 1 with fail
  have K1 := hid (Blk.new w [.int .u8 (x.kind : Nat), .int .i64 x.num, .string x.str, .string x.typ, .slice no x.names.length nc, .slice lo x.list.length lc] 26)
  have bw := hid ((Below.refl w.heap.size w).alloc (Nat.le_refl _) (.cells #[.int .u8 (x.kind : Nat), .int .i64 x.num, .string x.str, .string x.typ, .slice no x.names.length nc, .slice lo x.list.length lc] 26))
  generalize w.alloc (.cells #[.int .u8 (x.kind : Nat), .int .i64 x.num, .string x.str, .string x.typ, .slice no x.names.length nc, .slice lo x.list.length lc] 26) = X0 at K1 bw ⊢
  obtain ⟨c0, c1, c2, c3, c4, c5, cf⟩ := six K1.out
  go_wp2_with fail
  refine (cN.out _ bw.out).mono ?_
  rintro e w1 ⟨rfl, b1⟩
  replace K1 := hid (K1.out.below b1 K1.out.lt)
  replace bw := hid (bt bw.out b1)
  clear b1 cN c0 c1 c2 c3 c4 c5 cf
  obtain ⟨c0, c1, c2, c3, c4, c5, cf⟩ := six K1.out
  cases nb with
  | false =>
    go_wp2_with fail
    go_ret
    exact ⟨by rw [hR.out]; rfl, bw.out⟩
  | true =>
    replace hR := hid (hR.out.trans (Bool.true_and _))
    go_wp2_with fail
    go_loopw [11] (fun i wr => ∃ k : Nat, k ≤ x.list.length ∧ i = .int .i64 k ∧ Hid (R = rightAt x.list k) ∧ Hid (Below w.heap.size w wr)) (fun i _ => x.list.length - (intOf i).toNat)
    case atStart => exact ⟨0, by omega, rfl, hR, bw⟩
    case round =>
      obtain ⟨k, hk, rfl, hr, bw'⟩ := hrel
      clear c0 c1 c2 c3 c4 c5 cf K1 bw
      rename_i wr _
      by_cases hkl : k < x.list.length
      · have hki : (k : Int) < (x.list.length : Int) := by omega
        have hst := hid (hr.out.trans (rightAt_step x.list k hkl))
        clear hr
        obtain ⟨xb, xo, rfl, xf0, xf1, xf2, xf3, xf4, xf5⟩ := (h'.out.below bw'.out).part6 e2'.out k hkl
        have hrec := hid (fun W (b : Below w.heap.size w W) => ih'.out x.list[k] (List.getElem_mem hkl) W ((h'.out.below b).parts.2.2.2.2.2.2.2 _ (List.getElem_mem hkl)) (hw'.out.below b))
        have hzok := (h'.out.below bw'.out).parts.2.2.2.2.2.2.2 _ (List.getElem_mem hkl)
        generalize x.list[k] = z at xf0 xf1 xf2 xf3 xf4 xf5 hrec hst hzok
        obtain ⟨zno, znc, zlo, zlc, ez1, ez2, zl1, zl2⟩ := hzok.forms
        have hzv := T.val_eq ez1 ez2
        rw [ez1] at xf4
        rw [ez2] at xf5
        clear hzok ez1 ez2
        replace hrec := hid (show ∀ W, Below w.heap.size w W → Calls Tryz.prog 28 #[.agg #[.int .u8 (z.kind : Nat), .int .i64 z.num, .string z.str, .string z.typ, .slice zno z.names.length znc, .slice zlo z.list.length zlc]] W fun e w' => e = .returned (.bool (rightB z)) ∧ Below W.heap.size W w' from fun W b => by have := hrec.out W b; rw [hzv] at this; exact this)
        clear hzv
        generalize rightB z = rz at hst hrec
        go_upto_region 6 with fail
        have K4 := hid (Blk.new wr [.int .u8 (z.kind : Nat), .int .i64 z.num, .string z.str, .string z.typ, .slice zno z.names.length znc, .slice zlo z.list.length zlc] 26)
        replace bw' := hid (bw'.out.alloc bw'.out.size (.cells #[.int .u8 (z.kind : Nat), .int .i64 z.num, .string z.str, .string z.typ, .slice zno z.names.length znc, .slice zlo z.list.length zlc] 26))
        clear xf0 xf1 xf2 xf3 xf4 xf5
        generalize wr.alloc (.cells #[.int .u8 (z.kind : Nat), .int .i64 z.num, .string z.str, .string z.typ, .slice zno z.names.length znc, .slice zlo z.list.length zlc] 26) = X3 at K4 bw' ⊢
        obtain ⟨f0, f1, f2, f3, f4, f5, ff⟩ := six K4.out
        go_wp2_with fail
        refine (hrec.out _ bw'.out).mono ?_
        rintro e w2 ⟨rfl, b1⟩
        replace bw' := hid (bt bw'.out b1)
        clear b1 hrec f0 f1 f2 f3 f4 f5 ff K4
        cases rz with
        | false =>
          have hn := hid (show R = false by rw [hst.out]; rfl)
          clear hst
          go_wp2_with fail
          go_ret
          exact ⟨by rw [hn.out]; rfl, bw'.out⟩
        | true =>
          replace hst := hid (hst.out.trans (Bool.true_and _))
          go_wp2_with fail
          go_roundw
          case rel => exact ⟨k + 1, by omega, by go_num, hst, bw'⟩
          case measure => simp [intOf]; omega
      · have hki : ¬ (k : Int) < (x.list.length : Int) := by omega
        have hn := hid (show R = true by rw [hr.out]; exact rightAt_end x.list k (by omega))
        clear hr
        go_wp2_with fail
        go_ret
        exact ⟨by rw [hn.out]; rfl, bw'.out⟩
theorem right_any (x : T) : Right x := by
  suffices h : ∀ n (x : T), x.size ≤ n → Right x from h x.size x (Nat.le_refl _)
  intro n
  induction n with
  | zero => intro x hx; have := x.size_pos; omega
  | succ n ih => intro x hx; exact right_step x (fun z hm => ih z (by have := T.size_part hm; omega))
set_option maxHeartbeats 4000000 in
theorem check_any (x : T) (w : World) (h : x.ok w) (hz : x.size ≤ 8388608) (hw : Sta w) :
    Calls Tryz.prog 9 #[x.val] w fun e w' => e = .returned (.int .i64 (chkN x)) ∧ Below w.heap.size w w' := by
  have cR := hid (fun W (b : Below w.heap.size w W) => right_any x W (h.below b) (hw.below b))
  have cD := hid (fun W (b : Below w.heap.size w W) => deep_any x hz W (h.below b))
  have cS := hid (fun W (b : Below w.heap.size w W) => nodes_any x hz W (h.below b))
  have hd : deepN x ≤ 8388608 := Nat.le_trans (deep_size x.size x (Nat.le_refl _)) hz
  obtain ⟨no, nc, lo, lc, e1, e2, l1, l2⟩ := h.forms
  rw [T.val_eq e1 e2] at cR cD cS ⊢
  obtain ⟨R, hR⟩ : ∃ R, chkN x = R := ⟨_, rfl⟩
  rw [hR]
  replace hR := hid (hR.symm.trans (show chkN x = _ by unfold chkN; rfl))
  clear h e1 e2 hw
  generalize rightB x = rb at *
  generalize deepN x = dn at *
  generalize x.size = sn at *
  go_enter Tryz.func9, Tryz.ntmps9
  go_upto_region 1 with fail
  have K1 := hid (Blk.new w [.int .u8 (x.kind : Nat), .int .i64 x.num, .string x.str, .string x.typ, .slice no x.names.length nc, .slice lo x.list.length lc] 26)
  have bw := hid ((Below.refl w.heap.size w).alloc (Nat.le_refl _) (.cells #[.int .u8 (x.kind : Nat), .int .i64 x.num, .string x.str, .string x.typ, .slice no x.names.length nc, .slice lo x.list.length lc] 26))
  generalize w.alloc (.cells #[.int .u8 (x.kind : Nat), .int .i64 x.num, .string x.str, .string x.typ, .slice no x.names.length nc, .slice lo x.list.length lc] 26) = X0 at K1 bw ⊢
  obtain ⟨c0, c1, c2, c3, c4, c5, cf⟩ := six K1.out
  go_wp2_with fail
  refine (cR.out _ bw.out).mono ?_
  rintro e w1 ⟨rfl, b1⟩
  replace K1 := hid (K1.out.below b1 K1.out.lt)
  replace bw := hid (bt bw.out b1)
  clear b1 cR c0 c1 c2 c3 c4 c5 cf
  obtain ⟨c0, c1, c2, c3, c4, c5, cf⟩ := six K1.out
  cases rb with
  | false =>
    replace hR := hid (hR.out.trans (if_pos rfl))
    go_wp2_with fail
    go_ret
    exact ⟨by rw [hR.out]; rfl, bw.out⟩
  | true =>
    replace hR := hid (hR.out.trans (if_neg (by simp)))
    go_wp2_with fail
    refine (cD.out _ bw.out).mono ?_
    rintro e w2 ⟨rfl, b1⟩
    replace K1 := hid (K1.out.below b1 K1.out.lt)
    replace bw := hid (bt bw.out b1)
    clear b1 cD c0 c1 c2 c3 c4 c5 cf
    obtain ⟨c0, c1, c2, c3, c4, c5, cf⟩ := six K1.out
    by_cases h1 : 16 < dn
    · have h1i : (16 : Int) < (dn : Int) := by omega
      replace hR := hid (hR.out.trans (if_pos h1))
      clear h1
      go_wp2_with fail
      go_ret
      exact ⟨by rw [hR.out]; rfl, bw.out⟩
    · have h1i : ¬ (16 : Int) < (dn : Int) := by omega
      replace hR := hid (hR.out.trans (if_neg h1))
      clear h1
      go_wp2_with fail
      refine (cS.out _ bw.out).mono ?_
      rintro e w3 ⟨rfl, b1⟩
      replace K1 := hid (K1.out.below b1 K1.out.lt)
      replace bw := hid (bt bw.out b1)
      clear b1 cS c0 c1 c2 c3 c4 c5 cf
      by_cases h2 : 128 < sn
      · have h2i : (128 : Int) < (sn : Int) := by omega
        replace hR := hid (hR.out.trans (if_pos h2))
        clear h2
        go_wp2_with fail
        go_ret
        exact ⟨by rw [hR.out]; rfl, bw.out⟩
      · have h2i : ¬ (128 : Int) < (sn : Int) := by omega
        replace hR := hid (hR.out.trans (if_neg h2))
        clear h2
        go_wp2_with fail
        go_ret
        exact ⟨by rw [hR.out]; rfl, bw.out⟩
end Go.Proofs.YtbcjppbiihgfpaaGreatDoor.Ex
