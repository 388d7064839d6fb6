/-
  lictorref08.depth, nodes of any expression, however great; right, if node is known: contracts. Written by wip/exrefcheckgen.py.
-/
import Derived.Test.YtbcjppbiihgfpaaGreatDoorExDeepW
namespace Go.Proofs.YtbcjppbiihgfpaaGreatDoor.Ex
open Go.ChangeShapes Go.WideShapes Go.ChangeAt Go.RowKit
open Go.Proofs.YtbcjppbiihgfpaaGreatDoor.Mem
set_option linter.unusedVariables false
set_option linter.unusedSimpArgs false
set_option maxRecDepth 100000
def RDeep (x : T) : Prop := ∀ (w : World), x.ok w → Calls Tryz.prog 32 #[x.val] w fun e w' => e = .returned (.int .i64 (dW x)) ∧ Below w.heap.size w w'
set_option maxHeartbeats 4000000 in
theorem rdeep_step (x : T) (ih : ∀ z ∈ x.list, RDeep z) : RDeep x := by
  intro w h
  obtain ⟨no, nc, lo, lc, e1, e2, l1, l2⟩ := h.forms
  rw [T.val_eq e1 e2]
  have hR' := hid (dW_eq x)
  have hb := hid (fun k => dWL_range (x.list.take k))
  generalize dW x = R at hR' ⊢
  have i2 : (x.list.length : Int) ≤ 9223372036854775807 := by omega
  have h' := hid h
  have ih' := hid ih
  have e2' := hid e2
  clear ih h e1 e2
  go_enter Tryz.func32, Tryz.ntmps32
  go_upto_region 1 with fail
  have K1 := hid (Blk.new w [.int .u8 (x.kind : Nat), .int .i64 x.num, .string x.str, .string x.typ, .slice no x.names.length nc, .slice lo x.list.length lc] 26)
  have bw := hid ((Below.refl w.heap.size w).alloc (Nat.le_refl _) (.cells #[.int .u8 (x.kind : Nat), .int .i64 x.num, .string x.str, .string x.typ, .slice no x.names.length nc, .slice lo x.list.length lc] 26))
  generalize w.alloc (.cells #[.int .u8 (x.kind : Nat), .int .i64 x.num, .string x.str, .string x.typ, .slice no x.names.length nc, .slice lo x.list.length lc] 26) = X0 at K1 bw ⊢
  obtain ⟨c0, c1, c2, c3, c4, c5, cf⟩ := six K1.out
  go_wp2_with fail
  go_loopw [3, 10] (fun av i wr => ∃ k : Nat, k ≤ x.list.length ∧ i = .int .i64 k ∧ av = .int .i64 (dWL (x.list.take k)) ∧ Hid (Below w.heap.size w wr)) (fun _ i _ => x.list.length - (intOf i).toNat)
  case atStart => exact ⟨0, by omega, rfl, rfl, bw⟩
  case round =>
    obtain ⟨k, hk, rfl, rfl, bw'⟩ := hrel
    clear c0 c1 c2 c3 c4 c5 cf K1 bw
    rename_i wr _
    by_cases hkl : k < x.list.length
    · have hki : (k : Int) < (x.list.length : Int) := by omega
      have hst := dWL_step x.list k hkl
      have hb1 := hb.out k
      have hb2 := hb.out (k + 1)
      obtain ⟨xb, xo, rfl, xf0, xf1, xf2, xf3, xf4, xf5⟩ := (h'.out.below bw'.out).part6 e2'.out k hkl
      have hrec := hid (fun W (b : Below w.heap.size w W) => ih'.out x.list[k] (List.getElem_mem hkl) W ((h'.out.below b).parts.2.2.2.2.2.2.2 _ (List.getElem_mem hkl)))
      have hzok := (h'.out.below bw'.out).parts.2.2.2.2.2.2.2 _ (List.getElem_mem hkl)
      obtain ⟨A2, hA2⟩ : ∃ A2, dWL (x.list.take (k + 1)) = A2 := ⟨_, rfl⟩
      rw [hA2] at hst hb2
      replace hA2 := hid hA2
      generalize dWL (x.list.take k) = A1 at hst hb1 ⊢
      generalize x.list[k] = z at xf0 xf1 xf2 xf3 xf4 xf5 hrec hst hzok
      obtain ⟨zno, znc, zlo, zlc, ez1, ez2, zl1, zl2⟩ := hzok.forms
      have hzv := T.val_eq ez1 ez2
      rw [ez1] at xf4
      rw [ez2] at xf5
      clear hzok ez1 ez2
      replace hrec := hid (show ∀ W, Below w.heap.size w W → Calls Tryz.prog 32 #[.agg #[.int .u8 (z.kind : Nat), .int .i64 z.num, .string z.str, .string z.typ, .slice zno z.names.length znc, .slice zlo z.list.length zlc]] W fun e w' => e = .returned (.int .i64 (dW z)) ∧ Below W.heap.size W w' from fun W b => by have := hrec.out W b; rw [hzv] at this; exact this)
      clear hzv
      have hdz := dW_range z
      generalize dW z = dz at hst hrec hdz
      go_upto_region 5 with fail
      have K4 := hid (Blk.new wr [.int .u8 (z.kind : Nat), .int .i64 z.num, .string z.str, .string z.typ, .slice zno z.names.length znc, .slice zlo z.list.length zlc] 26)
      replace bw' := hid (bw'.out.alloc bw'.out.size (.cells #[.int .u8 (z.kind : Nat), .int .i64 z.num, .string z.str, .string z.typ, .slice zno z.names.length znc, .slice zlo z.list.length zlc] 26))
      clear xf0 xf1 xf2 xf3 xf4 xf5
      generalize wr.alloc (.cells #[.int .u8 (z.kind : Nat), .int .i64 z.num, .string z.str, .string z.typ, .slice zno z.names.length znc, .slice zlo z.list.length zlc] 26) = X3 at K4 bw' ⊢
      obtain ⟨f0, f1, f2, f3, f4, f5, ff⟩ := six K4.out
      go_wp2_with fail
      refine (hrec.out _ bw'.out).mono ?_
      rintro e w2 ⟨rfl, b1⟩
      replace bw' := hid (bt bw'.out b1)
      clear b1 hrec f0 f1 f2 f3 f4 f5 ff K4
      by_cases hgt : A1 < dz
      · have h9 : A2 = dz := by rw [hst]; omega
        go_wp2_with fail
        go_roundw
        case rel => exact ⟨k + 1, by omega, by go_num, by rw [hA2.out, h9], bw'⟩
        case measure => simp [intOf]; omega
      · have h9 : A2 = A1 := by rw [hst]; omega
        go_wp2_with fail
        go_roundw
        case rel => exact ⟨k + 1, by omega, by go_num, by rw [hA2.out, h9], bw'⟩
        case measure => simp [intOf]; omega
    · have hki : ¬ (k : Int) < (x.list.length : Int) := by omega
      have hke : k = x.list.length := by omega
      have hn := hid (show wrap64 (dWL (x.list.take k) + 1) = R from by rw [hR'.out, hke, List.take_length])
      have hb1 := hb.out k
      generalize dWL (x.list.take k) = A1 at hb1 hn ⊢
      clear hR' hb
      go_wp2_with fail
      go_ret
      exact ⟨by rw [← hn.out]; first | rfl | (congr 2; omega), bw'.out⟩
theorem rdeep_any (x : T) : RDeep x := by
  suffices h : ∀ n (x : T), x.size ≤ n → RDeep x from h x.size x (Nat.le_refl _)
  intro n
  induction n with
  | zero => intro x hx; have := x.size_pos; omega
  | succ n ih => intro x hx; exact rdeep_step x (fun z hm => ih z (by have := T.size_part hm; omega))
def RNodes (x : T) : Prop := ∀ (w : World), x.ok w → Calls Tryz.prog 33 #[x.val] w fun e w' => e = .returned (.int .i64 (nW x)) ∧ Below w.heap.size w w'
set_option maxHeartbeats 4000000 in
theorem rnodes_step (x : T) (ih : ∀ z ∈ x.list, RNodes z) : RNodes x := by
  intro w h
  obtain ⟨no, nc, lo, lc, e1, e2, l1, l2⟩ := h.forms
  rw [T.val_eq e1 e2]
  have hR' := hid (nW_list x)
  have hb := hid (fun k => w64_range ((T.sizeL (x.list.take k) + 1 : Nat) : Int))
  generalize nW x = R at hR' ⊢
  have i2 : (x.list.length : Int) ≤ 9223372036854775807 := by omega
  have h' := hid h
  have ih' := hid ih
  have e2' := hid e2
  clear ih h e1 e2
  go_enter Tryz.func33, Tryz.ntmps33
  go_upto_region 1 with fail
  have K1 := hid (Blk.new w [.int .u8 (x.kind : Nat), .int .i64 x.num, .string x.str, .string x.typ, .slice no x.names.length nc, .slice lo x.list.length lc] 26)
  have bw := hid ((Below.refl w.heap.size w).alloc (Nat.le_refl _) (.cells #[.int .u8 (x.kind : Nat), .int .i64 x.num, .string x.str, .string x.typ, .slice no x.names.length nc, .slice lo x.list.length lc] 26))
  generalize w.alloc (.cells #[.int .u8 (x.kind : Nat), .int .i64 x.num, .string x.str, .string x.typ, .slice no x.names.length nc, .slice lo x.list.length lc] 26) = X0 at K1 bw ⊢
  obtain ⟨c0, c1, c2, c3, c4, c5, cf⟩ := six K1.out
  go_wp2_with fail
  go_loopw [3, 9] (fun av i wr => ∃ k : Nat, k ≤ x.list.length ∧ i = .int .i64 k ∧ av = .int .i64 (nWTo x.list k) ∧ Hid (Below w.heap.size w wr)) (fun _ i _ => x.list.length - (intOf i).toNat)
  case atStart => exact ⟨0, by omega, rfl, by rw [nWTo_zero], bw⟩
  case round =>
    obtain ⟨k, hk, rfl, rfl, bw'⟩ := hrel
    clear c0 c1 c2 c3 c4 c5 cf K1 bw
    rename_i wr _
    by_cases hkl : k < x.list.length
    · have hki : (k : Int) < (x.list.length : Int) := by omega
      have hst := nWTo_step x.list k hkl
      obtain ⟨xb, xo, rfl, xf0, xf1, xf2, xf3, xf4, xf5⟩ := (h'.out.below bw'.out).part6 e2'.out k hkl
      have hrec := hid (fun W (b : Below w.heap.size w W) => ih'.out x.list[k] (List.getElem_mem hkl) W ((h'.out.below b).parts.2.2.2.2.2.2.2 _ (List.getElem_mem hkl)))
      have hzok := (h'.out.below bw'.out).parts.2.2.2.2.2.2.2 _ (List.getElem_mem hkl)
      obtain ⟨A2, hA2⟩ : ∃ A2, nWTo x.list (k + 1) = A2 := ⟨_, rfl⟩
      rw [hA2] at hst
      replace hA2 := hid hA2
      generalize nWTo x.list k = A1 at hst ⊢
      generalize x.list[k] = z at xf0 xf1 xf2 xf3 xf4 xf5 hrec hst hzok
      obtain ⟨zno, znc, zlo, zlc, ez1, ez2, zl1, zl2⟩ := hzok.forms
      have hzv := T.val_eq ez1 ez2
      rw [ez1] at xf4
      rw [ez2] at xf5
      clear hzok ez1 ez2
      replace hrec := hid (show ∀ W, Below w.heap.size w W → Calls Tryz.prog 33 #[.agg #[.int .u8 (z.kind : Nat), .int .i64 z.num, .string z.str, .string z.typ, .slice zno z.names.length znc, .slice zlo z.list.length zlc]] W fun e w' => e = .returned (.int .i64 (nW z)) ∧ Below W.heap.size W w' from fun W b => by have := hrec.out W b; rw [hzv] at this; exact this)
      clear hzv
      generalize nW z = dz at hst hrec
      go_upto_region 5 with fail
      have K4 := hid (Blk.new wr [.int .u8 (z.kind : Nat), .int .i64 z.num, .string z.str, .string z.typ, .slice zno z.names.length znc, .slice zlo z.list.length zlc] 26)
      replace bw' := hid (bw'.out.alloc bw'.out.size (.cells #[.int .u8 (z.kind : Nat), .int .i64 z.num, .string z.str, .string z.typ, .slice zno z.names.length znc, .slice zlo z.list.length zlc] 26))
      clear xf0 xf1 xf2 xf3 xf4 xf5
      generalize wr.alloc (.cells #[.int .u8 (z.kind : Nat), .int .i64 z.num, .string z.str, .string z.typ, .slice zno z.names.length znc, .slice zlo z.list.length zlc] 26) = X3 at K4 bw' ⊢
      obtain ⟨f0, f1, f2, f3, f4, f5, ff⟩ := six K4.out
      go_wp2_with fail
      refine (hrec.out _ bw'.out).mono ?_
      rintro e w2 ⟨rfl, b1⟩
      replace bw' := hid (bt bw'.out b1)
      clear b1 hrec f0 f1 f2 f3 f4 f5 ff K4
      have hadd : wrap64 (A1 + dz) = A2 := hst.symm
      go_wp2_with fail
      go_roundw
      case rel => exact ⟨k + 1, by omega, by go_num, by first | (rw [hA2.out, hst]; done) | (rw [hA2.out]; done) | (rw [hA2.out]; congr 1; omega), bw'⟩
      case measure => simp [intOf]; omega
    · have hki : ¬ (k : Int) < (x.list.length : Int) := by omega
      have hke : k = x.list.length := by omega
      have hn := hid (show nWTo x.list k = R from by rw [hR'.out, hke])
      generalize nWTo x.list k = A1 at hn ⊢
      clear hR' hb
      go_wp2_with fail
      go_ret
      exact ⟨by rw [← hn.out]; first | rfl | (congr 2; omega), bw'.out⟩
theorem rnodes_any (x : T) : RNodes x := by
  suffices h : ∀ n (x : T), x.size ≤ n → RNodes x from h x.size x (Nat.le_refl _)
  intro n
  induction n with
  | zero => intro x hx; have := x.size_pos; omega
  | succ n ih => intro x hx; exact rnodes_step x (fun z hm => ih z (by have := T.size_part hm; omega))
end Go.Proofs.YtbcjppbiihgfpaaGreatDoor.Ex
