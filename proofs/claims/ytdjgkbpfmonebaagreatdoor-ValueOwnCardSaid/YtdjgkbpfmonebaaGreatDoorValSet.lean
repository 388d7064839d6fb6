/-
  What value.Set asks of its values: that none is wrong. Contracts.
-/
import Derived.Test.YtdjgkbpfmonebaaGreatDoorValCopied
import Derived.Test.YtdjgkbpfmonebaaGreatDoorValCheck
import Derived.Test.YtdjgkbpfmonebaaGreatDoorValKeep
namespace Go.Proofs.YtdjgkbpfmonebaaGreatDoor.Val
open Go.ChangeShapes Go.WideShapes Go.ChangeAt Go.RowKit
open Go.Proofs.YtdjgkbpfmonebaaGreatDoor.Mem Go.Proofs.YtdjgkbpfmonebaaGreatDoor.Nam
set_option linter.unusedVariables false
set_option linter.unusedSimpArgs false
set_option maxRecDepth 100000
def typeErr (x : T) : Bool := chkV x == 7
set_option maxHeartbeats 4000000 in
theorem set1_any (hS : SplitTold) (hV : ValidTold) (x : T) (w : World) (h : x.ok w) (hw : Start w) :
    Calls Tryz.prog 28 #[x.val] w fun e w' => e = .returned (.bool (typeErr x)) ∧ Below w.heap.size w w' := by
  have cM := hid (fun W (b : Below w.heap.size w W) => check_any hS hV x W (h.below b) (hw.below b))
  have hR : typeErr x = (chkV x == 7) := rfl
  rw [hR]
  rw [T.lit] at cM ⊢
  obtain ⟨no, nc, lo, lc, e1, e2, l1, l2⟩ := h.forms
  rw [e1, e2] at cM ⊢
  generalize chkV x = c at cM ⊢
  clear hR h hw hS hV e1 e2 l1 l2
  go_enter Tryz.func28, Tryz.ntmps28
  go_wp2_with fail
  refine (cM.out _ (by go_grown)).mono ?_
  rintro e w1 ⟨rfl, b1⟩
  have b1' : Hid (Below w.heap.size w w1) := hid (bt (by go_grown) b1)
  clear b1 cM
  go_wp2_with fail
  go_ret
  exact ⟨rfl, b1'.out⟩
set_option maxHeartbeats 4000000 in
theorem index_wrong (hS : SplitTold) (hV : ValidTold) (l : List T) (v : Value) (w : World) (h : LV w v l) (hw : Start w) :
    Calls Tryz.prog 54 #[v, .func (Fn.func 28) #[] #[]] w fun e w' => ∃ n : Int, e = .returned (.int .i64 n) ∧ (decide (0 ≤ n) = l.any typeErr) ∧ Below w.heap.size w w' := by
  obtain ⟨lo, lc, rfl, hl⟩ := h.form
  have hli : (l.length : Int) ≤ 9223372036854775807 := by omega
  have h' := hid h
  have hw' := hid hw
  have cS := hid (fun x W => set1_any hS hV x W)
  clear h hw hS hV
  go_enter Tryz.func54, Tryz.ntmps54
  go_wp2_with fail
  go_loopw [8] (fun i wr => ∃ j : Nat, j ≤ l.length ∧ i = .int .i64 j ∧ Hid ((l.take j).any typeErr = false) ∧ Hid (Below w.heap.size w wr)) (fun i _ => l.length - (intOf i).toNat)
  case atStart => exact ⟨0, by omega, rfl, hid rfl, hid (Below.refl _ _)⟩
  case round =>
    obtain ⟨j, hj, rfl, hno, bw⟩ := hrel
    rename_i wr _
    by_cases hlt : j < l.length
    · have hji : (j : Int) < (l.length : Int) := by omega
      obtain ⟨xb, xo, rfl, xf0, xf1, xf2, xf3, xf4, xf5, xf6⟩ := (h'.out.below bw.out).cells j hlt
      have hp := hid (cS.out l[j] wr ((h'.out.below bw.out).all _ (List.getElem_mem hlt)) (hw'.out.below bw.out))
      have hyes := hid (show typeErr l[j] = true → l.any typeErr = true from fun ho => by rw [List.any_eq_true]; exact ⟨_, List.getElem_mem hlt, ho⟩)
      have hnot := hid (show typeErr l[j] = false → (l.take (j + 1)).any typeErr = false from fun ho => by rw [List.take_succ_eq_append_getElem hlt, List.any_append, hno.out]; simp [ho])
      generalize l[j] = z at xf0 xf1 xf2 xf3 xf4 xf5 xf6 hp hyes hnot
      rw [T.lit] at hp
      clear hno
      go_wp2_with fail
      refine hp.out.mono ?_
      rintro e w1 ⟨rfl, b1⟩
      replace bw := hid (bt bw.out b1)
      clear hp b1 xf0 xf1 xf2 xf3 xf4 xf5 xf6
      cases ho : typeErr z with
      | true =>
        have hfin := hid (hyes.out ho)
        clear ho hyes hnot
        go_wp2_with fail
        go_ret
        exact ⟨j, rfl, by rw [hfin.out]; simp, bw.out⟩
      | false =>
        have hno2 := hid (hnot.out ho)
        clear ho hyes hnot
        go_wp2_with fail
        go_roundw
        case rel => exact ⟨j + 1, by omega, by go_num, hno2, bw⟩
        case measure => simp [intOf]; omega
    · obtain rfl : j = l.length := by omega
      have hno2 := hid (show l.any typeErr = false by have := hno.out; rw [List.take_length] at this; exact this)
      clear hno
      go_wp2_with fail
      go_ret
      exact ⟨-1, rfl, by rw [hno2.out]; rfl, bw.out⟩
theorem contains_wrong (hS : SplitTold) (hV : ValidTold) (l : List T) (v : Value) (w : World) (h : LV w v l) (hw : Start w) :
    Calls Tryz.prog 27 #[v, .func (Fn.func 28) #[] #[]] w fun e w' => e = .returned (.bool (l.any typeErr)) ∧ Below w.heap.size w w' := by
  have hp := hid (index_wrong hS hV l v w h hw)
  clear h hw hS hV
  go_enter Tryz.func27, Tryz.ntmps27
  go_wp2_with fail
  refine hp.out.mono ?_
  rintro e w1 ⟨n, rfl, hn, hb1⟩
  have hn2 := hid hn
  clear hn
  go_wp2_with fail
  go_ret
  refine ⟨?_, hb1⟩
  rw [← hn2.out]; rfl
end Go.Proofs.YtdjgkbpfmonebaaGreatDoor.Val
