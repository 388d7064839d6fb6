/-
  Whether a text is one of some: slices.Index, slices.Contains at []string, expr.variable; contracts.
-/
import Derived.Test.YtbcjppbiihgfpaaGreatDoorMem
import Derived.Test.YtbcjppbiihgfpaaGreatDoorRows
import Derived.WalkKit
import Derived.ProofKit
import Derived.OpenShut
import Derived.Handy
import Derived.Outline
import Derived.Deep.Cut
namespace Go.Proofs.YtbcjppbiihgfpaaGreatDoor.Ex
open Go.ChangeShapes Go.WideShapes Go.ChangeAt Go.RowKit
open Go.Proofs.YtbcjppbiihgfpaaGreatDoor.Mem
set_option linter.unusedVariables false
set_option linter.unusedSimpArgs false
set_option maxRecDepth 100000
def hasB (l : List ByteArray) (x : ByteArray) : Bool := l.any fun y => y.toList == x.toList
def varsL : List ByteArray := [⟨#[112, 114, 105, 110, 99, 105, 112, 97, 108]⟩, ⟨#[97, 99, 116, 105, 111, 110]⟩, ⟨#[114, 101, 115, 111, 117, 114, 99, 101]⟩, ⟨#[99, 111, 110, 116, 101, 120, 116]⟩]
def varB (s : ByteArray) : Bool := hasB varsL s
theorem hasB_take (l : List ByteArray) (x : ByteArray) (k : Nat) (h : k < l.length) : hasB (l.take (k + 1)) x = (hasB (l.take k) x || (l[k].toList == x.toList)) := by
  unfold hasB
  rw [List.take_succ_eq_append_getElem h, List.any_append]
  simp
theorem hasB_yes (l : List ByteArray) (x : ByteArray) (k : Nat) (h : k < l.length) (e : (l[k].toList == x.toList) = true) : hasB l x = true := by
  unfold hasB
  rw [List.any_eq_true]
  exact ⟨_, List.getElem_mem h, e⟩
theorem beq_turn (a b : List UInt8) : (a == b) = (b == a) := by
  rw [Bool.eq_iff_iff, beq_iff_eq, beq_iff_eq]
  exact ⟨fun h => h.symm, fun h => h.symm⟩
set_option maxHeartbeats 4000000 in
theorem index_any (l : List ByteArray) (v : Value) (x : ByteArray) (w : World) (h : StrsV w v l) :
    Calls Tryz.prog 222 #[v, .string x] w fun e w' => ∃ n : Int, e = .returned (.int .i64 n) ∧ decide (0 ≤ n) = hasB l x ∧ Below w.heap.size w w' := by
  have hl : l.length ≤ 9223372036854775807 := by have := SlV.len h; unfold maxLen at this; omega
  obtain ⟨ao, cap, rfl, _, _⟩ := h.form
  have h' := hid h
  clear h
  have i2 : (l.length : Int) ≤ 9223372036854775807 := by omega
  obtain ⟨n, hn⟩ : ∃ n, l.length = n := ⟨_, rfl⟩
  rw [hn] at i2 hl ⊢
  replace hn := hid hn
  go_enter Tryz.func222, Tryz.ntmps222
  go_wp2_with fail
  go_loopw [5, 8] (fun q i wr => ∃ k : Nat, k ≤ n ∧ i = .int .i64 k ∧ Hid (hasB (l.take k) x = false) ∧ Hid (Below w.heap.size w wr)) (fun _ i _ => n - (intOf i).toNat)
  case atStart => exact ⟨0, by omega, rfl, hid rfl, hid (Below.refl _ _)⟩
  case round =>
    obtain ⟨k, hk, rfl, hno, bw⟩ := hrel
    rename_i wr _
    by_cases hkl : k < n
    · have hki : (k : Int) < (n : Int) := by omega
      have hkl2 : k < l.length := by have := hn.out; omega
      obtain ⟨xb, xo, xc, e, -, -, -, hc⟩ := (h'.out.below bw.out).open (by omega)
      rw [hn.out] at e
      simp only [Value.slice.injEq] at e
      obtain ⟨rfl, -, -⟩ := e
      have xf := hc k hkl2
      have hstep := hid (hasB_take l x k hkl2)
      have hyes := hid (hasB_yes l x k hkl2)
      have ht := beq_turn l[k].toList x.toList
      generalize l[k] = y at xf hstep hyes ht
      clear hc
      cases hb : (y.toList == x.toList) with
      | true =>
        have hb2 : (x.toList == y.toList) = true := ht.symm.trans hb
        have hall := hid (hyes.out hb)
        clear hstep hyes ht hb hno
        go_wp2_with fail
        go_ret
        exact ⟨_, rfl, by rw [hall.out]; simp, bw.out⟩
      | false =>
        have hb2 : (x.toList == y.toList) = false := ht.symm.trans hb
        have hno2 := hid (show hasB (l.take (k + 1)) x = false by rw [hstep.out, hno.out, hb]; rfl)
        clear hstep hyes ht hb hno
        go_wp2_with fail
        go_roundw
        case rel => exact ⟨k + 1, by omega, by go_num, hno2, bw⟩
        case measure => simp [intOf]; omega
    · have hki : ¬ (k : Int) < (n : Int) := by omega
      have hno2 := hid (show hasB l x = false by have := hno.out; rw [List.take_of_length_le (by have := hn.out; omega)] at this; exact this)
      clear hno
      go_wp2_with fail
      go_ret
      exact ⟨_, rfl, by rw [hno2.out]; rfl, bw.out⟩
set_option maxHeartbeats 4000000 in
theorem contains_any (l : List ByteArray) (v : Value) (x : ByteArray) (w : World) (h : StrsV w v l) :
    Calls Tryz.prog 184 #[v, .string x] w fun e w' => e = .returned (.bool (hasB l x)) ∧ Below w.heap.size w w' := by
  have hp := hid (index_any l v x w h)
  obtain ⟨ao, cap, rfl, _, _⟩ := h.form
  clear h
  go_enter Tryz.func184, Tryz.ntmps184
  go_wp2_with fail
  refine hp.out.mono ?_
  rintro e w1 ⟨n, rfl, hn, hb1⟩
  have hn2 := hid hn
  clear hn
  go_wp2_with fail
  go_ret
  refine ⟨?_, hb1⟩
  rw [← hn2.out]; rfl
set_option maxHeartbeats 4000000 in
theorem variable_any (s : ByteArray) (w : World) :
    Calls Tryz.prog 119 #[.string s] w fun e w' => e = .returned (.bool (varB s)) ∧ Below w.heap.size w w' := by
  have hp := hid (fun W => contains_any varsL (.slice (some ⟨w.heap.size, 0, none⟩) 4 4) s W)
  go_enter Tryz.func119, Tryz.ntmps119
  go_wp2_with fail
  have bw := hid ((Below.refl w.heap.size w).alloc (Nat.le_refl _) (.cells (strC varsL).toArray 9))
  have K := hid (Blk.new w (strC varsL) 9)
  refine (hp.out _ ?_).mono ?_
  · exact ⟨some ⟨w.heap.size, 0, none⟩, 4, rfl, by decide, by decide, (fun e => by cases e), (fun e => by cases e), fun a ha j hj => by
      cases ha
      rw [Mem.add_plain, Nat.zero_add]
      exact K.out.cell j hj⟩
  · rintro e w1 ⟨rfl, b1⟩
    have b2 := hid (bt bw.out b1)
    go_wp2_with fail
    go_ret
    exact ⟨rfl, b2.out⟩
end Go.Proofs.YtbcjppbiihgfpaaGreatDoor.Ex
