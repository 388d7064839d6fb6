/-
  slices.Backward at writes: the iterator's contract.
-/
import Derived.Test.YtiegocbdgimimaaSectorRead
import Derived.RangeFuncBox
import Derived.RangeFuncNested
import Derived.RangeFuncLeaves
import Derived.Shelf.Abstract
import Derived.OwnWalkIn
import Derived.TacticsInMore
import Derived.LoopNIn
import Derived.LoopIn
namespace Go.Proofs.Ytiegocbdgimimaa.Sector
open Go.ChangeShapes Go.WideShapes Go.ChangeAt Go.RowKit Go.Shelf
open Go.Proofs.Ytiegocbdgimimaa.Mem
set_option linter.unusedVariables false
attribute [local go_sem] Oper.semAt_some

abbrev WR : Type := Int × (Int × ByteArray)
/-- The writes from the last one on. -/
def back (L : List (Int × ByteArray)) (j : Nat) : WR := (((L.length - 1 - j : Nat) : Int), L.getD (L.length - 1 - j) (0, ⟨#[]⟩))
def upto (L : List (Int × ByteArray)) (k : Nat) : List WR := (List.range k).map (back L)
theorem upto_succ (L : List (Int × ByteArray)) (k : Nat) : upto L (k + 1) = upto L k ++ [back L k] := by simp [upto, List.range_succ]
theorem upto_length (L : List (Int × ByteArray)) (k : Nat) : (upto L k).length = k := by simp [upto]
def encs (x : WR) : Array Value := #[.int .i64 x.1, .agg #[.int .i64 x.2.1, .string x.2.2]]

set_option maxRecDepth 100000 in
set_option maxHeartbeats 2000000 in
theorem back1_in (F : Fence) (n : Nat) (hf : F.fn 111) (hro : F.round = none) (hn : 1 ≤ n) (l Bs n₀ b off cap : Nat) (L : List (Int × ByteArray)) (hpos : 0 < L.length) (hreach : L.length ≤ 4096) (hb : b < n₀) (J Jx : List WR → World → Prop)
    (hY : ∀ pre x W, J pre W → pre.length < L.length → YieldAt F (n - 1) Try.prog l (encs x) W fun e W' =>
      (e = .returned (.bool true) ∧ J (pre ++ [x]) W' ∧ Below n₀ W W') ∨ (e = .returned (.bool false) ∧ Jx (pre ++ [x]) W'))
    (W : World) (hBs0 : Bs < n₀) (hBs : W.cell? ⟨Bs, 0, none⟩ = some (.slice (some ⟨b, off, none⟩) L.length cap))
    (hc : ∀ j (h : j < L.length), W.cell? ⟨b, off + j * 2, none⟩ = some (.int .i64 L[j].1) ∧ W.cell? ⟨b, off + j * 2 + 1, none⟩ = some (.string L[j].2)) (h0 : J [] W) :
    CallsIn F n Try.prog 111 #[.func (.yield l) #[] #[], .pointer (some ⟨Bs, 0, none⟩)] W fun e W' => (∃ v, e = .returned v) ∧
      ((∃ ys, ys = upto L L.length ∧ J ys W') ∨ (∃ pre, (∃ k, k ≤ L.length ∧ pre = upto L k) ∧ Jx pre W')) := by
  refine callsIn_of_wp Try.func111 rfl hf ?_ hro
  simp only [Try.ntmps111, List.size_toArray, List.length_cons, List.length_nil, Nat.reduceAdd, Nat.reduceSub, Array.replicate_succ, Array.replicate_zero, List.push_toArray, List.append_toArray, List.nil_append, List.cons_append]
  have hc2 := hid hc
  have hY2 := hid hY
  clear hc hY
  gi_wp2
  gi_loopw [3] (fun i wr => ∃ r : Nat, r ≤ L.length ∧ i = .int .i64 ((r : Int) - 1) ∧ J (upto L (L.length - r)) wr ∧ Below n₀ W wr)
    (fun i _ => (intOf i + 1).toNat)
  case atStart => exact ⟨L.length, Nat.le_refl _, rfl, by rw [Nat.sub_self]; exact h0, Below.refl _ _⟩
  case round =>
    obtain ⟨r, hr, rfl, hJs, hnx⟩ := hrel
    have hbox := (hnx.cell (p := ⟨Bs, 0, none⟩) hBs0).trans hBs
    by_cases hlt : 0 < r
    · obtain ⟨q, rfl⟩ : ∃ q, r = q + 1 := ⟨r - 1, by omega⟩
      have hql : q < L.length := by omega
      have hx : back L (L.length - (q + 1)) = ((q : Int), L[q]) := by
        unfold back
        rw [show L.length - 1 - (L.length - (q + 1)) = q by omega]
        simp [List.getD, hql]
      obtain ⟨fn, tmps, assign, body, hy, hR⟩ := hY2.out _ ((q : Int), L[q]) wr hJs (by rw [upto_length]; omega)
      dsimp only [encs] at hy
      have hcx1 := (hnx.cell (p := ⟨b, off + q * 2, none⟩) hb).trans (hc2.out q hql).1
      have hcx2 := (hnx.cell (p := ⟨b, off + q * 2 + 1, none⟩) hb).trans (hc2.out q hql).2
      have hsucc : Hid (upto L (L.length - q) = upto L (L.length - (q + 1)) ++ [((q : Int), L[q])]) := hid (by rw [← hx, ← upto_succ]; congr 1; omega)
      rw [show ((q + 1 : Nat) : Int) - 1 = q by omega]
      clear hx
      gi_wp2
      refine hR.mono ?_
      rintro e W3 (⟨rfl, hJ3, hk3⟩ | ⟨rfl, hJx3⟩)
      · gi_wp2
        go_roundw
        case rel => exact ⟨q, by omega, rfl, by rw [hsucc.out]; exact hJ3, hnx.trans hk3⟩
        case measure => simp [intOf]
      · gi_wp2
        refine bodyPost_ret (results_none rfl _ _ _) rfl ?_
        exact ⟨⟨_, rfl⟩, .inr ⟨_, ⟨L.length - q, by omega, hsucc.out.symm⟩, hJx3⟩⟩
    · obtain rfl : r = 0 := by omega
      gi_wp2
      go_end0
      exact ⟨⟨_, rfl⟩, .inl ⟨_, rfl, hJs⟩⟩

set_option maxRecDepth 100000 in
set_option maxHeartbeats 1000000 in
theorem back1_nil (F : Fence) (n : Nat) (hf : F.fn 111) (hro : F.round = none) (l Bs : Nat) (ao : Option Addr) (cap : Nat) (J : List WR → World → Prop) (W : World) (hBs : W.cell? ⟨Bs, 0, none⟩ = some (.slice ao 0 cap)) (h0 : J [] W) :
    CallsIn F n Try.prog 111 #[.func (.yield l) #[] #[], .pointer (some ⟨Bs, 0, none⟩)] W fun e W' => (∃ v, e = .returned v) ∧ J [] W' := by
  refine callsIn_of_wp Try.func111 rfl hf ?_ hro
  simp only [Try.ntmps111, List.size_toArray, List.length_cons, List.length_nil, Nat.reduceAdd, Nat.reduceSub, Array.replicate_succ, Array.replicate_zero, List.push_toArray, List.append_toArray, List.nil_append, List.cons_append]
  gi_wp2
  gi_loopw [3] (fun i wr => i = .int .i64 (-1) ∧ J [] wr) (fun _ _ => 0)
  case atStart => exact ⟨rfl, h0⟩
  case round =>
    obtain ⟨rfl, hJs⟩ := hrel
    gi_wp2
    go_end0
    exact ⟨⟨_, rfl⟩, hJs⟩

set_option maxHeartbeats 1000000 in
theorem backward_in (F : Fence) (n : Nat) (hf : F.fn 110) (hro : F.round = none) (a : Option Addr) (len cap : Nat) (w : World) :
    CallsIn F n Try.prog 110 #[.slice a len cap] w fun e w' => e = .returned (.func (.func 111) #[] #[.pointer (some ⟨w.heap.size, 0, none⟩)]) ∧ w' = w.alloc (.cells #[.slice a len cap] 23) := by
  refine callsIn_of_wp Try.func110 rfl hf ?_ hro
  simp only [Try.ntmps110, List.size_toArray, List.length_cons, List.length_nil, Nat.reduceAdd, Nat.reduceSub, Array.replicate_succ, Array.replicate_zero, List.push_toArray, List.append_toArray, List.nil_append, List.cons_append]
  gi_wp2
  go_ret
  exact ⟨rfl, rfl⟩

theorem PrsV.under {n₀ : Nat} {A W : World} {v : Value} {L : List (Int × ByteArray)} (h : PrsV A v L) (hA : A.heap.size ≤ n₀) (hb : Below n₀ A W) : PrsV W v L := h.below (hb.mono hA)

theorem back_stops (F : Fence) (n : Nat) (hf : F.fn 111) (hro : F.round = none) (hn : 1 ≤ n) (Bs n₀ : Nat) (sv : Value) (L : List (Int × ByteArray)) (hreach : L.length ≤ 4096) (w A : World) (hBs : Bs < n₀) (hn₀ : n₀ ≤ w.heap.size)
    (hc : w.cell? ⟨Bs, 0, none⟩ = some sv) (hA : A.heap.size ≤ n₀) (hAw : Below A.heap.size A w) (hI : PrsV A sv L) :
    SeqStopsK F n Try.prog 111 #[.pointer (some ⟨Bs, 0, none⟩)] encs (Below n₀) (fun ys => ys = upto L L.length) (fun pre => ∃ k, k ≤ L.length ∧ pre = upto L k) L.length w := fun l J Jx W hW _ _ hY h0 => by
  have hc' := (hW.cell (p := ⟨Bs, 0, none⟩) (by show Bs < w.heap.size; omega)).trans hc
  have hIW : PrsV W sv L := hI.below (hAw.trans (hW.mono (by omega)))
  by_cases hl : L.length = 0
  · have hL : L = [] := List.eq_nil_of_length_eq_zero hl
    subst hL
    obtain ⟨ao, cap, rfl, _⟩ := hI.form
    exact (back1_nil F n hf hro l Bs ao cap J W hc' h0).mono fun e W' ⟨he, hj⟩ => ⟨he, .inl ⟨_, rfl, hj⟩⟩
  · obtain ⟨b, off, cap, rfl, _, _, hbA, _⟩ := hI.open (by omega)
    obtain ⟨b', off', cap', hv, _, _, _, hcs⟩ := hIW.open (by omega)
    simp only [Value.slice.injEq, Option.some.injEq, Addr.mk.injEq, and_true, true_and] at hv
    obtain ⟨⟨rfl, rfl⟩, rfl⟩ := hv
    exact back1_in F n hf hro hn l Bs n₀ b off cap L (by omega) hreach (by omega) J Jx hY W hBs hc' hcs h0
end Go.Proofs.Ytiegocbdgimimaa.Sector
