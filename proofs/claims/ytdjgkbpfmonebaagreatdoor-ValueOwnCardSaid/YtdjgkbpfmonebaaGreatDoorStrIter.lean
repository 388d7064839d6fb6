/-
  slices.Backward, slices.Values at texts: the iterators' contracts.
-/
import Derived.Test.YtdjgkbpfmonebaaGreatDoorMem
import Derived.Test.YtdjgkbpfmonebaaGreatDoorProg
import Derived.RangeFuncBox
import Derived.RangeFuncNested
import Derived.RangeFuncLeaves
import Derived.RangeFuncGives
import Derived.Shelf.Abstract
import Derived.OwnWalkIn
import Derived.TacticsInMore
import Derived.LoopNIn
import Derived.LoopIn
import Derived.Sort.EncStr
namespace Go.Proofs.YtdjgkbpfmonebaaGreatDoor.Val
open Go.ChangeShapes Go.WideShapes Go.ChangeAt Go.RowKit Go.Shelf
open Go.Proofs.YtdjgkbpfmonebaaGreatDoor.Mem
set_option linter.unusedVariables false
set_option maxRecDepth 100000
attribute [local go_sem] Oper.semAt_some
abbrev WS : Type := Int × ByteArray
/-- what the iterator's body must keep: what lies below m, and the iterator's box -/
def KpB (m Bs : Nat) (A B : World) : Prop := Below m A B ∧ B.heap[Bs]? = A.heap[Bs]?
theorem KpB.refl (m Bs : Nat) (A : World) : KpB m Bs A A := ⟨Below.refl _ _, rfl⟩
theorem KpB.trans {m Bs : Nat} {A B C : World} (h : KpB m Bs A B) (g : KpB m Bs B C) : KpB m Bs A C := ⟨h.1.trans g.1, g.2.trans h.2⟩
theorem KpB_b {m Bs : Nat} {w : World} (hm : m ≤ w.heap.size) (hB : Bs < w.heap.size) (W : World) (l : Nat) (o o' : Obj) (hl : w.heap.size ≤ l) (h : W.heap[l]? = some o) (h1 : o.isCells = false) (h2 : o.isWalk = false) : KpB m Bs W (W.putObj l o') :=
  ⟨belowK_b (w := w) hm W l o o' hl h h1 h2, World.putObj_heap_other (by omega)⟩
/-- The elements from the last one on. -/
def uptoA {α : Type} (el : Nat → α) (n k : Nat) : List α := (List.range k).map (fun j => el (n - 1 - j))
theorem uptoA_succ {α : Type} (el : Nat → α) (n k : Nat) : uptoA el n (k + 1) = uptoA el n k ++ [el (n - 1 - k)] := by simp [uptoA, List.range_succ]
theorem uptoA_length {α : Type} (el : Nat → α) (n k : Nat) : (uptoA el n k).length = k := by simp [uptoA]
set_option maxHeartbeats 2000000 in
theorem bstr1_in (F : Fence) (n : Nat) (hf : F.fn 73) (hro : F.round = none) (hn : 1 ≤ n) (l Bs n₀ b off cap : Nat) {α : Type} (enc : α → Array Value) (el : Nat → α) (L : List ByteArray) (hel : ∀ q (h : q < L.length), enc (el q) = #[.int .i64 (q : Nat), .string L[q]]) (hpos : 0 < L.length) (hreach : (L.length : Int) ≤ 9223372036854775807) (hb : b < n₀) (J Jx : List α → World → Prop)
    (hY : ∀ pre x W, J pre W → pre.length < L.length → YieldAt F (n - 1) Tryz.prog l (enc x) W fun e W' =>
      (e = .returned (.bool true) ∧ J (pre ++ [x]) W' ∧ KpB n₀ Bs W W') ∨ (e = .returned (.bool false) ∧ Jx (pre ++ [x]) W'))
    (W : World) (hBs : W.cell? ⟨Bs, 0, none⟩ = some (.slice (some ⟨b, off, none⟩) L.length cap))
    (hc : ∀ j (h : j < L.length), W.cell? ⟨b, off + j, none⟩ = some (.string L[j])) (h0 : J [] W) :
    CallsIn F n Tryz.prog 73 #[.func (.yield l) #[] #[], .pointer (some ⟨Bs, 0, none⟩)] W fun e W' => (∃ v, e = .returned v) ∧
      ((∃ ys, ys = uptoA el L.length L.length ∧ J ys W') ∨ (∃ pre, (∃ k, k ≤ L.length ∧ pre = uptoA el L.length k) ∧ Jx pre W')) := by
  refine callsIn_of_wp Tryz.func73 rfl hf ?_ hro
  simp only [Tryz.ntmps73, List.size_toArray, List.length_cons, List.length_nil, Nat.reduceAdd, Nat.reduceSub, Array.replicate_succ, Array.replicate_zero, List.push_toArray, List.append_toArray, List.nil_append, List.cons_append]
  have hc2 := hid hc
  have hY2 := hid hY
  have hel2 := hid hel
  clear hc hY hel
  gi_wp2
  gi_loopw [3] (fun i wr => ∃ r : Nat, r ≤ L.length ∧ i = .int .i64 ((r : Int) - 1) ∧ J (uptoA el L.length (L.length - r)) wr ∧ KpB n₀ Bs W wr)
    (fun i _ => (intOf i + 1).toNat)
  case atStart => exact ⟨L.length, Nat.le_refl _, rfl, by rw [Nat.sub_self]; exact h0, KpB.refl _ _ _⟩
  case round =>
    obtain ⟨r, hr, rfl, hJs, hnx⟩ := hrel
    have hbox := (World.cell?_of_block (a := ⟨Bs, 0, none⟩) hnx.2).trans hBs
    by_cases hlt : 0 < r
    · obtain ⟨q, rfl⟩ : ∃ q, r = q + 1 := ⟨r - 1, by omega⟩
      have hql : q < L.length := by omega
      have hqi : (q : Int) < (L.length : Int) := by omega
      have hx : el (L.length - 1 - (L.length - (q + 1))) = el q := by rw [show L.length - 1 - (L.length - (q + 1)) = q by omega]
      obtain ⟨fn, tmps, assign, body, hy, hR⟩ := hY2.out _ (el q) wr hJs (by rw [uptoA_length]; omega)
      rw [hel2.out q hql] at hy
      have hcx1 := (hnx.1.cell (p := ⟨b, off + q, none⟩) hb).trans (hc2.out q hql)
      have hsucc : Hid (uptoA el L.length (L.length - q) = uptoA el L.length (L.length - (q + 1)) ++ [el q]) := hid (by rw [← hx, ← uptoA_succ]; congr 1; omega)
      rw [show ((q + 1 : Nat) : Int) - 1 = q by omega]
      clear hx
      gi_wp2
      refine hR.mono ?_
      rintro e W3 (⟨rfl, hJ3, hk3⟩ | ⟨rfl, hJx3⟩)
      · gi_wp2
        go_roundw
        case rel => exact ⟨q, by omega, rfl, by rw [hsucc.out]; exact hJ3, hnx.trans hk3⟩
        case measure => simp [intOf]
      · gi_wp2
        refine bodyPost_ret (results_none rfl _ _ _) rfl ?_
        exact ⟨⟨_, rfl⟩, .inr ⟨_, ⟨L.length - q, by omega, hsucc.out.symm⟩, hJx3⟩⟩
    · obtain rfl : r = 0 := by omega
      gi_wp2
      go_end0
      exact ⟨⟨_, rfl⟩, .inl ⟨_, rfl, hJs⟩⟩
set_option maxHeartbeats 1000000 in
theorem bstr1_nil (F : Fence) (n : Nat) (hf : F.fn 73) (hro : F.round = none) {α : Type} (l Bs : Nat) (ao : Option Addr) (cap : Nat) (J : List α → World → Prop) (W : World) (hBs : W.cell? ⟨Bs, 0, none⟩ = some (.slice ao 0 cap)) (h0 : J [] W) :
    CallsIn F n Tryz.prog 73 #[.func (.yield l) #[] #[], .pointer (some ⟨Bs, 0, none⟩)] W fun e W' => (∃ v, e = .returned v) ∧ J [] W' := by
  refine callsIn_of_wp Tryz.func73 rfl hf ?_ hro
  simp only [Tryz.ntmps73, List.size_toArray, List.length_cons, List.length_nil, Nat.reduceAdd, Nat.reduceSub, Array.replicate_succ, Array.replicate_zero, List.push_toArray, List.append_toArray, List.nil_append, List.cons_append]
  gi_wp2
  gi_loopw [3] (fun i wr => i = .int .i64 (-1) ∧ J [] wr) (fun _ _ => 0)
  case atStart => exact ⟨rfl, h0⟩
  case round =>
    obtain ⟨rfl, hJs⟩ := hrel
    gi_wp2
    go_end0
    exact ⟨⟨_, rfl⟩, hJs⟩
set_option maxHeartbeats 1000000 in
theorem bstr_in (F : Fence) (n : Nat) (hf : F.fn 49) (hro : F.round = none) (a : Option Addr) (len cap : Nat) (w : World) :
    CallsIn F n Tryz.prog 49 #[.slice a len cap] w fun e w' => e = .returned (.func (.func 73) #[] #[.pointer (some ⟨w.heap.size, 0, none⟩)]) ∧ w' = w.alloc (.cells #[.slice a len cap] 22) := by
  refine callsIn_of_wp Tryz.func49 rfl hf ?_ hro
  simp only [Tryz.ntmps49, List.size_toArray, List.length_cons, List.length_nil, Nat.reduceAdd, Nat.reduceSub, Array.replicate_succ, Array.replicate_zero, List.push_toArray, List.append_toArray, List.nil_append, List.cons_append]
  gi_wp2
  go_ret
  exact ⟨rfl, rfl⟩
theorem bstr_stops (F : Fence) (n : Nat) (hf : F.fn 73) (hro : F.round = none) (hn : 1 ≤ n) {α : Type} (enc : α → Array Value) (el : Nat → α) (Bs n₀ : Nat) (sv : Value) (L : List ByteArray) (hel : ∀ q (h : q < L.length), enc (el q) = #[.int .i64 (q : Nat), .string L[q]]) (hreach : (L.length : Int) ≤ 9223372036854775807) (w A : World) (hBs : Bs < w.heap.size) (hn₀ : n₀ ≤ w.heap.size)
    (hc : w.cell? ⟨Bs, 0, none⟩ = some sv) (hA : A.heap.size ≤ n₀) (hAw : Below A.heap.size A w) (hI : StrsV A sv L) :
    SeqStopsK F n Tryz.prog 73 #[.pointer (some ⟨Bs, 0, none⟩)] enc (KpB n₀ Bs) (fun ys => ys = uptoA el L.length L.length) (fun pre => ∃ k, k ≤ L.length ∧ pre = uptoA el L.length k) L.length w := fun l J Jx W hW _ _ hY h0 => by
  have hc' := (hW.cell (p := ⟨Bs, 0, none⟩) hBs).trans hc
  have hIW : StrsV W sv L := hI.below (hAw.trans (hW.mono (by omega)))
  by_cases hl : L.length = 0
  · have hL : L = [] := List.eq_nil_of_length_eq_zero hl
    subst hL
    obtain ⟨ao, cap, rfl, _⟩ := hI.form
    exact (bstr1_nil F n hf hro l Bs ao cap J W hc' h0).mono fun e W' ⟨he, hj⟩ => ⟨he, .inl ⟨_, rfl, hj⟩⟩
  · obtain ⟨b, off, cap, rfl, _, _, hbA, _⟩ := hI.open (by omega)
    obtain ⟨b', off', cap', hv, _, _, _, hcs⟩ := hIW.open (by omega)
    simp only [Value.slice.injEq, Option.some.injEq, Addr.mk.injEq, and_true, true_and] at hv
    obtain ⟨⟨rfl, rfl⟩, rfl⟩ := hv
    exact bstr1_in F n hf hro hn l Bs n₀ b off cap enc el L hel (by omega) hreach (by omega) J Jx hY W hc' hcs h0
end Go.Proofs.YtdjgkbpfmonebaaGreatDoor.Val
