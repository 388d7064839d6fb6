/-
  slices.Chunk at bytes: the iterator's contract.
-/
import Derived.Test.YtiegocbdgimimaaRecOf
import Derived.RangeFuncBox
import Derived.RangeFuncNested
import Derived.RangeFuncLeaves
import Derived.RangeFuncCalls
import Derived.Shelf.Abstract
import Derived.OwnWalkIn
import Derived.TacticsInMore
import Derived.LoopNIn
import Derived.LoopIn
import Derived.RegionIn
import Derived.Stop.RegionWithIn
namespace Go.Proofs.Ytiegocbdgimimaa.Mem
open Go.RowKit
theorem But.trans {B db : Nat} {u v x : World} (h : But B db u v) (g : But B db v x) : But B db u x :=
  ⟨g.os.trans h.os, g.tape.trans h.tape, g.output.trans h.output, Nat.le_trans h.size g.size, fun k hk hne => (g.block k hk hne).trans (h.block k hk hne)⟩
theorem But.grown {B db : Nat} {u v x : World} {row : Option Nat} (h : But B db u v) (hg : v.grownBy x row) (hB : B ≤ v.heap.size) (hr : ∀ k, row = some k → B ≤ k) : But B db u x :=
  ⟨hg.os.trans h.os, hg.tape.trans h.tape, hg.output.trans h.output, Nat.le_trans h.size hg.size, fun k hk hne => (hg.block k (by omega) (fun e => by have := hr k e.symm; omega)).trans (h.block k hk hne)⟩
theorem But.cell {B db : Nat} {u v : World} (h : But B db u v) {k : Nat} (o : Nat) (hk : k < B) (hne : k ≠ db) : v.cell? ⟨k, o, none⟩ = u.cell? ⟨k, o, none⟩ := by
  simp [World.cell?, h.block k hk hne]
theorem But.ofBelow {B db : Nat} {u v : World} (h : Below B u v) : But B db u v := ⟨h.os, h.tape, h.output, h.size, fun k hk _ => h.block k hk⟩
end Go.Proofs.Ytiegocbdgimimaa.Mem
namespace Go.Proofs.Ytiegocbdgimimaa.Rec
open Go.ChangeShapes Go.WideShapes Go.ChangeAt Go.RowKit Go.Shelf
open Go.Proofs.Ytiegocbdgimimaa.Mem
set_option linter.unusedVariables false
set_option maxRecDepth 100000
attribute [local go_sem] Oper.semAt_some

/-- The iterator's two boxes are as they were. -/
structure Kp2 (Bs Bn : Nat) (u v : World) : Prop where
  one : v.heap[Bs]? = u.heap[Bs]?
  two : v.heap[Bn]? = u.heap[Bn]?
theorem Kp2.refl (Bs Bn : Nat) (u : World) : Kp2 Bs Bn u u := ⟨rfl, rfl⟩
theorem Kp2.trans {Bs Bn : Nat} {u v x : World} (h : Kp2 Bs Bn u v) (g : Kp2 Bs Bn v x) : Kp2 Bs Bn u x := ⟨g.one.trans h.one, g.two.trans h.two⟩
theorem Kp2.cell1 {Bs Bn : Nat} {u v : World} (h : Kp2 Bs Bn u v) (o : Nat) : v.cell? ⟨Bs, o, none⟩ = u.cell? ⟨Bs, o, none⟩ := by simp [World.cell?, h.one]
theorem Kp2.cell2 {Bs Bn : Nat} {u v : World} (h : Kp2 Bs Bn u v) (o : Nat) : v.cell? ⟨Bn, o, none⟩ = u.cell? ⟨Bn, o, none⟩ := by simp [World.cell?, h.two]
theorem Kp2.put {Bs Bn : Nat} {w : World} (h1 : Bs < w.heap.size) (h2 : Bn < w.heap.size) (W : World) (l : Nat) (o' : Obj) (hl : w.heap.size ≤ l) : Kp2 Bs Bn W (W.putObj l o') :=
  ⟨World.putObj_heap_other (by omega), World.putObj_heap_other (by omega)⟩
abbrev Ix (n : Nat) : Type := { x : Nat // x < pcs n }
def at61 (n x : Nat) : Nat := min 61 (n - x * 61)
def encC (b off n : Nat) (x : Ix n) : Array Value := #[.slice (some ⟨b, off + x.1 * 61, none⟩) (at61 n x.1) (at61 n x.1)]
def firstIx (n k : Nat) (h : k ≤ pcs n) : List (Ix n) := (List.range k).pmap (fun x (hx : x < pcs n) => (⟨x, hx⟩ : Ix n)) (fun x hx => by have := List.mem_range.1 hx; omega)
theorem firstIx_len (n k : Nat) (h : k ≤ pcs n) : (firstIx n k h).length = k := by simp [firstIx]
theorem firstIx_succ (n k : Nat) (h : k + 1 ≤ pcs n) : firstIx n (k + 1) h = firstIx n k (by omega) ++ [⟨k, by omega⟩] := by
  unfold firstIx
  apply List.ext_getElem
  · simp
  · intro i h1 h2
    simp [List.getElem_append]
    intro h3
    simp at h1
    omega

set_option maxHeartbeats 2000000 in
theorem chunk1_in (F : Fence) (n : Nat) (hf : F.fn 66) (hro : F.round = none) (hn : 1 ≤ n) (l Bs Bn b off len cap : Nat) (hlen : len ≤ 16384) (hcap : len ≤ cap) (hcm : cap ≤ maxLen) (J Jx : List (Ix len) → World → Prop) (hJd : ∀ s W, J s W → J s W.drew)
    (hY : ∀ pre x W, J pre W → pre.length < pcs len → YieldAt F (n - 1) Try.prog l (encC b off len x) W fun e W' =>
      (e = .returned (.bool true) ∧ J (pre ++ [x]) W' ∧ Kp2 Bs Bn W W') ∨ (e = .returned (.bool false) ∧ Jx (pre ++ [x]) W'))
    (W : World) (hBs : W.cell? ⟨Bs, 0, none⟩ = some (.slice (some ⟨b, off, none⟩) len cap)) (hBn : W.cell? ⟨Bn, 0, none⟩ = some (.int .i64 61)) (h0 : J [] W) :
    CallsIn F n Try.prog 66 #[.func (.yield l) #[] #[], .pointer (some ⟨Bs, 0, none⟩), .pointer (some ⟨Bn, 0, none⟩)] W fun e W' => (∃ v, e = .returned v) ∧
      ((∃ ys, ys = firstIx len (pcs len) (Nat.le_refl _) ∧ J ys W') ∨ (∃ pre, (∃ k h, pre = firstIx len k h) ∧ Jx pre W')) := by
  refine callsIn_of_wp Try.func66 rfl hf ?_ hro
  simp only [Try.ntmps66, List.size_toArray, List.length_cons, List.length_nil, Nat.reduceAdd, Nat.reduceSub, Array.replicate_succ, Array.replicate_zero, List.push_toArray, List.append_toArray, List.nil_append, List.cons_append]
  have hY2 := hid hY
  have hp := hid (show pcs len = (len + 60) / 61 from rfl)
  unfold maxLen at hcm
  clear hY
  gi_wp2
  gi_loopw [4] (fun i wr => ∃ k : Nat, ∃ h : k ≤ pcs len, ∃ j : Nat, j = k * 61 ∧ i = .int .i64 j ∧ J (firstIx len k h) wr ∧ Kp2 Bs Bn W wr)
    (fun i _ => (70000 - intOf i).toNat)
  case atStart => exact ⟨0, Nat.zero_le _, 0, rfl, rfl, h0, Kp2.refl _ _ _⟩
  case round =>
    obtain ⟨k, hk, j, hj, rfl, hJs, hnx⟩ := hrel
    have hbs := (hnx.cell1 0).trans hBs
    have hbn := (hnx.cell2 0).trans hBn
    have hkp := hp.out
    by_cases hlt : j < len
    · have hkl : (j : Int) < (len : Int) := by omega
      have hj0 : (0 : Int) ≤ (j : Int) := by omega
      have hjc : (j : Int) ≤ (cap : Int) := by omega
      have hne : ¬ cap = j := by omega
      have hj' := hid hj
      have hk' := hid hkp
      clear hj hkp
      have hkk : k < pcs len := by have := hj'.out; have := hk'.out; omega
      obtain ⟨m, hm⟩ : ∃ m : Nat, m = at61 len k := ⟨_, rfl⟩
      have hm1 : m = min 61 (len - j) := by rw [hm, at61, hj'.out]
      have hmI : Hid (min (61 : Int) ((len - j : Nat) : Int) = (m : Int)) := hid (by omega)
      have hm2 : (m : Int) ≤ 61 := by omega
      have hm3 : (j : Int) + (m : Int) ≤ (cap : Int) := by omega
      have hm4 : (0 : Int) ≤ (m : Int) := by omega
      have hm5 : ¬ m = 0 := by omega
      have hm6 : ¬ j + m = j := by omega
      have hm7 := hid hm5
      have hnxt : Hid (∀ h' : k + 1 ≤ pcs len, firstIx len (k + 1) h' = firstIx len k hk ++ [⟨k, hkk⟩]) := hid (fun h' => firstIx_succ len k h')
      obtain ⟨fn, tmps, assign, body, hy, hR⟩ := hY2.out _ ⟨k, hkk⟩ wr.drew (hJd _ _ hJs) (by rw [firstIx_len]; exact hkk)
      dsimp only [encC] at hy
      rw [← hm, ← hj'.out] at hy
      have hm' := hid hm
      clear hm hm1
      gi_wp2
      gi_region
      all_goals
        rw [hmI.out]
        gi_wp2
        refine hR.mono ?_
        rintro e W3 (⟨rfl, hJ3, hk3⟩ | ⟨rfl, hJx3⟩)
        · have hj2 : (k + 1) * 61 = j + 61 := by rw [hj'.out]; omega
          have hj3 := hid hj2
          have hk4 := hid (hnx.trans ((⟨rfl, rfl⟩ : Kp2 Bs Bn wr wr.drew).trans hk3))
          have hbn3 := (hk4.out.cell2 0).trans hBn
          have hJ4 := hid hJ3
          clear hj2 hk3 hJ3
          gi_wp2
          go_roundw
          case rel => exact ⟨k + 1, hkk, j + 61, hj3.out.symm, by go_num, by rw [hnxt.out hkk]; exact hJ4.out, hk4.out⟩
          case measure => simp [intOf]; omega
        · gi_wp2
          refine bodyPost_ret (results_none rfl _ _ _) rfl ?_
          exact ⟨⟨_, rfl⟩, .inr ⟨_, ⟨k + 1, hkk, (hnxt.out hkk).symm⟩, hJx3⟩⟩
    · obtain rfl : k = pcs len := by omega
      gi_wp2
      go_end0
      exact ⟨⟨_, rfl⟩, .inl ⟨_, rfl, hJs⟩⟩
end Go.Proofs.Ytiegocbdgimimaa.Rec
