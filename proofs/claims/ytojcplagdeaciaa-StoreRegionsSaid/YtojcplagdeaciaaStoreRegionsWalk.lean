/-
  StoreRegions: the walk; store.Regions: its contract.
-/
import Derived.Test.YtojcplagdeaciaaMem
import Derived.Test.YtojcplagdeaciaaRows
import Derived.WalkArith
import Derived.WalkKit
import Derived.ProofKit
import Derived.OpenShut
import Derived.Handy
import Derived.Outline
import Derived.Deep.Cut
namespace Go.Proofs.Ytojcplagdeaciaa.storeRegions
open Go.ChangeShapes Go.WideShapes Go.ChangeAt Go.RowKit
open Go.Proofs.Ytojcplagdeaciaa.Mem
set_option linter.unusedVariables false
set_option linter.unusedSimpArgs false
set_option maxRecDepth 20000
def reg (a b : Int) : Value := .agg #[.int .i64 a, .int .i64 b]
def st2 (w : World) (g : Nat) (a b : Int) : World := (w.setCell ⟨g, 0, none⟩ (.int .i64 a)).setCell ⟨g, 1, none⟩ (.int .i64 b)
theorem st2_blk {w : World} {g : Nat} {x y : Value} {t : TypeId} (h : Blk w g [x, y] t) (a b : Int) : Blk (st2 w g a b) g [.int .i64 a, .int .i64 b] t := (h.set 0 _).set 1 _
theorem st2_other {w : World} {g k : Nat} {cs : List Value} {t : TypeId} (h : Blk w k cs t) (hg : g ≠ k) (a b : Int) : Blk (st2 w g a b) k cs t := (h.other (p := ⟨g, 0, none⟩) hg _).other (p := ⟨g, 1, none⟩) hg _
theorem st2_below {B : Nat} {u w : World} {g : Nat} (h : Below B u w) (hg : B ≤ g) (a b : Int) : Below B u (st2 w g a b) := (h.setCell (p := ⟨g, 0, none⟩) hg _).setCell (p := ⟨g, 1, none⟩) hg _
/-- three regions, stored one behind the other -/
theorem three (w X : World) (n0 : Nat) (t : TypeId) (hn : n0 = w.heap.size) (hX : ((w.alloc (.cells #[.int .i64 0, .int .i64 0] t)).alloc (.cells #[.int .i64 0, .int .i64 0] t)).alloc (.cells #[.int .i64 0, .int .i64 0] t) = X) :
    Blk X n0 [.int .i64 0, .int .i64 0] t ∧ Blk X (n0 + 1) [.int .i64 0, .int .i64 0] t ∧ Blk X (n0 + 1 + 1) [.int .i64 0, .int .i64 0] t ∧ Below n0 w X := by
  subst hX
  subst hn
  refine ⟨((Blk.new w [.int .i64 0, .int .i64 0] t).alloc _).alloc _, (Blk.new' _ [.int .i64 0, .int .i64 0] t _ (by simp)).alloc _, Blk.new' _ [.int .i64 0, .int .i64 0] t _ (by simp), ((Below.refl _ w).alloc (Nat.le_refl _) _ |>.alloc (by simp) _).alloc (by simp; omega) _⟩
theorem threeV (w X : World) (n0 : Nat) (t : TypeId) (a b c d e f : Int) (hn : n0 = w.heap.size) (hX : ((w.alloc (.cells #[.int .i64 a, .int .i64 b] t)).alloc (.cells #[.int .i64 c, .int .i64 d] t)).alloc (.cells #[.int .i64 e, .int .i64 f] t) = X) :
    Blk X n0 [.int .i64 a, .int .i64 b] t ∧ Blk X (n0 + 1) [.int .i64 c, .int .i64 d] t ∧ Blk X (n0 + 1 + 1) [.int .i64 e, .int .i64 f] t ∧ Below n0 w X := by
  subst hX
  subst hn
  refine ⟨((Blk.new w [.int .i64 a, .int .i64 b] t).alloc _).alloc _, (Blk.new' _ [.int .i64 c, .int .i64 d] t _ (by simp)).alloc _, Blk.new' _ [.int .i64 e, .int .i64 f] t _ (by simp), ((Below.refl _ w).alloc (Nat.le_refl _) _ |>.alloc (by simp) _).alloc (by simp; omega) _⟩
theorem filled {w X : World} {n0 : Nat} {t : TypeId} (hX : Blk X n0 [.int .i64 0, .int .i64 0] t ∧ Blk X (n0 + 1) [.int .i64 0, .int .i64 0] t ∧ Blk X (n0 + 1 + 1) [.int .i64 0, .int .i64 0] t ∧ Below n0 w X) (a b c d e f : Int) :
    Blk (st2 (st2 (st2 X n0 a b) (n0 + 1) c d) (n0 + 1 + 1) e f) n0 [.int .i64 a, .int .i64 b] t ∧ Blk (st2 (st2 (st2 X n0 a b) (n0 + 1) c d) (n0 + 1 + 1) e f) (n0 + 1) [.int .i64 c, .int .i64 d] t ∧ Blk (st2 (st2 (st2 X n0 a b) (n0 + 1) c d) (n0 + 1 + 1) e f) (n0 + 1 + 1) [.int .i64 e, .int .i64 f] t ∧ Below n0 w (st2 (st2 (st2 X n0 a b) (n0 + 1) c d) (n0 + 1 + 1) e f) := by
  obtain ⟨h1, h2, h3, h4⟩ := hX
  exact ⟨st2_other (st2_other (st2_blk h1 a b) (by omega) c d) (by omega) e f, st2_other (st2_blk (st2_other h2 (by omega) a b) c d) (by omega) e f, st2_blk (st2_other (st2_other h3 (by omega) a b) (by omega) c d) e f, st2_below (st2_below (st2_below h4 (by omega) a b) (by omega) c d) (by omega) e f⟩
set_option maxHeartbeats 4000000 in
theorem regions_bad (n : Int) (w : World) (h : n < 8 ∨ 1024 < n) :
    Calls Try.prog 4 #[.int .i64 n] w fun e w' => e = .returned (.tuple #[.agg #[.int .i64 0, .int .i64 0], .agg #[.int .i64 0, .int .i64 0], .agg #[.int .i64 0, .int .i64 0], .int .i64 1]) ∧ Below w.heap.size w w' := by
  go_enter Try.func4, Try.ntmps4
  go_upto_region 1 with fail
  obtain ⟨n0, hn0⟩ : ∃ n0, n0 = w.heap.size := ⟨_, rfl⟩
  have h3 := fun X hX => three w X n0 23 hn0 hX
  rw [← hn0]
  generalize hX : ((w.alloc (.cells #[.int .i64 0, .int .i64 0] 23)).alloc (.cells #[.int .i64 0, .int .i64 0] 23)).alloc (.cells #[.int .i64 0, .int .i64 0] 23) = X
  replace h3 := h3 X hX
  clear hX
  replace hn0 := hid hn0
  have hF := hid (filled h3 0 0 0 0 0 0)
  obtain ⟨K1, K2, K3, bw⟩ := h3
  obtain ⟨a0, a1, af⟩ := K1.two
  obtain ⟨b0, b1, bf⟩ := K2.two
  obtain ⟨c0, c1, cf⟩ := K3.two
  clear K1 K2 K3 bw
  by_cases h8 : n < 8
  · clear h
    go_wp2_with fail
    obtain ⟨F0, F1, F2, bF⟩ := hF.out
    obtain ⟨q0, q1, _⟩ := F0.two
    obtain ⟨q2, q3, _⟩ := F1.two
    obtain ⟨q4, q5, _⟩ := F2.two
    exact bodyPost_ret (v := .tuple #[.agg #[.int .i64 0, .int .i64 0], .agg #[.int .i64 0, .int .i64 0], .agg #[.int .i64 0, .int .i64 0], .int .i64 1]) (by unfold st2 at q0 q1 q2 q3 q4 q5; simp [results, Try.results4, go_sem, q0, q1, q2, q3, q4, q5]) rfl ⟨rfl, hn0.out ▸ bF⟩
  · have h9 : 1024 < n := by omega
    clear h
    go_wp2_with fail
    obtain ⟨F0, F1, F2, bF⟩ := hF.out
    obtain ⟨q0, q1, _⟩ := F0.two
    obtain ⟨q2, q3, _⟩ := F1.two
    obtain ⟨q4, q5, _⟩ := F2.two
    exact bodyPost_ret (v := .tuple #[.agg #[.int .i64 0, .int .i64 0], .agg #[.int .i64 0, .int .i64 0], .agg #[.int .i64 0, .int .i64 0], .int .i64 1]) (by unfold st2 at q0 q1 q2 q3 q4 q5; simp [results, Try.results4, go_sem, q0, q1, q2, q3, q4, q5]) rfl ⟨rfl, hn0.out ▸ bF⟩
set_option maxHeartbeats 4000000 in
theorem regions_good (n q : Int) (w : World) (h1 : 8 ≤ n) (h2 : n ≤ 1024) (hq : n / 4 = q) :
    Calls Try.prog 4 #[.int .i64 n] w fun e w' => e = .returned (.tuple #[.agg #[.int .i64 0, .int .i64 q], .agg #[.int .i64 q, .int .i64 q], .agg #[.int .i64 (2 * q), .int .i64 (n - 2 * q)], .int .i64 0]) ∧ Below w.heap.size w w' := by
  go_enter Try.func4, Try.ntmps4
  go_upto_region 1 with fail
  obtain ⟨n0, hn0⟩ : ∃ n0, n0 = w.heap.size := ⟨_, rfl⟩
  have h3 := fun X hX => three w X n0 23 hn0 hX
  rw [← hn0]
  generalize hX : ((w.alloc (.cells #[.int .i64 0, .int .i64 0] 23)).alloc (.cells #[.int .i64 0, .int .i64 0] 23)).alloc (.cells #[.int .i64 0, .int .i64 0] 23) = X
  replace h3 := h3 X hX
  clear hX
  replace hn0 := hid hn0
  have hF := hid (filled h3 0 q q q (2 * q) (n - 2 * q))
  obtain ⟨K1, K2, K3, bw⟩ := h3
  obtain ⟨a0, a1, af⟩ := K1.two
  obtain ⟨b0, b1, bf⟩ := K2.two
  obtain ⟨c0, c1, cf⟩ := K3.two
  clear K1 K2 K3 bw
  have h8 : ¬ n < 8 := by omega
  have h9 : ¬ 1024 < n := by omega
  have r1 : 0 ≤ q ∧ q ≤ 256 := by omega
  have ht : n.tdiv 4 = q := by rw [Int.tdiv_eq_ediv_of_nonneg (by omega)]; exact hq
  have w1 : IntKind.i64.wrap q = q := by simp [IntKind.wrap, IntKind.bits, IntKind.signed]; omega
  have w2 : wrap64 (2 * q) = 2 * q := by unfold wrap64; omega
  have w3 : wrap64 (n - 2 * q) = n - 2 * q := by unfold wrap64; omega
  clear hq h1 h2
  replace r1 := hid r1
  go_wp2_with fail
  obtain ⟨F0, F1, F2, bF⟩ := hF.out
  obtain ⟨q0, q1, _⟩ := F0.two
  obtain ⟨q2, q3, _⟩ := F1.two
  obtain ⟨q4, q5, _⟩ := F2.two
  exact bodyPost_ret (v := .tuple #[.agg #[.int .i64 0, .int .i64 q], .agg #[.int .i64 q, .int .i64 q], .agg #[.int .i64 (2 * q), .int .i64 (n - 2 * q)], .int .i64 0]) (by unfold st2 at q0 q1 q2 q3 q4 q5; simp [results, Try.results4, go_sem, q0, q1, q2, q3, q4, q5]) rfl ⟨rfl, hn0.out ▸ bF⟩

set_option maxHeartbeats 4000000 in
theorem walk (n : Int) (w : World) (w0 : (Lit.int .i64 n).wf = true) :
    Calls Try.prog 3 #[.int .i64 n] w fun e w' => e = .returned (.bool true) ∧ Below w.heap.size w w' := by
  clear w0
  by_cases hb : n < 8 ∨ 1024 < n
  · have hc := hid (regions_bad n w hb)
    have hb' := hid hb
    clear hb
    go_enter Try.func3, Try.ntmps3
    go_wp2_with fail
    refine hc.out.mono ?_
    rintro e w1 ⟨rfl, b1⟩
    replace b1 := hid b1
    clear hc
    go_upto_region 2 with fail
    obtain ⟨n0, hn0⟩ : ∃ n0, n0 = w1.heap.size := ⟨_, rfl⟩
    have h3 := fun X hX => threeV w1 X n0 23 0 0 0 0 0 0 hn0 hX
    rw [← hn0]
    generalize hX : ((w1.alloc (.cells #[.int .i64 0, .int .i64 0] 23)).alloc (.cells #[.int .i64 0, .int .i64 0] 23)).alloc (.cells #[.int .i64 0, .int .i64 0] 23) = X
    have hF := h3 X hX
    clear hX h3
    obtain ⟨K1, K2, K3, bw⟩ := hF
    obtain ⟨a0, a1, _⟩ := K1.two
    obtain ⟨c0, c1, _⟩ := K2.two
    obtain ⟨d0, d1, _⟩ := K3.two
    replace bw := hid (bt b1.out (hn0 ▸ bw))
    clear K1 K2 K3 b1 hn0
    by_cases h8 : n < 8
    · go_wp2_with fail
      go_ret
      exact ⟨rfl, bw.out⟩
    · have h9 : 1024 < n := by have := hb'.out; omega
      go_wp2_with fail
      go_ret
      exact ⟨rfl, bw.out⟩
  · obtain ⟨q, hq⟩ : ∃ q, n / 4 = q := ⟨_, rfl⟩
    have hc := hid (regions_good n q w (by omega) (by omega) hq)
    have r1 : 2 ≤ q := by omega
    have r2 : 4 ≤ n - 2 * q := by omega
    have r3 : wrap64 (q + q) = q + q := by unfold wrap64; omega
    have r4 : wrap64 (2 * q + (n - 2 * q)) = n := by unfold wrap64; omega
    have r5 : (2 * q == q + q) = true := by rw [beq_iff_eq]; omega
    clear hb hq
    go_enter Try.func3, Try.ntmps3
    go_wp2_with fail
    refine hc.out.mono ?_
    rintro e w1 ⟨rfl, b1⟩
    replace b1 := hid b1
    clear hc
    go_upto_region 2 with fail
    obtain ⟨n0, hn0⟩ : ∃ n0, n0 = w1.heap.size := ⟨_, rfl⟩
    have h3 := fun X hX => threeV w1 X n0 23 0 q q q (2 * q) (n - 2 * q) hn0 hX
    rw [← hn0]
    generalize hX : ((w1.alloc (.cells #[.int .i64 0, .int .i64 q] 23)).alloc (.cells #[.int .i64 q, .int .i64 q] 23)).alloc (.cells #[.int .i64 (2 * q), .int .i64 (n - 2 * q)] 23) = X
    have hF := h3 X hX
    clear hX h3
    obtain ⟨K1, K2, K3, bw⟩ := hF
    obtain ⟨a0, a1, _⟩ := K1.two
    obtain ⟨c0, c1, _⟩ := K2.two
    obtain ⟨d0, d1, _⟩ := K3.two
    replace bw := hid (bt b1.out (hn0 ▸ bw))
    clear K1 K2 K3 b1 hn0
    go_wp2_with fail
    go_ret
    exact ⟨rfl, bw.out⟩

end Go.Proofs.Ytojcplagdeaciaa.storeRegions
