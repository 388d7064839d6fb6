/-
  lictorlaw06.ValueNumbers: the walk.
-/
import Derived.Test.YtjfnmjofpkacpaaDoorValLives
namespace Go.Proofs.YtjfnmjofpkacpaaDoor.valueNumbers
open Go.ChangeShapes Go.WideShapes Go.ChangeAt Go.RowKit
open Go.Proofs.YtjfnmjofpkacpaaDoor.Mem Go.Proofs.YtjfnmjofpkacpaaDoor.Nam Go.Proofs.YtjfnmjofpkacpaaDoor.Val
set_option linter.unusedVariables false
set_option linter.unusedSimpArgs false
set_option maxRecDepth 100000
theorem sum_swap (a b : Int) : sumE 43 b a = sumE 43 a b := by
  unfold sumE
  rw [opE_add, opE_add, Int.add_comm b a]
theorem mul_swap (a b : Int) : sumE 42 b a = sumE 42 a b := by
  unfold sumE
  rw [opE_mul, opE_mul, Int.mul_comm b a]
theorem mul_one (a : Int) (h : I64 a) : sumE 42 a 1 = (a, 0) := by
  rw [sum_yes (.inr (.inr rfl)) (by rw [opE_mul, Int.mul_one]; exact fit_yes.2 h), opE_mul, Int.mul_one]
theorem mul_none (a : Int) : sumE 42 a 0 = (0, 0) := by
  rw [sum_yes (.inr (.inr rfl)) (by rw [opE_mul, Int.mul_zero]; exact fit_yes.2 (by unfold I64; omega)), opE_mul, Int.mul_zero]
theorem sub_own (a : Int) : sumE 45 a a = (0, 0) := by
  rw [sum_yes (.inr (.inl rfl)) (by rw [opE_sub, Int.sub_self]; exact fit_yes.2 (by unfold I64; omega)), opE_sub, Int.sub_self]
set_option maxHeartbeats 4000000 in
theorem walk (hS : SplitTold) (hV : ValidTold) (a b : Int) (w : World) (w0 : (Lit.int .i64 a).wf = true) (w1 : (Lit.int .i64 b).wf = true) (hw : Val.Start w) :
    Calls Tryd.prog 3 #[.int .i64 a, .int .i64 b] w fun e w' => e = .returned (.bool true) ∧ Below w.heap.size w w' := by
  have ha := i64_of w0
  have hb := i64_of w1
  have h1 : I64 1 := by unfold I64; omega
  have h0 : I64 0 := by unfold I64; omega
  have cL := Val.hid (lives_any hS hV w hw)
  have c1 := Val.hid (fun W => sum_any 43 a b W ha hb)
  have c2 := Val.hid (fun W => sum_any 43 b a W hb ha)
  have c3 := Val.hid (fun W => sum_any 42 a b W ha hb)
  have c4 := Val.hid (fun W => sum_any 42 b a W hb ha)
  have c5 := Val.hid (fun W => sum_any 42 a 1 W ha h1)
  have c6 := Val.hid (fun W => sum_any 42 a 0 W ha h0)
  have c7 := Val.hid (fun W => sum_any 45 a a W ha ha)
  rw [sum_swap] at c2
  rw [mul_swap] at c4
  rw [mul_one a ha] at c5
  rw [mul_none] at c6
  rw [sub_own] at c7
  generalize sumE 43 a b = r at c1 c2
  generalize sumE 42 a b = q at c3 c4
  obtain ⟨x, cx⟩ := r
  obtain ⟨p, cp⟩ := q
  dsimp only at c1 c2 c3 c4 c5 c6 c7
  have e1 : (x == x) = true := by simp
  have e2 : (cx == cx) = true := by simp
  have e3 : (p == p) = true := by simp
  have e4 : (cp == cp) = true := by simp
  have e5 : (a == a) = true := by simp
  clear ha hb h1 h0 hw hS hV w0 w1
  go_enter Tryd.func3, Tryd.ntmps3
  go_wp2_with fail
  refine cL.out.mono ?_
  rintro e w1 ⟨rfl, b1⟩
  have bw := Val.hid b1
  clear b1 cL
  go_wp2_with fail
  refine (c1.out _).mono ?_
  rintro e w2 ⟨rfl, rfl⟩
  clear c1
  go_wp2_with fail
  refine (c2.out _).mono ?_
  rintro e w3 ⟨rfl, rfl⟩
  clear c2
  go_wp2_with fail
  refine (c3.out _).mono ?_
  rintro e w4 ⟨rfl, rfl⟩
  clear c3
  go_wp2_with fail
  refine (c4.out _).mono ?_
  rintro e w5 ⟨rfl, rfl⟩
  clear c4
  go_wp2_with fail
  refine (c5.out _).mono ?_
  rintro e w6 ⟨rfl, rfl⟩
  clear c5
  go_wp2_with fail
  refine (c6.out _).mono ?_
  rintro e w7 ⟨rfl, rfl⟩
  clear c6
  go_wp2_with fail
  refine (c7.out _).mono ?_
  rintro e w8 ⟨rfl, rfl⟩
  clear c7
  go_wp2_with fail
  go_ret
  exact ⟨rfl, bw.out⟩
end Go.Proofs.YtjfnmjofpkacpaaDoor.valueNumbers
