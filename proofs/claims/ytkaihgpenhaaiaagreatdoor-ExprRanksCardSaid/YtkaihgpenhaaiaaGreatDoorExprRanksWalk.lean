/-
  lictorlaw08.ExprRanks: true for any two bytes. No walk.
-/
import Derived.Test.YtkaihgpenhaaiaaGreatDoorExprRanksMath
import Derived.Test.YtkaihgpenhaaiaaGreatDoorExprRanksC0
import Derived.Test.YtkaihgpenhaaiaaGreatDoorExprRanksC1
import Derived.Test.YtkaihgpenhaaiaaGreatDoorExprRanksC2
import Derived.Test.YtkaihgpenhaaiaaGreatDoorExprRanksC3
import Derived.Test.YtkaihgpenhaaiaaGreatDoorExprRanksC4
import Derived.Test.YtkaihgpenhaaiaaGreatDoorExprRanksC5
import Derived.Test.YtkaihgpenhaaiaaGreatDoorExprRanksC6
import Derived.Test.YtkaihgpenhaaiaaGreatDoorExprRanksC7
import Derived.Test.YtkaihgpenhaaiaaGreatDoorExprRanksC8
import Derived.Test.YtkaihgpenhaaiaaGreatDoorExprRanksC9
import Derived.Test.YtkaihgpenhaaiaaGreatDoorExprRanksC10
import Derived.Test.YtkaihgpenhaaiaaGreatDoorExprRanksC11
import Derived.Test.YtkaihgpenhaaiaaGreatDoorExprRanksC12
import Derived.Test.YtkaihgpenhaaiaaGreatDoorExprRanksC13
import Derived.Test.YtkaihgpenhaaiaaGreatDoorExprRanksC14
import Derived.Test.YtkaihgpenhaaiaaGreatDoorExprRanksC15
namespace Go.Proofs.YtkaihgpenhaaiaaGreatDoor.Ev
open Go.ChangeShapes Go.WideShapes Go.ChangeAt Go.RowKit
set_option linter.unusedVariables false
set_option maxRecDepth 100000
theorem eight {i : Int} (h : 0 ≤ i) (h2 : i < 8) : i = 0 ∨ i = 1 ∨ i = 2 ∨ i = 3 ∨ i = 4 ∨ i = 5 ∨ i = 6 ∨ i = 7 := by omega
theorem rank_0 (k : Int) (h : 0 ≤ k) (h2 : k < 8) : trueB (finR 0 k) = true := by
  rcases eight h h2 with rfl | rfl | rfl | rfl | rfl | rfl | rfl | rfl
  · exact rank_0_0
  · exact rank_0_1
  · exact rank_0_2
  · exact rank_0_3
  · exact rank_0_4
  · exact rank_0_5
  · exact rank_0_6
  · exact rank_0_7
theorem rank_1 (k : Int) (h : 0 ≤ k) (h2 : k < 8) : trueB (finR 1 k) = true := by
  rcases eight h h2 with rfl | rfl | rfl | rfl | rfl | rfl | rfl | rfl
  · exact rank_1_0
  · exact rank_1_1
  · exact rank_1_2
  · exact rank_1_3
  · exact rank_1_4
  · exact rank_1_5
  · exact rank_1_6
  · exact rank_1_7
theorem rank_2 (k : Int) (h : 0 ≤ k) (h2 : k < 8) : trueB (finR 2 k) = true := by
  rcases eight h h2 with rfl | rfl | rfl | rfl | rfl | rfl | rfl | rfl
  · exact rank_2_0
  · exact rank_2_1
  · exact rank_2_2
  · exact rank_2_3
  · exact rank_2_4
  · exact rank_2_5
  · exact rank_2_6
  · exact rank_2_7
theorem rank_3 (k : Int) (h : 0 ≤ k) (h2 : k < 8) : trueB (finR 3 k) = true := by
  rcases eight h h2 with rfl | rfl | rfl | rfl | rfl | rfl | rfl | rfl
  · exact rank_3_0
  · exact rank_3_1
  · exact rank_3_2
  · exact rank_3_3
  · exact rank_3_4
  · exact rank_3_5
  · exact rank_3_6
  · exact rank_3_7
theorem rank_4 (k : Int) (h : 0 ≤ k) (h2 : k < 8) : trueB (finR 4 k) = true := by
  rcases eight h h2 with rfl | rfl | rfl | rfl | rfl | rfl | rfl | rfl
  · exact rank_4_0
  · exact rank_4_1
  · exact rank_4_2
  · exact rank_4_3
  · exact rank_4_4
  · exact rank_4_5
  · exact rank_4_6
  · exact rank_4_7
theorem rank_5 (k : Int) (h : 0 ≤ k) (h2 : k < 8) : trueB (finR 5 k) = true := by
  rcases eight h h2 with rfl | rfl | rfl | rfl | rfl | rfl | rfl | rfl
  · exact rank_5_0
  · exact rank_5_1
  · exact rank_5_2
  · exact rank_5_3
  · exact rank_5_4
  · exact rank_5_5
  · exact rank_5_6
  · exact rank_5_7
theorem rank_6 (k : Int) (h : 0 ≤ k) (h2 : k < 8) : trueB (finR 6 k) = true := by
  rcases eight h h2 with rfl | rfl | rfl | rfl | rfl | rfl | rfl | rfl
  · exact rank_6_0
  · exact rank_6_1
  · exact rank_6_2
  · exact rank_6_3
  · exact rank_6_4
  · exact rank_6_5
  · exact rank_6_6
  · exact rank_6_7
theorem rank_7 (k : Int) (h : 0 ≤ k) (h2 : k < 8) : trueB (finR 7 k) = true := by
  rcases eight h h2 with rfl | rfl | rfl | rfl | rfl | rfl | rfl | rfl
  · exact rank_7_0
  · exact rank_7_1
  · exact rank_7_2
  · exact rank_7_3
  · exact rank_7_4
  · exact rank_7_5
  · exact rank_7_6
  · exact rank_7_7
theorem rank_all (i k : Int) (h : 0 ≤ i) (h2 : i < 8) (h3 : 0 ≤ k) (h4 : k < 8) : trueB (finR i k) = true := by
  rcases eight h h2 with rfl | rfl | rfl | rfl | rfl | rfl | rfl | rfl
  · exact rank_0 k h3 h4
  · exact rank_1 k h3 h4
  · exact rank_2 k h3 h4
  · exact rank_3 k h3 h4
  · exact rank_4 k h3 h4
  · exact rank_5 k h3 h4
  · exact rank_6 k h3 h4
  · exact rank_7 k h3 h4
end Go.Proofs.YtkaihgpenhaaiaaGreatDoor.Ev
namespace Go.Proofs.YtkaihgpenhaaiaaGreatDoor.exprRanks
open Go.ChangeShapes Go.WideShapes Go.ChangeAt Go.RowKit
open Go.Proofs.YtkaihgpenhaaiaaGreatDoor.Ev
theorem walk (a b : Int) {w : World} (hl : Laid w) (ha : (Lit.int .u8 a).wf = true) (hb : (Lit.int .u8 b).wf = true) :
    Calls Tryz.prog 6 #[.int .u8 a, .int .u8 b] w fun e W' => e = .returned (.bool true) ∧ Below w.heap.size w W' := by
  have h1 : 0 ≤ a ∧ a < 256 := by simp [Lit.wf, IntKind.min, IntKind.max, IntKind.bits, IntKind.signed] at ha; omega
  have h2 : 0 ≤ b ∧ b < 256 := by simp [Lit.wf, IntKind.min, IntKind.max, IntKind.bits, IntKind.signed] at hb; omega
  exact ranks_any rank_all hl h1.1 h1.2 h2.1 h2.2
end Go.Proofs.YtkaihgpenhaaiaaGreatDoor.exprRanks
