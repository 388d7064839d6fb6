/-
  lictorlaw08.ExprRanks: four of the 64 cases, by the evaluator. Written by wip/rankgen.py. No walk.
-/
import Derived.Test.YtkaihgpenhaaiaaGreatDoorExprRanksEv
namespace Go.Proofs.YtkaihgpenhaaiaaGreatDoor.Ev
set_option maxRecDepth 100000
theorem rank_7_0 : trueB (finR 7 0) = true := by kernel_rfl
theorem rank_7_1 : trueB (finR 7 1) = true := by kernel_rfl
theorem rank_7_2 : trueB (finR 7 2) = true := by kernel_rfl
theorem rank_7_3 : trueB (finR 7 3) = true := by kernel_rfl
end Go.Proofs.YtkaihgpenhaaiaaGreatDoor.Ev
