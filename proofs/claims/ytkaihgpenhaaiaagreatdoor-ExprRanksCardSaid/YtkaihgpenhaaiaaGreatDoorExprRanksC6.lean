/-
  lictorlaw08.ExprRanks: four of the 64 cases, by the evaluator. Written by wip/rankgen.py. No walk.
-/
import Derived.Test.YtkaihgpenhaaiaaGreatDoorExprRanksEv
namespace Go.Proofs.YtkaihgpenhaaiaaGreatDoor.Ev
set_option maxRecDepth 100000
theorem rank_3_0 : trueB (finR 3 0) = true := by kernel_rfl
theorem rank_3_1 : trueB (finR 3 1) = true := by kernel_rfl
theorem rank_3_2 : trueB (finR 3 2) = true := by kernel_rfl
theorem rank_3_3 : trueB (finR 3 3) = true := by kernel_rfl
end Go.Proofs.YtkaihgpenhaaiaaGreatDoor.Ev
