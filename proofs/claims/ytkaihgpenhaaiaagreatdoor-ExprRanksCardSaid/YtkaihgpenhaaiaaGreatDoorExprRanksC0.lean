/-
  lictorlaw08.ExprRanks: four of the 64 cases, by the evaluator. Written by wip/rankgen.py. No walk.
-/
import Derived.Test.YtkaihgpenhaaiaaGreatDoorExprRanksEv
namespace Go.Proofs.YtkaihgpenhaaiaaGreatDoor.Ev
set_option maxRecDepth 100000
theorem rank_0_0 : trueB (finR 0 0) = true := by kernel_rfl
theorem rank_0_1 : trueB (finR 0 1) = true := by kernel_rfl
theorem rank_0_2 : trueB (finR 0 2) = true := by kernel_rfl
theorem rank_0_3 : trueB (finR 0 3) = true := by kernel_rfl
end Go.Proofs.YtkaihgpenhaaiaaGreatDoor.Ev
