/-
  lictorlaw08.ExprRanks: four of the 64 cases, by the evaluator. Written by wip/rankgen.py. No walk.
-/
import Derived.Test.YtkaihgpenhaaiaaGreatDoorExprRanksEv
namespace Go.Proofs.YtkaihgpenhaaiaaGreatDoor.Ev
set_option maxRecDepth 100000
theorem rank_4_0 : trueB (finR 4 0) = true := by kernel_rfl
theorem rank_4_1 : trueB (finR 4 1) = true := by kernel_rfl
theorem rank_4_2 : trueB (finR 4 2) = true := by kernel_rfl
theorem rank_4_3 : trueB (finR 4 3) = true := by kernel_rfl
end Go.Proofs.YtkaihgpenhaaiaaGreatDoor.Ev
