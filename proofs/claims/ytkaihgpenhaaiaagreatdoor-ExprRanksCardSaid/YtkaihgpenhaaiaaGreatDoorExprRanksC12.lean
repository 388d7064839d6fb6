/-
  lictorlaw08.ExprRanks: four of the 64 cases, by the evaluator. Written by wip/rankgen.py. No walk.
-/
import Derived.Test.YtkaihgpenhaaiaaGreatDoorExprRanksEv
namespace Go.Proofs.YtkaihgpenhaaiaaGreatDoor.Ev
set_option maxRecDepth 100000
theorem rank_6_0 : trueB (finR 6 0) = true := by kernel_rfl
theorem rank_6_1 : trueB (finR 6 1) = true := by kernel_rfl
theorem rank_6_2 : trueB (finR 6 2) = true := by kernel_rfl
theorem rank_6_3 : trueB (finR 6 3) = true := by kernel_rfl
end Go.Proofs.YtkaihgpenhaaiaaGreatDoor.Ev
