/-
  lictorlaw08.ExprRanks: four of the 64 cases, by the evaluator. Written by wip/rankgen.py. No walk.
-/
import Derived.Test.YtkaihgpenhaaiaaGreatDoorExprRanksEv
namespace Go.Proofs.YtkaihgpenhaaiaaGreatDoor.Ev
set_option maxRecDepth 100000
theorem rank_0_4 : trueB (finR 0 4) = true := by kernel_rfl
theorem rank_0_5 : trueB (finR 0 5) = true := by kernel_rfl
theorem rank_0_6 : trueB (finR 0 6) = true := by kernel_rfl
theorem rank_0_7 : trueB (finR 0 7) = true := by kernel_rfl
end Go.Proofs.YtkaihgpenhaaiaaGreatDoor.Ev
