/-
  lictorlaw08.ExprRanks: four of the 64 cases, by the evaluator. Written by wip/rankgen.py. No walk.
-/
import Derived.Test.YtkaihgpenhaaiaaGreatDoorExprRanksEv
namespace Go.Proofs.YtkaihgpenhaaiaaGreatDoor.Ev
set_option maxRecDepth 100000
theorem rank_3_4 : trueB (finR 3 4) = true := by kernel_rfl
theorem rank_3_5 : trueB (finR 3 5) = true := by kernel_rfl
theorem rank_3_6 : trueB (finR 3 6) = true := by kernel_rfl
theorem rank_3_7 : trueB (finR 3 7) = true := by kernel_rfl
end Go.Proofs.YtkaihgpenhaaiaaGreatDoor.Ev
