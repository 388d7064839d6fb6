/-
  lictorlaw08.ExprRanks: four of the 64 cases, by the evaluator. Written by wip/rankgen.py. No walk.
-/
import Derived.Test.YtkaihgpenhaaiaaGreatDoorExprRanksEv
namespace Go.Proofs.YtkaihgpenhaaiaaGreatDoor.Ev
set_option maxRecDepth 100000
theorem rank_5_4 : trueB (finR 5 4) = true := by kernel_rfl
theorem rank_5_5 : trueB (finR 5 5) = true := by kernel_rfl
theorem rank_5_6 : trueB (finR 5 6) = true := by kernel_rfl
theorem rank_5_7 : trueB (finR 5 7) = true := by kernel_rfl
end Go.Proofs.YtkaihgpenhaaiaaGreatDoor.Ev
