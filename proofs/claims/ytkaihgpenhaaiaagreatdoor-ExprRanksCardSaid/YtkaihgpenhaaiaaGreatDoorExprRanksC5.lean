/-
  lictorlaw08.ExprRanks: four of the 64 cases, by the evaluator. Written by wip/rankgen.py. No walk.
-/
import Derived.Test.YtkaihgpenhaaiaaGreatDoorExprRanksEv
namespace Go.Proofs.YtkaihgpenhaaiaaGreatDoor.Ev
set_option maxRecDepth 100000
theorem rank_2_4 : trueB (finR 2 4) = true := by kernel_rfl
theorem rank_2_5 : trueB (finR 2 5) = true := by kernel_rfl
theorem rank_2_6 : trueB (finR 2 6) = true := by kernel_rfl
theorem rank_2_7 : trueB (finR 2 7) = true := by kernel_rfl
end Go.Proofs.YtkaihgpenhaaiaaGreatDoor.Ev
