/-
  lictorlaw08.ExprRanks: four of the 64 cases, by the evaluator. Written by wip/rankgen.py. No walk.
-/
import Derived.Test.YtkaihgpenhaaiaaGreatDoorExprRanksEv
namespace Go.Proofs.YtkaihgpenhaaiaaGreatDoor.Ev
set_option maxRecDepth 100000
theorem rank_7_4 : trueB (finR 7 4) = true := by kernel_rfl
theorem rank_7_5 : trueB (finR 7 5) = true := by kernel_rfl
theorem rank_7_6 : trueB (finR 7 6) = true := by kernel_rfl
theorem rank_7_7 : trueB (finR 7 7) = true := by kernel_rfl
end Go.Proofs.YtkaihgpenhaaiaaGreatDoor.Ev
