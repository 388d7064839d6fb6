/-
  lictorlaw08.ExprRanks: four of the 64 cases, by the evaluator. Written by wip/rankgen.py. No walk.
-/
import Derived.Test.YtkaihgpenhaaiaaGreatDoorExprRanksEv
namespace Go.Proofs.YtkaihgpenhaaiaaGreatDoor.Ev
set_option maxRecDepth 100000
theorem rank_6_4 : trueB (finR 6 4) = true := by kernel_rfl
theorem rank_6_5 : trueB (finR 6 5) = true := by kernel_rfl
theorem rank_6_6 : trueB (finR 6 6) = true := by kernel_rfl
theorem rank_6_7 : trueB (finR 6 7) = true := by kernel_rfl
end Go.Proofs.YtkaihgpenhaaiaaGreatDoor.Ev
