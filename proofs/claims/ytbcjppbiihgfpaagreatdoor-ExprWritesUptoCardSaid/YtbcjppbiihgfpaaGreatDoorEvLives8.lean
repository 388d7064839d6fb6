/-
  lictorlaw08.lives: true, by the evaluator. No walk.
-/
import Derived.Test.YtbcjppbiihgfpaaGreatDoorEvSigns
namespace Go.Proofs.YtbcjppbiihgfpaaGreatDoor.Ev
open Go.ChangeShapes Go.WideShapes Go.ChangeAt Go.RowKit
open Go.Proofs.YtbcjppbiihgfpaaGreatDoor.Mem
set_option linter.unusedVariables false
set_option maxRecDepth 100000
def trueB (r : Option (Value × St)) : Bool := match r with | some (.bool true, _) => true | _ => false
theorem trueB_eq {r : Option (Value × St)} (h : trueB r = true) : ∃ s, r = some (.bool true, s) := by
  unfold trueB at h
  split at h
  · rename_i s; exact ⟨s, rfl⟩
  · cases h
theorem lives_true : trueB (evCall Tryz.prog (evDraw Tryz.prog) orc 3000 8 [] st0) = true := by kernel_rfl
theorem lives_any {W : World} (h : Laid W) : Calls Tryz.prog 8 #[] W fun e W' => e = .returned (.bool true) ∧ Below W.heap.size W W' := by
  obtain ⟨s, hs⟩ := trueB_eq lives_true
  exact answers hs rfl rfl h
end Go.Proofs.YtbcjppbiihgfpaaGreatDoor.Ev
