/-
  lictorlaw10.lives: true, by the evaluator. No walk.
-/
import Derived.Test.YtbcjppbiihgfpaaGreatDoorEvSigns
namespace Go.Proofs.YtbcjppbiihgfpaaGreatDoor.Ev
open Go.ChangeShapes Go.WideShapes Go.ChangeAt Go.RowKit
open Go.Proofs.YtbcjppbiihgfpaaGreatDoor.Mem
set_option linter.unusedVariables false
set_option maxRecDepth 100000
def trueB10 (r : Option (Value × St)) : Bool := match r with | some (.bool true, _) => true | _ => false
theorem trueB10_eq {r : Option (Value × St)} (h : trueB10 r = true) : ∃ s, r = some (.bool true, s) := by
  unfold trueB10 at h
  split at h
  · rename_i s; exact ⟨s, rfl⟩
  · cases h
theorem lives10_true : trueB10 (evCall Tryz.prog (evDraw Tryz.prog) orc 3000 19 [] st1) = true := by kernel_rfl
theorem lives10_any {W : World} (h : LaidS W) : Calls Tryz.prog 19 #[] W fun e W' => e = .returned (.bool true) ∧ Below W.heap.size W W' := by
  obtain ⟨s, hs⟩ := trueB10_eq lives10_true
  exact answersS hs rfl rfl h
end Go.Proofs.YtbcjppbiihgfpaaGreatDoor.Ev
