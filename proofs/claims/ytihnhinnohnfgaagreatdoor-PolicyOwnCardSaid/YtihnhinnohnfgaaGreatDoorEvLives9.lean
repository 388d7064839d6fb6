/-
  lictorlaw09.lives: true, by the evaluator. No walk.
-/
import Derived.Test.YtihnhinnohnfgaaGreatDoorEvSigns
namespace Go.Proofs.YtihnhinnohnfgaaGreatDoor.Ev
open Go.ChangeShapes Go.WideShapes Go.ChangeAt Go.RowKit
open Go.Proofs.YtihnhinnohnfgaaGreatDoor.Mem
set_option linter.unusedVariables false
set_option maxRecDepth 100000
def trueB9 (r : Option (Value × St)) : Bool := match r with | some (.bool true, _) => true | _ => false
theorem trueB9_eq {r : Option (Value × St)} (h : trueB9 r = true) : ∃ s, r = some (.bool true, s) := by
  unfold trueB9 at h
  split at h
  · rename_i s; exact ⟨s, rfl⟩
  · cases h
theorem lives9_true : trueB9 (evCall Tryz.prog (evDraw Tryz.prog) orc 3000 13 [] st0) = true := by kernel_rfl
theorem lives9_any {W : World} (h : Laid W) : Calls Tryz.prog 13 #[] W fun e W' => e = .returned (.bool true) ∧ Below W.heap.size W W' := by
  obtain ⟨s, hs⟩ := trueB9_eq lives9_true
  exact answers hs rfl rfl h
end Go.Proofs.YtihnhinnohnfgaaGreatDoor.Ev
