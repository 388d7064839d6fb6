/-
  lictorlaw13.lives: true, by the evaluator. Written by wip/lives13gen.py. No walk.
-/
import Derived.Test.YtklclfolmfhocaaGreatDoorEvOf13
namespace Go.Proofs.YtklclfolmfhocaaGreatDoor.Ev
open Go.ChangeShapes Go.WideShapes Go.ChangeAt Go.RowKit
open Go.Proofs.YtklclfolmfhocaaGreatDoor.Mem
set_option linter.unusedVariables false
set_option maxRecDepth 100000
def trueB13 (r : Option (Value × St)) : Bool := match r with | some (.bool true, _) => true | _ => false
theorem trueB13_eq {r : Option (Value × St)} (h : trueB13 r = true) : ∃ s, r = some (.bool true, s) := by
  unfold trueB13 at h
  split at h
  · rename_i s; exact ⟨s, rfl⟩
  · cases h
noncomputable def orcOf13 : CallF := (withK seenO 15 [of13t4] of13k4 (withK seenO 15 [of13t3] of13k3 (withK seenO 15 [of13t2] of13k2 (withK seenO 15 [of13t1] of13k1 (withK seenO 15 [of13t0] of13k0 orc13)))))
theorem orcOf13_ok : CallOk Tryz.prog orcOf13 := (withK_ok (fun h e => seenO_laid h e) rfl of13a4 (withK_ok (fun h e => seenO_laid h e) rfl of13a3 (withK_ok (fun h e => seenO_laid h e) rfl of13a2 (withK_ok (fun h e => seenO_laid h e) rfl of13a1 (withK_ok (fun h e => seenO_laid h e) rfl of13a0 orc13_ok)))))
theorem lives13_true : trueB13 (evCall Tryz.prog (evDraw Tryz.prog) orcOf13 3000 6 [] st0) = true := by kernel_rfl
theorem lives13_any {W : World} (h : Laid W) : Calls Tryz.prog 6 #[] W fun e W' => e = .returned (.bool true) ∧ Below W.heap.size W W' := by
  obtain ⟨s, hs⟩ := trueB13_eq lives13_true
  exact answers_with (fun W h => begun h) orcOf13_ok hs rfl rfl h
end Go.Proofs.YtklclfolmfhocaaGreatDoor.Ev
