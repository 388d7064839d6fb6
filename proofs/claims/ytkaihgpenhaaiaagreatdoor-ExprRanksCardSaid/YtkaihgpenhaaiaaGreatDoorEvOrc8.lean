/-
  An evaluated call's leaves, with lictorlaw08.lives. No walk.
-/
import Derived.Test.YtkaihgpenhaaiaaGreatDoorEvLives8
namespace Go.Proofs.YtkaihgpenhaaiaaGreatDoor.Ev
open Go.ChangeShapes Go.WideShapes Go.ChangeAt Go.RowKit
open Go.Proofs.YtkaihgpenhaaiaaGreatDoor.Mem
set_option linter.unusedVariables false
noncomputable def orcTrue (args : List Value) (s : St) : Option (Value × St) := match args with
  | [] => some (.bool true, s)
  | _ => none
noncomputable def orc8 (f : FuncId) (args : List Value) (s : St) : Option (Value × St) :=
  sel (Nat.beq f 11) (orcTrue args s) (orc f args s)
theorem orc8_ok : CallOk Tryz.prog orc8 := by
  intro f args s v s' e m B W args' h ha
  unfold orc8 sel at e
  cases h1 : Nat.beq f 11 with
  | true =>
    rw [h1] at e
    have hf := Nat.eq_of_beq_eq_true h1
    subst hf
    unfold orcTrue at e
    dsimp only at e
    split at e
    · cases e
      cases ha
      refine (lives_any h.keep.laid).mono ?_
      rintro e' W' ⟨rfl, hbel⟩
      exact ⟨m, _, rfl, .bool _, Sub.refl m, h.below hbel, hbel.mono h.room⟩
    · cases e
  | false =>
    rw [h1] at e
    exact orc_ok f args s v s' e m B W args' h ha
end Go.Proofs.YtkaihgpenhaaiaaGreatDoor.Ev
