/-
  DERIVED. GIVEN WITH THE SEED: THE CARDS: each row of YtbcjppbiihgfpaaGreatDoorRows.lean that lists a variable, with what it lists TIED to the program's text (the seventh form; the later family's looks); each row that meets fmt, with fmt's text TOLD by the authors' own Lean function (tested against real Go, not proved from fmt's source: count such statements apart). THE CARD IS WHAT COUNTS. Prove the row's statement (the work); the ties are given (YtbcjppbiihgfpaaGreatDoorTie.lean); close each card by the builder's one call (the guide's Derived/Test/ToyasCard.lean, 'card_holds'). Laid BY PROGRAM, IN A SANDBOX (cutbox-door.mjs). By AI agents, Wed Nov 11 2026. No macro, syntax, notation, axiom, sorry.
-/
import Derived.Test.YtbcjppbiihgfpaaGreatDoorRows
import GoSem.ClaimSeven
namespace Go.Proofs.YtbcjppbiihgfpaaGreatDoor
namespace Rows

/-- THE TIED CARD OF 'lictorlaw08.ExprWrites'. -/
def exprWritesCard : Claim7 := { stood := { row := exprWritesRow, standIns := [], harness := (true, "d6ed1b61834432edf343b3c145fe9e83540e6435722a57236636123d0f0f490f"), looks := true }, kinds := [], alts := [], laidByText := true, laidKinds := [.data, .data, .data, .data, .sentinel, .sentinel, .data, .data, .pinned], laidTests := true, laidLooks := .later }
def ExprWritesCardSaid : Prop := Claim7.holds Tryz.pinned (.plain (OpenSpec.ofChange exprWritesSpec)) exprWritesCard

/-- THE TIED CARD OF 'lictorlaw09.PolicyWrites'. -/
def policyWritesCard : Claim7 := { stood := { row := policyWritesRow, standIns := [], harness := (true, "d6ed1b61834432edf343b3c145fe9e83540e6435722a57236636123d0f0f490f"), looks := true }, kinds := [], alts := [], laidByText := true, laidKinds := [.data, .data, .data, .data, .sentinel, .sentinel, .data, .data, .pinned], laidTests := true, laidLooks := .later }
def PolicyWritesCardSaid : Prop := Claim7.holds Tryz.pinned (.plain (OpenSpec.ofChange policyWritesSpec)) policyWritesCard

/-- THE TIED CARD OF 'lictorlaw10.SchemaOwn'. -/
def schemaOwnCard : Claim7 := { stood := { row := schemaOwnRow, standIns := [], harness := (true, "d6ed1b61834432edf343b3c145fe9e83540e6435722a57236636123d0f0f490f"), looks := true }, kinds := [], alts := [], laidByText := true, laidKinds := [.data, .data, .data, .data, .sentinel, .sentinel, .data, .pinned], laidTests := true, laidLooks := .later }
def SchemaOwnCardSaid : Prop := Claim7.holds Tryz.pinned (.plain (OpenSpec.ofChange schemaOwnSpec)) schemaOwnCard

/-- THE SECOND FORM's CARD OF 'lictorlaw08.ExprWrites'. -/
def exprWritesUptoCard : Claim7 := { stood := { row := exprWritesUptoRow, standIns := [], harness := (true, "d6ed1b61834432edf343b3c145fe9e83540e6435722a57236636123d0f0f490f"), looks := true }, kinds := [], alts := [], laidByText := true, laidKinds := [.data, .data, .data, .data, .sentinel, .sentinel, .data, .data, .pinned], laidTests := true, laidLooks := .later }
def ExprWritesUptoCardSaid : Prop := Claim7.holds Tryz.pinned (.plain (OpenSpec.upto exprWritesSpec)) exprWritesUptoCard

/-- THE SECOND FORM's CARD OF 'lictorlaw09.PolicyWrites'. -/
def policyWritesUptoCard : Claim7 := { stood := { row := policyWritesUptoRow, standIns := [], harness := (true, "d6ed1b61834432edf343b3c145fe9e83540e6435722a57236636123d0f0f490f"), looks := true }, kinds := [], alts := [], laidByText := true, laidKinds := [.data, .data, .data, .data, .sentinel, .sentinel, .data, .data, .pinned], laidTests := true, laidLooks := .later }
def PolicyWritesUptoCardSaid : Prop := Claim7.holds Tryz.pinned (.plain (OpenSpec.upto policyWritesSpec)) policyWritesUptoCard

/-- THE SECOND FORM's CARD OF 'lictorlaw10.SchemaOwn'. -/
def schemaOwnUptoCard : Claim7 := { stood := { row := schemaOwnUptoRow, standIns := [], harness := (true, "d6ed1b61834432edf343b3c145fe9e83540e6435722a57236636123d0f0f490f"), looks := true }, kinds := [], alts := [], laidByText := true, laidKinds := [.data, .data, .data, .data, .sentinel, .sentinel, .data, .pinned], laidTests := true, laidLooks := .later }
def SchemaOwnUptoCardSaid : Prop := Claim7.holds Tryz.pinned (.plain (OpenSpec.upto schemaOwnSpec)) schemaOwnUptoCard
end Rows
end Go.Proofs.YtbcjppbiihgfpaaGreatDoor
