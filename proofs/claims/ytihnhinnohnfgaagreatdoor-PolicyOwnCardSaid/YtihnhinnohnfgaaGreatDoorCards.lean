/-
  DERIVED. GIVEN WITH THE SEED: THE CARDS: each row of YtihnhinnohnfgaaGreatDoorRows.lean that lists a variable, with what it lists TIED to the program's text (the seventh form; the later family's looks); each row that meets fmt, with fmt's text TOLD by the authors' own Lean function (tested against real Go, not proved from fmt's source: count such statements apart). THE CARD IS WHAT COUNTS. Prove the row's statement (the work); the ties are given (YtihnhinnohnfgaaGreatDoorTie.lean); close each card by the builder's one call (the guide's Derived/Test/ToyasCard.lean, 'card_holds'). Laid BY PROGRAM, IN A SANDBOX (cutbox-door.mjs). By AI agents, Wed Nov 11 2026. No macro, syntax, notation, axiom, sorry.
-/
import Derived.Test.YtihnhinnohnfgaaGreatDoorRows
import GoSem.ClaimSeven
namespace Go.Proofs.YtihnhinnohnfgaaGreatDoor
namespace Rows

/-- THE TIED CARD OF 'lictorlaw08.ExprWrites'. -/
def exprWritesCard : Claim7 := { stood := { row := exprWritesRow, standIns := [], harness := (true, "0a159baa219ed16b3ba09f4e69678dbe7293a7e4c334912791d632c905431c82"), looks := true }, kinds := [], alts := [], laidByText := true, laidKinds := [.data, .data, .data, .data, .sentinel, .sentinel, .data, .data, .pinned], laidTests := true, laidLooks := .later }
def ExprWritesCardSaid : Prop := Claim7.holds Tryz.pinned (.plain (OpenSpec.ofChange exprWritesSpec)) exprWritesCard

/-- THE TIED CARD OF 'lictorlaw09.PolicyBody'. -/
def policyBodyCard : Claim7 := { stood := { row := policyBodyRow, standIns := [], harness := (true, "0a159baa219ed16b3ba09f4e69678dbe7293a7e4c334912791d632c905431c82"), looks := true }, kinds := [], alts := [], laidByText := true, laidKinds := [.data, .data, .data, .data, .sentinel, .sentinel, .data, .data, .pinned], laidTests := true, laidLooks := .later }
def PolicyBodyCardSaid : Prop := Claim7.holds Tryz.pinned (.plain (OpenSpec.ofChange policyBodySpec)) policyBodyCard

/-- THE TIED CARD OF 'lictorlaw09.PolicyOwn'. -/
def policyOwnCard : Claim7 := { stood := { row := policyOwnRow, standIns := [], harness := (true, "0a159baa219ed16b3ba09f4e69678dbe7293a7e4c334912791d632c905431c82"), looks := true }, kinds := [], alts := [], laidByText := true, laidKinds := [.data, .data, .data, .data, .sentinel, .sentinel, .data, .data, .pinned], laidTests := true, laidLooks := .later }
def PolicyOwnCardSaid : Prop := Claim7.holds Tryz.pinned (.plain (OpenSpec.ofChange policyOwnSpec)) policyOwnCard

/-- THE TIED CARD OF 'lictorlaw09.PolicyConds'. -/
def policyCondsCard : Claim7 := { stood := { row := policyCondsRow, standIns := [], harness := (true, "0a159baa219ed16b3ba09f4e69678dbe7293a7e4c334912791d632c905431c82"), looks := true }, kinds := [], alts := [], laidByText := true, laidKinds := [.data, .data, .data, .data, .sentinel, .sentinel, .data, .data, .pinned], laidTests := true, laidLooks := .later }
def PolicyCondsCardSaid : Prop := Claim7.holds Tryz.pinned (.plain (OpenSpec.ofChange policyCondsSpec)) policyCondsCard

/-- THE TIED CARD OF 'lictorlaw10.SchemaOwn'. -/
def schemaOwnCard : Claim7 := { stood := { row := schemaOwnRow, standIns := [], harness := (true, "0a159baa219ed16b3ba09f4e69678dbe7293a7e4c334912791d632c905431c82"), looks := true }, kinds := [], alts := [], laidByText := true, laidKinds := [.data, .data, .data, .data, .sentinel, .sentinel, .data, .pinned], laidTests := true, laidLooks := .later }
def SchemaOwnCardSaid : Prop := Claim7.holds Tryz.pinned (.plain (OpenSpec.ofChange schemaOwnSpec)) schemaOwnCard

/-- THE SECOND FORM's CARD OF 'lictorlaw08.ExprWrites'. -/
def exprWritesUptoCard : Claim7 := { stood := { row := exprWritesUptoRow, standIns := [], harness := (true, "0a159baa219ed16b3ba09f4e69678dbe7293a7e4c334912791d632c905431c82"), looks := true }, kinds := [], alts := [], laidByText := true, laidKinds := [.data, .data, .data, .data, .sentinel, .sentinel, .data, .data, .pinned], laidTests := true, laidLooks := .later }
def ExprWritesUptoCardSaid : Prop := Claim7.holds Tryz.pinned (.plain (OpenSpec.upto exprWritesSpec)) exprWritesUptoCard

/-- THE SECOND FORM's CARD OF 'lictorlaw09.PolicyBody'. -/
def policyBodyUptoCard : Claim7 := { stood := { row := policyBodyUptoRow, standIns := [], harness := (true, "0a159baa219ed16b3ba09f4e69678dbe7293a7e4c334912791d632c905431c82"), looks := true }, kinds := [], alts := [], laidByText := true, laidKinds := [.data, .data, .data, .data, .sentinel, .sentinel, .data, .data, .pinned], laidTests := true, laidLooks := .later }
def PolicyBodyUptoCardSaid : Prop := Claim7.holds Tryz.pinned (.plain (OpenSpec.upto policyBodySpec)) policyBodyUptoCard

/-- THE SECOND FORM's CARD OF 'lictorlaw09.PolicyOwn'. -/
def policyOwnUptoCard : Claim7 := { stood := { row := policyOwnUptoRow, standIns := [], harness := (true, "0a159baa219ed16b3ba09f4e69678dbe7293a7e4c334912791d632c905431c82"), looks := true }, kinds := [], alts := [], laidByText := true, laidKinds := [.data, .data, .data, .data, .sentinel, .sentinel, .data, .data, .pinned], laidTests := true, laidLooks := .later }
def PolicyOwnUptoCardSaid : Prop := Claim7.holds Tryz.pinned (.plain (OpenSpec.upto policyOwnSpec)) policyOwnUptoCard

/-- THE SECOND FORM's CARD OF 'lictorlaw09.PolicyConds'. -/
def policyCondsUptoCard : Claim7 := { stood := { row := policyCondsUptoRow, standIns := [], harness := (true, "0a159baa219ed16b3ba09f4e69678dbe7293a7e4c334912791d632c905431c82"), looks := true }, kinds := [], alts := [], laidByText := true, laidKinds := [.data, .data, .data, .data, .sentinel, .sentinel, .data, .data, .pinned], laidTests := true, laidLooks := .later }
def PolicyCondsUptoCardSaid : Prop := Claim7.holds Tryz.pinned (.plain (OpenSpec.upto policyCondsSpec)) policyCondsUptoCard

/-- THE SECOND FORM's CARD OF 'lictorlaw10.SchemaOwn'. -/
def schemaOwnUptoCard : Claim7 := { stood := { row := schemaOwnUptoRow, standIns := [], harness := (true, "0a159baa219ed16b3ba09f4e69678dbe7293a7e4c334912791d632c905431c82"), looks := true }, kinds := [], alts := [], laidByText := true, laidKinds := [.data, .data, .data, .data, .sentinel, .sentinel, .data, .pinned], laidTests := true, laidLooks := .later }
def SchemaOwnUptoCardSaid : Prop := Claim7.holds Tryz.pinned (.plain (OpenSpec.upto schemaOwnSpec)) schemaOwnUptoCard
end Rows
end Go.Proofs.YtihnhinnohnfgaaGreatDoor
