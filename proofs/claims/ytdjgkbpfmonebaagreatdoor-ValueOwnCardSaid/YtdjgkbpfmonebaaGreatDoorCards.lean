/-
  DERIVED. GIVEN WITH THE SEED: THE CARDS: each row of YtdjgkbpfmonebaaGreatDoorRows.lean that lists a variable, with what it lists TIED to the program's text (the seventh form; the later family's looks); each row that meets fmt, with fmt's text TOLD by the authors' own Lean function (tested against real Go, not proved from fmt's source: count such statements apart). THE CARD IS WHAT COUNTS. Prove the row's statement (the work); the ties are given (YtdjgkbpfmonebaaGreatDoorTie.lean); close each card by the builder's one call (the guide's Derived/Test/ToyasCard.lean, 'card_holds'). Laid BY PROGRAM, IN A SANDBOX (cutbox-door.mjs). By AI agents, Wed Nov 11 2026. No macro, syntax, notation, axiom, sorry.
-/
import Derived.Test.YtdjgkbpfmonebaaGreatDoorRows
import GoSem.ClaimSeven
namespace Go.Proofs.YtdjgkbpfmonebaaGreatDoor
namespace Rows

/-- THE TIED CARD OF 'lictorlaw06.ValueRecords'. -/
def valueRecordsCard : Claim7 := { stood := { row := valueRecordsRow, standIns := [], harness := (true, "c49f23e188fde2b4d1ee70660d7ebe5e581d00c95d51cc72ba8e8fd2c773f3bf"), looks := true }, kinds := [], alts := [], laidByText := true, laidKinds := [.data, .pinned], laidTests := true, laidLooks := .later }
def ValueRecordsCardSaid : Prop := Claim7.holds Tryz.pinned (.plain (OpenSpec.ofChange valueRecordsSpec)) valueRecordsCard

/-- THE TIED CARD OF 'lictorlaw06.ValueOwn'. -/
def valueOwnCard : Claim7 := { stood := { row := valueOwnRow, standIns := [], harness := (true, "c49f23e188fde2b4d1ee70660d7ebe5e581d00c95d51cc72ba8e8fd2c773f3bf"), looks := true }, kinds := [], alts := [], laidByText := true, laidKinds := [.data, .pinned], laidTests := true, laidLooks := .later }
def ValueOwnCardSaid : Prop := Claim7.holds Tryz.pinned (.plain (OpenSpec.ofChange valueOwnSpec)) valueOwnCard

/-- THE TIED CARD OF 'lictorlaw08.ExprRanks'. -/
def exprRanksCard : Claim7 := { stood := { row := exprRanksRow, standIns := [], harness := (true, "c49f23e188fde2b4d1ee70660d7ebe5e581d00c95d51cc72ba8e8fd2c773f3bf"), looks := true }, kinds := [], alts := [], laidByText := true, laidKinds := [.data, .data, .data, .data, .sentinel, .sentinel, .data, .data, .pinned], laidTests := true, laidLooks := .later }
def ExprRanksCardSaid : Prop := Claim7.holds Tryz.pinned (.plain (OpenSpec.ofChange exprRanksSpec)) exprRanksCard

/-- THE SECOND FORM's CARD OF 'lictorlaw06.ValueRecords'. -/
def valueRecordsUptoCard : Claim7 := { stood := { row := valueRecordsUptoRow, standIns := [], harness := (true, "c49f23e188fde2b4d1ee70660d7ebe5e581d00c95d51cc72ba8e8fd2c773f3bf"), looks := true }, kinds := [], alts := [], laidByText := true, laidKinds := [.data, .pinned], laidTests := true, laidLooks := .later }
def ValueRecordsUptoCardSaid : Prop := Claim7.holds Tryz.pinned (.plain (OpenSpec.upto valueRecordsSpec)) valueRecordsUptoCard

/-- THE SECOND FORM's CARD OF 'lictorlaw06.ValueOwn'. -/
def valueOwnUptoCard : Claim7 := { stood := { row := valueOwnUptoRow, standIns := [], harness := (true, "c49f23e188fde2b4d1ee70660d7ebe5e581d00c95d51cc72ba8e8fd2c773f3bf"), looks := true }, kinds := [], alts := [], laidByText := true, laidKinds := [.data, .pinned], laidTests := true, laidLooks := .later }
def ValueOwnUptoCardSaid : Prop := Claim7.holds Tryz.pinned (.plain (OpenSpec.upto valueOwnSpec)) valueOwnUptoCard

/-- THE SECOND FORM's CARD OF 'lictorlaw08.ExprRanks'. -/
def exprRanksUptoCard : Claim7 := { stood := { row := exprRanksUptoRow, standIns := [], harness := (true, "c49f23e188fde2b4d1ee70660d7ebe5e581d00c95d51cc72ba8e8fd2c773f3bf"), looks := true }, kinds := [], alts := [], laidByText := true, laidKinds := [.data, .data, .data, .data, .sentinel, .sentinel, .data, .data, .pinned], laidTests := true, laidLooks := .later }
def ExprRanksUptoCardSaid : Prop := Claim7.holds Tryz.pinned (.plain (OpenSpec.upto exprRanksSpec)) exprRanksUptoCard
end Rows
end Go.Proofs.YtdjgkbpfmonebaaGreatDoor
