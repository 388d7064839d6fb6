/-
  strings.Split at "::", utf8.ValidString: the shelf's contracts in the form that these proofs ask; what the variables hold when the call begins.
-/
import Derived.Test.YtklclfolmfhocaaGreatDoorShelf
import Derived.Test.YtklclfolmfhocaaGreatDoorUtfCalls
import Derived.Lib.LaidU8T
namespace Go.Proofs.YtklclfolmfhocaaGreatDoor.Nam
open Go.ChangeShapes Go.WideShapes Go.ChangeAt Go.RowKit
open Go.Proofs.YtklclfolmfhocaaGreatDoor.Mem
open Go.Lib (splitB countB)
set_option linter.unusedVariables false
set_option maxRecDepth 100000
theorem split_told : SplitTold := by
  intro s w hs hm
  obtain ⟨m, hm⟩ := hm
  refine (Tryz.strings_Split s ⟨#[58, 58]⟩ m w hs hm (by decide)).mono ?_
  rintro e w' ⟨rfl, rfl⟩
  exact ⟨rfl, Blk.new w (strC (splitB sep 0 (countB s sep) s)) 9, (Below.refl _ w).alloc (Nat.le_refl _) _⟩
theorem valid_told : ValidTold := fun s w hs hT => Tryz.utf8_ValidString s w (by omega) hT
theorem maxlen_of {w : World} (h : w.ShapedOpen Tryz.prog) : ∃ m, w.cell? ⟨2, 0, none⟩ = some (.int .i64 m) := Tryz.laysM143.s1_3 w h
theorem u8x : U8Extra Tryz.prog Tryz.lays196_ren := ⟨by kernel_rfl, by kernel_rfl, by kernel_rfl, by kernel_rfl, by kernel_rfl, by kernel_rfl, by kernel_rfl⟩
theorem u8t : U8Types Tryz.prog Tryz.lays196_ren := U8Types.of196 Tryz.lays196
end Go.Proofs.YtklclfolmfhocaaGreatDoor.Nam
