/-
  What the leaves of an evaluated call ask of the world that it begins in: the tables of unicode/utf8, token.signs, expr.operators. Written by wip/startgen.py. No walk.
-/
import Derived.Test.YtabpfolbemmhlaaGreatDoorEvBase
import Derived.Shelf.Unicode.DecodeSlow
namespace Go.Proofs.YtabpfolbemmhlaaGreatDoor.Ev
open Go.ChangeShapes Go.WideShapes Go.ChangeAt Go.RowKit
open Go.Proofs.YtabpfolbemmhlaaGreatDoor.Mem
set_option linter.unusedVariables false
def signC : List Value := [.string ⟨#[61, 61]⟩, .string ⟨#[33, 61]⟩, .string ⟨#[60, 61]⟩, .string ⟨#[62, 61]⟩, .string ⟨#[38, 38]⟩, .string ⟨#[124, 124]⟩, .string ⟨#[58, 58]⟩, .string ⟨#[60]⟩, .string ⟨#[62]⟩, .string ⟨#[43]⟩, .string ⟨#[45]⟩, .string ⟨#[42]⟩, .string ⟨#[33]⟩, .string ⟨#[40]⟩, .string ⟨#[41]⟩, .string ⟨#[91]⟩, .string ⟨#[93]⟩, .string ⟨#[123]⟩, .string ⟨#[125]⟩, .string ⟨#[44]⟩, .string ⟨#[59]⟩, .string ⟨#[58]⟩, .string ⟨#[46]⟩]
def operC : List Value := [.string ⟨#[38, 38]⟩, .int .u8 15, .string ⟨#[124, 124]⟩, .int .u8 16, .string ⟨#[61, 61]⟩, .int .u8 17, .string ⟨#[33, 61]⟩, .int .u8 18, .string ⟨#[60]⟩, .int .u8 19, .string ⟨#[60, 61]⟩, .int .u8 20, .string ⟨#[62]⟩, .int .u8 21, .string ⟨#[62, 61]⟩, .int .u8 22, .string ⟨#[105, 110]⟩, .int .u8 23, .string ⟨#[43]⟩, .int .u8 24, .string ⟨#[45]⟩, .int .u8 25, .string ⟨#[42]⟩, .int .u8 26, .string ⟨#[99, 111, 110, 116, 97, 105, 110, 115]⟩, .int .u8 27, .string ⟨#[99, 111, 110, 116, 97, 105, 110, 115, 65, 108, 108]⟩, .int .u8 28, .string ⟨#[99, 111, 110, 116, 97, 105, 110, 115, 65, 110, 121]⟩, .int .u8 29]
/-- what a call finds: the tables, the longest text that is searched byte by byte -/
structure Core (W : World) : Prop where
  tabs : Lib.Utf8Tabs 2 3 W
  ml : ∃ m, W.cell? ⟨5, 0, none⟩ = some (.int .i64 m)
/-- and the variables that are read by name -/
structure Laid (W : World) : Prop extends Core W where
  signs : ∀ j (hj : j < signC.length), W.cell? ⟨1, j, none⟩ = some signC[j]
  opers : ∀ j (hj : j < operC.length), W.cell? ⟨0, j, none⟩ = some operC[j]
structure LaidS (W : World) : Prop extends Core W where
  signs : ∀ j (hj : j < signC.length), W.cell? ⟨1, j, none⟩ = some signC[j]
theorem Core.below {W W' : World} (h : Core W) (b : Below W.heap.size W W') : Core W' :=
  ⟨Utf8Tabs_below h.tabs b, by obtain ⟨m, hm⟩ := h.ml; exact ⟨m, cell_below b _ _ hm⟩⟩
theorem Laid.below {W W' : World} (h : Laid W) (b : Below W.heap.size W W') : Laid W' :=
  ⟨h.toCore.below b, fun j hj => cell_below b _ _ (h.signs j hj), fun j hj => cell_below b _ _ (h.opers j hj)⟩
theorem LaidS.below {W W' : World} (h : LaidS W) (b : Below W.heap.size W W') : LaidS W' :=
  ⟨h.toCore.below b, fun j hj => cell_below b _ _ (h.signs j hj)⟩
theorem Laid.toS {W : World} (h : Laid W) : LaidS W := ⟨h.toCore, h.signs⟩
structure Glob (B : Nat) (W : World) : Prop where
  size : B = W.heap.size
  laid : Core W
def Base (B : Nat) (W : World) : Prop := ∃ W0, Glob B W0 ∧ Below B W0 W
theorem Base.up {B : Nat} {W W' : World} (h : Base B W) (b : Below B W W') : Base B W' := by
  obtain ⟨W0, h1, h2⟩ := h
  exact ⟨W0, h1, h2.trans b⟩
theorem Base.laid {B : Nat} {W : World} (h : Base B W) : Core W := by
  obtain ⟨W0, h1, h2⟩ := h
  exact h1.laid.below (h1.size ▸ h2)
theorem Glob.base {B : Nat} {W : World} (h : Glob B W) : Base B W := ⟨W, h, Below.refl _ _⟩
end Go.Proofs.YtabpfolbemmhlaaGreatDoor.Ev
