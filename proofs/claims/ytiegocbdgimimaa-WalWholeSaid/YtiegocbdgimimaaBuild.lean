/-
  strings.Builder: WriteString and String, at a builder of the call's own.
-/
import Derived.Test.YtiegocbdgimimaaShelf
import Derived.Test.YtiegocbdgimimaaRecMath
namespace Go.Proofs.Ytiegocbdgimimaa.Rec
open Go.RowKit
set_option linter.unusedVariables false
theorem lays166 : Go.Proofs.Lays.n166 Try.prog Try.lays105_ren := { Try.lays105 with }
def Bld (B b : Nat) (l : By) (w : World) : Prop := Lib.IsBuilder 121 5 B b (Lib.byteCells l) w
theorem bld_write (B b : Nat) (l : By) (s : ByteArray) (w : World) (h : Bld B b l w) (hlen : l.length + s.size ≤ 140737488355328) (hBw : B ≤ w.heap.size) :
    Calls Try.prog 82 #[.pointer (some ⟨b, 0, none⟩), .string s] w fun e w' => e = .returned (.tuple #[.int .i64 s.size, .nilIface]) ∧ Bld B b (l ++ s.data.toList) w' ∧ Below B w w' := by
  refine (Any.Builder_WriteString lays166 Try.Builder_Extra_105 B b (Lib.byteCells l) s w h ?_ hBw).mono ?_
  · simpa [Lib.byteCells] using hlen
  · rintro e w' ⟨rfl, hb, hw⟩
    refine ⟨rfl, .inr ?_, hw⟩
    have e : Lib.byteCells (l ++ s.data.toList) = Lib.byteCells l ++ Lib.strCells s := by simp [Lib.byteCells, Lib.strCells]
    rw [e]; exact hb
theorem bld_string (B b : Nat) (l : By) (w : World) (h : Bld B b l w) (hBw : B ≤ w.heap.size) :
    Calls Try.prog 84 #[.pointer (some ⟨b, 0, none⟩)] w fun e w' => e = .returned (.string (bs l)) ∧ Below B w w' :=
  Try.Builder_String_any B b l w h hBw
theorem bld_new (B b : Nat) (w : World) (hB : B ≤ b) (h : w.heap[b]? = some (.cells #[.pointer none, .slice none 0 0] 121 (0, 0))) : Bld B b [] w :=
  .inl ⟨hB, _, h, World.ownsRow_nil _ _ _ _, by simp [Value.ownBlock]⟩
end Go.Proofs.Ytiegocbdgimimaa.Rec
