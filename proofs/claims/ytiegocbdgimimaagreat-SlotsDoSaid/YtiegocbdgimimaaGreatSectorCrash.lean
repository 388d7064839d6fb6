/-
  The contract of Crash.
-/
import Derived.Test.YtiegocbdgimimaaGreatSectorPut
namespace Go.Proofs.YtiegocbdgimimaaGreat.Sector
open Go.ChangeShapes Go.WideShapes Go.ChangeAt Go.RowKit
open Go.Proofs.YtiegocbdgimimaaGreat.Mem
set_option linter.unusedVariables false

def BoolsV (w : World) (v : Value) (l : List Bool) : Prop := SlV w v l.length (l.map Value.bool)
theorem BoolsV.below {w w' : World} {v : Value} {l : List Bool} (h : BoolsV w v l) (hb : Below w.heap.size w w') : BoolsV w' v l := SlV.below h hb
theorem BoolsV.open {w : World} {v : Value} {l : List Bool} (h : BoolsV w v l) (hc : 0 < l.length) :
    ∃ b off cap, v = .slice (some ⟨b, off, none⟩) l.length cap ∧ l.length ≤ cap ∧ cap ≤ maxLen ∧ b < w.heap.size ∧ ∀ j (h : j < l.length), w.cell? ⟨b, off + j, none⟩ = some (.bool l[j]) := by
  obtain ⟨b, off, cap, h1, h2, h3, h4, h5⟩ := SlV.open h (by simpa using hc)
  exact ⟨b, off, cap, h1, h2, h3, h4, fun j hj => by rw [h5 j (by simpa using hj)]; simp⟩
def kept (l : List Bool) (i : Nat) : Bool := l.getD i false

def crashD (d : Disk) (l : List Bool) : Disk := ⟨sett (kept l) d.pend d.secs d.pend.length, [], false, -1⟩
def crashE (d : Disk) (l : List Bool) : Disk × Int := if okB d = true then (crashD d l, 0) else (zeroDisk, 13)

end Go.Proofs.YtiegocbdgimimaaGreat.Sector
