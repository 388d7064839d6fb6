/-
  The contracts of Flip, both.
-/
import Derived.Test.YtiegocbdgimimaaCrcCore
import Derived.Laws.IdiomStrings
import Derived.RegionTactic
import Derived.ChangeAlike
namespace Go.Proofs.Ytiegocbdgimimaa.Crc
open Go.ChangeShapes Go.WideShapes Go.ChangeAt Go.RowKit
open Go.Proofs.Ytiegocbdgimimaa.CrcMath
set_option linter.unusedVariables false
set_option maxRecDepth 100000

/-- What '[]byte(s)' leaves. -/
theorem bytes_world (w : World) (s : ByteArray) (hs : s.size ≤ maxLen) : ∃ (W : World) (cap : Nat), (convert 9 82 (.string s)).run Try.prog w = .ok (.slice (some ⟨w.heap.size, 0, none⟩) s.size cap) W ∧
    Below w.heap.size w W ∧ W.heap.size = w.heap.size + 1 ∧ (∀ j (h : j < s.size), W.cell? ⟨w.heap.size, j, none⟩ = some (.int .u8 (s.data.toList[j].toNat : Int))) ∧
    (∀ j, j < s.size → W.frozen? ⟨w.heap.size, j, none⟩ = false) ∧ s.size ≤ cap ∧ cap ≤ maxLen := by
  have hge := grownCap_ge w s.size 0 5
  have hle := grownCap_le_maxLen w s.size 0 5 hs
  have hb := run_bytes_of_string (P := Try.prog) w 9 82 5 s Try.underlying9 Try.underlying82 Try.underlying5
  generalize grownCap w s.size 0 5 = cap at *
  refine ⟨_, cap, hb, ?_, ?_, ?_, ?_, hge, hle⟩
  · exact (Below.refl _ _).drew.alloc (by simp) _
  · simp
  · intro j h
    have hsz : j < (bytesRow s cap).size := by simp [bytesRow]; omega
    have := World.cell?_alloc_mark w.drew (bytesRow s cap) 5 ((bytesRow s cap).size, (bytesRow s cap).size + 1) j
    rw [show w.drew.heap.size = w.heap.size from rfl] at this
    rw [this, Array.getElem?_eq_getElem hsz]
    simp [bytesRow, h]
  · intro j h
    have hsz : j < (bytesRow s cap).size := by simp [bytesRow]; omega
    have := World.frozen?_alloc_mark w.drew (bytesRow s cap) 5 (bytesRow s cap).size ((bytesRow s cap).size + 1) j
    rw [show w.drew.heap.size = w.heap.size from rfl] at this
    rw [this]
    have : ¬ (bytesRow s cap).size ≤ j := by omega
    simp [this]

theorem flip_cells {W : World} {g : Nat} {l : List UInt8} {p : Nat} (h : p / 8 < l.length) (hcell : ∀ j (h : j < l.length), W.cell? ⟨g, j, none⟩ = some (.int .u8 (l[j].toNat : Int))) (v : Value)
    (hv : v = .int .u8 ((turn l[p / 8] (p % 8)).toNat : Int)) (j : Nat) (hj : j < (CrcMath.flip l p).length) : (W.setCell ⟨g, p / 8, none⟩ v).cell? ⟨g, j, none⟩ = some (.int .u8 ((CrcMath.flip l p)[j].toNat : Int)) := by
  subst hv
  have hj' : j < l.length := by rwa [flip_length] at hj
  by_cases e : j = p / 8
  · subst e
    rw [World.cell?_setCell_same _ _ _ (hcell _ h)]
    simp only [CrcMath.flip, List.getElem_set_self, getD_in h]
  · rw [World.cell?_setCell_other _ _ _ _ (by simp only [ne_eq, Addr.mk.injEq, not_and]; exact fun _ h _ => e h.symm), hcell j hj']
    simp only [CrcMath.flip]
    rw [List.getElem_set_ne (by omega)]

theorem turn_bits (b : UInt8) (j : Nat) (hj : j < 8) : bits BinOp.xor IntKind.u8 (b.toNat : Int) (2 ^ j % 256) = ((turn b j).toNat : Int) := by
  have h1 := pow_lt hj
  have h2 : ((2 : Int) ^ j % 256) = ((2 ^ j : Nat) : Int) := by
    rw [show ((2 : Int) ^ j) = ((2 ^ j : Nat) : Int) by push_cast; rfl]
    exact Int.emod_eq_of_lt (Int.natCast_nonneg _) (Int.ofNat_lt.2 h1)
  rw [h2, u8_xor_nat _ _ (UInt8.toNat_lt b) h1, turn_nat b hj]

theorem emod_two (x : Int) : x % 256 * 2 % 256 = x * 2 % 256 := by omega
end Go.Proofs.Ytiegocbdgimimaa.Crc
