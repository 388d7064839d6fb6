/-
  lictorref04.Same of one list of frames twice.
-/
import Derived.Test.YtiegocbdgimimaaGreatWalScan
import Derived.Test.YtiegocbdgimimaaGreatSectorSame
import Derived.BigQuiet
import Derived.Deep.QuietTactic
namespace Go.Proofs.YtiegocbdgimimaaGreat.Wal
open Go.ChangeShapes Go.WideShapes Go.ChangeAt Go.RowKit
open Go.Proofs.YtiegocbdgimimaaGreat.Mem Go.Proofs.YtiegocbdgimimaaGreat.Rec Go.Proofs.YtiegocbdgimimaaGreat.Sector
set_option linter.unusedVariables false
set_option maxRecDepth 100000
def FrsV (w : World) (v : Value) (l : List Fr) : Prop := SlV w v l.length (frC l)
theorem FrsV.below {w w' : World} {v : Value} {l : List Fr} (h : FrsV w v l) (hb : Below w.heap.size w w') : FrsV w' v l := SlV.below h hb
theorem FrsV.own {w : World} {B : Nat} {v : Value} {n : Nat} {l : List Fr} (h : w.ownsRow B 45 4 v n (frC l)) (hn : n = l.length) : FrsV w v l := by subst hn; exact SlV.own h
theorem frC_get (l : List Fr) : ∀ (k : Nat) (h : k < l.length), (frC l)[k * 4]? = some (.int .u8 l[k].kind) ∧ (frC l)[k * 4 + 1]? = some (.int .u64 l[k].epoch) ∧ (frC l)[k * 4 + 2]? = some (.int .u64 l[k].seq) ∧ (frC l)[k * 4 + 3]? = some (.string l[k].pay) := by
  induction l with
  | nil => intro k h; simp at h
  | cons f l ih =>
    intro k h
    cases k with
    | zero => simp [frC]
    | succ k =>
      have e : frC (f :: l) = .int .u8 f.kind :: .int .u64 f.epoch :: .int .u64 f.seq :: .string f.pay :: frC l := rfl
      have := ih k (by simpa using h)
      rw [e, show (k + 1) * 4 = k * 4 + 1 + 1 + 1 + 1 by omega]
      simpa using this
theorem FrsV.open {w : World} {v : Value} {l : List Fr} (h : FrsV w v l) (hc : 0 < l.length) :
    ∃ b off cap, v = .slice (some ⟨b, off, none⟩) l.length cap ∧ b < w.heap.size ∧ ∀ k (h : k < l.length), w.cell? ⟨b, off + k * 4, none⟩ = some (.int .u8 l[k].kind) ∧ w.cell? ⟨b, off + k * 4 + 1, none⟩ = some (.int .u64 l[k].epoch) ∧ w.cell? ⟨b, off + k * 4 + 2, none⟩ = some (.int .u64 l[k].seq) ∧ w.cell? ⟨b, off + k * 4 + 3, none⟩ = some (.string l[k].pay) := by
  obtain ⟨b, off, cap, h1, _, _, h4, h5⟩ := SlV.open h (by rw [frC_len]; omega)
  refine ⟨b, off, cap, h1, h4, fun k hk => ?_⟩
  obtain ⟨g0, g1, g2, g3⟩ := frC_get l k hk
  have hl : ∀ j, j < 4 → k * 4 + j < (frC l).length := fun j hj => by rw [frC_len]; omega
  refine ⟨?_, ?_, ?_, ?_⟩
  · have hl0 : k * 4 < (frC l).length := by rw [frC_len]; omega
    rw [h5 _ hl0, ← List.getElem?_eq_getElem hl0, g0]
  · rw [Nat.add_assoc, h5 _ (hl 1 (by omega)), ← List.getElem?_eq_getElem (hl 1 (by omega)), g1]
  · rw [Nat.add_assoc, h5 _ (hl 2 (by omega)), ← List.getElem?_eq_getElem (hl 2 (by omega)), g2]
  · rw [Nat.add_assoc, h5 _ (hl 3 (by omega)), ← List.getElem?_eq_getElem (hl 3 (by omega)), g3]
end Go.Proofs.YtiegocbdgimimaaGreat.Wal
