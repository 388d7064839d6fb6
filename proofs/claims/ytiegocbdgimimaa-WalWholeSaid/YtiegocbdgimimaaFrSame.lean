/-
  lictorref04.Same of one list of frames twice.
-/
import Derived.Test.YtiegocbdgimimaaWalScan
import Derived.Test.YtiegocbdgimimaaSectorSame
import Derived.BigQuiet
import Derived.Deep.QuietTactic
namespace Go.Proofs.Ytiegocbdgimimaa.Wal
open Go.ChangeShapes Go.WideShapes Go.ChangeAt Go.RowKit
open Go.Proofs.Ytiegocbdgimimaa.Mem Go.Proofs.Ytiegocbdgimimaa.Rec Go.Proofs.Ytiegocbdgimimaa.Sector
set_option linter.unusedVariables false
set_option maxRecDepth 100000
def FrsV (w : World) (v : Value) (l : List Fr) : Prop := SlV w v l.length (frC l)
theorem FrsV.below {w w' : World} {v : Value} {l : List Fr} (h : FrsV w v l) (hb : Below w.heap.size w w') : FrsV w' v l := SlV.below h hb
theorem FrsV.own {w : World} {B : Nat} {v : Value} {n : Nat} {l : List Fr} (h : w.ownsRow B 30 4 v n (frC l)) (hn : n = l.length) : FrsV w v l := by subst hn; exact SlV.own h
theorem frC_get (l : List Fr) : ∀ (k : Nat) (h : k < l.length), (frC l)[k * 4]? = some (.int .u8 l[k].kind) ∧ (frC l)[k * 4 + 1]? = some (.int .u64 l[k].epoch) ∧ (frC l)[k * 4 + 2]? = some (.int .u64 l[k].seq) ∧ (frC l)[k * 4 + 3]? = some (.string l[k].pay) := by
  induction l with
  | nil => intro k h; simp at h
  | cons f l ih =>
    intro k h
    cases k with
    | zero => simp [frC]
    | succ k =>
      have e : frC (f :: l) = .int .u8 f.kind :: .int .u64 f.epoch :: .int .u64 f.seq :: .string f.pay :: frC l := rfl
      have := ih k (by simpa using h)
      rw [e, show (k + 1) * 4 = k * 4 + 1 + 1 + 1 + 1 by omega]
      simpa using this
theorem FrsV.open {w : World} {v : Value} {l : List Fr} (h : FrsV w v l) (hc : 0 < l.length) :
    ∃ b off cap, v = .slice (some ⟨b, off, none⟩) l.length cap ∧ b < w.heap.size ∧ ∀ k (h : k < l.length), w.cell? ⟨b, off + k * 4, none⟩ = some (.int .u8 l[k].kind) ∧ w.cell? ⟨b, off + k * 4 + 1, none⟩ = some (.int .u64 l[k].epoch) ∧ w.cell? ⟨b, off + k * 4 + 2, none⟩ = some (.int .u64 l[k].seq) ∧ w.cell? ⟨b, off + k * 4 + 3, none⟩ = some (.string l[k].pay) := by
  obtain ⟨b, off, cap, h1, _, _, h4, h5⟩ := SlV.open h (by rw [frC_len]; omega)
  refine ⟨b, off, cap, h1, h4, fun k hk => ?_⟩
  obtain ⟨g0, g1, g2, g3⟩ := frC_get l k hk
  have hl : ∀ j, j < 4 → k * 4 + j < (frC l).length := fun j hj => by rw [frC_len]; omega
  refine ⟨?_, ?_, ?_, ?_⟩
  · have hl0 : k * 4 < (frC l).length := by rw [frC_len]; omega
    rw [h5 _ hl0, ← List.getElem?_eq_getElem hl0, g0]
  · rw [Nat.add_assoc, h5 _ (hl 1 (by omega)), ← List.getElem?_eq_getElem (hl 1 (by omega)), g1]
  · rw [Nat.add_assoc, h5 _ (hl 2 (by omega)), ← List.getElem?_eq_getElem (hl 2 (by omega)), g2]
  · rw [Nat.add_assoc, h5 _ (hl 3 (by omega)), ← List.getElem?_eq_getElem (hl 3 (by omega)), g3]
set_option maxHeartbeats 2000000 in
theorem fsame_any (l : List Fr) (v u : Value) (w : World) (h : FrsV w v l) (g : FrsV w u l) :
    Calls Try.prog 14 #[v, u] w fun e w' => e = .returned (.bool true) ∧ Below w.heap.size w w' := by
  obtain ⟨so, scap, rfl, hs2, hs3⟩ := SlV.form h
  obtain ⟨uo, ucap, rfl, gs2, gs3⟩ := SlV.form g
  have h' := hid h
  have g' := hid g
  unfold maxLen at hs3 gs3
  have hln : (l.length : Int) ≤ 9223372036854775807 := by omega
  clear h g
  go_enter Try.func14, Try.ntmps14
  go_wp2_with fail
  go_loopw [13] (fun i wr => ∃ k : Nat, k ≤ l.length ∧ i = .int .i64 k ∧ Below w.heap.size w wr) (fun i _ => l.length - (intOf i).toNat)
  case atStart => exact ⟨0, by omega, rfl, Below.refl _ _⟩
  case round =>
    obtain ⟨k, hk, rfl, hbr⟩ := hrel
    by_cases hlt : k < l.length
    · obtain ⟨b, off, cap', hv, hb, hc⟩ := h'.out.open (by omega)
      simp only [Value.slice.injEq] at hv
      obtain ⟨rfl, _, rfl⟩ := hv
      obtain ⟨c, coff, cap2, hv, hcb, hcc⟩ := g'.out.open (by omega)
      simp only [Value.slice.injEq] at hv
      obtain ⟨rfl, _, rfl⟩ := hv
      obtain ⟨a0, a1, a2, a3⟩ := hc k hlt
      obtain ⟨c0, c1, c2, c3⟩ := hcc k hlt
      generalize l[k] = f at a0 a1 a2 a3 c0 c1 c2 c3
      have x0 := (hbr.cell (p := ⟨b, off + k * 4, none⟩) hb).trans a0
      have x1 := (hbr.cell (p := ⟨b, off + k * 4 + 1, none⟩) hb).trans a1
      have x2 := (hbr.cell (p := ⟨b, off + k * 4 + 2, none⟩) hb).trans a2
      have x3 := (hbr.cell (p := ⟨b, off + k * 4 + 3, none⟩) hb).trans a3
      have y0 := (hbr.cell (p := ⟨c, coff + k * 4, none⟩) hcb).trans c0
      have y1 := (hbr.cell (p := ⟨c, coff + k * 4 + 1, none⟩) hcb).trans c1
      have y2 := (hbr.cell (p := ⟨c, coff + k * 4 + 2, none⟩) hcb).trans c2
      have y3 := (hbr.cell (p := ⟨c, coff + k * 4 + 3, none⟩) hcb).trans c3
      have hkl : (k : Int) < (l.length : Int) := by omega
      have hk0 : (0 : Int) ≤ (k : Int) := by omega
      clear hc hcc a0 a1 a2 a3 c0 c1 c2 c3
      go_wp2_with fail
      go_quiet (fail)
      go_wp2_with fail
      go_roundw
      case rel => exact ⟨k + 1, by omega, by go_num, below_drewN hbr _⟩
      case measure => simp [intOf]; omega
    · obtain rfl : k = l.length := by omega
      go_wp2_with fail
      go_ret
      exact ⟨rfl, hbr⟩
end Go.Proofs.Ytiegocbdgimimaa.Wal
