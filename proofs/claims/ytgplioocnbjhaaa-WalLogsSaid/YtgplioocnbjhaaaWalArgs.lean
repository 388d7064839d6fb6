/-
  A region that came in; a disk that was stored into a box.
-/
import Derived.Test.YtgplioocnbjhaaaWalCalls
import Derived.Test.YtgplioocnbjhaaaRecArgs
import Derived.Test.YtgplioocnbjhaaaSectorOpen
import Derived.SliceStrings
namespace Go.Proofs.Ytgplioocnbjhaaa.Wal
open Go.ChangeShapes Go.WideShapes Go.ChangeAt Go.RowKit
open Go.Proofs.Ytgplioocnbjhaaa.Mem Go.Proofs.Ytgplioocnbjhaaa.Rec Go.Proofs.Ytgplioocnbjhaaa.Sector
set_option linter.unusedVariables false
set_option maxRecDepth 100000
open Go.Joins Go.Deep
theorem open_region {H : Type} {enc : TypeId × Value → H} {W : World} {r : Reach} {b0 : Nat} {v : Value} {d : DataW H} {p : List MemPlace} (hv : Value.okWide Try.prog W r b0 54 v) (h : DataW.Trod enc Try.prog W 0 (fun _ => true) true 54 v d p) :
    ∃ f : Rg, v = rgV f ∧ f.has := by
  obtain ⟨v0, v1, y0, y1, n, rfl, _, _, t0, t1⟩ := open_agg2 Try.underlying54 (by kernel_rfl) (by kernel_rfl) hv h
  obtain ⟨a, e0, _, h0⟩ := DataW.trod_int Try.underlying3 t0
  obtain ⟨b, e1, _, h1⟩ := DataW.trod_int Try.underlying3 t1
  obtain rfl : v0 = .int .i64 a := by simpa using e0
  obtain rfl : v1 = .int .i64 b := by simpa using e1
  have g0 := bounds_i64 h0
  have g1 := bounds_i64 h1
  exact ⟨⟨a, b⟩, rfl, g0.1, g0.2, g1.1, g1.2⟩
theorem open_textz {H : Type} {enc : TypeId × Value → H} {W : World} {n : Nat} {v : Value} {x : DataW H × List MemPlace} (h : DataW.trod enc Try.prog W 0 (fun _ => true) true n 22 [v] = some x) : ∃ l, StrsV W v l ∧ ∀ s ∈ l, s.size ≤ maxLen := by
  rcases open_strings Try.underlying22 Try.underlying9 (by kernel_rfl) h with ⟨hcs, _⟩ | ⟨a, len, cap, ss, hcs, _, hl, hm, hss, _, hc, hz⟩
  · obtain rfl : v = .slice none 0 0 := by simpa using hcs
    exact ⟨[], SlV.nil W, by simp⟩
  · obtain rfl : v = .slice (some a) len cap := by simpa using hcs
    simp only [if_true] at hss
    have hlen : (ss.take len).length = len := by rw [List.length_take]; omega
    refine ⟨ss.take len, ⟨some a, cap, by rw [hlen], by rw [hlen]; exact hl, hm, by simp, fun h => ?_, fun b hb j hj => ?_⟩, fun s hs => hz s (List.mem_of_mem_take hs)⟩
    · rw [hlen] at h; subst h; simp [strC]
    · cases hb
      have hj' : j < len := by rw [strC_len, hlen] at hj; exact hj
      rw [hc j (by omega), strC_get _ j (by rw [hlen]; exact hj')]
      simp [List.getD, show j < ss.length by omega]
end Go.Proofs.Ytgplioocnbjhaaa.Wal
