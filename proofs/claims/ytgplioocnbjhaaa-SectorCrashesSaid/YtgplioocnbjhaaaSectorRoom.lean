/-
  A disk that came in is no longer than memory.
-/
import Derived.Test.YtgplioocnbjhaaaSectorOpen
import Derived.SizedLaws
namespace Go.Proofs.Ytgplioocnbjhaaa.Sector
open Go.Joins Go.ChangeShapes Go.WideShapes Go.ChangeAt Go.RowKit Go.Deep
open Go.Proofs.Ytgplioocnbjhaaa.Mem
set_option linter.unusedVariables false
section
variable {H : Type} {enc : TypeId × Value → H} {P : Program} {w : World} {base : Nat} {spare : Nat → Bool} {held : Bool}
theorem slice_room {t e : TypeId} {fuel : Nat} {v : Value} {x : DataW H × List MemPlace} (ht : P.underlying t = some (.slice e)) (h : DataW.trod enc P w base spare held fuel t [v] = some x) (hw : ∀ m ∈ x.1.weights P t, m ≤ reachBytes) :
    ∃ ao len cap, v = .slice ao len cap ∧ len * P.bytesOf e ≤ reachBytes := by
  rcases open_slice ht h with ⟨h0, _⟩ | ⟨a, len, cap, m, n, D, Pl, hcs, hb, hl, hm, hmm, hx, hi⟩
  · exact ⟨none, 0, 0, by simpa using h0, by simp⟩
  · refine ⟨some a, len, cap, by simpa using hcs, ?_⟩
    have := hw ((((List.range len).map D).length + ((List.range (m - len)).map fun j => D (len + j)).length) * P.bytesOf e) (by rw [hx]; simp [DataW.weights, ht])
    have h2 : len * P.bytesOf e ≤ (((List.range len).map D).length + ((List.range (m - len)).map fun j => D (len + j)).length) * P.bytesOf e := Nat.mul_le_mul_right _ (by simp)
    omega
end
theorem bytes_str : Try.prog.bytesOf 9 = 16 := by kernel_rfl
theorem bytes_wr : Try.prog.bytesOf 96 = 24 := by kernel_rfl
set_option maxRecDepth 100000 in
theorem disk_room {H : Type} {enc : TypeId × Value → H} {W : World} {r : Reach} {b0 : Nat} {v : Value} {d : DataW H} {p : List MemPlace} (hv : Value.okWide Try.prog W r b0 25 v) (h : DataW.Trod enc Try.prog W 0 (fun _ => true) true 25 v d p)
    (hw : ∀ m ∈ d.weights Try.prog 25, m ≤ reachBytes) (D : Disk) (hD : DiskV W v D) : D.secs.length * 16 ≤ 140737488355328 ∧ D.pend.length * 24 ≤ 140737488355328 := by
  obtain ⟨v0, v1, v2, v3, y0, y1, y2, y3, n, rfl, rfl, _, t0, t1, t2, t3⟩ := open_agg4 Try.underlying25 (by kernel_rfl) (by kernel_rfl) hv h
  obtain ⟨sv, pv, he, hs, hp⟩ := hD
  simp only [Value.agg.injEq, Array.mk.injEq, List.cons.injEq, and_true] at he
  obtain ⟨rfl, rfl, -, -⟩ := he
  obtain ⟨so, sc, rfl, _⟩ := hs.form
  obtain ⟨po, pc, rfl, _⟩ := hp.form
  obtain ⟨ao, ln, cp, e0, r0⟩ := slice_room Try.underlying22 t0 (fun m hm => hw m (by simp [DataW.weights, DataW.weightsEach, Try.underlying25]; left; exact hm))
  obtain ⟨ao1, ln1, cp1, e1, r1⟩ := slice_room Try.underlying23 t1 (fun m hm => hw m (by simp [DataW.weights, DataW.weightsEach, Try.underlying25]; right; left; exact hm))
  simp only [Value.slice.injEq] at e0 e1
  rw [bytes_str] at r0
  rw [bytes_wr] at r1
  have hr : reachBytes ≤ 140737488355328 := by decide
  obtain ⟨-, h0, -⟩ := e0
  obtain ⟨-, h1, -⟩ := e1
  omega
end Go.Proofs.Ytgplioocnbjhaaa.Sector
