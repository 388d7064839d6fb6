/-
  Arguments opened: a disk by value, a slice of bools.
-/
import Derived.Test.YtiegocbdgimimaaSectorCrash
import Derived.Lib.SmallJoins
import Derived.Deep.Slices
import Derived.Deep.Fields
import Derived.Deep.Grids
import Derived.ChangeSame
import Derived.SliceStrings
namespace Go.Proofs.Ytiegocbdgimimaa.Sector
open Go.Joins Go.ChangeShapes Go.WideShapes Go.ChangeAt Go.RowKit Go.Deep
open Go.Proofs.Ytiegocbdgimimaa.Mem
set_option linter.unusedVariables false
section
variable {H : Type} {enc : TypeId × Value → H} {P : Program} {w : World} {base : Nat} {spare : Nat → Bool} {held : Bool}
/-- A slice of structs of one-cell fields: each element's fields in cells. -/
theorem slice_fields {t e : TypeId} {fs : Array Field} {fuel : Nat} {cs : List Value} {x : DataW H × List MemPlace} (ht : P.underlying t = some (.slice e)) (he : P.underlying e = some (.struct fs))
    (hone : oneCellFields P fs = true) (hC : P.cellsOf e = fs.size) (h : DataW.trod enc P w base spare held fuel t cs = some x) :
    cs = [.slice none 0 0] ∨
    ∃ (a : Addr) (len cap : Nat), cs = [.slice (some a) len cap] ∧ len ≤ cap ∧ cap ≤ maxLen ∧
      ∀ i, i < len → ∀ (j : Nat) (f : Field), fs[j]? = some f → ∃ (v : Value) (y : DataW H × List MemPlace) (n : Nat), w.cell? (a.add (i * fs.size + j)) = some v ∧ DataW.trod enc P w base spare held n f.type [v] = some y := by
  rcases open_slice ht h with ⟨h0, _⟩ | ⟨a, len, cap, m, n, D, Pl, hcs, hb, hl, hm, hmm, hx, hi⟩
  · exact .inl h0
  · refine .inr ⟨a, len, cap, hcs, hl, hm, fun i hil j f hj => ?_⟩
    obtain ⟨cs', hc, ht'⟩ := hi i (by rw [hmm]; split <;> omega)
    rw [hC] at hc
    obtain ⟨ys, n', hn', hy, hlen, hyl, hf⟩ := DataW.trod_struct he ht'
    obtain ⟨_, hcl, hat⟩ := World.cells?_some hc
    obtain ⟨ho, hk⟩ := hone_of hone j f hj
    have hjl : j < fs.size := (Array.getElem?_eq_some_iff.1 hj).1
    have hcell := hat j hjl
    have hv : cs'[j]? = some (cs'[j]'(by omega)) := List.getElem?_eq_getElem (by omega)
    have h1 := hf j f hj
    rw [ho, hk] at h1
    have hone' : (cs'.drop j).take 1 = [cs'[j]'(by omega)] := by
      rw [List.drop_eq_getElem_cons (by omega)]
      rfl
    rw [hone'] at h1
    refine ⟨_, ys[j]'(by omega), n', ?_, h1.trans (List.getElem?_eq_getElem (by omega))⟩
    rw [← Go.Deep.add_add, hcell, hv]
end

theorem open_strs {H : Type} {enc : TypeId × Value → H} {W : World} {n : Nat} {v : Value} {x : DataW H × List MemPlace} (h : DataW.trod enc Try.prog W 0 (fun _ => true) true n 22 [v] = some x) : ∃ l, StrsV W v l := by
  rcases open_strings Try.underlying22 Try.underlying9 (by kernel_rfl) h with ⟨hcs, _⟩ | ⟨a, len, cap, ss, hcs, _, hl, hm, hss, _, hc, _⟩
  · obtain rfl : v = .slice none 0 0 := by simpa using hcs
    exact ⟨[], SlV.nil W⟩
  · obtain rfl : v = .slice (some a) len cap := by simpa using hcs
    simp only [if_true] at hss
    have hlen : (ss.take len).length = len := by rw [List.length_take]; omega
    refine ⟨ss.take len, some a, cap, by rw [hlen], by rw [hlen]; exact hl, hm, by simp, fun h => ?_, fun b hb j hj => ?_⟩
    · rw [hlen] at h; subst h; simp [strC]
    · cases hb
      have hj' : j < len := by rw [strC_len, hlen] at hj; exact hj
      rw [hc j (by omega), strC_get _ j (by rw [hlen]; exact hj')]
      simp [List.getD, show j < ss.length by omega]
theorem open_bools' {H : Type} {enc : TypeId × Value → H} {W : World} {n : Nat} {v : Value} {x : DataW H × List MemPlace} (h : DataW.trod enc Try.prog W 0 (fun _ => true) true n 38 [v] = some x) : ∃ l, BoolsV W v l := by
  rcases open_bools Try.underlying38 Try.underlying4 (by kernel_rfl) h with ⟨hcs, _⟩ | ⟨a, len, cap, B, hcs, _, hl, hm, _, hc⟩
  · obtain rfl : v = .slice none 0 0 := by simpa using hcs
    exact ⟨[], SlV.nil W⟩
  · obtain rfl : v = .slice (some a) len cap := by simpa using hcs
    have hlen : ((List.range len).map B).length = len := by simp
    refine ⟨(List.range len).map B, some a, cap, by rw [hlen], by rw [hlen]; exact hl, hm, by simp, fun h => ?_, fun b hb j hj => ?_⟩
    · rw [hlen] at h; subst h; simp
    · cases hb
      have hj' : j < len := by simpa using hj
      rw [hc j (by omega)]
      simp
theorem open_prs {H : Type} {enc : TypeId × Value → H} {W : World} {n : Nat} {v : Value} {x : DataW H × List MemPlace} (h : DataW.trod enc Try.prog W 0 (fun _ => true) true n 23 [v] = some x) : ∃ l, PrsV W v l := by
  rcases slice_fields Try.underlying23 Try.underlying62 (by kernel_rfl) (by kernel_rfl) h with hcs | ⟨a, len, cap, hcs, hl, hm, hf⟩
  · obtain rfl : v = .slice none 0 0 := by simpa using hcs
    exact ⟨[], SlV.nil W⟩
  · obtain rfl : v = .slice (some a) len cap := by simpa using hcs
    have hex : ∀ i, ∃ p : Int × ByteArray, i < len → W.cell? (a.add (i * 2)) = some (.int .i64 p.1) ∧ W.cell? (a.add (i * 2 + 1)) = some (.string p.2) := by
      intro i
      by_cases hi : i < len
      · obtain ⟨v0, y0, n0, c0, t0⟩ := hf i hi 0 _ rfl
        obtain ⟨v1, y1, n1, c1, t1⟩ := hf i hi 1 _ rfl
        obtain ⟨m, e0, _, _⟩ := DataW.trod_int Try.underlying3 t0
        obtain ⟨s, e1, _, _⟩ := DataW.trod_string Try.underlying9 t1
        obtain rfl : v0 = .int .i64 m := by simpa using e0
        obtain rfl : v1 = .string s := by simpa using e1
        exact ⟨(m, s), fun _ => ⟨c0, c1⟩⟩
      · exact ⟨(0, ⟨#[]⟩), fun h => absurd h hi⟩
    obtain ⟨p, hp⟩ := Classical.axiomOfChoice hex
    have hlen : ((List.range len).map p).length = len := by simp
    refine ⟨(List.range len).map p, some a, cap, by rw [hlen], by rw [hlen]; exact hl, hm, by simp, fun h => ?_, fun b hb j hj => ?_⟩
    · rw [hlen] at h; subst h; simp [prC]
    · cases hb
      have hj' : j < len * 2 := by rw [prC_len, hlen] at hj; exact hj
      have hi : j / 2 < len := by omega
      have hi' : j / 2 < ((List.range len).map p).length := by rw [hlen]; exact hi
      obtain ⟨c0, c1⟩ := hp (j / 2) hi
      rcases Nat.mod_two_eq_zero_or_one j with hm2 | hm2
      · have e : j = j / 2 * 2 := by omega
        have := prC_get0 _ _ hi'
        rw [← e, List.getElem?_eq_getElem hj] at this
        rw [← e] at c0
        rw [Option.some.inj this, c0]
        simp
      · have e : j = j / 2 * 2 + 1 := by omega
        have := prC_get1 _ _ hi'
        rw [← e, List.getElem?_eq_getElem hj] at this
        rw [← e] at c1
        rw [Option.some.inj this, c1]
        simp

set_option maxRecDepth 100000 in
theorem open_disk {H : Type} {enc : TypeId × Value → H} {W : World} {r : Reach} {b0 : Nat} {v : Value} {d : DataW H} {p : List MemPlace} (hv : Value.okWide Try.prog W r b0 25 v) (h : DataW.Trod enc Try.prog W 0 (fun _ => true) true 25 v d p) :
    ∃ D : Disk, DiskV W v D ∧ (Lit.int .i64 D.fuse).wf = true := by
  obtain ⟨v0, v1, v2, v3, y0, y1, y2, y3, n, rfl, _, _, t0, t1, t2, t3⟩ := open_agg4 Try.underlying25 (by kernel_rfl) (by kernel_rfl) hv h
  obtain ⟨secs, hs⟩ := open_strs t0
  obtain ⟨pend, hp⟩ := open_prs t1
  obtain ⟨b, e2, _⟩ := DataW.trod_bool Try.underlying4 t2
  obtain ⟨m, e3, _, hw⟩ := DataW.trod_int Try.underlying3 t3
  obtain rfl : v2 = .bool b := by simpa using e2
  obtain rfl : v3 = .int .i64 m := by simpa using e3
  exact ⟨⟨secs, pend, b, m⟩, ⟨v0, v1, rfl, hs, hp⟩, hw⟩
end Go.Proofs.Ytiegocbdgimimaa.Sector
