/-
  A type opened: an argument is a tree that stands in the world, of a size that the reading's bulk bounds. Written by wip/tynestgen.py.
-/
import Derived.Test.YtklclfolmfhocaaGreatDoorTyTree
import Derived.Test.YtklclfolmfhocaaGreatDoorRows
import Derived.SliceStrings
import Derived.Deep.Slices
import Derived.Lib.SmallJoins
import Derived.SizedLaws
import Derived.WalkKit
namespace Go.Proofs.YtklclfolmfhocaaGreatDoor.Tyt
open Go.ChangeShapes Go.WideShapes Go.ChangeAt Go.RowKit Go.Joins Go.Deep
open Go.Proofs.YtklclfolmfhocaaGreatDoor.Mem
set_option linter.unusedVariables false
set_option linter.unusedSimpArgs false
set_option maxRecDepth 100000
theorem weights_mem {H : Type} {P : Program} {t : TypeId} {d : DataW H} : ∀ {l : List (DataW H)}, d ∈ l → ∀ m ∈ d.weights P t, m ∈ DataW.weightsAll P t l := by
  intro l
  induction l with
  | nil => intro h; cases h
  | cons x l ih =>
    intro h m hm
    rw [DataW.weightsAll, List.mem_append]
    rcases List.mem_cons.1 h with rfl | h
    · exact .inl hm
    · exact .inr (ih h m hm)
theorem reach47 : reachBytes ≤ 140737488355328 := by decide
instance : Inhabited Ty := ⟨.mk 0 ⟨#[]⟩ [] (.slice none 0 0) [] [] (.slice none 0 0)⟩
theorem sizeL_bulk {H : Type} : ∀ (l : List Ty) (ds : List (DataW H)), l.length = ds.length → (∀ i (h1 : i < l.length) (h2 : i < ds.length), (l[i]).size ≤ Rows.uptoBulk ds[i]) → Ty.sizeL l ≤ Rows.uptoBulkAll ds := by
  intro l
  induction l with
  | nil => intro ds _ _; simp [Ty.sizeL]
  | cons y l ih =>
    intro ds hl h
    match ds, hl with
    | d :: ds, hl =>
      have h0 := h 0 (by simp) (by simp)
      have h1 := ih ds (by simpa using hl) (fun i h1 h2 => by have := h (i + 1) (by simpa using h1) (by simpa using h2); simpa using this)
      simp only [List.getElem_cons_zero] at h0
      simp only [Ty.sizeL, Rows.uptoBulkAll]
      omega
def Opens {H : Type} (enc : TypeId × Value → H) (W : World) (k : Nat) : Prop := ∀ (cs : List Value) (x : DataW H × List MemPlace), DataW.trod enc Tryz.prog W 0 (fun _ => true) true k 26 cs = some x → (∀ m ∈ x.1.weights Tryz.prog 26, m ≤ reachBytes) → ∃ y : Ty, y.enc = cs ∧ y.ok W ∧ y.size ≤ Rows.uptoBulk x.1
theorem open_row {H : Type} {enc : TypeId × Value → H} {W : World} {n : Nat} (ih : ∀ k, k < n → Opens enc W k)
    {v : Value} {x : DataW H × List MemPlace} (h : DataW.trod enc Tryz.prog W 0 (fun _ => true) true n 23 [v] = some x) (hw : ∀ m ∈ x.1.weights Tryz.prog 23, m ≤ reachBytes) :
    ∃ l : List Ty, SlV W v l.length (Ty.encL l) ∧ (∀ y ∈ l, y.ok W) ∧ Ty.sizeL l ≤ Rows.uptoBulk x.1 := by
  rcases DataW.trod_slice Tryz.underlying23 h with ⟨hcs, _⟩ | ⟨a, len, cap, elems, rest, k, hn, hcs, hx, _, hl, hm, hlen, hel, _, _⟩
  · obtain rfl : v = .slice none 0 0 := by simpa using hcs
    exact ⟨[], SlV.nil W, by simp, by simp [Ty.sizeL]⟩
  · obtain rfl : v = .slice (some a) len cap := by simpa using hcs
    have hC : Tryz.prog.cellsOf 26 = 4 := by kernel_rfl
    have hx' := hx
    rw [hx] at hw
    simp only [DataW.weights, Tryz.underlying23, List.mem_cons, List.mem_append] at hw
    rw [hC] at hel
    obtain ⟨V, hV⟩ := choose_lt (α := Ty) (p := fun i y => (y.ok W ∧ ∀ (h : i < elems.length), y.size ≤ Rows.uptoBulk elems[i].1) ∧ ∀ r, r < 4 → W.cell? (a.add (i * 4 + r)) = y.enc[r]?) (n := len) (fun i hi => by
      have he := hel i hi
      rw [List.getElem?_eq_getElem (by omega)] at he
      obtain ⟨cs', h1, h2⟩ := Option.bind_eq_some_iff.1 he
      obtain ⟨y, hy, hok, hsz⟩ := ih k (by omega) cs' _ h2 (fun m hm => hw m (.inr (.inl (weights_mem (List.mem_map_of_mem (f := (·.1)) (List.getElem_mem (by omega : i < elems.length))) m hm))))
      refine ⟨y, ⟨hok, fun _ => hsz⟩, fun r hr => ?_⟩
      have := (World.cells?_some h1).2.2 r hr
      rw [Mem.add_add] at this
      rw [this, hy])
    have hlen2 : ((List.range len).map V).length = len := by simp
    have hg : ∀ i (hi : i < ((List.range len).map V).length), ((List.range len).map V)[i] = V i := fun i hi => by simp
    refine ⟨(List.range len).map V, ⟨some a, cap, by rw [hlen2], by rw [hlen2]; exact hl, hm, by simp, fun h => ?_, fun b hb j hj => ?_⟩, fun y hy => ?_, ?_⟩
    · rw [hlen2] at h; subst h; rfl
    · cases hb
      rw [Ty.encL_len, hlen2] at hj
      have hq : j / 4 < len := by omega
      have := Ty.encL_get ((List.range len).map V) (j / 4) (by rw [hlen2]; exact hq) (j % 4) (by omega)
      rw [show j / 4 * 4 + j % 4 = j by omega, hg, List.getElem?_eq_getElem (by rw [Ty.encL_len, hlen2]; exact hj)] at this
      rw [this, ← (hV (j / 4) hq).2 (j % 4) (by omega), show j / 4 * 4 + j % 4 = j by omega]
    · obtain ⟨i, hi, rfl⟩ := List.mem_map.1 hy
      exact (hV i (List.mem_range.1 hi)).1.1
    · rw [hx']
      simp only [Rows.uptoBulk]
      have := sizeL_bulk (H := H) ((List.range len).map V) ((elems.take len).map (·.1)) (by rw [hlen2, List.length_map, List.length_take]; omega) (fun i h1 h2 => by
        rw [hg]
        have hi : i < len := by rw [hlen2] at h1; exact h1
        rw [List.getElem_map, List.getElem_take]
        exact (hV i hi).1.2 (by omega))
      have he : elems.take len = elems := List.take_of_length_le (by omega)
      rw [he] at this
      omega
/-- an attribute, opened -/
theorem open_attr {H : Type} {enc : TypeId × Value → H} {W : World} {n : Nat} (ih : ∀ k, k < n → Opens enc W k) (cs : List Value) (x : DataW H × List MemPlace) (h : DataW.trod enc Tryz.prog W 0 (fun _ => true) true n 53 cs = some x)
    (hw : ∀ m ∈ x.1.weights Tryz.prog 53, m ≤ reachBytes) : ∃ (s : ByteArray) (y : Ty), Ty.encP s y = cs ∧ s.size ≤ 140737488355328 ∧ y.ok W ∧ y.size ≤ Rows.uptoBulk x.1 := by
  have hC : Tryz.prog.cellsOf 53 = 5 := by kernel_rfl
  obtain ⟨xs, k, hn, hxx, hlen, hxl, hf⟩ := DataW.trod_struct Tryz.underlying53 h
  subst hxx
  rw [hC] at hlen
  simp only [DataW.weights, Tryz.underlying53] at hw
  match cs, hlen, xs, hxl with
  | [a0, a1, a2, a3, a4], _, [x0, x1], _ =>
    have k3 : Tryz.prog.cellsOf 9 = 1 := by kernel_rfl
    have k4 : Tryz.prog.cellsOf 26 = 4 := by kernel_rfl
    have f0 : DataW.trod enc Tryz.prog W 0 (fun _ => true) true k 9 [a0] = some x0 := by simpa [k3] using hf 0 _ rfl
    have f1 : DataW.trod enc Tryz.prog W 0 (fun _ => true) true k 26 [a1, a2, a3, a4] = some x1 := by simpa [k4] using hf 1 _ rfl
    simp only [List.map_cons, List.map_nil, DataW.weightsEach, List.mem_append] at hw
    obtain ⟨c0, e0, y0, _⟩ := DataW.trod_string Tryz.underlying9 f0
    obtain rfl : a0 = .string c0 := by simpa using e0
    have h47 := reach47
    have b0 := hw c0.size (by rw [y0, DataW.weights]; exact .inl (List.mem_singleton.2 (Array.length_toList ..).symm))
    obtain ⟨y, hy, hok, hsz⟩ := ih k (by omega) _ x1 f1 (fun m hm => hw m (by simp [hm]))
    refine ⟨c0, y, by unfold Ty.encP; rw [hy], by omega, hok, ?_⟩
    simp only [List.map_cons, List.map_nil, Rows.uptoBulk, Rows.uptoBulkAll]
    omega
theorem open_attrs {H : Type} {enc : TypeId × Value → H} {W : World} {n : Nat} (ih : ∀ k, k < n → Opens enc W k)
    {v : Value} {x : DataW H × List MemPlace} (h : DataW.trod enc Tryz.prog W 0 (fun _ => true) true n 24 [v] = some x) (hw : ∀ m ∈ x.1.weights Tryz.prog 24, m ≤ reachBytes) :
    ∃ (an : List ByteArray) (l : List Ty), an.length = l.length ∧ SlV W v l.length (Ty.encA an l) ∧ (∀ y ∈ l, y.ok W) ∧ (∀ s ∈ an, s.size ≤ 140737488355328) ∧ Ty.sizeL l ≤ Rows.uptoBulk x.1 := by
  rcases DataW.trod_slice Tryz.underlying24 h with ⟨hcs, _⟩ | ⟨a, len, cap, elems, rest, k, hn, hcs, hx, _, hl, hm, hlen, hel, _, _⟩
  · obtain rfl : v = .slice none 0 0 := by simpa using hcs
    exact ⟨[], [], rfl, SlV.nil W, by simp, by simp, by simp [Ty.sizeL]⟩
  · obtain rfl : v = .slice (some a) len cap := by simpa using hcs
    have hC : Tryz.prog.cellsOf 53 = 5 := by kernel_rfl
    have hx' := hx
    rw [hx] at hw
    simp only [DataW.weights, Tryz.underlying24, List.mem_cons, List.mem_append] at hw
    rw [hC] at hel
    obtain ⟨V, hV⟩ := choose_lt (α := ByteArray × Ty) (p := fun i y => (y.1.size ≤ 140737488355328 ∧ y.2.ok W ∧ ∀ (h : i < elems.length), y.2.size ≤ Rows.uptoBulk elems[i].1) ∧ ∀ r, r < 5 → W.cell? (a.add (i * 5 + r)) = (Ty.encP y.1 y.2)[r]?) (n := len) (fun i hi => by
      have he := hel i hi
      rw [List.getElem?_eq_getElem (by omega)] at he
      obtain ⟨cs', h1, h2⟩ := Option.bind_eq_some_iff.1 he
      obtain ⟨s, y, hy, hs, hok, hsz⟩ := open_attr (n := k) (fun j hj => ih j (by omega)) cs' _ h2 (fun m hm => hw m (.inr (.inl (weights_mem (List.mem_map_of_mem (f := (·.1)) (List.getElem_mem (by omega : i < elems.length))) m hm))))
      refine ⟨(s, y), ⟨hs, hok, fun _ => hsz⟩, fun r hr => ?_⟩
      have := (World.cells?_some h1).2.2 r hr
      rw [Mem.add_add] at this
      rw [this, ← hy])
    have hl1 : ((List.range len).map fun i => (V i).1).length = len := by simp
    have hl2 : ((List.range len).map fun i => (V i).2).length = len := by simp
    refine ⟨(List.range len).map fun i => (V i).1, (List.range len).map fun i => (V i).2, by rw [hl1, hl2], ⟨some a, cap, by rw [hl2], by rw [hl2]; exact hl, hm, by simp, fun h => ?_, fun b hb j hj => ?_⟩, fun y hy => ?_, fun s hs => ?_, ?_⟩
    · rw [hl2] at h; subst h; rfl
    · cases hb
      rw [Ty.encA_len _ _ (by rw [hl1, hl2]), hl2] at hj
      have hq : j / 5 < len := by omega
      have := Ty.encA_get ((List.range len).map fun i => (V i).1) ((List.range len).map fun i => (V i).2) (by rw [hl1, hl2]) (j / 5) (by rw [hl2]; exact hq) (j % 5) (by omega)
      rw [show j / 5 * 5 + j % 5 = j by omega, List.getElem?_eq_getElem (by rw [Ty.encA_len _ _ (by rw [hl1, hl2]), hl2]; exact hj)] at this
      simp only [List.getElem_map, List.getElem_range] at this
      rw [this, ← (hV (j / 5) hq).2 (j % 5) (by omega), show j / 5 * 5 + j % 5 = j by omega]
    · obtain ⟨i, hi, rfl⟩ := List.mem_map.1 hy
      exact (hV i (List.mem_range.1 hi)).1.2.1
    · obtain ⟨i, hi, rfl⟩ := List.mem_map.1 hs
      exact (hV i (List.mem_range.1 hi)).1.1
    · rw [hx']
      simp only [Rows.uptoBulk]
      have := sizeL_bulk (H := H) ((List.range len).map fun i => (V i).2) ((elems.take len).map (·.1)) (by rw [hl2, List.length_map, List.length_take]; omega) (fun i h1 h2 => by
        have hi : i < len := by rw [hl2] at h1; exact h1
        simp only [List.getElem_map, List.getElem_range, List.getElem_take]
        exact (hV i hi).1.2.2 (by omega))
      have he : elems.take len = elems := List.take_of_length_le (by omega)
      rw [he] at this
      omega
theorem open_type {H : Type} {enc : TypeId × Value → H} {W : World} : ∀ (n : Nat), Opens enc W n := by
  intro n
  induction n using Nat.strongRecOn with
  | _ n ih =>
    intro cs x h hw
    have hC : Tryz.prog.cellsOf 26 = 4 := by kernel_rfl
    obtain ⟨xs, k, hn, hxx, hlen, hxl, hf⟩ := DataW.trod_struct Tryz.underlying26 h
    subst hxx
    rw [hC] at hlen
    simp only [DataW.weights, Tryz.underlying26] at hw
    match cs, hlen, xs, hxl with
    | [a0, a1, a2, a3], _, [x0, x1, x2, x3], _ =>
      have k0 : Tryz.prog.cellsOf 22 = 1 := by kernel_rfl
      have k3 : Tryz.prog.cellsOf 9 = 1 := by kernel_rfl
      have k5 : Tryz.prog.cellsOf 23 = 1 := by kernel_rfl
      have k6 : Tryz.prog.cellsOf 24 = 1 := by kernel_rfl
      have f0 : DataW.trod enc Tryz.prog W 0 (fun _ => true) true k 22 [a0] = some x0 := by simpa [k0] using hf 0 _ rfl
      have f1 : DataW.trod enc Tryz.prog W 0 (fun _ => true) true k 9 [a1] = some x1 := by simpa [k3] using hf 1 _ rfl
      have f2 : DataW.trod enc Tryz.prog W 0 (fun _ => true) true k 23 [a2] = some x2 := by simpa [k5] using hf 2 _ rfl
      have f3 : DataW.trod enc Tryz.prog W 0 (fun _ => true) true k 24 [a3] = some x3 := by simpa [k6] using hf 3 _ rfl
      simp only [List.map_cons, List.map_nil, DataW.weightsEach, List.mem_append] at hw
      obtain ⟨c0, e0, _, g0⟩ := DataW.trod_int Tryz.underlying22 f0
      obtain ⟨c1, e1, y1, _⟩ := DataW.trod_string Tryz.underlying9 f1
      obtain ⟨l2, hl2, hs2, hz2⟩ := open_row (n := k) (fun j hj => ih j (by omega)) f2 (fun m hm => hw m (by simp [hm]))
      obtain ⟨an, l3, hal, hl3, hs3, hn3, hz3⟩ := open_attrs (n := k) (fun j hj => ih j (by omega)) f3 (fun m hm => hw m (by simp [hm]))
      obtain rfl : a0 = .int .u8 c0 := by simpa using e0
      obtain rfl : a1 = .string c1 := by simpa using e1
      have b0 := bounds_u8 g0
      have h47 := reach47
      have b1 := hw c1.size (by rw [y1, DataW.weights]; exact .inr (.inl (List.mem_singleton.2 (Array.length_toList ..).symm)))
      refine ⟨.mk c0.toNat c1 l2 a2 an l3 a3, ?_, ?_, ?_⟩
      · show [Value.int .u8 ((c0.toNat : Nat) : Int), .string c1, a2, a3] = _
        rw [Int.toNat_of_nonneg b0.1]
      · exact Ty.ok.mk' ⟨show c0.toNat < 256 by omega, show c1.size ≤ _ by omega, hn3, hal, hl2, hl3, hs2, hs3⟩
      · rw [Ty.size_eq]
        show Ty.sizeL l2 + Ty.sizeL l3 + 1 ≤ _
        simp only [List.map_cons, List.map_nil, Rows.uptoBulk, Rows.uptoBulkAll]
        omega
theorem open_typev {H : Type} {enc : TypeId × Value → H} {W : World} {r : Reach} {b0 : Nat} {v : Value} {d : DataW H} {p : List MemPlace} (hv : Value.okWide Tryz.prog W r b0 26 v) (h : DataW.Trod enc Tryz.prog W 0 (fun _ => true) true 26 v d p)
    (hw : ∀ m ∈ d.weights Tryz.prog 26, m ≤ reachBytes) : ∃ y : Ty, v = y.val ∧ y.ok W ∧ y.size ≤ Rows.uptoBulk d := by
  obtain ⟨cs, rfl, _⟩ := okWide_struct Tryz.underlying26 hv
  obtain ⟨n, hf⟩ := h
  obtain ⟨y, hy, hok, hz⟩ := open_type n _ (d, p) hf hw
  refine ⟨y, ?_, hok, hz⟩
  show Value.agg cs = .agg y.enc.toArray
  rw [hy]
  simp [Value.cells]
end Go.Proofs.YtklclfolmfhocaaGreatDoor.Tyt
