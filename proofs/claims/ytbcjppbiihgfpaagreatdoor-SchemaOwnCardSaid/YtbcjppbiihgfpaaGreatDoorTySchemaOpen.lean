/-
  A schema opened: an argument is what stands in the world, and what is made of it has room (no bound of size).
-/
import Derived.Test.YtbcjppbiihgfpaaGreatDoorRowOpen
import Derived.Test.YtbcjppbiihgfpaaGreatDoorTyCopyS
namespace Go.Proofs.YtbcjppbiihgfpaaGreatDoor.Tyt
open Go.ChangeShapes Go.WideShapes Go.ChangeAt Go.RowKit Go.Joins Go.Deep
open Go.Proofs.YtbcjppbiihgfpaaGreatDoor.Mem
set_option linter.unusedVariables false
set_option linter.unusedSimpArgs false
set_option maxRecDepth 100000
instance : Inhabited Ty := ⟨.mk 0 ⟨#[]⟩ [] (.slice none 0 0) [] [] (.slice none 0 0)⟩
instance : Inhabited Et := ⟨⟨⟨#[]⟩, [], .slice none 0 0, [], [], .slice none 0 0⟩⟩
instance : Inhabited Ac := ⟨⟨⟨#[]⟩, [], .slice none 0 0, [], .slice none 0 0, [], [], .slice none 0 0⟩⟩
theorem encA_zip (l : List (ByteArray × Ty)) : Ty.encA (l.map (·.1)) (l.map (·.2)) = l.flatMap (fun p => Ty.encP p.1 p.2) := by
  induction l with
  | nil => rfl
  | cons p l ih =>
    show Ty.encP p.1 p.2 ++ Ty.encA (l.map (·.1)) (l.map (·.2)) = _
    rw [ih]
    rfl
def OpT {H : Type} (enc : TypeId × Value → H) (W : World) (n : Nat) : Prop := Row.Opens (H := H) enc W 63 Ty.enc (fun y => y.ok W ∧ y.fit) (fun _ => 0) n
def okP (W : World) (p : ByteArray × Ty) : Prop := p.1.size ≤ 140737488355328 ∧ p.2.ok W ∧ p.2.fit
theorem open_attr' {H : Type} {enc : TypeId × Value → H} {W : World} (n : Nat) (ih : ∀ k, k < n → OpT (H := H) enc W k) : Row.Opens (H := H) enc W 65 (fun p => Ty.encP p.1 p.2) (okP W) (fun _ => 0) n := by
  intro cs x h hw
  have hC : Tryz.prog.cellsOf 65 = 5 := by kernel_rfl
  obtain ⟨xs, k, hn, hxx, hlen, hxl, hf⟩ := DataW.trod_struct Tryz.underlying65 h
  subst hxx
  rw [hC] at hlen
  simp only [DataW.weights, Tryz.underlying65] at hw
  match cs, hlen, xs, hxl with
  | [a0, a1, a2, a3, a4], _, [x0, x1], _ =>
    have k3 : Tryz.prog.cellsOf 9 = 1 := by kernel_rfl
    have k4 : Tryz.prog.cellsOf 63 = 4 := by kernel_rfl
    have f0 : DataW.trod enc Tryz.prog W 0 (fun _ => true) true k 9 [a0] = some x0 := by simpa [k3] using hf 0 _ rfl
    have f1 : DataW.trod enc Tryz.prog W 0 (fun _ => true) true k 63 [a1, a2, a3, a4] = some x1 := by simpa [k4] using hf 1 _ rfl
    simp only [List.map_cons, List.map_nil, DataW.weightsEach, List.mem_append] at hw
    obtain ⟨c0, e0, y0, _⟩ := DataW.trod_string Tryz.underlying9 f0
    obtain rfl : a0 = .string c0 := by simpa using e0
    have h47 := Row.reach47
    have b0 := hw c0.size (by rw [y0, DataW.weights]; exact .inl (List.mem_singleton.2 (Array.length_toList ..).symm))
    obtain ⟨y, hy, hok, _⟩ := ih k (by omega) _ x1 f1 (fun m hm => hw m (by simp [hm]))
    exact ⟨(c0, y), by show Ty.encP c0 y = _; unfold Ty.encP; rw [hy], ⟨by show c0.size ≤ _; omega, hok.1, hok.2⟩, Nat.zero_le _⟩
theorem open_atts {H : Type} {enc : TypeId × Value → H} {W : World} {n : Nat} (ih : ∀ k, k < n → OpT (H := H) enc W k)
    {v : Value} {x : DataW H × List MemPlace} (h : DataW.trod enc Tryz.prog W 0 (fun _ => true) true n 51 [v] = some x) (hw : ∀ m ∈ x.1.weights Tryz.prog 51, m ≤ reachBytes) :
    ∃ (an : List ByteArray) (l : List Ty), AttsV W v an l := by
  obtain ⟨l, hl, hs, hr, _⟩ := Row.open_row 51 65 5 88 (by decide) Tryz.underlying51 (by kernel_rfl) (by kernel_rfl) (fun p : ByteArray × Ty => Ty.encP p.1 p.2) (fun _ => rfl) (okP W) (fun _ => 0) (fun j hj => open_attr' j (fun i hi => ih i (by omega))) h hw
  refine ⟨l.map (·.1), l.map (·.2), ⟨by simp, ?_, fun y hy => ?_, fun s hs' => ?_⟩, fun y hy => ?_, by simpa using hr⟩
  · rw [encA_zip]
    simpa using hl
  · obtain ⟨p, hp, rfl⟩ := List.mem_map.1 hy
    exact (hs p hp).2.1
  · obtain ⟨p, hp, rfl⟩ := List.mem_map.1 hs'
    exact (hs p hp).1
  · obtain ⟨p, hp, rfl⟩ := List.mem_map.1 hy
    exact (hs p hp).2.2
theorem open_ty {H : Type} {enc : TypeId × Value → H} {W : World} : ∀ (n : Nat), OpT (H := H) enc W n := by
  intro n
  induction n using Nat.strongRecOn with
  | _ n ih =>
    intro cs x h hw
    have hC : Tryz.prog.cellsOf 63 = 4 := by kernel_rfl
    obtain ⟨xs, k, hn, hxx, hlen, hxl, hf⟩ := DataW.trod_struct Tryz.underlying63 h
    subst hxx
    rw [hC] at hlen
    simp only [DataW.weights, Tryz.underlying63] at hw
    match cs, hlen, xs, hxl with
    | [a0, a1, a2, a3], _, [x0, x1, x2, x3], _ =>
      have k0 : Tryz.prog.cellsOf 60 = 1 := by kernel_rfl
      have k3 : Tryz.prog.cellsOf 9 = 1 := by kernel_rfl
      have k5 : Tryz.prog.cellsOf 61 = 1 := by kernel_rfl
      have k6 : Tryz.prog.cellsOf 51 = 1 := by kernel_rfl
      have f0 : DataW.trod enc Tryz.prog W 0 (fun _ => true) true k 60 [a0] = some x0 := by simpa [k0] using hf 0 _ rfl
      have f1 : DataW.trod enc Tryz.prog W 0 (fun _ => true) true k 9 [a1] = some x1 := by simpa [k3] using hf 1 _ rfl
      have f2 : DataW.trod enc Tryz.prog W 0 (fun _ => true) true k 61 [a2] = some x2 := by simpa [k5] using hf 2 _ rfl
      have f3 : DataW.trod enc Tryz.prog W 0 (fun _ => true) true k 51 [a3] = some x3 := by simpa [k6] using hf 3 _ rfl
      simp only [List.map_cons, List.map_nil, DataW.weightsEach, List.mem_append] at hw
      obtain ⟨c0, e0, _, g0⟩ := DataW.trod_int Tryz.underlying60 f0
      obtain ⟨c1, e1, y1, _⟩ := DataW.trod_string Tryz.underlying9 f1
      obtain ⟨l2, hl2, hs2, hr2, _⟩ := Row.open_row 61 63 4 72 (by decide) Tryz.underlying61 (by kernel_rfl) (by kernel_rfl) Ty.enc (fun _ => rfl) (fun y => y.ok W ∧ y.fit) (fun _ => 0) (fun j hj => ih j (by omega)) f2 (fun m hm => hw m (by simp [hm]))
      obtain ⟨an, l3, ha3⟩ := open_atts (n := k) (fun j hj => ih j (by omega)) f3 (fun m hm => hw m (by simp [hm]))
      obtain rfl : a0 = .int .u8 c0 := by simpa using e0
      obtain rfl : a1 = .string c1 := by simpa using e1
      have b0 := bounds_u8 g0
      have h47 := Row.reach47
      have b1 := hw c1.size (by rw [y1, DataW.weights]; exact .inr (.inl (List.mem_singleton.2 (Array.length_toList ..).symm)))
      refine ⟨.mk c0.toNat c1 l2 a2 an l3 a3, ?_, ⟨?_, ?_⟩, Nat.zero_le _⟩
      · show [Value.int .u8 ((c0.toNat : Nat) : Int), .string c1, a2, a3] = _
        rw [Int.toNat_of_nonneg b0.1]
      · exact Ty.ok.mk' ⟨show c0.toNat < 256 by omega, show c1.size ≤ _ by omega, ha3.1.2.2.2, ha3.1.1, hl2, ha3.1.2.1, fun y hy => (hs2 y hy).1, ha3.1.2.2.1⟩
      · exact Ty.fit_iff.2 ⟨hr2, ha3.2.2, fun y hy => (hs2 y hy).2, ha3.2.1⟩
theorem strC_flat (l : List ByteArray) : l.flatMap (fun t => [Value.string t]) = strC l := by
  induction l with
  | nil => rfl
  | cons t l ih => rw [List.flatMap_cons, ih]; rfl
theorem open_str {H : Type} {enc : TypeId × Value → H} {W : World} (n : Nat) : Row.Opens (H := H) enc W 9 (fun t : ByteArray => [Value.string t]) (fun t => t.size ≤ 140737488355328) (fun _ => 0) n := by
  intro cs x h hw
  obtain ⟨c0, e0, y0, _⟩ := DataW.trod_string Tryz.underlying9 h
  have h47 := Row.reach47
  have b0 := hw c0.size (by rw [y0, DataW.weights]; exact List.mem_singleton.2 (Array.length_toList ..).symm)
  exact ⟨c0, by simp [e0], by omega, Nat.zero_le _⟩
instance : Inhabited ByteArray := ⟨⟨#[]⟩⟩
theorem open_names {H : Type} {enc : TypeId × Value → H} {W : World} {n : Nat} {v : Value} {x : DataW H × List MemPlace} (h : DataW.trod enc Tryz.prog W 0 (fun _ => true) true n 23 [v] = some x) (hw : ∀ m ∈ x.1.weights Tryz.prog 23, m ≤ reachBytes) : ∃ l : List ByteArray, NamesV W v l := by
  obtain ⟨l, hl, _, hr, _⟩ := Row.open_row 23 9 1 16 (by decide) Tryz.underlying23 (by kernel_rfl) (by kernel_rfl) (fun t : ByteArray => [Value.string t]) (fun _ => rfl) (fun t => t.size ≤ 140737488355328) (fun _ => 0) (fun j _ => open_str j) h hw
  rw [strC_flat] at hl
  exact ⟨l, hl, hr⟩
theorem open_et {H : Type} {enc : TypeId × Value → H} {W : World} (n : Nat) : Row.Opens (H := H) enc W 53 Et.cells (Et.ok W) (fun _ => 0) n := by
  intro cs x h hw
  have hC : Tryz.prog.cellsOf 53 = 3 := by kernel_rfl
  obtain ⟨xs, k, hn, hxx, hlen, hxl, hf⟩ := DataW.trod_struct Tryz.underlying53 h
  subst hxx
  rw [hC] at hlen
  simp only [DataW.weights, Tryz.underlying53] at hw
  match cs, hlen, xs, hxl with
  | [a0, a1, a2], _, [x0, x1, x2], _ =>
    have k3 : Tryz.prog.cellsOf 9 = 1 := by kernel_rfl
    have k4 : Tryz.prog.cellsOf 23 = 1 := by kernel_rfl
    have k5 : Tryz.prog.cellsOf 51 = 1 := by kernel_rfl
    have f0 : DataW.trod enc Tryz.prog W 0 (fun _ => true) true k 9 [a0] = some x0 := by simpa [k3] using hf 0 _ rfl
    have f1 : DataW.trod enc Tryz.prog W 0 (fun _ => true) true k 23 [a1] = some x1 := by simpa [k4] using hf 1 _ rfl
    have f2 : DataW.trod enc Tryz.prog W 0 (fun _ => true) true k 51 [a2] = some x2 := by simpa [k5] using hf 2 _ rfl
    simp only [List.map_cons, List.map_nil, DataW.weightsEach, List.mem_append] at hw
    obtain ⟨c0, e0, y0, _⟩ := DataW.trod_string Tryz.underlying9 f0
    obtain rfl : a0 = .string c0 := by simpa using e0
    have h47 := Row.reach47
    have b0 := hw c0.size (by rw [y0, DataW.weights]; exact .inl (List.mem_singleton.2 (Array.length_toList ..).symm))
    obtain ⟨l1, h1⟩ := open_names f1 (fun m hm => hw m (by simp [hm]))
    obtain ⟨an, l9, h9⟩ := open_atts (n := k) (fun j _ => open_ty j) f2 (fun m hm => hw m (by simp [hm]))
    exact ⟨⟨c0, l1, a1, an, l9, a2⟩, rfl, ⟨by show c0.size ≤ _; omega, h1, h9⟩, Nat.zero_le _⟩
theorem open_ac {H : Type} {enc : TypeId × Value → H} {W : World} (n : Nat) : Row.Opens (H := H) enc W 57 Ac.cells (Ac.ok W) (fun _ => 0) n := by
  intro cs x h hw
  have hC : Tryz.prog.cellsOf 57 = 4 := by kernel_rfl
  obtain ⟨xs, k, hn, hxx, hlen, hxl, hf⟩ := DataW.trod_struct Tryz.underlying57 h
  subst hxx
  rw [hC] at hlen
  simp only [DataW.weights, Tryz.underlying57] at hw
  match cs, hlen, xs, hxl with
  | [a0, a1, a2, a3], _, [x0, x1, x2, x3], _ =>
    have k3 : Tryz.prog.cellsOf 9 = 1 := by kernel_rfl
    have k4 : Tryz.prog.cellsOf 23 = 1 := by kernel_rfl
    have k5 : Tryz.prog.cellsOf 51 = 1 := by kernel_rfl
    have f0 : DataW.trod enc Tryz.prog W 0 (fun _ => true) true k 9 [a0] = some x0 := by simpa [k3] using hf 0 _ rfl
    have f1 : DataW.trod enc Tryz.prog W 0 (fun _ => true) true k 23 [a1] = some x1 := by simpa [k4] using hf 1 _ rfl
    have f2 : DataW.trod enc Tryz.prog W 0 (fun _ => true) true k 23 [a2] = some x2 := by simpa [k4] using hf 2 _ rfl
    have f3 : DataW.trod enc Tryz.prog W 0 (fun _ => true) true k 51 [a3] = some x3 := by simpa [k5] using hf 3 _ rfl
    simp only [List.map_cons, List.map_nil, DataW.weightsEach, List.mem_append] at hw
    obtain ⟨c0, e0, y0, _⟩ := DataW.trod_string Tryz.underlying9 f0
    obtain rfl : a0 = .string c0 := by simpa using e0
    have h47 := Row.reach47
    have b0 := hw c0.size (by rw [y0, DataW.weights]; exact .inl (List.mem_singleton.2 (Array.length_toList ..).symm))
    obtain ⟨l1, h1⟩ := open_names f1 (fun m hm => hw m (by simp [hm]))
    obtain ⟨l2, h2⟩ := open_names f2 (fun m hm => hw m (by simp [hm]))
    obtain ⟨an, l9, h9⟩ := open_atts (n := k) (fun j _ => open_ty j) f3 (fun m hm => hw m (by simp [hm]))
    exact ⟨⟨c0, l1, a1, l2, a2, an, l9, a3⟩, rfl, ⟨by show c0.size ≤ _; omega, h1, h2, h9⟩, Nat.zero_le _⟩
theorem open_schema {H : Type} {enc : TypeId × Value → H} {W : World} (n : Nat) : Row.Opens (H := H) enc W 49 (fun x : Sch => [x.tv, x.cv]) (fun x => x.ok W ∧ x.fit) (fun _ => 0) n := by
  intro cs x h hw
  have hC : Tryz.prog.cellsOf 49 = 2 := by kernel_rfl
  obtain ⟨xs, k, hn, hxx, hlen, hxl, hf⟩ := DataW.trod_struct Tryz.underlying49 h
  subst hxx
  rw [hC] at hlen
  simp only [DataW.weights, Tryz.underlying49] at hw
  match cs, hlen, xs, hxl with
  | [a0, a1], _, [x0, x1], _ =>
    have k3 : Tryz.prog.cellsOf 46 = 1 := by kernel_rfl
    have k4 : Tryz.prog.cellsOf 47 = 1 := by kernel_rfl
    have f0 : DataW.trod enc Tryz.prog W 0 (fun _ => true) true k 46 [a0] = some x0 := by simpa [k3] using hf 0 _ rfl
    have f1 : DataW.trod enc Tryz.prog W 0 (fun _ => true) true k 47 [a1] = some x1 := by simpa [k4] using hf 1 _ rfl
    simp only [List.map_cons, List.map_nil, DataW.weightsEach, List.mem_append] at hw
    obtain ⟨l0, hl0, hs0, hr0, _⟩ := Row.open_row 46 53 3 64 (by decide) Tryz.underlying46 (by kernel_rfl) (by kernel_rfl) Et.cells (fun _ => rfl) (Et.ok W) (fun _ => 0) (fun j _ => open_et j) f0 (fun m hm => hw m (by simp [hm]))
    obtain ⟨l1, hl1, hs1, hr1, _⟩ := Row.open_row 47 57 4 88 (by decide) Tryz.underlying47 (by kernel_rfl) (by kernel_rfl) Ac.cells (fun _ => rfl) (Ac.ok W) (fun _ => 0) (fun j _ => open_ac j) f1 (fun m hm => hw m (by simp [hm]))
    exact ⟨⟨l0, a0, l1, a1⟩, rfl, ⟨⟨⟨hl0, hs0⟩, hl1, hs1⟩, hr0, hr1⟩, Nat.zero_le _⟩
theorem open_schemav {H : Type} {enc : TypeId × Value → H} {W : World} {r : Reach} {b0 : Nat} {v : Value} {d : DataW H} {p : List MemPlace} (hv : Value.okWide Tryz.prog W r b0 49 v) (h : DataW.Trod enc Tryz.prog W 0 (fun _ => true) true 49 v d p)
    (hw : ∀ m ∈ d.weights Tryz.prog 49, m ≤ reachBytes) : ∃ y : Sch, v = y.val ∧ (y.ok W ∧ y.fit) ∧ 0 ≤ Rows.uptoBulk d := by
  obtain ⟨cs, rfl, _⟩ := okWide_struct Tryz.underlying49 hv
  obtain ⟨n, hf⟩ := h
  obtain ⟨y, hy, hok, _⟩ := open_schema n _ (d, p) hf hw
  refine ⟨y, ?_, hok, Nat.zero_le _⟩
  show Value.agg cs = .agg #[y.tv, y.cv]
  have e : cs.toList = [y.tv, y.cv] := by simpa [Value.cells] using hy.symm
  rw [← Array.toArray_toList (xs := cs), e]
end Go.Proofs.YtbcjppbiihgfpaaGreatDoor.Tyt
