/-
  A value that came in opened as a tree (as XValOpen, over XValTree alone).
-/
import Derived.Test.YtklclfolmfhocaaGreatDoorValTree
import Derived.Test.YtklclfolmfhocaaGreatDoorRows
import Derived.SliceStrings
import Derived.Deep.Slices
import Derived.Lib.SmallJoins
import Derived.SizedLaws
import Derived.WalkKit
namespace Go.Proofs.YtklclfolmfhocaaGreatDoor.Val
open Go.ChangeShapes Go.WideShapes Go.ChangeAt Go.RowKit Go.Joins Go.Deep
open Go.Proofs.YtklclfolmfhocaaGreatDoor.Mem
set_option linter.unusedVariables false
set_option linter.unusedSimpArgs false
set_option maxRecDepth 100000
theorem weights_strs {H : Type} {P : Program} {t : TypeId} {s : ByteArray} : ∀ {l : List ByteArray}, s ∈ l → s.size ∈ DataW.weightsAll P t (strs (H := H) l) := by
  intro l
  induction l with
  | nil => intro h; cases h
  | cons x l ih =>
    intro h
    show s.size ∈ DataW.weightsAll P t (.lit (.string x.data.toList) :: strs l)
    rw [DataW.weightsAll, List.mem_append]
    rcases List.mem_cons.1 h with rfl | h
    · left; rw [DataW.weights]; exact List.mem_singleton.2 (Array.length_toList ..).symm
    · exact .inr (ih h)
theorem weights_mem {H : Type} {P : Program} {t : TypeId} {d : DataW H} : ∀ {l : List (DataW H)}, d ∈ l → ∀ m ∈ d.weights P t, m ∈ DataW.weightsAll P t l := by
  intro l
  induction l with
  | nil => intro h; cases h
  | cons x l ih =>
    intro h m hm
    rw [DataW.weightsAll, List.mem_append]
    rcases List.mem_cons.1 h with rfl | h
    · exact .inl hm
    · exact .inr (ih h m hm)
theorem reach47 : reachBytes ≤ 140737488355328 := by decide
theorem open_names {H : Type} {enc : TypeId × Value → H} {W : World} {n : Nat} {v : Value} {x : DataW H × List MemPlace} (h : DataW.trod enc Tryz.prog W 0 (fun _ => true) true n 28 [v] = some x)
    (hw : ∀ m ∈ x.1.weights Tryz.prog 28, m ≤ reachBytes) : ∃ l, StrsV W v l ∧ (∀ s ∈ l, s.size ≤ 140737488355328) ∧ l.length * 16 ≤ 140737488355328 := by
  rcases open_strings Tryz.underlying28 Tryz.underlying9 (by kernel_rfl) h with ⟨hcs, _⟩ | ⟨a, len, cap, ss, hcs, _, hl, hm, hss, hx, hc, hz⟩
  · obtain rfl : v = .slice none 0 0 := by simpa using hcs
    exact ⟨[], SlV.nil W, by simp, by simp⟩
  · obtain rfl : v = .slice (some a) len cap := by simpa using hcs
    simp only [if_true] at hss
    have hlen : (ss.take len).length = len := by rw [List.length_take]; omega
    have hb : Tryz.prog.bytesOf 9 = 16 := by kernel_rfl
    rw [hx] at hw
    simp only [DataW.weights, Tryz.underlying28, hb, List.mem_cons, List.mem_append] at hw
    have h47 := reach47
    have hlens : (strs (H := H) (ss.take len)).length = len := by rw [strs, List.length_map, hlen]
    refine ⟨ss.take len, ⟨some a, cap, by rw [hlen], by rw [hlen]; exact hl, hm, by simp, fun h => ?_, fun b hb j hj => ?_⟩, fun s hs => ?_, ?_⟩
    · rw [hlen] at h; subst h; simp [strC]
    · cases hb
      have hj' : j < len := by rw [strC_len, hlen] at hj; exact hj
      rw [hc j (by omega), strC_get _ j (by rw [hlen]; exact hj')]
      simp [List.getD, show j < ss.length by omega]
    · have := hw s.size (.inr (.inl (weights_strs hs)))
      omega
    · have := hw _ (.inl rfl)
      rw [hlens, Nat.add_mul] at this
      rw [hlen]
      omega
instance : Inhabited T := ⟨.mk 0 false 0 ⟨#[]⟩ ⟨#[]⟩ [] (.slice none 0 0) [] (.slice none 0 0)⟩
theorem open_row {H : Type} {enc : TypeId × Value → H} {W : World} {n : Nat}
    (ih : ∀ k, k < n → ∀ (cs : List Value) (x : DataW H × List MemPlace), DataW.trod enc Tryz.prog W 0 (fun _ => true) true k 31 cs = some x → (∀ m ∈ x.1.weights Tryz.prog 31, m ≤ reachBytes) → ∃ y : T, y.enc = cs ∧ y.ok W)
    {v : Value} {x : DataW H × List MemPlace} (h : DataW.trod enc Tryz.prog W 0 (fun _ => true) true n 29 [v] = some x) (hw : ∀ m ∈ x.1.weights Tryz.prog 29, m ≤ reachBytes) :
    ∃ l : List T, SlV W v l.length (T.encL l) ∧ (∀ y ∈ l, y.ok W) ∧ l.length * 96 ≤ 140737488355328 := by
  rcases DataW.trod_slice Tryz.underlying29 h with ⟨hcs, _⟩ | ⟨a, len, cap, elems, rest, k, hn, hcs, hx, _, hl, hm, hlen, hel, _, _⟩
  · obtain rfl : v = .slice none 0 0 := by simpa using hcs
    exact ⟨[], SlV.nil W, by simp, by simp⟩
  · obtain rfl : v = .slice (some a) len cap := by simpa using hcs
    have hb : Tryz.prog.bytesOf 31 = 96 := by kernel_rfl
    have hC : Tryz.prog.cellsOf 31 = 7 := by kernel_rfl
    rw [hx] at hw
    simp only [DataW.weights, Tryz.underlying29, hb, List.mem_cons, List.mem_append] at hw
    have h47 := reach47
    rw [hC] at hel
    obtain ⟨V, hV⟩ := choose_lt (α := T) (p := fun i y => y.ok W ∧ ∀ r, r < 7 → W.cell? (a.add (i * 7 + r)) = y.enc[r]?) (n := len) (fun i hi => by
      have he := hel i hi
      rw [List.getElem?_eq_getElem (by omega)] at he
      obtain ⟨cs', h1, h2⟩ := Option.bind_eq_some_iff.1 he
      obtain ⟨y, hy, hok⟩ := ih k (by omega) cs' _ h2 (fun m hm => hw m (.inr (.inl (weights_mem (List.mem_map_of_mem (f := (·.1)) (List.getElem_mem (by omega : i < elems.length))) m hm))))
      refine ⟨y, hok, fun r hr => ?_⟩
      have := (World.cells?_some h1).2.2 r hr
      rw [Mem.add_add] at this
      rw [this, hy])
    have hlen2 : ((List.range len).map V).length = len := by simp
    have hg : ∀ i (hi : i < ((List.range len).map V).length), ((List.range len).map V)[i] = V i := fun i hi => by simp
    refine ⟨(List.range len).map V, ⟨some a, cap, by rw [hlen2], by rw [hlen2]; exact hl, hm, by simp, fun h => ?_, fun b hb j hj => ?_⟩, fun y hy => ?_, ?_⟩
    · rw [hlen2] at h; subst h; rfl
    · cases hb
      rw [T.encL_len, hlen2] at hj
      have hq : j / 7 < len := by omega
      have := T.encL_get ((List.range len).map V) (j / 7) (by rw [hlen2]; exact hq) (j % 7) (by omega)
      rw [show j / 7 * 7 + j % 7 = j by omega, hg, List.getElem?_eq_getElem (by rw [T.encL_len, hlen2]; exact hj)] at this
      rw [this, ← (hV (j / 7) hq).2 (j % 7) (by omega), show j / 7 * 7 + j % 7 = j by omega]
    · obtain ⟨i, hi, rfl⟩ := List.mem_map.1 hy
      exact (hV i (List.mem_range.1 hi)).1
    · have := hw _ (.inl rfl)
      rw [List.length_map, hlen, Nat.add_mul] at this
      rw [hlen2]
      omega
theorem open_value {H : Type} {enc : TypeId × Value → H} {W : World} : ∀ (n : Nat) (cs : List Value) (x : DataW H × List MemPlace), DataW.trod enc Tryz.prog W 0 (fun _ => true) true n 31 cs = some x →
    (∀ m ∈ x.1.weights Tryz.prog 31, m ≤ reachBytes) → ∃ y : T, y.enc = cs ∧ y.ok W := by
  intro n
  induction n using Nat.strongRecOn with
  | _ n ih =>
    intro cs x h hw
    have hC : Tryz.prog.cellsOf 31 = 7 := by kernel_rfl
    obtain ⟨xs, k, hn, rfl, hlen, hxl, hf⟩ := DataW.trod_struct Tryz.underlying31 h
    rw [hC] at hlen
    simp only [DataW.weights, Tryz.underlying31] at hw
    match cs, hlen, xs, hxl with
    | [a0, a1, a2, a3, a4, a5, a6], _, [x0, x1, x2, x3, x4, x5, x6], _ =>
      have k0 : Tryz.prog.cellsOf 27 = 1 := by kernel_rfl
      have k1 : Tryz.prog.cellsOf 4 = 1 := by kernel_rfl
      have k2 : Tryz.prog.cellsOf 2 = 1 := by kernel_rfl
      have k3 : Tryz.prog.cellsOf 9 = 1 := by kernel_rfl
      have k5 : Tryz.prog.cellsOf 28 = 1 := by kernel_rfl
      have k6 : Tryz.prog.cellsOf 29 = 1 := by kernel_rfl
      have f0 : DataW.trod enc Tryz.prog W 0 (fun _ => true) true k 27 [a0] = some x0 := by simpa [k0] using hf 0 _ rfl
      have f1 : DataW.trod enc Tryz.prog W 0 (fun _ => true) true k 4 [a1] = some x1 := by simpa [k1] using hf 1 _ rfl
      have f2 : DataW.trod enc Tryz.prog W 0 (fun _ => true) true k 2 [a2] = some x2 := by simpa [k2] using hf 2 _ rfl
      have f3 : DataW.trod enc Tryz.prog W 0 (fun _ => true) true k 9 [a3] = some x3 := by simpa [k3] using hf 3 _ rfl
      have f4 : DataW.trod enc Tryz.prog W 0 (fun _ => true) true k 9 [a4] = some x4 := by simpa [k3] using hf 4 _ rfl
      have f5 : DataW.trod enc Tryz.prog W 0 (fun _ => true) true k 28 [a5] = some x5 := by simpa [k5] using hf 5 _ rfl
      have f6 : DataW.trod enc Tryz.prog W 0 (fun _ => true) true k 29 [a6] = some x6 := by simpa [k6] using hf 6 _ rfl
      simp only [List.map_cons, List.map_nil, DataW.weightsEach, List.mem_append] at hw
      obtain ⟨c0, e0, _, g0⟩ := DataW.trod_int Tryz.underlying27 f0
      obtain ⟨c1, e1, _⟩ := DataW.trod_bool Tryz.underlying4 f1
      obtain ⟨c2, e2, _, g2⟩ := DataW.trod_int Tryz.underlying2 f2
      obtain ⟨c3, e3, y3, _⟩ := DataW.trod_string Tryz.underlying9 f3
      obtain ⟨c4, e4, y4, _⟩ := DataW.trod_string Tryz.underlying9 f4
      obtain ⟨l5, hl5, hs5, hr5⟩ := open_names f5 (fun m hm => hw m (by simp [hm]))
      obtain ⟨l6, hl6, hs6, hr6⟩ := open_row (n := k) (fun j hj => ih j (by omega)) f6 (fun m hm => hw m (by simp [hm]))
      obtain rfl : a0 = .int .u8 c0 := by simpa using e0
      obtain rfl : a1 = .bool c1 := by simpa using e1
      obtain rfl : a2 = .int .i64 c2 := by simpa using e2
      obtain rfl : a3 = .string c3 := by simpa using e3
      obtain rfl : a4 = .string c4 := by simpa using e4
      have b0 := bounds_u8 g0
      have b2 := bounds_i64 g2
      have h47 := reach47
      have b3 := hw c3.size (by rw [y3, DataW.weights]; exact .inr (.inr (.inr (.inl (List.mem_singleton.2 (Array.length_toList ..).symm)))))
      have b4 := hw c4.size (by rw [y4, DataW.weights]; exact .inr (.inr (.inr (.inr (.inl (List.mem_singleton.2 (Array.length_toList ..).symm))))))
      refine ⟨.mk c0.toNat c1 c2 c3 c4 l5 a5 l6 a6, ?_, ?_⟩
      · show [Value.int .u8 ((c0.toNat : Nat) : Int), .bool c1, .int .i64 c2, .string c3, .string c4, a5, a6] = _
        rw [Int.toNat_of_nonneg b0.1]
      · exact T.ok.mk' ⟨⟨show c0.toNat < 256 by omega, hr5, hr6⟩, b2, show c3.size ≤ _ by omega, show c4.size ≤ _ by omega, hs5, hl5, hl6, hs6⟩
theorem open_valuev {H : Type} {enc : TypeId × Value → H} {W : World} {r : Reach} {b0 : Nat} {v : Value} {d : DataW H} {p : List MemPlace} (hv : Value.okWide Tryz.prog W r b0 31 v) (h : DataW.Trod enc Tryz.prog W 0 (fun _ => true) true 31 v d p)
    (hw : ∀ m ∈ d.weights Tryz.prog 31, m ≤ reachBytes) : ∃ y : T, v = y.val ∧ y.ok W ∧ True := by
  obtain ⟨cs, rfl, _⟩ := okWide_struct Tryz.underlying31 hv
  obtain ⟨n, hf⟩ := h
  obtain ⟨y, hy, hok⟩ := open_value n _ (d, p) hf hw
  refine ⟨y, ?_, hok, trivial⟩
  show Value.agg cs = .agg y.enc.toArray
  rw [hy]
  simp [Value.cells]
end Go.Proofs.YtklclfolmfhocaaGreatDoor.Val
