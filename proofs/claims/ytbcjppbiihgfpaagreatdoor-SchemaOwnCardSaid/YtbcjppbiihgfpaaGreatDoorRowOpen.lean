/-
  A slice of structs opened, whatever its elements are: rows that are read. (A reading's weights bound its length, its bulk bounds the sum of the elements' bulks.)
-/
import Derived.Test.YtbcjppbiihgfpaaGreatDoorMem
import Derived.Test.YtbcjppbiihgfpaaGreatDoorRows
import Derived.SliceStrings
import Derived.Deep.Slices
import Derived.Lib.SmallJoins
import Derived.SizedLaws
import Derived.WalkKit
namespace Go.Proofs.YtbcjppbiihgfpaaGreatDoor.Row
open Go.ChangeShapes Go.WideShapes Go.ChangeAt Go.RowKit Go.Joins Go.Deep
open Go.Proofs.YtbcjppbiihgfpaaGreatDoor.Mem
set_option linter.unusedVariables false
set_option linter.unusedSimpArgs false
set_option maxRecDepth 100000
theorem weights_mem {H : Type} {P : Program} {t : TypeId} {d : DataW H} : ∀ {l : List (DataW H)}, d ∈ l → ∀ m ∈ d.weights P t, m ∈ DataW.weightsAll P t l := by
  intro l
  induction l with
  | nil => intro h; cases h
  | cons x l ih =>
    intro h m hm
    rw [DataW.weightsAll, List.mem_append]
    rcases List.mem_cons.1 h with rfl | h
    · exact .inl hm
    · exact .inr (ih h m hm)
theorem reach47 : reachBytes ≤ 140737488355328 := by decide
theorem flat_len {α : Type} (f : α → List Value) (C : Nat) (hL : ∀ y, (f y).length = C) (l : List α) : (l.flatMap f).length = l.length * C := by
  induction l with
  | nil => simp
  | cons x l ih => rw [List.flatMap_cons, List.length_append, ih, hL, List.length_cons, Nat.add_mul]; omega
theorem flat_get {α : Type} (f : α → List Value) (C : Nat) (hL : ∀ y, (f y).length = C) (l : List α) : ∀ (i : Nat) (h : i < l.length) (j : Nat) (hj : j < C), (l.flatMap f)[i * C + j]? = (f l[i])[j]? := by
  induction l with
  | nil => intro i h; simp at h
  | cons x l ih =>
    intro i h j hj
    cases i with
    | zero =>
      rw [List.flatMap_cons, Nat.zero_mul, Nat.zero_add, List.getElem?_append_left (by rw [hL]; exact hj)]
      rfl
    | succ i =>
      rw [List.flatMap_cons, List.getElem?_append_right (by rw [hL, Nat.add_mul]; omega), hL, show (i + 1) * C + j - C = i * C + j by rw [Nat.add_mul]; omega, ih i (by simpa using h) j hj]
      rfl
theorem sum_bulk {α H : Type} (b : α → Nat) : ∀ (l : List α) (ds : List (DataW H)), l.length = ds.length → (∀ i (h1 : i < l.length) (h2 : i < ds.length), b l[i] ≤ Rows.uptoBulk ds[i]) → (l.map b).sum ≤ Rows.uptoBulkAll ds := by
  intro l
  induction l with
  | nil => intro ds _ _; simp
  | cons y l ih =>
    intro ds hl h
    match ds, hl with
    | d :: ds, hl =>
      have h0 := h 0 (by simp) (by simp)
      have h1 := ih ds (by simpa using hl) (fun i h1 h2 => by have := h (i + 1) (by simpa using h1) (by simpa using h2); simpa using this)
      simp only [List.getElem_cons_zero] at h0
      simp only [List.map_cons, List.sum_cons, Rows.uptoBulkAll]
      omega
def Opens {α H : Type} (enc : TypeId × Value → H) (W : World) (te : TypeId) (f : α → List Value) (ok : α → Prop) (b : α → Nat) (k : Nat) : Prop :=
  ∀ (cs : List Value) (x : DataW H × List MemPlace), DataW.trod enc Tryz.prog W 0 (fun _ => true) true k te cs = some x → (∀ m ∈ x.1.weights Tryz.prog te, m ≤ reachBytes) → ∃ y : α, f y = cs ∧ ok y ∧ b y ≤ Rows.uptoBulk x.1
theorem open_row {α H : Type} [Inhabited α] {enc : TypeId × Value → H} {W : World} {n : Nat} (t te : TypeId) (C B : Nat) (hC0 : 0 < C) (ht : Tryz.prog.underlying t = some (.slice te)) (hC : Tryz.prog.cellsOf te = C) (hB : Tryz.prog.bytesOf te = B)
    (f : α → List Value) (hL : ∀ y, (f y).length = C) (ok : α → Prop) (b : α → Nat) (ih : ∀ k, k < n → Opens enc W te f ok b k)
    {v : Value} {x : DataW H × List MemPlace} (h : DataW.trod enc Tryz.prog W 0 (fun _ => true) true n t [v] = some x) (hw : ∀ m ∈ x.1.weights Tryz.prog t, m ≤ reachBytes) :
    ∃ l : List α, SlV W v l.length (l.flatMap f) ∧ (∀ y ∈ l, ok y) ∧ l.length * B ≤ 140737488355328 ∧ (l.map b).sum + 1 ≤ Rows.uptoBulk x.1 := by
  rcases DataW.trod_slice ht h with ⟨hcs, hx⟩ | ⟨a, len, cap, elems, rest, k, hn, hcs, hx, _, hl, hm, hlen, hel, _, _⟩
  · obtain rfl : v = .slice none 0 0 := by simpa using hcs
    refine ⟨[], SlV.nil W, by simp, by simp, ?_⟩
    simp only [hx, Rows.uptoBulk]
    simp
  · obtain rfl : v = .slice (some a) len cap := by simpa using hcs
    have hx' := hx
    rw [hx] at hw
    simp only [DataW.weights, ht, hB, List.mem_cons, List.mem_append] at hw
    have h47 := reach47
    rw [hC] at hel
    obtain ⟨V, hV⟩ := choose_lt (α := α) (p := fun i y => (ok y ∧ ∀ (h : i < elems.length), b y ≤ Rows.uptoBulk elems[i].1) ∧ ∀ r, r < C → W.cell? (a.add (i * C + r)) = (f y)[r]?) (n := len) (fun i hi => by
      have he := hel i hi
      rw [List.getElem?_eq_getElem (by omega)] at he
      obtain ⟨cs', h1, h2⟩ := Option.bind_eq_some_iff.1 he
      obtain ⟨y, hy, hok, hsz⟩ := ih k (by omega) cs' _ h2 (fun m hm => hw m (.inr (.inl (weights_mem (List.mem_map_of_mem (f := (·.1)) (List.getElem_mem (by omega : i < elems.length))) m hm))))
      refine ⟨y, ⟨hok, fun _ => hsz⟩, fun r hr => ?_⟩
      have := (World.cells?_some h1).2.2 r hr
      rw [Mem.add_add] at this
      rw [this, hy])
    have hlen2 : ((List.range len).map V).length = len := by simp
    have hg : ∀ i (hi : i < ((List.range len).map V).length), ((List.range len).map V)[i] = V i := fun i hi => by simp
    have hfl := flat_len f C hL ((List.range len).map V)
    refine ⟨(List.range len).map V, ⟨some a, cap, by rw [hlen2], by rw [hlen2]; exact hl, hm, by simp, fun h => ?_, fun b' hb j hj => ?_⟩, fun y hy => ?_, ?_, ?_⟩
    · rw [hlen2] at h; subst h; rfl
    · cases hb
      rw [hfl, hlen2] at hj
      have hq : j / C < len := Nat.div_lt_of_lt_mul (by rw [Nat.mul_comm]; exact hj)
      have hr : j % C < C := Nat.mod_lt _ hC0
      have hj2 : j / C * C + j % C = j := by rw [Nat.mul_comm]; exact Nat.div_add_mod j C
      have := flat_get f C hL ((List.range len).map V) (j / C) (by rw [hlen2]; exact hq) (j % C) hr
      rw [hj2, hg, List.getElem?_eq_getElem (by rw [hfl, hlen2]; exact hj)] at this
      rw [this, ← (hV (j / C) hq).2 (j % C) hr, hj2]
    · obtain ⟨i, hi, rfl⟩ := List.mem_map.1 hy
      exact (hV i (List.mem_range.1 hi)).1.1
    · have := hw _ (.inl rfl)
      rw [List.length_map, hlen, Nat.add_mul] at this
      rw [hlen2]
      omega
    · rw [hx']
      simp only [Rows.uptoBulk]
      have := sum_bulk (H := H) b ((List.range len).map V) ((elems.take len).map (·.1)) (by rw [hlen2, List.length_map, List.length_take]; omega) (fun i h1 h2 => by
        rw [hg]
        have hi : i < len := by rw [hlen2] at h1; exact h1
        rw [List.getElem_map, List.getElem_take]
        exact (hV i hi).1.2 (by omega))
      have he : elems.take len = elems := List.take_of_length_le (by omega)
      rw [he] at this
      omega
end Go.Proofs.YtbcjppbiihgfpaaGreatDoor.Row
