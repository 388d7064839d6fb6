/-
  The cells of a listed variable whose datum is made of integers, strings, arrays and structs of one-cell fields. No walk.
-/
import Derived.Test.YtklclfolmfhocaaGreatDoorEvOrc
import Derived.Lib.LaidU8
namespace Go.Proofs.YtklclfolmfhocaaGreatDoor.Ev
open Go.Lib
set_option linter.unusedVariables false
set_option linter.unusedSimpArgs false
/-- what reads as d holds these cells -/
def Fl (P : Program) (W : World) (t : TypeId) (d : DataW Unit) (cs : List Value) : Prop :=
  ∀ fuel vs p, DataW.trod (fun _ => ()) P W 0 (fun _ => true) false fuel t vs = some (d, p) → vs = cs
theorem Fl.int {P : Program} {W : World} {t : TypeId} {k : IntKind} (h : P.underlying t = some (.int k)) (z : Int) : Fl P W t (.lit (.int k z)) [.int k z] := fun fuel vs p e => by
  obtain ⟨n, rfl, hx, _⟩ := DataW.trod_int h e
  cases hx
  rfl
theorem Fl.str {P : Program} {W : World} {t : TypeId} (h : P.underlying t = some .string) (l : List UInt8) : Fl P W t (.lit (.string l)) [.string ⟨l.toArray⟩] := fun fuel vs p e => by
  obtain ⟨s, rfl, hx, _⟩ := DataW.trod_string h e
  cases hx
  rfl
theorem Fl.struct {P : Program} {W : World} {t : TypeId} {fs : Array Field} (h : P.underlying t = some (.struct fs)) (hc : P.cellsOf t = fs.size) {ds : List (DataW Unit)} {cs : List Value} (hl : cs.length = fs.size)
    (hf : ∀ (i : Nat) (f : Field), fs[i]? = some f → f.offset = i ∧ P.cellsOf f.type = 1 ∧ ∃ d v, ds[i]? = some d ∧ cs[i]? = some v ∧ Fl P W f.type d [v]) : Fl P W t (.agg ds) cs := fun fuel vs p e => by
  obtain ⟨xs, n, rfl, hx, hlen, hxl, hall⟩ := DataW.trod_struct h e
  have hxs : xs.map (·.1) = ds := by
    have := congrArg Prod.fst hx
    simpa using this.symm
  apply List.ext_getElem?
  intro i
  by_cases hi : i < fs.size
  · obtain ⟨ho, hco, d, v, h1, h2, h3⟩ := hf i fs[i] (by simp [hi])
    have h4 := hall i fs[i] (by simp [hi])
    obtain ⟨b, hb⟩ : ∃ b, xs[i]? = some b := ⟨xs[i]'(by omega), List.getElem?_eq_getElem (by omega)⟩
    have h5 : b.1 = d := by
      rw [← hxs, List.getElem?_map, hb] at h1
      exact Option.some.inj h1
    rw [hb, ho, hco] at h4
    have h6 := h3 _ _ b.2 (by rw [← h5]; exact h4)
    have := congrArg (·[0]?) h6
    rw [h2]
    simpa [List.getElem?_take, List.getElem?_drop] using this
  · rw [List.getElem?_eq_none (by omega), List.getElem?_eq_none (by omega)]
theorem flatMap_at {α : Type} (g : α → List Value) (k : Nat) : ∀ (L : List α), (∀ x ∈ L, (g x).length = k) → ∀ i x, L[i]? = some x → ((L.flatMap g).drop (i * k)).take k = g x
  | [], _, i, x, h => by simp at h
  | y :: L, hl, 0, x, h => by
    cases h
    rw [Nat.zero_mul, List.drop_zero, List.flatMap_cons, List.take_append_of_le_length (by rw [hl y (by simp)]; exact Nat.le_refl _), ← hl y (by simp), List.take_length]
  | y :: L, hl, i + 1, x, h => by
    have hy := hl y (by simp)
    rw [List.flatMap_cons, List.drop_append, List.drop_eq_nil_of_le (by rw [hy, Nat.add_mul]; omega), List.nil_append, hy, show (i + 1) * k - k = i * k from by rw [Nat.add_mul]; omega]
    exact flatMap_at g k L (fun z hz => hl z (by simp [hz])) i x h
theorem flatMap_len {α : Type} (g : α → List Value) (k : Nat) : ∀ (L : List α), (∀ x ∈ L, (g x).length = k) → (L.flatMap g).length = L.length * k
  | [], _ => by simp
  | y :: L, hl => by
    rw [List.flatMap_cons, List.length_append, hl y (by simp), flatMap_len g k L (fun z hz => hl z (by simp [hz])), List.length_cons, Nat.add_mul]
    omega
theorem trod_array_len {P : Program} {W : World} {t el : TypeId} {n : Nat} (h : P.underlying t = some (.array n el)) {fuel : Nat} {vs : List Value} {d : DataW Unit} {p : List MemPlace} (e : DataW.trod (fun _ => ()) P W 0 (fun _ => true) false fuel t vs = some (d, p)) : vs.length = P.cellsOf t := by
  cases fuel with
  | zero => simp [DataW.trod] at e
  | succ fuel =>
    simp only [DataW.trod, h] at e
    split at e
    · rename_i hl; simpa using hl
    · cases e
theorem Fl.array {P : Program} {W : World} {t el : TypeId} {n k : Nat} (h : P.underlying t = some (.array n el)) (hk : P.cellsOf el = k) (hk0 : 0 < k) (hc : P.cellsOf t = n * k) {α : Type} {L : List α} {f : α → DataW Unit} {g : α → List Value}
    (hl : L.length = n) (hf : ∀ x ∈ L, (g x).length = k ∧ Fl P W el (f x) (g x)) : Fl P W t (.agg (L.map f)) (L.flatMap g) := fun fuel vs p e => by
  have hlen := trod_array_len h e
  have hg := flatMap_len g k L (fun x hx => (hf x hx).1)
  have hel : ∀ i, i < n → (vs.drop (i * k)).take k = ((L.flatMap g).drop (i * k)).take k := fun i hi => by
    obtain ⟨fuel', d, q, hd, hq⟩ := array_elem h e i hi
    rw [hk] at hq
    obtain ⟨x, hx⟩ : ∃ x, L[i]? = some x := ⟨L[i]'(by omega), List.getElem?_eq_getElem (by omega)⟩
    rw [List.getElem?_map, hx] at hd
    cases hd
    rw [flatMap_at g k L (fun x hx => (hf x hx).1) i x hx]
    exact (hf x (List.mem_of_getElem? hx)).2 _ _ _ hq
  apply List.ext_getElem?
  intro j
  by_cases hj : j < n * k
  · have hi : j / k < n := Nat.div_lt_of_lt_mul (by rw [Nat.mul_comm]; exact hj)
    have hr : j % k < k := Nat.mod_lt _ hk0
    have := congrArg (·[j % k]?) (hel (j / k) hi)
    simp only [List.getElem?_take, List.getElem?_drop, if_pos hr] at this
    have e2 : j / k * k + j % k = j := by rw [Nat.mul_comm]; exact Nat.div_add_mod j k
    rwa [e2] at this
  · rw [List.getElem?_eq_none (by omega), List.getElem?_eq_none (by rw [hg, hl]; omega)]
theorem Fl.cells {P : Program} {W : World} {name : String} {d : DataW Unit} {cs : List Value} {g : Nat} {t : TypeId} (hn : P.globalNamed name = some g) (hy : (P.globals[g]?).map (·.type) = some t) (h : VarReads P W name d) (hf : Fl P W t d cs) :
    ∀ j (hj : j < cs.length), W.cell? ⟨g, j, none⟩ = some cs[j] := by
  obtain ⟨g', t', vs, fuel, p, h1, h2, h3, h4⟩ := h
  obtain rfl := Option.some.inj (h1.symm.trans hn)
  obtain rfl := Option.some.inj (h2.symm.trans hy)
  have := hf _ _ _ h4
  intro j hj
  rw [World.var?_cell h1 h3 j, ← Array.getElem?_toList, this, List.getElem?_eq_getElem hj]
end Go.Proofs.YtklclfolmfhocaaGreatDoor.Ev
