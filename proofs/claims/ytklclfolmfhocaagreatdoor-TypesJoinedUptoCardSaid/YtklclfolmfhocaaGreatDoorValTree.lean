/-
  api.Value: a tree of what a value holds, with the slices as they stand; what it means that it stands in a world.
-/
import Derived.Test.YtklclfolmfhocaaGreatDoorMem
import Derived.Handy
namespace Go.Proofs.YtklclfolmfhocaaGreatDoor.Val
open Go.ChangeShapes Go.WideShapes Go.ChangeAt Go.RowKit
open Go.Proofs.YtklclfolmfhocaaGreatDoor.Mem
set_option linter.unusedVariables false
/-- kind, bool, long, string, type, names and their slice, parts and their slice -/
inductive T where
  | mk (k : Nat) (b : Bool) (n : Int) (s t : ByteArray) (names : List ByteArray) (nv : Value) (list : List T) (lv : Value) : T
namespace T
def kind : T → Nat | .mk k _ _ _ _ _ _ _ _ => k
def bool : T → Bool | .mk _ b _ _ _ _ _ _ _ => b
def num : T → Int | .mk _ _ n _ _ _ _ _ _ => n
def str : T → ByteArray | .mk _ _ _ s _ _ _ _ _ => s
def typ : T → ByteArray | .mk _ _ _ _ t _ _ _ _ => t
def names : T → List ByteArray | .mk _ _ _ _ _ x _ _ _ => x
def nv : T → Value | .mk _ _ _ _ _ _ x _ _ => x
def list : T → List T | .mk _ _ _ _ _ _ _ x _ => x
def lv : T → Value | .mk _ _ _ _ _ _ _ _ x => x
def enc (x : T) : List Value := [.int .u8 (x.kind : Nat), .bool x.bool, .int .i64 x.num, .string x.str, .string x.typ, x.nv, x.lv]
def val (x : T) : Value := .agg x.enc.toArray
theorem enc_len (x : T) : x.enc.length = 7 := rfl
def encL (l : List T) : List Value := l.flatMap enc
theorem encL_len (l : List T) : (encL l).length = l.length * 7 := by
  induction l with
  | nil => rfl
  | cons x l ih => simp only [encL, List.flatMap_cons, List.length_append, enc_len, List.length_cons] at ih ⊢; omega
theorem encL_get (l : List T) : ∀ (i : Nat) (h : i < l.length) (j : Nat) (hj : j < 7), (encL l)[i * 7 + j]? = (l[i].enc)[j]? := by
  induction l with
  | nil => intro i h; simp at h
  | cons x l ih =>
    intro i h j hj
    cases i with
    | zero =>
      simp only [encL, List.flatMap_cons, Nat.zero_mul, Nat.zero_add, List.getElem_cons_zero]
      rw [List.getElem?_append_left (by rw [enc_len]; exact hj)]
    | succ i =>
      simp only [encL, List.flatMap_cons, List.getElem_cons_succ]
      rw [List.getElem?_append_right (by rw [enc_len]; omega), enc_len, ← ih i (by simpa using h) j hj]
      congr 1
      omega
mutual
def size : T → Nat
  | .mk _ _ _ _ _ _ _ list _ => sizeL list + 1
def sizeL : List T → Nat
  | [] => 0
  | x :: r => x.size + sizeL r
end
theorem size_pos (x : T) : 0 < x.size := by cases x; simp [size]
theorem sizeL_mem {l : List T} {x : T} (h : x ∈ l) : x.size ≤ sizeL l := by
  induction l with
  | nil => cases h
  | cons y l ih =>
    rcases List.mem_cons.1 h with rfl | h
    · simp [sizeL]
    · have := ih h; simp [sizeL]; omega
theorem size_list (x : T) : x.size = sizeL x.list + 1 := by cases x; simp [size, list]
theorem size_part {x y : T} (h : y ∈ x.list) : y.size < x.size := by
  have := sizeL_mem h
  rw [size_list x]; omega
mutual
/-- it stands so in the world -/
def ok (w : World) : T → Prop
  | .mk k _ n s t names nv list lv => (k < 256 ∧ names.length * 16 ≤ 140737488355328 ∧ list.length * 96 ≤ 140737488355328) ∧ (-9223372036854775808 ≤ n ∧ n ≤ 9223372036854775807) ∧ s.size ≤ 140737488355328 ∧ t.size ≤ 140737488355328 ∧ (∀ x ∈ names, x.size ≤ 140737488355328) ∧ StrsV w nv names ∧ SlV w lv list.length (encL list) ∧ okL w list
def okL (w : World) : List T → Prop
  | [] => True
  | x :: r => x.ok w ∧ okL w r
end
theorem okL_iff {w : World} {l : List T} : okL w l ↔ ∀ x ∈ l, x.ok w := by
  induction l with
  | nil => simp [okL]
  | cons x l ih => simp [okL, ih]
theorem ok.parts {w : World} {x : T} (h : x.ok w) : (x.kind < 256 ∧ x.names.length * 16 ≤ 140737488355328 ∧ x.list.length * 96 ≤ 140737488355328) ∧ (-9223372036854775808 ≤ x.num ∧ x.num ≤ 9223372036854775807) ∧ x.str.size ≤ 140737488355328 ∧ x.typ.size ≤ 140737488355328 ∧ (∀ y ∈ x.names, y.size ≤ 140737488355328) ∧ StrsV w x.nv x.names ∧ SlV w x.lv x.list.length (encL x.list) ∧ ∀ y ∈ x.list, y.ok w := by
  cases x
  simp only [ok, okL_iff] at h
  exact h
theorem ok.mk' {w : World} {x : T} (h : (x.kind < 256 ∧ x.names.length * 16 ≤ 140737488355328 ∧ x.list.length * 96 ≤ 140737488355328) ∧ (-9223372036854775808 ≤ x.num ∧ x.num ≤ 9223372036854775807) ∧ x.str.size ≤ 140737488355328 ∧ x.typ.size ≤ 140737488355328 ∧ (∀ y ∈ x.names, y.size ≤ 140737488355328) ∧ StrsV w x.nv x.names ∧ SlV w x.lv x.list.length (encL x.list) ∧ ∀ y ∈ x.list, y.ok w) : x.ok w := by
  cases x
  simp only [ok, okL_iff]
  exact h
theorem ok.below {w w' : World} (hb : Below w.heap.size w w') : ∀ {x : T}, x.ok w → x.ok w' := by
  suffices h : ∀ n (x : T), x.size ≤ n → x.ok w → x.ok w' from fun {x} => h x.size x (Nat.le_refl _)
  intro n
  induction n with
  | zero => intro x hx; have := x.size_pos; omega
  | succ n ih =>
    intro x hx h
    obtain ⟨h1, h2, h3, h4, h5, h6, h7, h8⟩ := h.parts
    exact ok.mk' ⟨h1, h2, h3, h4, h5, h6.below hb, h7.below hb, fun y hy => ih y (by have := size_part hy; omega) (h8 y hy)⟩
/-- the cells of the parts -/
theorem ok.open {w : World} {x : T} (h : x.ok w) (hc : 0 < x.list.length) :
    ∃ b off cap, x.lv = .slice (some ⟨b, off, none⟩) x.list.length cap ∧ x.list.length ≤ cap ∧ cap ≤ maxLen ∧ b < w.heap.size ∧
      ∀ i (hi : i < x.list.length), ∀ j, j < 7 → w.cell? ⟨b, off + i * 7 + j, none⟩ = (x.list[i].enc)[j]? := by
  obtain ⟨b, off, cap, h1, h2, h3, h4, h5⟩ := SlV.open h.parts.2.2.2.2.2.2.1 (by rw [encL_len]; omega)
  refine ⟨b, off, cap, h1, h2, h3, h4, fun i hi j hj => ?_⟩
  have hl : i * 7 + j < (encL x.list).length := by rw [encL_len]; omega
  rw [Nat.add_assoc, h5 _ hl, ← encL_get x.list i hi j hj, List.getElem?_eq_getElem hl]
/-- its two slices, as they stand -/
theorem ok.forms {w : World} {x : T} (h : x.ok w) : ∃ no nc lo lc, x.nv = .slice no x.names.length nc ∧ x.lv = .slice lo x.list.length lc ∧ x.names.length ≤ 9223372036854775807 ∧ x.list.length ≤ 9223372036854775807 := by
  obtain ⟨no, nc, e1, _⟩ := h.parts.2.2.2.2.2.1.form
  obtain ⟨lo, lc, e2, _⟩ := h.parts.2.2.2.2.2.2.1.form
  have l1 := SlV.len h.parts.2.2.2.2.2.1
  have l2 := SlV.len h.parts.2.2.2.2.2.2.1
  unfold maxLen at l1 l2
  exact ⟨no, nc, lo, lc, e1, e2, by omega, by omega⟩
theorem ok.name {w : World} {x : T} (h : x.ok w) {no : Option Addr} {nc : Nat} (e : x.nv = .slice no x.names.length nc) (i : Nat) (hi : i < x.names.length) :
    ∃ b off, no = some ⟨b, off, none⟩ ∧ w.cell? ⟨b, off + i, none⟩ = some (.string x.names[i]) := by
  obtain ⟨b, off, cap, h1, h2, h3, h4, h5⟩ := StrsV.open h.parts.2.2.2.2.2.1 (by omega)
  rw [h1] at e
  simp only [Value.slice.injEq] at e
  exact ⟨b, off, e.1.symm, h5 i hi⟩
theorem ok.part {w : World} {x : T} (h : x.ok w) {lo : Option Addr} {lc : Nat} (e : x.lv = .slice lo x.list.length lc) (i : Nat) (hi : i < x.list.length) :
    ∃ b off, lo = some ⟨b, off, none⟩ ∧ ∀ j, j < 7 → w.cell? ⟨b, off + i * 7 + j, none⟩ = (x.list[i].enc)[j]? := by
  obtain ⟨b, off, cap, h1, h2, h3, h4, h5⟩ := h.open (by omega)
  rw [h1] at e
  simp only [Value.slice.injEq] at e
  exact ⟨b, off, e.1.symm, fun j hj => h5 i hi j hj⟩
theorem ok.part7 {w : World} {x : T} (h : x.ok w) {lo : Option Addr} {lc : Nat} (e : x.lv = .slice lo x.list.length lc) (i : Nat) (hi : i < x.list.length) :
    ∃ b off, lo = some ⟨b, off, none⟩ ∧ w.cell? ⟨b, off + i * 7, none⟩ = some (.int .u8 (x.list[i].kind : Nat)) ∧ w.cell? ⟨b, off + i * 7 + 1, none⟩ = some (.bool x.list[i].bool) ∧ w.cell? ⟨b, off + i * 7 + 2, none⟩ = some (.int .i64 x.list[i].num) ∧ w.cell? ⟨b, off + i * 7 + 3, none⟩ = some (.string x.list[i].str) ∧
      w.cell? ⟨b, off + i * 7 + 4, none⟩ = some (.string x.list[i].typ) ∧ w.cell? ⟨b, off + i * 7 + 5, none⟩ = some x.list[i].nv ∧ w.cell? ⟨b, off + i * 7 + 6, none⟩ = some x.list[i].lv := by
  obtain ⟨b, off, e1, h1⟩ := h.part e i hi
  exact ⟨b, off, e1, h1 0 (by omega), h1 1 (by omega), h1 2 (by omega), h1 3 (by omega), h1 4 (by omega), h1 5 (by omega), h1 6 (by omega)⟩
end T
theorem seven {w : World} {b : Nat} {v0 v1 v2 v3 v4 v5 v6 : Value} {t : TypeId} (h : Blk w b [v0, v1, v2, v3, v4, v5, v6] t) :
    w.cell? ⟨b, 0, none⟩ = some v0 ∧ w.cell? ⟨b, 1, none⟩ = some v1 ∧ w.cell? ⟨b, 2, none⟩ = some v2 ∧ w.cell? ⟨b, 3, none⟩ = some v3 ∧ w.cell? ⟨b, 4, none⟩ = some v4 ∧ w.cell? ⟨b, 5, none⟩ = some v5 ∧ w.cell? ⟨b, 6, none⟩ = some v6 ∧ ∀ o, w.frozen? ⟨b, o, none⟩ = false :=
  ⟨h.cell 0 (by simp), h.cell 1 (by simp), h.cell 2 (by simp), h.cell 3 (by simp), h.cell 4 (by simp), h.cell 5 (by simp), h.cell 6 (by simp), fun o => by simp [World.frozen?, h.at']⟩
end Go.Proofs.YtklclfolmfhocaaGreatDoor.Val
