/-
  api.Type: a tree of what a type holds, with the slices as they stand; what it means that it stands in a world.
-/
import Derived.Test.YtklclfolmfhocaaGreatDoorMem
import Derived.Handy
namespace Go.Proofs.YtklclfolmfhocaaGreatDoor.Tyt
open Go.ChangeShapes Go.WideShapes Go.ChangeAt Go.RowKit
open Go.Proofs.YtklclfolmfhocaaGreatDoor.Mem
set_option linter.unusedVariables false
/-- kind, name, the part of a set and its slice, the attributes' names, their types, their slice -/
inductive Ty where
  | mk (k : Nat) (nm : ByteArray) (of : List Ty) (ov : Value) (an : List ByteArray) (att : List Ty) (av : Value) : Ty
namespace Ty
def kind : Ty → Nat | .mk k _ _ _ _ _ _ => k
def name : Ty → ByteArray | .mk _ x _ _ _ _ _ => x
def of : Ty → List Ty | .mk _ _ x _ _ _ _ => x
def ov : Ty → Value | .mk _ _ _ x _ _ _ => x
def an : Ty → List ByteArray | .mk _ _ _ _ x _ _ => x
def att : Ty → List Ty | .mk _ _ _ _ _ x _ => x
def av : Ty → Value | .mk _ _ _ _ _ _ x => x
def enc (x : Ty) : List Value := [.int .u8 (x.kind : Nat), .string x.name, x.ov, x.av]
def val (x : Ty) : Value := .agg x.enc.toArray
theorem enc_len (x : Ty) : x.enc.length = 4 := rfl
def encL (l : List Ty) : List Value := l.flatMap enc
theorem encL_len (l : List Ty) : (encL l).length = l.length * 4 := by
  induction l with
  | nil => rfl
  | cons x l ih => simp only [encL, List.flatMap_cons, List.length_append, enc_len, List.length_cons] at ih ⊢; omega
theorem encL_get (l : List Ty) : ∀ (i : Nat) (h : i < l.length) (j : Nat) (hj : j < 4), (encL l)[i * 4 + j]? = (l[i].enc)[j]? := by
  induction l with
  | nil => intro i h; simp at h
  | cons x l ih =>
    intro i h j hj
    cases i with
    | zero =>
      simp only [encL, List.flatMap_cons, Nat.zero_mul, Nat.zero_add, List.getElem_cons_zero]
      rw [List.getElem?_append_left (by rw [enc_len]; exact hj)]
    | succ i =>
      simp only [encL, List.flatMap_cons, List.getElem_cons_succ]
      rw [List.getElem?_append_right (by rw [enc_len]; omega), enc_len, ← ih i (by simpa using h) j hj]
      congr 1
      omega
/-- an attribute's cells -/
def encP (s : ByteArray) (x : Ty) : List Value := .string s :: x.enc
def encA : List ByteArray → List Ty → List Value
  | s :: an, x :: l => encP s x ++ encA an l
  | _, _ => []
theorem encA_len : ∀ (an : List ByteArray) (l : List Ty), an.length = l.length → (encA an l).length = l.length * 5 := by
  intro an
  induction an with
  | nil => intro l h; cases l with | nil => rfl | cons x l => simp at h
  | cons s an ih =>
    intro l h
    cases l with
    | nil => simp at h
    | cons x l =>
      have := ih l (by simpa using h)
      simp only [encA, encP, List.length_append, List.length_cons, enc_len, this]
      omega
theorem encA_get : ∀ (an : List ByteArray) (l : List Ty) (hl : an.length = l.length) (i : Nat) (h : i < l.length) (j : Nat) (hj : j < 5), (encA an l)[i * 5 + j]? = (encP (an[i]'(by omega)) l[i])[j]? := by
  intro an
  induction an with
  | nil => intro l hl i h; simp at hl; omega
  | cons s an ih =>
    intro l hl i h j hj
    cases l with
    | nil => simp at h
    | cons x l =>
      cases i with
      | zero =>
        simp only [encA, Nat.zero_mul, Nat.zero_add, List.getElem_cons_zero]
        rw [List.getElem?_append_left (by simp [encP, enc_len]; omega)]
      | succ i =>
        simp only [encA, List.getElem_cons_succ]
        rw [List.getElem?_append_right (by simp [encP, enc_len]; omega), ← ih l (by simpa using hl) i (by simpa using h) j hj]
        congr 1
        simp [encP, enc_len]
        omega
mutual
def size : Ty → Nat
  | .mk _ _ of _ _ att _ => sizeL of + sizeL att + 1
def sizeL : List Ty → Nat
  | [] => 0
  | x :: r => x.size + sizeL r
end
theorem size_pos (x : Ty) : 0 < x.size := by cases x; simp [size]
theorem sizeL_mem {l : List Ty} {x : Ty} (h : x ∈ l) : x.size ≤ sizeL l := by
  induction l with
  | nil => cases h
  | cons y l ih =>
    rcases List.mem_cons.1 h with rfl | h
    · simp [sizeL]
    · have := ih h; simp [sizeL]; omega
theorem size_eq (x : Ty) : x.size = sizeL x.of + sizeL x.att + 1 := by cases x; simp [size, of, att]
theorem size_of {x y : Ty} (h : y ∈ x.of) : y.size < x.size := by have := sizeL_mem h; rw [size_eq x]; omega
theorem size_att {x y : Ty} (h : y ∈ x.att) : y.size < x.size := by have := sizeL_mem h; rw [size_eq x]; omega
mutual
/-- it stands so in the world -/
def ok (w : World) : Ty → Prop
  | .mk k nm of ov an att av => k < 256 ∧ nm.size ≤ 140737488355328 ∧ (∀ x ∈ an, x.size ≤ 140737488355328) ∧ an.length = att.length ∧ SlV w ov of.length (encL of) ∧ SlV w av att.length (encA an att) ∧ okL w of ∧ okL w att
def okL (w : World) : List Ty → Prop
  | [] => True
  | x :: r => x.ok w ∧ okL w r
end
theorem okL_iff {w : World} {l : List Ty} : okL w l ↔ ∀ x ∈ l, x.ok w := by
  induction l with
  | nil => simp [okL]
  | cons x l ih => simp [okL, ih]
theorem ok.parts {w : World} {x : Ty} (h : x.ok w) : x.kind < 256 ∧ x.name.size ≤ 140737488355328 ∧ (∀ y ∈ x.an, y.size ≤ 140737488355328) ∧ x.an.length = x.att.length ∧ SlV w x.ov x.of.length (encL x.of) ∧ SlV w x.av x.att.length (encA x.an x.att) ∧ (∀ y ∈ x.of, y.ok w) ∧ ∀ y ∈ x.att, y.ok w := by
  cases x
  simp only [ok, okL_iff] at h
  exact h
theorem ok.mk' {w : World} {x : Ty} (h : x.kind < 256 ∧ x.name.size ≤ 140737488355328 ∧ (∀ y ∈ x.an, y.size ≤ 140737488355328) ∧ x.an.length = x.att.length ∧ SlV w x.ov x.of.length (encL x.of) ∧ SlV w x.av x.att.length (encA x.an x.att) ∧ (∀ y ∈ x.of, y.ok w) ∧ ∀ y ∈ x.att, y.ok w) : x.ok w := by
  cases x
  simp only [ok, okL_iff]
  exact h
theorem ok.below {w w' : World} (hb : Below w.heap.size w w') : ∀ {x : Ty}, x.ok w → x.ok w' := by
  suffices h : ∀ n (x : Ty), x.size ≤ n → x.ok w → x.ok w' from fun {x} => h x.size x (Nat.le_refl _)
  intro n
  induction n with
  | zero => intro x hx; have := x.size_pos; omega
  | succ n ih =>
    intro x hx h
    obtain ⟨h1, h2, h3, h4, h5, h6, h7, h8⟩ := h.parts
    exact ok.mk' ⟨h1, h2, h3, h4, h5.below hb, h6.below hb, fun y hy => ih y (by have := size_of hy; omega) (h7 y hy), fun y hy => ih y (by have := size_att hy; omega) (h8 y hy)⟩
/-- its two slices, as they stand -/
theorem ok.forms {w : World} {x : Ty} (h : x.ok w) : ∃ oo oc ao ac, x.ov = .slice oo x.of.length oc ∧ x.av = .slice ao x.att.length ac ∧ x.of.length ≤ 9223372036854775807 ∧ x.att.length ≤ 9223372036854775807 := by
  obtain ⟨oo, oc, e1, _⟩ := h.parts.2.2.2.2.1.form
  obtain ⟨ao, ac, e2, _⟩ := h.parts.2.2.2.2.2.1.form
  have l1 := SlV.len h.parts.2.2.2.2.1
  have l2 := SlV.len h.parts.2.2.2.2.2.1
  unfold maxLen at l1 l2
  exact ⟨oo, oc, ao, ac, e1, e2, by omega, by omega⟩
theorem ok.part {w : World} {x : Ty} (h : x.ok w) {oo : Option Addr} {oc : Nat} (e : x.ov = .slice oo x.of.length oc) (i : Nat) (hi : i < x.of.length) :
    ∃ b off, oo = some ⟨b, off, none⟩ ∧ w.cell? ⟨b, off + i * 4, none⟩ = some (.int .u8 (x.of[i].kind : Nat)) ∧ w.cell? ⟨b, off + i * 4 + 1, none⟩ = some (.string x.of[i].name) ∧ w.cell? ⟨b, off + i * 4 + 2, none⟩ = some x.of[i].ov ∧ w.cell? ⟨b, off + i * 4 + 3, none⟩ = some x.of[i].av := by
  obtain ⟨b, off, cap, h1, h2, h3, h4, h5⟩ := SlV.open h.parts.2.2.2.2.1 (by rw [encL_len]; omega)
  rw [h1] at e
  simp only [Value.slice.injEq] at e
  have key : ∀ j, j < 4 → w.cell? ⟨b, off + i * 4 + j, none⟩ = (x.of[i].enc)[j]? := fun j hj => by
    have hl : i * 4 + j < (encL x.of).length := by rw [encL_len]; omega
    rw [Nat.add_assoc, h5 _ hl, ← encL_get x.of i hi j hj, List.getElem?_eq_getElem hl]
  exact ⟨b, off, e.1.symm, key 0 (by omega), key 1 (by omega), key 2 (by omega), key 3 (by omega)⟩
theorem ok.attr {w : World} {x : Ty} (h : x.ok w) {ao : Option Addr} {ac : Nat} (e : x.av = .slice ao x.att.length ac) (i : Nat) (hi : i < x.att.length) (hn : i < x.an.length) :
    ∃ b off, ao = some ⟨b, off, none⟩ ∧ w.cell? ⟨b, off + i * 5, none⟩ = some (.string x.an[i]) ∧ w.cell? ⟨b, off + i * 5 + 1, none⟩ = some (.int .u8 (x.att[i].kind : Nat)) ∧ w.cell? ⟨b, off + i * 5 + 2, none⟩ = some (.string x.att[i].name) ∧ w.cell? ⟨b, off + i * 5 + 3, none⟩ = some x.att[i].ov ∧ w.cell? ⟨b, off + i * 5 + 4, none⟩ = some x.att[i].av := by
  have hl := h.parts.2.2.2.1
  obtain ⟨b, off, cap, h1, h2, h3, h4, h5⟩ := SlV.open h.parts.2.2.2.2.2.1 (by rw [encA_len _ _ hl]; omega)
  rw [h1] at e
  simp only [Value.slice.injEq] at e
  have key : ∀ j, j < 5 → w.cell? ⟨b, off + i * 5 + j, none⟩ = (encP x.an[i] x.att[i])[j]? := fun j hj => by
    have hl2 : i * 5 + j < (encA x.an x.att).length := by rw [encA_len _ _ hl]; omega
    rw [Nat.add_assoc, h5 _ hl2, ← encA_get x.an x.att hl i hi j hj, List.getElem?_eq_getElem hl2]
  exact ⟨b, off, e.1.symm, key 0 (by omega), key 1 (by omega), key 2 (by omega), key 3 (by omega), key 4 (by omega)⟩
end Ty
theorem Ty.val_eq {x : Ty} {oo ao : Option Addr} {oc ac : Nat} (e1 : x.ov = .slice oo x.of.length oc) (e2 : x.av = .slice ao x.att.length ac) : x.val = .agg #[.int .u8 (x.kind : Nat), .string x.name, .slice oo x.of.length oc, .slice ao x.att.length ac] := by
  show Value.agg _ = _
  unfold Ty.enc
  rw [e1, e2]
theorem five {w : World} {b : Nat} {v0 v1 v2 v3 v4 : Value} {t : TypeId} (h : Blk w b [v0, v1, v2, v3, v4] t) :
    w.cell? ⟨b, 0, none⟩ = some v0 ∧ w.cell? ⟨b, 1, none⟩ = some v1 ∧ w.cell? ⟨b, 2, none⟩ = some v2 ∧ w.cell? ⟨b, 3, none⟩ = some v3 ∧ w.cell? ⟨b, 4, none⟩ = some v4 ∧ ∀ o, w.frozen? ⟨b, o, none⟩ = false :=
  ⟨h.cell 0 (by simp), h.cell 1 (by simp), h.cell 2 (by simp), h.cell 3 (by simp), h.cell 4 (by simp), fun o => by simp [World.frozen?, h.at']⟩
end Go.Proofs.YtklclfolmfhocaaGreatDoor.Tyt
