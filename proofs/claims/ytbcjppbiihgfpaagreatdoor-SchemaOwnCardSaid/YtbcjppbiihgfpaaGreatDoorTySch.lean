/-
  Entity types, actions, schemas as values. Written by wip/tyfindgen.py.
-/
import Derived.Test.YtbcjppbiihgfpaaGreatDoorTyCopied
namespace Go.Proofs.YtbcjppbiihgfpaaGreatDoor.Tyt
open Go.ChangeShapes Go.WideShapes Go.ChangeAt Go.RowKit
open Go.Proofs.YtbcjppbiihgfpaaGreatDoor.Mem
set_option linter.unusedVariables false
set_option linter.unusedSimpArgs false
set_option maxRecDepth 100000
/-- a row of names that a call may copy -/
def NamesV (w : World) (v : Value) (l : List ByteArray) : Prop := StrsV w v l ∧ l.length * 16 ≤ 140737488355328
theorem NamesV.below {w w' : World} {v : Value} {l : List ByteArray} (h : NamesV w v l) (b : Below w.heap.size w w') : NamesV w' v l := ⟨StrsV.below h.1 b, h.2⟩
/-- a row of attributes that a call may copy -/
def AttsV (w : World) (v : Value) (an : List ByteArray) (att : List Ty) : Prop := AttrsV w v an att ∧ (∀ y ∈ att, y.fit) ∧ att.length * 88 ≤ 140737488355328
theorem AttsV.below {w w' : World} {v : Value} {an : List ByteArray} {att : List Ty} (h : AttsV w v an att) (b : Below w.heap.size w w') : AttsV w' v an att := ⟨h.1.below b, h.2⟩
structure Et where
  name : ByteArray
  ps : List ByteArray
  pv : Value
  an : List ByteArray
  att : List Ty
  av : Value
def Et.cells (x : Et) : List Value := [.string x.name, x.pv, x.av]
def Et.val (x : Et) : Value := .agg #[.string x.name, x.pv, x.av]
def Et.ok (w : World) (x : Et) : Prop := x.name.size ≤ 140737488355328 ∧ NamesV w x.pv x.ps ∧ AttsV w x.av x.an x.att
theorem Et.ok.parts {w : World} {x : Et} (h : x.ok w) : x.name.size ≤ 140737488355328 ∧ NamesV w x.pv x.ps ∧ AttsV w x.av x.an x.att := h
theorem Et.ok.below {w w' : World} {x : Et} (h : x.ok w) (b : Below w.heap.size w w') : x.ok w' := ⟨h.1, h.2.1.below b, h.2.2.below b⟩
theorem Et.ok.forms {w : World} {x : Et} (h : x.ok w) : ∃ po pc ao ac, x.pv = .slice po x.ps.length pc ∧ x.av = .slice ao x.att.length ac := by
  obtain ⟨po, pc, e0, _⟩ := SlV.form h.2.1.1
  obtain ⟨ao, ac, e1, _⟩ := SlV.form h.2.2.1.2.1
  exact ⟨po, pc, ao, ac, e0, e1⟩
def Et.enc (l : List Et) : List Value := l.flatMap Et.cells
theorem Et.enc_len (l : List Et) : (Et.enc l).length = l.length * 3 := by
  induction l with
  | nil => rfl
  | cons x l ih =>
    show (Et.cells x ++ Et.enc l).length = _
    rw [List.length_append, ih, List.length_cons]
    show 3 + _ = _
    omega
theorem Et.enc_get : ∀ (l : List Et) (i : Nat) (h : i < l.length) (j : Nat), j < 3 → (Et.enc l)[i * 3 + j]? = (l[i].cells)[j]? := by
  intro l
  induction l with
  | nil => intro i h; simp at h
  | cons x l ih =>
    intro i h j hj
    show (Et.cells x ++ Et.enc l)[i * 3 + j]? = _
    match i with
    | 0 => rw [List.getElem?_append_left (by show _ < 3; omega), Nat.zero_mul, Nat.zero_add]; rfl
    | i + 1 =>
      rw [List.getElem?_append_right (by show 3 ≤ _; omega), show (i + 1) * 3 + j - (Et.cells x).length = i * 3 + j by show _ - 3 = _; omega, ih i (by simpa using h) j hj]
      rfl
def EtsV (w : World) (v : Value) (l : List Et) : Prop := SlV w v l.length (Et.enc l) ∧ ∀ x ∈ l, x.ok w
theorem EtsV.below {w w' : World} {v : Value} {l : List Et} (h : EtsV w v l) (b : Below w.heap.size w w') : EtsV w' v l := ⟨h.1.below b, fun x hx => (h.2 x hx).below b⟩
theorem EtsV.open {w : World} {v : Value} {l : List Et} (h : EtsV w v l) (hl : 0 < l.length) : ∃ b off cap, v = .slice (some ⟨b, off, none⟩) l.length cap ∧ b < w.heap.size ∧ ∀ i (hi : i < l.length), w.cell? ⟨b, off + i * 3, none⟩ = some (.string l[i].name) ∧ w.cell? ⟨b, off + i * 3 + 1, none⟩ = some l[i].pv ∧ w.cell? ⟨b, off + i * 3 + 2, none⟩ = some l[i].av := by
  obtain ⟨b, off, cap, h1, _, _, h4, h5⟩ := SlV.open h.1 (by rw [Et.enc_len]; omega)
  refine ⟨b, off, cap, h1, h4, fun i hi => ?_⟩
  have key : ∀ j, j < 3 → w.cell? ⟨b, off + i * 3 + j, none⟩ = (l[i].cells)[j]? := fun j hj => by
    have hl2 : i * 3 + j < (Et.enc l).length := by rw [Et.enc_len]; omega
    rw [Nat.add_assoc, h5 _ hl2, ← Et.enc_get l i hi j hj, List.getElem?_eq_getElem hl2]
  exact ⟨key 0 (by omega), key 1 (by omega), key 2 (by omega)⟩
structure Ac where
  name : ByteArray
  ps : List ByteArray
  pv : Value
  rs : List ByteArray
  rv : Value
  an : List ByteArray
  att : List Ty
  av : Value
def Ac.cells (x : Ac) : List Value := [.string x.name, x.pv, x.rv, x.av]
def Ac.val (x : Ac) : Value := .agg #[.string x.name, x.pv, x.rv, x.av]
def Ac.ok (w : World) (x : Ac) : Prop := x.name.size ≤ 140737488355328 ∧ NamesV w x.pv x.ps ∧ NamesV w x.rv x.rs ∧ AttsV w x.av x.an x.att
theorem Ac.ok.parts {w : World} {x : Ac} (h : x.ok w) : x.name.size ≤ 140737488355328 ∧ NamesV w x.pv x.ps ∧ NamesV w x.rv x.rs ∧ AttsV w x.av x.an x.att := h
theorem Ac.ok.below {w w' : World} {x : Ac} (h : x.ok w) (b : Below w.heap.size w w') : x.ok w' := ⟨h.1, h.2.1.below b, h.2.2.1.below b, h.2.2.2.below b⟩
theorem Ac.ok.forms {w : World} {x : Ac} (h : x.ok w) : ∃ po pc ro rc ao ac, x.pv = .slice po x.ps.length pc ∧ x.rv = .slice ro x.rs.length rc ∧ x.av = .slice ao x.att.length ac := by
  obtain ⟨po, pc, e0, _⟩ := SlV.form h.2.1.1
  obtain ⟨ro, rc, e1, _⟩ := SlV.form h.2.2.1.1
  obtain ⟨ao, ac, e2, _⟩ := SlV.form h.2.2.2.1.2.1
  exact ⟨po, pc, ro, rc, ao, ac, e0, e1, e2⟩
def Ac.enc (l : List Ac) : List Value := l.flatMap Ac.cells
theorem Ac.enc_len (l : List Ac) : (Ac.enc l).length = l.length * 4 := by
  induction l with
  | nil => rfl
  | cons x l ih =>
    show (Ac.cells x ++ Ac.enc l).length = _
    rw [List.length_append, ih, List.length_cons]
    show 4 + _ = _
    omega
theorem Ac.enc_get : ∀ (l : List Ac) (i : Nat) (h : i < l.length) (j : Nat), j < 4 → (Ac.enc l)[i * 4 + j]? = (l[i].cells)[j]? := by
  intro l
  induction l with
  | nil => intro i h; simp at h
  | cons x l ih =>
    intro i h j hj
    show (Ac.cells x ++ Ac.enc l)[i * 4 + j]? = _
    match i with
    | 0 => rw [List.getElem?_append_left (by show _ < 4; omega), Nat.zero_mul, Nat.zero_add]; rfl
    | i + 1 =>
      rw [List.getElem?_append_right (by show 4 ≤ _; omega), show (i + 1) * 4 + j - (Ac.cells x).length = i * 4 + j by show _ - 4 = _; omega, ih i (by simpa using h) j hj]
      rfl
def AcsV (w : World) (v : Value) (l : List Ac) : Prop := SlV w v l.length (Ac.enc l) ∧ ∀ x ∈ l, x.ok w
theorem AcsV.below {w w' : World} {v : Value} {l : List Ac} (h : AcsV w v l) (b : Below w.heap.size w w') : AcsV w' v l := ⟨h.1.below b, fun x hx => (h.2 x hx).below b⟩
theorem AcsV.open {w : World} {v : Value} {l : List Ac} (h : AcsV w v l) (hl : 0 < l.length) : ∃ b off cap, v = .slice (some ⟨b, off, none⟩) l.length cap ∧ b < w.heap.size ∧ ∀ i (hi : i < l.length), w.cell? ⟨b, off + i * 4, none⟩ = some (.string l[i].name) ∧ w.cell? ⟨b, off + i * 4 + 1, none⟩ = some l[i].pv ∧ w.cell? ⟨b, off + i * 4 + 2, none⟩ = some l[i].rv ∧ w.cell? ⟨b, off + i * 4 + 3, none⟩ = some l[i].av := by
  obtain ⟨b, off, cap, h1, _, _, h4, h5⟩ := SlV.open h.1 (by rw [Ac.enc_len]; omega)
  refine ⟨b, off, cap, h1, h4, fun i hi => ?_⟩
  have key : ∀ j, j < 4 → w.cell? ⟨b, off + i * 4 + j, none⟩ = (l[i].cells)[j]? := fun j hj => by
    have hl2 : i * 4 + j < (Ac.enc l).length := by rw [Ac.enc_len]; omega
    rw [Nat.add_assoc, h5 _ hl2, ← Ac.enc_get l i hi j hj, List.getElem?_eq_getElem hl2]
  exact ⟨key 0 (by omega), key 1 (by omega), key 2 (by omega), key 3 (by omega)⟩
structure Sch where
  ts : List Et
  tv : Value
  acts : List Ac
  cv : Value
def Sch.val (x : Sch) : Value := .agg #[x.tv, x.cv]
def Sch.ok (w : World) (x : Sch) : Prop := EtsV w x.tv x.ts ∧ AcsV w x.cv x.acts
theorem Sch.ok.below {w w' : World} {x : Sch} (h : x.ok w) (b : Below w.heap.size w w') : x.ok w' := ⟨h.1.below b, h.2.below b⟩
end Go.Proofs.YtbcjppbiihgfpaaGreatDoor.Tyt
