/-
  api.Policy: scopes, conditions, policies, as they stand in a world. No walk.
-/
import Derived.Test.YtihnhinnohnfgaaGreatDoorExKeep
namespace Go.Proofs.YtihnhinnohnfgaaGreatDoor.Pol
open Go.ChangeShapes Go.WideShapes Go.ChangeAt Go.RowKit
open Go.Proofs.YtihnhinnohnfgaaGreatDoor.Mem
set_option linter.unusedVariables false
set_option linter.unusedSimpArgs false
abbrev Ud := ByteArray × ByteArray
def encU (l : List Ud) : List Value := l.flatMap fun p => [.string p.1, .string p.2]
theorem encU_len (l : List Ud) : (encU l).length = l.length * 2 := by
  induction l with
  | nil => rfl
  | cons p l ih => simp only [encU, List.flatMap_cons, List.length_append, List.length_cons, List.length_nil] at ih ⊢; omega
theorem encU_get (l : List Ud) : ∀ (i : Nat) (h : i < l.length), (encU l)[i * 2]? = some (.string l[i].1) ∧ (encU l)[i * 2 + 1]? = some (.string l[i].2) := by
  induction l with
  | nil => intro i h; simp at h
  | cons p l ih =>
    intro i h
    cases i with
    | zero => exact ⟨rfl, rfl⟩
    | succ i =>
      have := ih i (by simpa using h)
      refine ⟨?_, ?_⟩
      · show (Value.string p.1 :: Value.string p.2 :: encU l)[(i + 1) * 2]? = _
        rw [show (i + 1) * 2 = i * 2 + 1 + 1 by omega]
        simpa using this.1
      · show (Value.string p.1 :: Value.string p.2 :: encU l)[(i + 1) * 2 + 1]? = _
        rw [show (i + 1) * 2 + 1 = (i * 2 + 1) + 1 + 1 by omega]
        simpa using this.2
theorem uid_open {w : World} {v : Value} {l : List Ud} (h : SlV w v l.length (encU l)) (hc : 0 < l.length) :
    ∃ b off cap, v = .slice (some ⟨b, off, none⟩) l.length cap ∧ l.length ≤ cap ∧ cap ≤ maxLen ∧ b < w.heap.size ∧
      ∀ j (h : j < l.length), w.cell? ⟨b, off + j * 2, none⟩ = some (.string l[j].1) ∧ w.cell? ⟨b, off + j * 2 + 1, none⟩ = some (.string l[j].2) := by
  obtain ⟨b, off, cap, h1, h2, h3, h4, h5⟩ := SlV.open h (by rw [encU_len]; omega)
  refine ⟨b, off, cap, h1, h2, h3, h4, fun j hj => ⟨?_, ?_⟩⟩
  · have hl : j * 2 < (encU l).length := by rw [encU_len]; omega
    rw [h5 _ hl, ← List.getElem?_eq_getElem hl, (encU_get l j hj).1]
  · have hl : j * 2 + 1 < (encU l).length := by rw [encU_len]; omega
    rw [Nat.add_assoc, h5 _ hl, ← List.getElem?_eq_getElem hl, (encU_get l j hj).2]
/-- kind, entities and their slice, type -/
structure Sc where
  k : Nat
  us : List Ud
  uv : Value
  t : ByteArray
namespace Sc
def enc (s : Sc) : List Value := [.int .u8 (s.k : Nat), s.uv, .string s.t]
def val (s : Sc) : Value := .agg s.enc.toArray
def ok (w : World) (s : Sc) : Prop := (s.k < 256 ∧ s.us.length * 32 ≤ 140737488355328) ∧ s.t.size ≤ 140737488355328 ∧ (∀ u ∈ s.us, u.1.size ≤ 140737488355328 ∧ u.2.size ≤ 140737488355328) ∧ SlV w s.uv s.us.length (encU s.us)
theorem ok.below {w w' : World} (hb : Below w.heap.size w w') {s : Sc} (h : s.ok w) : s.ok w' := ⟨h.1, h.2.1, h.2.2.1, h.2.2.2.below hb⟩
theorem ok.form {w : World} {s : Sc} (h : s.ok w) : ∃ uo uc, s.uv = .slice uo s.us.length uc ∧ s.us.length ≤ 9223372036854775807 := by
  obtain ⟨uo, uc, e, _⟩ := h.2.2.2.form
  have l := SlV.len h.2.2.2
  unfold maxLen at l
  exact ⟨uo, uc, e, by omega⟩
theorem ok.uid {w : World} {s : Sc} (h : s.ok w) {uo : Option Addr} {uc : Nat} (e : s.uv = .slice uo s.us.length uc) (i : Nat) (hi : i < s.us.length) :
    ∃ b off, uo = some ⟨b, off, none⟩ ∧ w.cell? ⟨b, off + i * 2, none⟩ = some (.string s.us[i].1) ∧ w.cell? ⟨b, off + i * 2 + 1, none⟩ = some (.string s.us[i].2) := by
  obtain ⟨b, off, cap, h1, h2, h3, h4, h5⟩ := uid_open h.2.2.2 (by omega)
  rw [h1] at e
  simp only [Value.slice.injEq] at e
  exact ⟨b, off, e.1.symm, h5 i hi⟩
end Sc
/-- unless, and what it asks -/
structure Cd where
  u : Bool
  e : Ex.T
def Cd.enc (c : Cd) : List Value := .bool c.u :: c.e.enc
def encC (l : List Cd) : List Value := l.flatMap Cd.enc
theorem encC_len (l : List Cd) : (encC l).length = l.length * 7 := by
  induction l with
  | nil => rfl
  | cons x l ih => simp only [encC, List.flatMap_cons, List.length_append, Cd.enc, Ex.T.enc_len, List.length_cons] at ih ⊢; omega
theorem encC_get (l : List Cd) : ∀ (i : Nat) (h : i < l.length) (j : Nat) (hj : j < 7), (encC l)[i * 7 + j]? = (l[i].enc)[j]? := by
  induction l with
  | nil => intro i h; simp at h
  | cons x l ih =>
    intro i h j hj
    have hx : x.enc.length = 7 := rfl
    cases i with
    | zero =>
      simp only [encC, List.flatMap_cons, Nat.zero_mul, Nat.zero_add, List.getElem_cons_zero]
      rw [List.getElem?_append_left (by rw [hx]; exact hj)]
    | succ i =>
      simp only [encC, List.flatMap_cons, List.getElem_cons_succ]
      rw [List.getElem?_append_right (by rw [hx]; omega), hx, ← ih i (by simpa using h) j hj]
      congr 1
      omega
theorem encC_append (a b : List Cd) : encC (a ++ b) = encC a ++ encC b := by simp [encC]
def sizeC (l : List Cd) : Nat := Ex.T.sizeL (l.map Cd.e)
/-- permit, three scopes, conditions and their slice -/
structure Po where
  p : Bool
  a : Sc
  b : Sc
  c : Sc
  l : List Cd
  lv : Value
namespace Po
def enc (x : Po) : List Value := .bool x.p :: (x.a.enc ++ (x.b.enc ++ (x.c.enc ++ [x.lv])))
def val (x : Po) : Value := .agg x.enc.toArray
def ok (w : World) (x : Po) : Prop := (x.a.ok w ∧ x.b.ok w ∧ x.c.ok w) ∧ x.l.length * 104 ≤ 140737488355328 ∧ (∀ c ∈ x.l, c.e.ok w) ∧ SlV w x.lv x.l.length (encC x.l)
theorem ok.below {w w' : World} (hb : Below w.heap.size w w') {x : Po} (h : x.ok w) : x.ok w' :=
  ⟨⟨h.1.1.below hb, h.1.2.1.below hb, h.1.2.2.below hb⟩, h.2.1, fun c hc => (h.2.2.1 c hc).below hb, h.2.2.2.below hb⟩
theorem ok.form {w : World} {x : Po} (h : x.ok w) : ∃ lo lc, x.lv = .slice lo x.l.length lc ∧ x.l.length ≤ 9223372036854775807 := by
  obtain ⟨lo, lc, e, _⟩ := h.2.2.2.form
  have l := SlV.len h.2.2.2
  unfold maxLen at l
  exact ⟨lo, lc, e, by omega⟩
theorem ok.cond {w : World} {x : Po} (h : x.ok w) {lo : Option Addr} {lc : Nat} (e : x.lv = .slice lo x.l.length lc) (i : Nat) (hi : i < x.l.length) :
    ∃ b off, lo = some ⟨b, off, none⟩ ∧ w.cell? ⟨b, off + i * 7, none⟩ = some (.bool x.l[i].u) ∧ w.cell? ⟨b, off + i * 7 + 1, none⟩ = some (.int .u8 (x.l[i].e.kind : Nat)) ∧ w.cell? ⟨b, off + i * 7 + 2, none⟩ = some (.int .i64 x.l[i].e.num) ∧
      w.cell? ⟨b, off + i * 7 + 3, none⟩ = some (.string x.l[i].e.str) ∧ w.cell? ⟨b, off + i * 7 + 4, none⟩ = some (.string x.l[i].e.typ) ∧ w.cell? ⟨b, off + i * 7 + 5, none⟩ = some x.l[i].e.nv ∧ w.cell? ⟨b, off + i * 7 + 6, none⟩ = some x.l[i].e.lv := by
  obtain ⟨b, off, cap, h1, h2, h3, h4, h5⟩ := SlV.open h.2.2.2 (by rw [encC_len]; omega)
  rw [h1] at e
  simp only [Value.slice.injEq] at e
  have key : ∀ j, j < 7 → w.cell? ⟨b, off + i * 7 + j, none⟩ = (x.l[i].enc)[j]? := fun j hj => by
    have hl : i * 7 + j < (encC x.l).length := by rw [encC_len]; omega
    rw [Nat.add_assoc, h5 _ hl, ← encC_get x.l i hi j hj, List.getElem?_eq_getElem hl]
  exact ⟨b, off, e.1.symm, key 0 (by omega), key 1 (by omega), key 2 (by omega), key 3 (by omega), key 4 (by omega), key 5 (by omega), key 6 (by omega)⟩
end Po
end Go.Proofs.YtihnhinnohnfgaaGreatDoor.Pol
