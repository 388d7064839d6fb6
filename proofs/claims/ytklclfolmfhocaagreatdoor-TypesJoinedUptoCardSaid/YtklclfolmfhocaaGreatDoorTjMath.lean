/-
  Types without their slices; joined, trimmed; what fits them. No program is named but through the trees.
-/
import Derived.Test.YtklclfolmfhocaaGreatDoorTyCheck
import Derived.Test.YtklclfolmfhocaaGreatDoorTyLike
import Derived.Test.YtklclfolmfhocaaGreatDoorTyKeep
import Derived.Test.YtklclfolmfhocaaGreatDoorValTree
namespace Go.Proofs.YtklclfolmfhocaaGreatDoor.Tyt
open Go.ChangeShapes Go.WideShapes Go.ChangeAt Go.RowKit
open Go.Proofs.YtklclfolmfhocaaGreatDoor.Mem
set_option linter.unusedVariables false
set_option linter.unusedSimpArgs false
/-- kind, name, a set's part, attributes' names, their types -/
inductive PT where
  | mk (k : Nat) (nm : ByteArray) (of : List PT) (an : List ByteArray) (att : List PT) : PT
namespace PT
def k : PT → Nat | .mk x _ _ _ _ => x
def nm : PT → ByteArray | .mk _ x _ _ _ => x
def of : PT → List PT | .mk _ _ x _ _ => x
def an : PT → List ByteArray | .mk _ _ _ x _ => x
def att : PT → List PT | .mk _ _ _ _ x => x
def bare (k : Nat) : PT := .mk k ⟨#[]⟩ [] [] []
def ent (s : ByteArray) : PT := .mk 4 s [] [] []
def set (x : PT) : PT := .mk 5 ⟨#[]⟩ [x] [] []
def rcd (an : List ByteArray) (l : List PT) : PT := .mk 6 ⟨#[]⟩ [] an l
def part : List PT → PT | [] => bare 0 | x :: _ => x
mutual
def trim : PT → PT
  | .mk k nm of an att => if k = 4 then ent nm else if k = 5 then set (trimO of) else if k = 6 then rcd an (trimL att) else bare k
def trimO : List PT → PT
  | [] => bare 0
  | x :: _ => trim x
def trimL : List PT → List PT
  | [] => []
  | x :: r => trim x :: trimL r
end
mutual
def J : PT → PT → Option PT
  | .mk k nm of an att, b =>
    if k = 0 then some b.trim
    else if b.k = 0 then some (trim (.mk k nm of an att))
    else if k ≠ b.k then none
    else if k = 1 ∨ k = 2 ∨ k = 3 then some (bare k)
    else if k = 4 then some (ent (if nm = b.nm then nm else ⟨#[]⟩))
    else if k = 5 then (JO of (part b.of)).map set
    else if k = 6 then (JL att an b.an b.att).map (rcd an)
    else none
def JO : List PT → PT → Option PT
  | [], b => some b.trim
  | x :: _, b => J x b
def JL : List PT → List ByteArray → List ByteArray → List PT → Option (List PT)
  | [], [], [], [] => some []
  | x :: l, s :: an, t :: bn, y :: m => if s = t then (J x y).bind fun p => (JL l an bn m).map (p :: ·) else none
  | _, _, _, _ => none
end
mutual
def good : PT → Prop
  | .mk k nm of an att => ((k ≤ 3 ∧ nm = ⟨#[]⟩ ∧ of = [] ∧ an = [] ∧ att = []) ∨ (k = 4 ∧ of = [] ∧ an = [] ∧ att = []) ∨ (k = 5 ∧ nm = ⟨#[]⟩ ∧ (∃ x, of = [x]) ∧ an = [] ∧ att = []) ∨ (k = 6 ∧ nm = ⟨#[]⟩ ∧ of = [] ∧ an.length = att.length)) ∧ goodL of ∧ goodL att
def goodL : List PT → Prop
  | [] => True
  | x :: r => good x ∧ goodL r
end
theorem trim_eq (x : PT) : trim x = if x.k = 4 then ent x.nm else if x.k = 5 then set (trimO x.of) else if x.k = 6 then rcd x.an (trimL x.att) else bare x.k := by
  cases x; rw [trim]; rfl
theorem J_eq (a b : PT) : J a b = if a.k = 0 then some b.trim else if b.k = 0 then some a.trim else if a.k ≠ b.k then none
    else if a.k = 1 ∨ a.k = 2 ∨ a.k = 3 then some (bare a.k) else if a.k = 4 then some (ent (if a.nm = b.nm then a.nm else ⟨#[]⟩))
    else if a.k = 5 then (JO a.of (part b.of)).map set else if a.k = 6 then (JL a.att a.an b.an b.att).map (rcd a.an) else none := by
  cases a; rw [J]; rfl
theorem good_eq (x : PT) : good x = (((x.k ≤ 3 ∧ x.nm = ⟨#[]⟩ ∧ x.of = [] ∧ x.an = [] ∧ x.att = []) ∨ (x.k = 4 ∧ x.of = [] ∧ x.an = [] ∧ x.att = []) ∨ (x.k = 5 ∧ x.nm = ⟨#[]⟩ ∧ (∃ y, x.of = [y]) ∧ x.an = [] ∧ x.att = []) ∨ (x.k = 6 ∧ x.nm = ⟨#[]⟩ ∧ x.of = [] ∧ x.an.length = x.att.length)) ∧ goodL x.of ∧ goodL x.att) := by
  cases x; rw [good]; rfl
theorem goodL_mem {l : List PT} : goodL l → ∀ x ∈ l, good x := by
  induction l with
  | nil => intro _ x hx; cases hx
  | cons y l ih =>
    intro h x hx
    rw [goodL] at h
    rcases List.mem_cons.1 hx with rfl | hx
    · exact h.1
    · exact ih h.2 x hx
theorem lt_of {x y : PT} (h : y ∈ x.of) : SizeOf.sizeOf y < SizeOf.sizeOf x := by
  cases x
  rename_i k nm of an att
  have := List.sizeOf_lt_of_mem (show y ∈ of from h)
  simp only [mk.sizeOf_spec]
  omega
theorem lt_att {x y : PT} (h : y ∈ x.att) : SizeOf.sizeOf y < SizeOf.sizeOf x := by
  cases x
  rename_i k nm of an att
  have := List.sizeOf_lt_of_mem (show y ∈ att from h)
  simp only [mk.sizeOf_spec]
  omega
theorem ext' {x y : PT} (h1 : x.k = y.k) (h2 : x.nm = y.nm) (h3 : x.of = y.of) (h4 : x.an = y.an) (h5 : x.att = y.att) : x = y := by
  cases x; cases y
  simp only [k, nm, of, an, att] at h1 h2 h3 h4 h5
  subst h1 h2 h3 h4 h5
  rfl
theorem trimL_id {l : List PT} (h : ∀ x ∈ l, trim x = x) : trimL l = l := by
  induction l with
  | nil => rfl
  | cons y l ih => rw [trimL, h y (by simp), ih (fun x hx => h x (by simp [hx]))]
/-- what is right is trimmed to itself -/
theorem trim_good : ∀ (n : Nat) (x : PT), SizeOf.sizeOf x ≤ n → good x → trim x = x := by
  intro n
  induction n with
  | zero => intro x h; cases x; simp at h
  | succ n ih =>
    intro x hn hg
    rw [good_eq] at hg
    obtain ⟨hc, go, ga⟩ := hg
    rw [trim_eq]
    rcases hc with ⟨h1, h2, h3, h4, h5⟩ | ⟨h1, h3, h4, h5⟩ | ⟨h1, h2, ⟨y, h3⟩, h4, h5⟩ | ⟨h1, h2, h3, h4⟩
    · rw [if_neg (by omega), if_neg (by omega), if_neg (by omega)]
      exact ext' rfl h2.symm h3.symm h4.symm h5.symm
    · rw [if_pos h1]
      exact ext' h1.symm rfl h3.symm h4.symm h5.symm
    · rw [if_neg (by omega), if_pos h1, h3]
      rw [h3] at go
      have hy := ih y (by have := lt_of (x := x) (y := y) (by rw [h3]; simp); omega) (goodL_mem go y (by simp))
      rw [trimO, hy]
      exact ext' h1.symm h2.symm h3.symm h4.symm h5.symm
    · rw [if_neg (by omega), if_neg (by omega), if_pos h1, trimL_id (fun y hy => ih y (by have := lt_att hy; omega) (goodL_mem ga y hy))]
      exact ext' h1.symm h2.symm h3.symm rfl rfl
theorem trim_id {x : PT} (h : good x) : trim x = x := trim_good _ x (Nat.le_refl _) h
theorem trim0 {x : PT} (h : x.k = 0) : trim x = bare 0 := by rw [trim_eq, if_neg (by omega), if_neg (by omega), if_neg (by omega), h]
theorem J_l0 {a b : PT} (h : a.k = 0) : J a b = some b.trim := by rw [J_eq, if_pos h]
theorem J_r0 {a b : PT} (h : b.k = 0) : J a b = some a.trim := by
  rw [J_eq]
  by_cases h0 : a.k = 0
  · rw [if_pos h0, trim0 h, trim0 h0]
  · rw [if_neg h0, if_pos h]
theorem JO_part (l : List PT) (b : PT) : JO l b = J (part l) b := by
  cases l with
  | nil => rw [JO]; exact (J_l0 rfl).symm
  | cons x l => rw [JO]; rfl
theorem JL_comm (n : Nat) (ih : ∀ x y : PT, SizeOf.sizeOf x ≤ n → J x y = J y x) : ∀ (l : List PT) (an bn : List ByteArray) (m : List PT), (∀ x ∈ l, SizeOf.sizeOf x ≤ n) → JL l an bn m = JL m bn an l ∧ ((JL l an bn m).isSome = true → an = bn) := by
  intro l
  induction l with
  | nil =>
    intro an bn m _
    cases an <;> cases bn <;> cases m <;> simp [JL]
  | cons x l ihl =>
    intro an bn m hs
    cases an with
    | nil => cases bn <;> cases m <;> simp [JL]
    | cons s an =>
      cases bn with
      | nil => cases m <;> simp [JL]
      | cons t bn =>
        cases m with
        | nil => simp [JL]
        | cons y m =>
          obtain ⟨q1, q2⟩ := ihl an bn m (fun z hz => hs z (by simp [hz]))
          rw [JL, JL]
          by_cases hst : s = t
          · subst hst
            rw [if_pos rfl, if_pos rfl, ih x y (hs x (by simp)), q1]
            refine ⟨rfl, fun h => ?_⟩
            cases hj : J y x with
            | none => rw [hj] at h; simp at h
            | some p =>
              rw [hj] at h
              rw [q2 (by rw [q1]; simpa using h)]
          · rw [if_neg hst, if_neg (fun e => hst e.symm)]
            simp
theorem J_comm : ∀ (n : Nat) (x y : PT), SizeOf.sizeOf x ≤ n → J x y = J y x := by
  intro n
  induction n with
  | zero => intro x y h; cases x; simp at h
  | succ n ih =>
    intro x y hn
    by_cases hx0 : x.k = 0
    · rw [J_l0 hx0, J_r0 hx0]
    by_cases hy0 : y.k = 0
    · rw [J_l0 hy0, J_r0 hy0]
    rw [J_eq, J_eq y x, if_neg hx0, if_neg hy0, if_neg hy0, if_neg hx0]
    by_cases hk : x.k = y.k
    case neg => rw [if_pos hk, if_pos (fun e => hk e.symm)]
    rw [← hk, if_neg (fun e : x.k ≠ x.k => e rfl), if_neg (fun e : x.k ≠ x.k => e rfl)]
    by_cases h1 : x.k = 1 ∨ x.k = 2 ∨ x.k = 3
    · rw [if_pos h1, if_pos h1]
    rw [if_neg h1, if_neg h1]
    by_cases h4 : x.k = 4
    · rw [if_pos h4, if_pos h4]
      by_cases he : x.nm = y.nm
      · rw [if_pos he, if_pos he.symm, he]
      · rw [if_neg he, if_neg (fun e => he e.symm)]
    rw [if_neg h4, if_neg h4]
    by_cases h5 : x.k = 5
    · rw [if_pos h5, if_pos h5, JO_part, JO_part]
      cases hx : x.of with
      | nil => rw [show part [] = bare 0 from rfl, J_l0 rfl, J_r0 rfl]
      | cons z l => rw [show part (z :: l) = z from rfl, ih z _ (by have := lt_of (x := x) (y := z) (by rw [hx]; simp); omega)]
    rw [if_neg h5, if_neg h5]
    by_cases h6 : x.k = 6
    · rw [if_pos h6, if_pos h6]
      obtain ⟨q1, q2⟩ := JL_comm n ih x.att x.an y.an y.att (fun z hz => by have := lt_att hz; omega)
      rw [← q1]
      cases hj : JL x.att x.an y.an y.att with
      | none => rfl
      | some r => rw [q2 (by rw [hj]; rfl)]
    rw [if_neg h6, if_neg h6]
theorem JL_self (l : List PT) : ∀ (an : List ByteArray), an.length = l.length → (∀ x ∈ l, J x x = some x) → JL l an an l = some l := by
  induction l with
  | nil => intro an h _; cases an with | nil => rfl | cons => simp at h
  | cons x l ih =>
    intro an h hs
    cases an with
    | nil => simp at h
    | cons s an => rw [JL, if_pos rfl, hs x (by simp), ih an (by simpa using h) (fun z hz => hs z (by simp [hz]))]; rfl
theorem J_self : ∀ (n : Nat) (x : PT), SizeOf.sizeOf x ≤ n → good x → J x x = some x := by
  intro n
  induction n with
  | zero => intro x h; cases x; simp at h
  | succ n ih =>
    intro x hn hg0
    have hg := hg0
    rw [good_eq] at hg
    obtain ⟨hc, go, ga⟩ := hg
    by_cases hx0 : x.k = 0
    · rw [J_l0 hx0, trim_id hg0]
    rw [J_eq, if_neg hx0, if_neg hx0, if_neg (by simp)]
    rcases hc with ⟨h1, h2, h3, h4, h5⟩ | ⟨h1, h3, h4, h5⟩ | ⟨h1, h2, ⟨y, h3⟩, h4, h5⟩ | ⟨h1, h2, h3, h4⟩
    · rw [if_pos (by omega)]
      congr 1
      exact ext' rfl h2.symm h3.symm h4.symm h5.symm
    · rw [if_neg (by omega), if_pos h1, if_pos rfl]
      congr 1
      exact ext' h1.symm rfl h3.symm h4.symm h5.symm
    · rw [if_neg (by omega), if_neg (by omega), if_pos h1, JO_part, h3, show part [y] = y from rfl, ih y (by have := lt_of (x := x) (y := y) (by rw [h3]; simp); omega) (goodL_mem go y (by rw [h3]; simp))]
      show some _ = some _
      congr 1
      exact ext' h1.symm h2.symm h3.symm h4.symm h5.symm
    · rw [if_neg (by omega), if_neg (by omega), if_neg (by omega), if_pos h1, JL_self _ _ h4 (fun z hz => ih z (by have := lt_att hz; omega) (goodL_mem ga z hz))]
      show some _ = some _
      congr 1
      exact ext' h1.symm h2.symm h3.symm rfl rfl
theorem JL_abs (n : Nat) (ih : ∀ x y c : PT, SizeOf.sizeOf x ≤ n → good x → good y → J x y = some c → J c x = some c) : ∀ (l : List PT) (an bn : List ByteArray) (m r : List PT), (∀ x ∈ l, SizeOf.sizeOf x ≤ n ∧ good x) → (∀ y ∈ m, good y) →
    JL l an bn m = some r → JL r an an l = some r := by
  intro l
  induction l with
  | nil => intro an bn m r _ _ h; cases an <;> cases bn <;> cases m <;> simp [JL] at h; subst h; rfl
  | cons x l ihl =>
    intro an bn m r hs hm h
    cases an with
    | nil => cases bn <;> cases m <;> simp [JL] at h
    | cons s an =>
      cases bn with
      | nil => cases m <;> simp [JL] at h
      | cons t bn =>
        cases m with
        | nil => simp [JL] at h
        | cons y m =>
          rw [JL] at h
          by_cases hst : s = t
          · rw [if_pos hst] at h
            cases hj : J x y with
            | none => rw [hj] at h; simp at h
            | some p =>
              rw [hj] at h
              cases hl : JL l an bn m with
              | none => rw [hl] at h; simp at h
              | some q =>
                rw [hl] at h
                simp at h
                subst h
                rw [JL, if_pos rfl, ih x y p (hs x (by simp)).1 (hs x (by simp)).2 (hm y (by simp)) hj, ihl an bn m q (fun z hz => hs z (by simp [hz])) (fun z hz => hm z (by simp [hz])) hl]
                rfl
          · rw [if_neg hst] at h; cases h
theorem J_abs : ∀ (n : Nat) (a b c : PT), SizeOf.sizeOf a ≤ n → good a → good b → J a b = some c → J c a = some c := by
  intro n
  induction n with
  | zero => intro x _ _ h; cases x; simp at h
  | succ n ih =>
    intro a b c hn ha0 hb0 h
    have ha := ha0
    have hb := hb0
    rw [good_eq] at ha hb
    by_cases h0 : a.k = 0
    · rw [J_l0 h0, trim_id hb0] at h
      cases h
      rw [J_r0 h0, trim_id hb0]
    by_cases hb0' : b.k = 0
    · rw [J_r0 hb0', trim_id ha0] at h
      cases h
      exact J_self _ a (Nat.le_refl _) ha0
    rw [J_eq, if_neg h0, if_neg hb0'] at h
    by_cases hk : a.k = b.k
    case neg => rw [if_pos hk] at h; cases h
    rw [if_neg (by simpa using hk)] at h
    by_cases h1 : a.k = 1 ∨ a.k = 2 ∨ a.k = 3
    · rw [if_pos h1] at h
      cases h
      rw [J_eq, if_neg (by exact h0), if_neg h0, if_neg (fun e => e rfl), if_pos (by exact h1)]
      rfl
    rw [if_neg h1] at h
    by_cases h4 : a.k = 4
    · rw [if_pos h4] at h
      cases h
      have hE : ∀ s : ByteArray, J (ent s) a = some (ent (if s = a.nm then s else ⟨#[]⟩)) := by
        intro s
        rw [J_eq, if_neg (by show ¬ (4 : Nat) = 0; decide), if_neg h0, if_neg (by show ¬ (4 : Nat) ≠ a.k; exact fun e => e h4.symm), if_neg (by show ¬ ((4 : Nat) = 1 ∨ (4 : Nat) = 2 ∨ (4 : Nat) = 3); decide), if_pos (by show (4 : Nat) = 4; rfl)]
        rfl
      rw [hE]
      by_cases he : a.nm = b.nm
      · rw [if_pos he, if_pos rfl]
      · rw [if_neg he]; split <;> rfl
    rw [if_neg h4] at h
    by_cases h5 : a.k = 5
    · rw [if_pos h5] at h
      obtain ⟨ha1, ha2, ha3⟩ := ha
      obtain ⟨hb1, hb2, hb3⟩ := hb
      obtain ⟨x, hx⟩ : ∃ x, a.of = [x] := by
        rcases ha1 with h | h | h | h
        · omega
        · omega
        · exact h.2.2.1
        · omega
      obtain ⟨y, hy⟩ : ∃ x, b.of = [x] := by
        rcases hb1 with h | h | h | h
        · omega
        · omega
        · exact h.2.2.1
        · omega
      rw [JO_part, hx, hy] at h
      change (J x y).map set = _ at h
      cases hj : J x y with
      | none => rw [hj] at h; cases h
      | some p =>
        rw [hj] at h
        cases h
        have hp := ih x y p (by have := lt_of (x := a) (y := x) (by rw [hx]; simp); omega) (goodL_mem ha2 x (by rw [hx]; simp)) (goodL_mem hb2 y (by rw [hy]; simp)) hj
        rw [J_eq, if_neg (by show ¬ (5 : Nat) = 0; decide), if_neg h0, if_neg (by show ¬ (5 : Nat) ≠ a.k; exact fun e => e h5.symm), if_neg (by show ¬ ((5 : Nat) = 1 ∨ (5 : Nat) = 2 ∨ (5 : Nat) = 3); decide), if_neg (by show ¬ (5 : Nat) = 4; decide), if_pos (by show (5 : Nat) = 5; rfl), JO_part, hx]
        change (J p x).map set = _
        rw [hp]; rfl
    rw [if_neg h5] at h
    by_cases h6 : a.k = 6
    · rw [if_pos h6] at h
      cases hj : JL a.att a.an b.an b.att with
      | none => rw [hj] at h; cases h
      | some r =>
        rw [hj] at h
        cases h
        have hr := JL_abs n ih a.att a.an b.an b.att r (fun z hz => ⟨by have := lt_att hz; omega, goodL_mem ha.2.2 z hz⟩) (goodL_mem hb.2.2) hj
        rw [J_eq, if_neg (by show ¬ (6 : Nat) = 0; decide), if_neg h0, if_neg (by show ¬ (6 : Nat) ≠ a.k; exact fun e => e h6.symm), if_neg (by show ¬ ((6 : Nat) = 1 ∨ (6 : Nat) = 2 ∨ (6 : Nat) = 3); decide), if_neg (by show ¬ (6 : Nat) = 4; decide), if_neg (by show ¬ (6 : Nat) = 5; decide), if_pos (by show (6 : Nat) = 6; rfl)]
        change (JL r a.an a.an a.att).map (rcd a.an) = _
        rw [hr]; rfl
    · rw [if_neg h6] at h; cases h
mutual
/-- a value fits a type -/
def F : PT → Val.T → Bool
  | .mk k nm of an att, v =>
    if k = 1 then decide (v.kind = 0) else if k = 2 then decide (v.kind = 1) else if k = 3 then decide (v.kind = 2)
    else if k = 4 then decide (v.kind = 3) && (decide (nm = ⟨#[]⟩) || decide (v.typ = nm))
    else if k = 5 then decide (v.kind = 4) && v.list.all (FO of)
    else if k = 6 then decide (v.kind = 5) && (decide (v.names = an) && FL att v.list)
    else false
def FO : List PT → Val.T → Bool
  | [], _ => false
  | x :: _, v => F x v
def FL : List PT → List Val.T → Bool
  | x :: l, v :: m => F x v && FL l m
  | _, _ => true
end
theorem F_eq (x : PT) (v : Val.T) : F x v = if x.k = 1 then decide (v.kind = 0) else if x.k = 2 then decide (v.kind = 1) else if x.k = 3 then decide (v.kind = 2)
    else if x.k = 4 then decide (v.kind = 3) && (decide (x.nm = ⟨#[]⟩) || decide (v.typ = x.nm))
    else if x.k = 5 then decide (v.kind = 4) && v.list.all (FO x.of)
    else if x.k = 6 then decide (v.kind = 5) && (decide (v.names = x.an) && FL x.att v.list) else false := by
  cases x; rw [F]; rfl
theorem F_bare0 (v : Val.T) : F (bare 0) v = false := by rw [F_eq]; rfl
theorem FO_part (l : List PT) (v : Val.T) : FO l v = F (part l) v := by
  cases l with
  | nil => rw [FO]; exact (F_bare0 v).symm
  | cons x l => rw [FO]; rfl
theorem F_k0 {x : PT} (h : x.k = 0) (v : Val.T) : F x v = false := by
  rw [F_eq, if_neg (by omega), if_neg (by omega), if_neg (by omega), if_neg (by omega), if_neg (by omega), if_neg (by omega)]
theorem FL_join (n : Nat) (ih : ∀ (x y c : PT) (v : Val.T), SizeOf.sizeOf x ≤ n → good x → good y → J x y = some c → (F x v || F y v) = true → F c v = true) : ∀ (l : List PT) (an bn : List ByteArray) (m r : List PT) (vs : List Val.T),
    (∀ x ∈ l, SizeOf.sizeOf x ≤ n ∧ good x) → (∀ y ∈ m, good y) → JL l an bn m = some r → (FL l vs = true ∨ FL m vs = true) → FL r vs = true := by
  intro l
  induction l with
  | nil => intro an bn m r vs _ _ h _; cases an <;> cases bn <;> cases m <;> simp [JL] at h; subst h; simp [FL]
  | cons x l ihl =>
    intro an bn m r vs hs hm h hv
    cases an with
    | nil => cases bn <;> cases m <;> simp [JL] at h
    | cons s an =>
      cases bn with
      | nil => cases m <;> simp [JL] at h
      | cons t bn =>
        cases m with
        | nil => simp [JL] at h
        | cons y m =>
          rw [JL] at h
          by_cases hst : s = t
          · rw [if_pos hst] at h
            cases hj : J x y with
            | none => rw [hj] at h; simp at h
            | some p =>
              rw [hj] at h
              cases hl : JL l an bn m with
              | none => rw [hl] at h; simp at h
              | some q =>
                rw [hl] at h
                simp at h
                subst h
                cases vs with
                | nil => simp [FL]
                | cons v vs =>
                  rw [FL] at hv ⊢
                  rw [FL] at hv
                  have h1 : F p v = true := ih x y p v (hs x (by simp)).1 (hs x (by simp)).2 (hm y (by simp)) hj (by
                    rcases hv with hv | hv
                    · rw [Bool.and_eq_true] at hv; rw [hv.1]; rfl
                    · rw [Bool.and_eq_true] at hv; rw [hv.1]; simp)
                  have h2 : FL q vs = true := ihl an bn m q vs (fun z hz => hs z (by simp [hz])) (fun z hz => hm z (by simp [hz])) hl (by
                    rcases hv with hv | hv
                    · rw [Bool.and_eq_true] at hv; exact .inl hv.2
                    · rw [Bool.and_eq_true] at hv; exact .inr hv.2)
                  rw [h1, h2]; rfl
          · rw [if_neg hst] at h; cases h
theorem JL_names (l : List PT) : ∀ (an bn : List ByteArray) (m r : List PT), JL l an bn m = some r → an = bn := by
  intro an bn m r h
  exact (JL_comm (SizeOf.sizeOf l) (fun x y hx => J_comm _ x y (Nat.le_refl _)) l an bn m (fun x hx => Nat.le_of_lt (List.sizeOf_lt_of_mem hx))).2 (by rw [h]; rfl)
/-- what fits one of two fits what they are together -/
theorem F_join : ∀ (n : Nat) (a b c : PT) (v : Val.T), SizeOf.sizeOf a ≤ n → good a → good b → J a b = some c → (F a v || F b v) = true → F c v = true := by
  intro n
  induction n with
  | zero => intro x _ _ _ h; cases x; simp at h
  | succ n ih =>
    intro a b c v hn ha0 hb0 h hv
    have ha := ha0
    have hb := hb0
    rw [good_eq] at ha hb
    by_cases h0 : a.k = 0
    · rw [J_l0 h0, trim_id hb0] at h
      cases h
      rw [F_k0 h0] at hv
      simpa using hv
    by_cases hb0' : b.k = 0
    · rw [J_r0 hb0', trim_id ha0] at h
      cases h
      rw [F_k0 hb0'] at hv
      simpa using hv
    rw [J_eq, if_neg h0, if_neg hb0'] at h
    by_cases hk : a.k = b.k
    case neg => rw [if_pos hk] at h; cases h
    rw [if_neg (by simpa using hk)] at h
    rw [F_eq, F_eq b, ← hk] at hv
    by_cases h1 : a.k = 1 ∨ a.k = 2 ∨ a.k = 3
    · rw [if_pos h1] at h
      cases h
      rw [F_eq, show (bare a.k).k = a.k from rfl]
      rcases h1 with h1 | h1 | h1
      · rw [if_pos h1] at hv ⊢; rw [if_pos h1] at hv; simpa using hv
      · rw [if_neg (by omega), if_pos h1] at hv ⊢; rw [if_neg (by omega), if_pos h1] at hv; simpa using hv
      · rw [if_neg (by omega), if_neg (by omega), if_pos h1] at hv ⊢; rw [if_neg (by omega), if_neg (by omega), if_pos h1] at hv; simpa using hv
    rw [if_neg h1] at h
    have e1 : ¬ a.k = 1 := fun e => h1 (.inl e)
    have e2 : ¬ a.k = 2 := fun e => h1 (.inr (.inl e))
    have e3 : ¬ a.k = 3 := fun e => h1 (.inr (.inr e))
    rw [if_neg e1, if_neg e2, if_neg e3, if_neg e1, if_neg e2, if_neg e3] at hv
    by_cases h4 : a.k = 4
    · rw [if_pos h4] at h
      cases h
      rw [if_pos h4, if_pos h4] at hv
      rw [F_eq]
      show (decide (v.kind = 3) && _) = true
      show (decide (v.kind = 3) && (decide ((if a.nm = b.nm then a.nm else ⟨#[]⟩) = (⟨#[]⟩ : ByteArray)) || decide (v.typ = (if a.nm = b.nm then a.nm else ⟨#[]⟩)))) = true
      by_cases he : a.nm = b.nm
      · rw [if_pos he]
        rw [← he] at hv
        simpa using hv
      · rw [if_neg he]
        have : decide (v.kind = 3) = true := by
          cases hd : decide (v.kind = 3) with
          | true => rfl
          | false => rw [hd] at hv; simp at hv
        rw [this]
        simp
    rw [if_neg h4] at h
    rw [if_neg h4, if_neg h4] at hv
    by_cases h5 : a.k = 5
    · rw [if_pos h5] at h
      rw [if_pos h5, if_pos h5] at hv
      obtain ⟨ha1, ha2, ha3⟩ := ha
      obtain ⟨hb1, hb2, hb3⟩ := hb
      obtain ⟨x, hx⟩ : ∃ x, a.of = [x] := by
        rcases ha1 with h | h | h | h
        · omega
        · omega
        · exact h.2.2.1
        · omega
      obtain ⟨y, hy⟩ : ∃ x, b.of = [x] := by
        rcases hb1 with h | h | h | h
        · omega
        · omega
        · exact h.2.2.1
        · omega
      rw [JO_part, hx, hy] at h
      change (J x y).map set = _ at h
      cases hj : J x y with
      | none => rw [hj] at h; cases h
      | some p =>
        rw [hj] at h
        cases h
        rw [F_eq]
        show (decide (v.kind = 4) && v.list.all (FO [p])) = true
        rw [hx, hy] at hv
        have key : ∀ u : Val.T, (F x u || F y u) = true → F p u = true := fun u hu => ih x y p u (by have := lt_of (x := a) (y := x) (by rw [hx]; simp); omega) (goodL_mem ha2 x (by rw [hx]; simp)) (goodL_mem hb2 y (by rw [hy]; simp)) hj hu
        have e : ∀ (z : PT), (FO [z]) = F z := fun z => by funext u; rw [FO]
        rw [e, e] at hv
        rw [e]
        simp only [Bool.or_eq_true, Bool.and_eq_true, List.all_eq_true] at hv ⊢
        rcases hv with ⟨q1, q2⟩ | ⟨q1, q2⟩
        · exact ⟨q1, fun u hu => key u (by rw [q2 u hu]; rfl)⟩
        · exact ⟨q1, fun u hu => key u (by rw [q2 u hu]; simp)⟩
    rw [if_neg h5] at h
    rw [if_neg h5, if_neg h5] at hv
    by_cases h6 : a.k = 6
    · rw [if_pos h6] at h
      rw [if_pos h6, if_pos h6] at hv
      cases hj : JL a.att a.an b.an b.att with
      | none => rw [hj] at h; cases h
      | some r =>
        rw [hj] at h
        cases h
        have hN := JL_names _ _ _ _ _ hj
        rw [F_eq]
        show (decide (v.kind = 5) && (decide (v.names = a.an) && FL r v.list)) = true
        rw [← hN] at hv
        simp only [Bool.or_eq_true, Bool.and_eq_true] at hv ⊢
        have hr := FL_join n ih a.att a.an b.an b.att r v.list (fun z hz => ⟨by have := lt_att hz; omega, goodL_mem ha.2.2 z hz⟩) (goodL_mem hb.2.2) hj
        rcases hv with ⟨q1, q2, q3⟩ | ⟨q1, q2, q3⟩
        · exact ⟨q1, q2, hr (.inl q3)⟩
        · exact ⟨q1, q2, hr (.inr q3)⟩
    · rw [if_neg h6] at h; cases h
/-- no list of attributes is too long to be made anew -/
def fitsL (P : PT → Prop) : List PT → Prop
  | [] => True
  | x :: r => P x ∧ fitsL P r
theorem fitsL_iff {P : PT → Prop} {l : List PT} : fitsL P l ↔ ∀ x ∈ l, P x := by
  induction l with
  | nil => simp [fitsL]
  | cons x l ih => simp [fitsL, ih]
mutual
def small : PT → Prop
  | .mk _ _ of _ att => att.length * 88 ≤ 140737488355328 ∧ smallL of ∧ smallL att
def smallL : List PT → Prop
  | [] => True
  | x :: r => small x ∧ smallL r
end
theorem smallL_iff {l : List PT} : smallL l ↔ ∀ x ∈ l, small x := by
  induction l with
  | nil => simp [smallL]
  | cons x l ih => simp [smallL, ih]
theorem small_iff {x : PT} : small x ↔ x.att.length * 88 ≤ 140737488355328 ∧ (∀ y ∈ x.of, small y) ∧ ∀ y ∈ x.att, small y := by
  cases x
  simp only [small, smallL_iff]
  rfl
theorem small_bare (n : Nat) : small (bare n) := small_iff.2 ⟨(show 0 * 88 ≤ 140737488355328 by decide), (by intro y h; cases h), (by intro y h; cases h)⟩
theorem small_ent (s : ByteArray) : small (ent s) := small_iff.2 ⟨(show 0 * 88 ≤ 140737488355328 by decide), (by intro y h; cases h), (by intro y h; cases h)⟩
theorem small_set {x : PT} (h : small x) : small (set x) := small_iff.2 ⟨(show 0 * 88 ≤ 140737488355328 by decide), (by intro y hy; rw [List.mem_singleton.1 hy]; exact h), (by intro y h; cases h)⟩
theorem small_rcd {an : List ByteArray} {l : List PT} (h1 : l.length * 88 ≤ 140737488355328) (h : ∀ y ∈ l, small y) : small (rcd an l) := small_iff.2 ⟨h1, (by intro y h; cases h), h⟩
theorem trimL_len (l : List PT) : (trimL l).length = l.length := by
  induction l with
  | nil => rfl
  | cons x l ih => rw [trimL, List.length_cons, ih]; rfl
theorem trimL_all {l : List PT} (h : ∀ x ∈ l, small (trim x)) : ∀ y ∈ trimL l, small y := by
  induction l with
  | nil => intro y hy; cases hy
  | cons x l ih =>
    intro y hy
    rw [trimL] at hy
    rcases List.mem_cons.1 hy with rfl | hy
    · exact h x (by simp)
    · exact ih (fun z hz => h z (by simp [hz])) y hy
theorem small_trim : ∀ (n : Nat) (x : PT), SizeOf.sizeOf x ≤ n → small x → small (trim x) := by
  intro n
  induction n with
  | zero => intro x h; cases x; simp at h
  | succ n ih =>
    intro x hn hs
    obtain ⟨h1, h2, h3⟩ := small_iff.1 hs
    rw [trim_eq]
    split
    · exact small_ent _
    · split
      · cases hx : x.of with
        | nil => rw [trimO]; exact small_set (small_bare 0)
        | cons y l =>
          rw [trimO]
          exact small_set (ih y (by have := lt_of (x := x) (y := y) (by rw [hx]; simp); omega) (h2 y (by rw [hx]; simp)))
      · split
        · exact small_rcd (by rw [trimL_len]; exact h1) (trimL_all (fun y hy => ih y (by have := lt_att hy; omega) (h3 y hy)))
        · exact small_bare _
theorem JL_small (n : Nat) (ih : ∀ x y c : PT, SizeOf.sizeOf x ≤ n → small x → small y → J x y = some c → small c) : ∀ (l : List PT) (an bn : List ByteArray) (m r : List PT), (∀ x ∈ l, SizeOf.sizeOf x ≤ n ∧ small x) → (∀ y ∈ m, small y) →
    JL l an bn m = some r → r.length = l.length ∧ ∀ z ∈ r, small z := by
  intro l
  induction l with
  | nil => intro an bn m r _ _ h; cases an <;> cases bn <;> cases m <;> simp [JL] at h; subst h; simp
  | cons x l ihl =>
    intro an bn m r hs hm h
    cases an with
    | nil => cases bn <;> cases m <;> simp [JL] at h
    | cons s an =>
      cases bn with
      | nil => cases m <;> simp [JL] at h
      | cons t bn =>
        cases m with
        | nil => simp [JL] at h
        | cons y m =>
          rw [JL] at h
          by_cases hst : s = t
          · rw [if_pos hst] at h
            cases hj : J x y with
            | none => rw [hj] at h; simp at h
            | some p =>
              rw [hj] at h
              cases hl : JL l an bn m with
              | none => rw [hl] at h; simp at h
              | some q =>
                rw [hl] at h
                simp at h
                subst h
                obtain ⟨q1, q2⟩ := ihl an bn m q (fun z hz => hs z (by simp [hz])) (fun z hz => hm z (by simp [hz])) hl
                refine ⟨by simp [q1], fun z hz => ?_⟩
                rcases List.mem_cons.1 hz with rfl | hz
                · exact ih x y _ (hs x (by simp)).1 (hs x (by simp)).2 (hm y (by simp)) hj
                · exact q2 z hz
          · rw [if_neg hst] at h; cases h
theorem J_small : ∀ (n : Nat) (a b c : PT), SizeOf.sizeOf a ≤ n → small a → small b → J a b = some c → small c := by
  intro n
  induction n with
  | zero => intro x _ _ h; cases x; simp at h
  | succ n ih =>
    intro a b c hn ha hb h
    by_cases h0 : a.k = 0
    · rw [J_l0 h0] at h; cases h; exact small_trim _ b (Nat.le_refl _) hb
    by_cases hb0 : b.k = 0
    · rw [J_r0 hb0] at h; cases h; exact small_trim _ a (Nat.le_refl _) ha
    obtain ⟨a1, a2, a3⟩ := small_iff.1 ha
    obtain ⟨b1, b2, b3⟩ := small_iff.1 hb
    rw [J_eq, if_neg h0, if_neg hb0] at h
    split at h
    · cases h
    · split at h
      · cases h; exact small_bare _
      · split at h
        · cases h; exact small_ent _
        · split at h
          · rw [JO_part] at h
            cases hj : J (part a.of) (part b.of) with
            | none => rw [hj] at h; cases h
            | some p =>
              rw [hj] at h
              cases h
              refine small_set ?_
              have hpb : small (part b.of) := by cases hb' : b.of with | nil => exact small_bare 0 | cons y l => exact b2 y (by rw [hb']; simp)
              cases ha' : a.of with
              | nil =>
                rw [ha'] at hj
                rw [show part [] = bare 0 from rfl, J_l0 rfl] at hj
                cases hj
                exact small_trim _ _ (Nat.le_refl _) hpb
              | cons y l =>
                rw [ha'] at hj
                exact ih y _ _ (by have := lt_of (x := a) (y := y) (by rw [ha']; simp); omega) (a2 y (by rw [ha']; simp)) hpb hj
          · split at h
            · cases hj : JL a.att a.an b.an b.att with
              | none => rw [hj] at h; cases h
              | some r =>
                rw [hj] at h
                cases h
                obtain ⟨q1, q2⟩ := JL_small n ih a.att a.an b.an b.att r (fun z hz => ⟨by have := lt_att hz; omega, a3 z hz⟩) b3 hj
                exact small_rcd (by rw [q1]; exact a1) q2
            · cases h
end PT
mutual
/-- a type without its slices -/
def er : Ty → PT
  | .mk k nm of _ an att _ => .mk k nm (erL of) an (erL att)
def erL : List Ty → List PT
  | [] => []
  | x :: r => er x :: erL r
end
theorem er_k (x : Ty) : (er x).k = x.kind := by cases x; rw [er]; rfl
theorem er_nm (x : Ty) : (er x).nm = x.name := by cases x; rw [er]; rfl
theorem er_of (x : Ty) : (er x).of = erL x.of := by cases x; rw [er]; rfl
theorem er_an (x : Ty) : (er x).an = x.an := by cases x; rw [er]; rfl
theorem er_att (x : Ty) : (er x).att = erL x.att := by cases x; rw [er]; rfl
theorem erL_map (l : List Ty) : erL l = l.map er := by
  induction l with
  | nil => rfl
  | cons x l ih => rw [erL, ih]; rfl
theorem erL_like : ∀ (a b : List Ty), (∀ x ∈ a, ∀ y, er x = er y → x.like y) → erL a = erL b → Ty.likeL a b := by
  intro a
  induction a with
  | nil => intro b _ h; cases b with | nil => exact trivial | cons y b => cases h
  | cons x a ih =>
    intro b hs h
    cases b with
    | nil => cases h
    | cons y b =>
      rw [erL, erL] at h
      simp only [List.cons.injEq] at h
      exact ⟨hs x (by simp) y h.1, ih b (fun z hz => hs z (by simp [hz])) h.2⟩
theorem er_like : ∀ (n : Nat) (x y : Ty), x.size ≤ n → er x = er y → x.like y := by
  intro n
  induction n with
  | zero => intro x y h; have := x.size_pos; omega
  | succ n ih =>
    intro x y hn h
    refine Ty.like_iff.2 ⟨by rw [← er_k, h, er_k], by rw [← er_nm, h, er_nm], by rw [← er_an, h, er_an], ?_, ?_⟩
    · exact erL_like _ _ (fun z hz u hu => ih z u (by have := Ty.size_of hz; omega) hu) (by rw [← er_of, h, er_of])
    · exact erL_like _ _ (fun z hz u hu => ih z u (by have := Ty.size_att hz; omega) hu) (by rw [← er_att, h, er_att])
theorem like_of_er {x y : Ty} (h : er x = er y) : x.like y := er_like _ x y (Nat.le_refl _) h
theorem mem_erL {l : List Ty} {p : PT} (h : p ∈ erL l) : ∃ x ∈ l, er x = p := by rw [erL_map] at h; simpa using h
theorem rightL_mem {l : List Ty} (h : rightL l = true) : ∀ x ∈ l, rightB x = true := by
  induction l with
  | nil => intro x hx; cases hx
  | cons y l ih =>
    rw [rightL, Bool.and_eq_true] at h
    intro x hx
    rcases List.mem_cons.1 hx with rfl | hx
    · exact h.1
    · exact ih h.2 x hx
theorem goodL_iff {l : List PT} : PT.goodL l ↔ ∀ x ∈ l, PT.good x := by
  induction l with
  | nil => simp [PT.goodL]
  | cons x l ih => simp [PT.goodL, ih]
theorem size0 {s : ByteArray} (h : s.size = 0) : s = ⟨#[]⟩ := by
  have : s.data = #[] := by apply Array.eq_empty_of_size_eq_zero; exact h
  cases s; simp only at this; rw [this]
theorem good_er {w : World} : ∀ (n : Nat) (x : Ty), x.size ≤ n → x.ok w → rightB x = true → PT.good (er x) := by
  intro n
  induction n with
  | zero => intro x h; have := x.size_pos; omega
  | succ n ih =>
    intro x hn hok hr
    rw [rightB_eq, Bool.and_eq_true, Bool.and_eq_true] at hr
    obtain ⟨hf, ho, ha⟩ := hr
    have hl := hok.parts.2.2.2.1
    rw [PT.good_eq, er_k, er_nm, er_of, er_an, er_att]
    refine ⟨?_, goodL_iff.2 (fun p hp => ?_), goodL_iff.2 (fun p hp => ?_)⟩
    · unfold fldB at hf
      have nil_of : x.of.length = 0 → erL x.of = [] := fun h => by rw [List.eq_nil_of_length_eq_zero h]; rfl
      have nil_att : x.att.length = 0 → erL x.att = [] ∧ x.an = [] := fun h => ⟨by rw [List.eq_nil_of_length_eq_zero h]; rfl, List.eq_nil_of_length_eq_zero (by omega)⟩
      split at hf
      · simp only [Bool.and_eq_true, decide_eq_true_eq] at hf
        rename_i hk
        exact .inl ⟨by omega, size0 hf.2.1, nil_of hf.2.2.1, (nil_att hf.2.2.2).2, (nil_att hf.2.2.2).1⟩
      · split at hf
        · simp only [Bool.and_eq_true, decide_eq_true_eq] at hf
          rename_i hk
          exact .inr (.inl ⟨hk, nil_of hf.2.2.1, (nil_att hf.2.2.2).2, (nil_att hf.2.2.2).1⟩)
        · split at hf
          · simp only [Bool.and_eq_true, decide_eq_true_eq] at hf
            rename_i hk
            obtain ⟨y, hy⟩ := List.length_eq_one_iff.1 hf.1
            exact .inr (.inr (.inl ⟨hk, size0 hf.2.1, ⟨er y, by rw [hy]; rfl⟩, (nil_att hf.2.2.2).2, (nil_att hf.2.2.2).1⟩))
          · split at hf
            · simp only [Bool.and_eq_true, decide_eq_true_eq] at hf
              rename_i hk
              exact .inr (.inr (.inr ⟨hk, size0 hf.2.1, nil_of hf.2.2.1, by rw [erL_map, List.length_map]; exact hl⟩))
            · cases hf
    · obtain ⟨y, hy, rfl⟩ := mem_erL hp
      exact ih y (by have := Ty.size_of hy; omega) (hok.parts.2.2.2.2.2.2.1 y hy) (rightL_mem ho y hy)
    · obtain ⟨y, hy, rfl⟩ := mem_erL hp
      exact ih y (by have := Ty.size_att hy; omega) (hok.parts.2.2.2.2.2.2.2 y hy) (rightL_mem ha y hy)
theorem small_er : ∀ (n : Nat) (x : Ty), x.size ≤ n → x.fit → PT.small (er x) := by
  intro n
  induction n with
  | zero => intro x h; have := x.size_pos; omega
  | succ n ih =>
    intro x hn hf
    obtain ⟨_, f2, f3, f4⟩ := Ty.fit_iff.1 hf
    refine PT.small_iff.2 ⟨by rw [er_att, erL_map, List.length_map]; exact f2, fun p hp => ?_, fun p hp => ?_⟩
    · rw [er_of] at hp
      obtain ⟨y, hy, rfl⟩ := mem_erL hp
      exact ih y (by have := Ty.size_of hy; omega) (f3 y hy)
    · rw [er_att] at hp
      obtain ⟨y, hy, rfl⟩ := mem_erL hp
      exact ih y (by have := Ty.size_att hy; omega) (f4 y hy)
end Go.Proofs.YtklclfolmfhocaaGreatDoor.Tyt
