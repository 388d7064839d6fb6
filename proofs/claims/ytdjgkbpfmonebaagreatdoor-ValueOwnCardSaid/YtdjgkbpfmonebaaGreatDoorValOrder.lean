/-
  value.Compare is an order of right values.
-/
import Derived.Test.YtdjgkbpfmonebaaGreatDoorOrdMath
import Derived.Test.YtdjgkbpfmonebaaGreatDoorValCheck
namespace Go.Proofs.YtdjgkbpfmonebaaGreatDoor.Val
open Go.ChangeShapes Go.WideShapes Go.ChangeAt Go.RowKit
open Go.Proofs.YtdjgkbpfmonebaaGreatDoor.Mem Go.Proofs.YtdjgkbpfmonebaaGreatDoor.Ord
set_option linter.unusedVariables false
set_option linter.unusedSimpArgs false
theorem sgn_good : Orders (fun _ => True) sgn where
  anti x y _ _ := by unfold sgn; split <;> split <;> (try split) <;> omega
  trans x y z _ _ _ h g := by
    unfold sgn at *
    split at h <;> split at g <;> (try split at h) <;> (try split at g) <;> (split <;> (try split)) <;> omega
def c8 (a b : UInt8) : Int := sgn (a.toNat : Int) (b.toNat : Int)
theorem c8_good : Orders (fun _ => True) c8 := sgn_good.pull (fun a : UInt8 => (a.toNat : Int)) (fun _ _ => trivial)
theorem sgs_list : ∀ x y : List UInt8, (if Op.bytesLess x y = true then (-1 : Int) else if (x == y) = true then 0 else 1) = lexC c8 x y
  | [], [] => by simp [Op.bytesLess, lexC]
  | [], y :: ys => by simp [Op.bytesLess, lexC]
  | x :: xs, [] => by simp [Op.bytesLess, lexC]
  | x :: xs, y :: ys => by
    have ih := sgs_list xs ys
    rw [lexC]
    rcases Nat.lt_trichotomy x.toNat y.toNat with h | h | h
    · have e : c8 x y = -1 := by unfold c8 sgn; rw [if_pos (by omega)]
      have hb : Op.bytesLess (x :: xs) (y :: ys) = true := by
        rw [Op.bytesLess]
        simp [show x < y from UInt8.lt_iff_toNat_lt.2 h]
      rw [if_pos hb, e]; rfl
    · have exy : x = y := UInt8.toNat_inj.1 h
      subst exy
      have e : c8 x x = 0 := by unfold c8 sgn; rw [if_neg (by omega), if_neg (by omega)]
      rw [if_pos e, ← ih]
      have hb : Op.bytesLess (x :: xs) (x :: ys) = Op.bytesLess xs ys := by
        rw [Op.bytesLess]
        simp [show ¬ x < x from fun h => by have := UInt8.lt_iff_toNat_lt.1 h; omega]
      rw [hb]
      simp
    · have e : c8 x y = 1 := by unfold c8 sgn; rw [if_neg (by omega), if_pos (by omega)]
      have hne : x ≠ y := fun e => by subst e; omega
      have hb : Op.bytesLess (x :: xs) (y :: ys) = false := by
        rw [Op.bytesLess]
        have : ¬ x < y := fun h' => by have := UInt8.lt_iff_toNat_lt.1 h'; omega
        simp [this, hne]
      rw [if_neg (by rw [hb]; simp), if_neg (by simp [hne]), e]; rfl
theorem sgs_lex (a b : ByteArray) : sgs a b = lexC c8 a.toList b.toList := sgs_list _ _
theorem sgs_good : Orders (fun _ => True) sgs := by
  have h := (lexC_good c8_good).pull (fun a : ByteArray => a.toList) (R := fun _ => True) (fun _ _ _ _ => trivial)
  have e : sgs = fun x y => lexC c8 x.toList y.toList := by funext a b; exact sgs_lex a b
  rw [e]; exact h
theorem sgs_zero {a b : ByteArray} : (a.toList == b.toList) = decide (sgs a b = 0) := by
  unfold sgs
  by_cases h : a.toList = b.toList
  · have h1 : Op.bytesLess a.toList b.toList = false := by
      have := sgs_good.self (x := a) trivial
      unfold sgs at this
      rw [← h]
      cases hb : Op.bytesLess a.toList a.toList with
      | false => rfl
      | true => rw [if_pos hb] at this; omega
    rw [h] at h1
    simp [h1, h]
  · have h2 : (a.toList == b.toList) = false := by simpa using h
    rw [h2]
    cases Op.bytesLess a.toList b.toList <;> simp
theorem cmpL_set (xs : List T) : ∀ (ys : List T) (e : Int), e = sgn (xs.length : Int) (ys.length : Int) → cmpL [] [] xs ys e = lexC cmpT xs ys := by
  induction xs with
  | nil =>
    intro ys e he
    rw [cmpL]
    subst he
    cases ys with
    | nil => simp [lexC, sgn]
    | cons y ys => simp [lexC, sgn] <;> omega
  | cons x xs ih =>
    intro ys e he
    cases ys with
    | nil => rw [cmpL, he]; simp [lexC, sgn] <;> omega
    | cons y ys =>
      rw [cmpL, lexC, if_neg (by simp [likeH])]
      by_cases h : cmpT x y = 0
      · rw [if_neg (by simpa using h), if_pos h]
        exact ih ys e (by rw [he]; unfold sgn; simp only [List.length_cons]; push_cast; by_cases g : (xs.length : Int) < ys.length <;> by_cases g' : (ys.length : Int) < xs.length <;> simp [g, g'] <;> omega)
      · rw [if_pos h, if_neg h]
def pairC (p q : ByteArray × T) : Int := if sgs p.1 q.1 = 0 then cmpT p.2 q.2 else sgs p.1 q.1
theorem cmpL_rec (xs : List T) : ∀ (na nb : List ByteArray) (ys : List T) (e : Int), na.length = xs.length → nb.length = ys.length → e = sgn (xs.length : Int) (ys.length : Int) → cmpL na nb xs ys e = lexC pairC (na.zip xs) (nb.zip ys) := by
  induction xs with
  | nil =>
    intro na nb ys e h1 h2 he
    rw [cmpL]
    subst he
    obtain rfl : na = [] := List.eq_nil_of_length_eq_zero (by simpa using h1)
    cases ys with
    | nil => simp [lexC, sgn]
    | cons y ys =>
      cases nb with
      | nil => simp at h2
      | cons q nb => simp [lexC, sgn] <;> omega
  | cons x xs ih =>
    intro na nb ys e h1 h2 he
    cases na with
    | nil => simp at h1
    | cons p na =>
      cases ys with
      | nil =>
        obtain rfl : nb = [] := List.eq_nil_of_length_eq_zero (by simpa using h2)
        rw [cmpL, he]; simp [lexC, sgn] <;> omega
      | cons y ys =>
        cases nb with
        | nil => simp at h2
        | cons q nb =>
          rw [cmpL]
          simp only [List.zip_cons_cons, lexC, likeH, apartH, List.tail_cons, sgs_zero, pairC]
          by_cases hs : sgs p q = 0
          · simp only [hs, decide_true, if_true, Bool.true_eq_false, if_false]
            by_cases h : cmpT x y = 0
            · rw [if_neg (by simpa using h), if_pos h]
              exact ih na nb ys e (by simpa using h1) (by simpa using h2) (by rw [he]; unfold sgn; simp only [List.length_cons]; push_cast; by_cases g : (xs.length : Int) < ys.length <;> by_cases g' : (ys.length : Int) < xs.length <;> simp [g, g'] <;> omega)
            · rw [if_pos h, if_neg h]
          · simp [hs]
/-- a value is right, but for how deep and how much it is -/
def RightT (x : T) : Prop := measT x ≠ none
theorem measL_all {l : List T} : ∀ {d c : Int}, measL l d c ≠ none → ∀ z ∈ l, RightT z := by
  induction l with
  | nil => intro d c _ z hz; simp at hz
  | cons x l ih =>
    intro d c h z hz
    rw [measL] at h
    cases hm : measT x with
    | none => rw [hm] at h; exact absurd rfl h
    | some p =>
      rw [hm] at h
      rcases List.mem_cons.1 hz with rfl | hz
      · intro e; rw [hm] at e; exact absurd e (by simp)
      · exact ih h z hz
theorem RightT.fr {x : T} (h : RightT x) : frB x = true := by
  cases hf : frB x with
  | true => rfl
  | false => exact absurd (by rw [measT_eq, if_pos hf]) h
theorem RightT.parts {x : T} (h : RightT x) : ∀ z ∈ x.list, RightT z := by
  have h' := h
  unfold RightT at h'
  rw [measT_eq, if_neg (by rw [h.fr]; simp)] at h'
  exact measL_all (d := 0) (c := 1) (fun e => h' (by rw [e]; rfl))
theorem RightT.set {x : T} (h : RightT x) (hk : x.kind = 4) : x.names = [] := by
  have := h.fr
  unfold frB at this
  rw [if_neg (by omega), if_neg (by omega), if_neg (by omega), if_neg (by omega), if_pos hk] at this
  unfold bareB at this
  simp only [Bool.and_eq_true, decide_eq_true_eq] at this
  exact List.eq_nil_of_length_eq_zero this.2.2.2.2.2.1
theorem RightT.rec' {x : T} (h : RightT x) (hk : x.kind = 5) : x.names.length = x.list.length := by
  have := h.fr
  unfold frB at this
  rw [if_neg (by omega), if_neg (by omega), if_neg (by omega), if_neg (by omega), if_neg (by omega), if_pos hk] at this
  simp only [Bool.and_eq_true, decide_eq_true_eq] at this
  exact this.1.1.2
theorem RightT.kind6 {x : T} (h : RightT x) : x.kind < 6 := by
  have := h.fr
  unfold frB at this
  by_cases h0 : x.kind = 0
  · omega
  by_cases h1 : x.kind = 1
  · omega
  by_cases h2 : x.kind = 2
  · omega
  by_cases h3 : x.kind = 3
  · omega
  by_cases h4 : x.kind = 4
  · omega
  by_cases h5 : x.kind = 5
  · omega
  rw [if_neg h0, if_neg h1, if_neg h2, if_neg h3, if_neg h4, if_neg h5] at this
  exact absurd this (by simp)
/-- values of one kind, held against each other -/
def sameC (k : Nat) (x y : T) : Int :=
  if k = 0 then sgn (bitE x.bool) (bitE y.bool)
  else if k = 1 then sgn x.num y.num
  else if k = 2 then sgs x.str y.str
  else if k = 3 then orE (sgs x.typ y.typ) (sgs x.str y.str)
  else if k = 4 then lexC cmpT x.list y.list
  else lexC pairC (x.names.zip x.list) (y.names.zip y.list)
theorem cmpT_same {x y : T} (hx : RightT x) (hy : RightT y) (e : x.kind = y.kind) : cmpT x y = sameC x.kind x y := by
  rw [cmpT_eq, if_neg (by simpa using e)]
  unfold sameC
  have h6 := hx.kind6
  by_cases h0 : x.kind = 0
  · rw [if_pos h0, if_pos h0]
  rw [if_neg h0, if_neg h0]
  by_cases h1 : x.kind = 1
  · rw [if_pos h1, if_pos h1]
  rw [if_neg h1, if_neg h1]
  by_cases h2 : x.kind = 2
  · rw [if_pos h2, if_pos h2]
  rw [if_neg h2, if_neg h2]
  by_cases h3 : x.kind = 3
  · rw [if_pos h3, if_pos h3]
  rw [if_neg h3, if_neg h3, if_pos (by omega)]
  by_cases h4 : x.kind = 4
  · rw [if_pos h4, hx.set h4, hy.set (by omega)]
    exact cmpL_set _ _ _ rfl
  · rw [if_neg h4]
    exact cmpL_rec _ _ _ _ _ (hx.rec' (by omega)) (hy.rec' (by omega)) rfl
theorem zip_snd {a : List ByteArray} {l : List T} : ∀ p ∈ a.zip l, p.2 ∈ l := fun p hp => (List.of_mem_zip (a := p.1) (b := p.2) hp).2
theorem sameC_good {n k : Nat} (h : Orders (fun x => RightT x ∧ x.size ≤ n) cmpT) : Orders (fun x => RightT x ∧ x.size ≤ n + 1) (sameC k) := by
  have hp : Orders (fun p : ByteArray × T => RightT p.2 ∧ p.2.size ≤ n) pairC :=
    (sgs_good.pull (fun p : ByteArray × T => p.1) (fun _ _ => trivial)).or (h.pull (fun p : ByteArray × T => p.2) (R := fun p => RightT p.2 ∧ p.2.size ≤ n) (fun _ hx => hx))
  have hpart : ∀ x : T, RightT x ∧ x.size ≤ n + 1 → ∀ z ∈ x.list, RightT z ∧ z.size ≤ n := fun x hx z hz => ⟨hx.1.parts z hz, by have := T.size_part hz; omega⟩
  by_cases h0 : k = 0
  · have e : sameC k = fun x y => sgn (bitE x.bool) (bitE y.bool) := by funext x y; unfold sameC; rw [if_pos h0]
    rw [e]; exact sgn_good.pull (fun x : T => bitE x.bool) (fun _ _ => trivial)
  by_cases h1 : k = 1
  · have e : sameC k = fun x y => sgn x.num y.num := by funext x y; unfold sameC; rw [if_neg h0, if_pos h1]
    rw [e]; exact sgn_good.pull (fun x : T => x.num) (fun _ _ => trivial)
  by_cases h2 : k = 2
  · have e : sameC k = fun x y => sgs x.str y.str := by funext x y; unfold sameC; rw [if_neg h0, if_neg h1, if_pos h2]
    rw [e]; exact sgs_good.pull (fun x : T => x.str) (fun _ _ => trivial)
  by_cases h3 : k = 3
  · have e : sameC k = fun x y => if sgs x.typ y.typ = 0 then sgs x.str y.str else sgs x.typ y.typ := by funext x y; unfold sameC; rw [if_neg h0, if_neg h1, if_neg h2, if_pos h3]; rfl
    rw [e]; exact (sgs_good.pull (fun x : T => x.typ) (fun _ _ => trivial)).or (sgs_good.pull (fun x : T => x.str) (fun _ _ => trivial))
  by_cases h4 : k = 4
  · have e : sameC k = fun x y => lexC cmpT x.list y.list := by funext x y; unfold sameC; rw [if_neg h0, if_neg h1, if_neg h2, if_neg h3, if_pos h4]
    rw [e]; exact (lexC_good h).pull (fun x : T => x.list) hpart
  · have e : sameC k = fun x y => lexC pairC (x.names.zip x.list) (y.names.zip y.list) := by funext x y; unfold sameC; rw [if_neg h0, if_neg h1, if_neg h2, if_neg h3, if_neg h4]
    rw [e]; exact (lexC_good hp).pull (fun x : T => x.names.zip x.list) (fun x hx p hp => hpart x hx _ (zip_snd p hp))
theorem cmpT_goodN (n : Nat) : Orders (fun x => RightT x ∧ x.size ≤ n) cmpT := by
  induction n with
  | zero => exact ⟨fun x y hx _ => by have := x.size_pos; have := hx.2; omega, fun x y z hx _ _ _ _ => by have := x.size_pos; have := hx.2; omega⟩
  | succ n ih =>
    have hneq : ∀ x y : T, x.kind ≠ y.kind → cmpT x y = sgn x.kind y.kind := fun x y h => by rw [cmpT_eq, if_pos h]
    refine ⟨fun x y hx hy => ?_, fun x y z hx hy hz a b => ?_⟩
    · by_cases e : x.kind = y.kind
      · rw [cmpT_same hx.1 hy.1 e, cmpT_same hy.1 hx.1 e.symm, ← e]
        exact (sameC_good (k := x.kind) ih).anti x y hx hy
      · rw [hneq _ _ e, hneq _ _ (Ne.symm e)]
        exact sgn_good.anti _ _ trivial trivial
    · have ka : (x.kind : Int) ≤ y.kind := by
        by_cases e : x.kind = y.kind
        · omega
        · rw [hneq _ _ e] at a; unfold sgn at a; split at a
          · omega
          · split at a <;> omega
      have kb : (y.kind : Int) ≤ z.kind := by
        by_cases e : y.kind = z.kind
        · omega
        · rw [hneq _ _ e] at b; unfold sgn at b; split at b
          · omega
          · split at b <;> omega
      by_cases e : x.kind = z.kind
      · have e1 : x.kind = y.kind := by omega
        have e2 : y.kind = z.kind := by omega
        rw [cmpT_same hx.1 hy.1 e1] at a
        rw [cmpT_same hy.1 hz.1 e2, ← e1] at b
        rw [cmpT_same hx.1 hz.1 e]
        exact (sameC_good (k := x.kind) ih).trans x y z hx hy hz a b
      · rw [hneq _ _ e]
        unfold sgn
        rw [if_pos (by omega)]
        omega
theorem cmpT_good : Orders RightT cmpT :=
  ⟨fun x y hx hy => (cmpT_goodN (max x.size y.size)).anti x y ⟨hx, Nat.le_max_left ..⟩ ⟨hy, Nat.le_max_right ..⟩,
   fun x y z hx hy hz => (cmpT_goodN (max x.size (max y.size z.size))).trans x y z ⟨hx, Nat.le_max_left ..⟩ ⟨hy, Nat.le_trans (Nat.le_max_left ..) (Nat.le_max_right ..)⟩ ⟨hz, Nat.le_trans (Nat.le_max_right ..) (Nat.le_max_right ..)⟩⟩
end Go.Proofs.YtdjgkbpfmonebaaGreatDoor.Val
