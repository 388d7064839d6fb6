/-
  like: an equivalence; what is read of a value is the same of one that is like it. No program text is walked.
-/
import Derived.Test.YtdjgkbpfmonebaaGreatDoorValSame
import Derived.Test.YtdjgkbpfmonebaaGreatDoorValCheck
namespace Go.Proofs.YtdjgkbpfmonebaaGreatDoor.Val
open Go.ChangeShapes Go.WideShapes Go.ChangeAt Go.RowKit
open Go.Proofs.YtdjgkbpfmonebaaGreatDoor.Mem Go.Proofs.YtdjgkbpfmonebaaGreatDoor.Nam
set_option linter.unusedVariables false
set_option linter.unusedSimpArgs false
theorem T.like_symm : ∀ {x y : T}, x.like y → y.like x := by
  suffices h : ∀ n (x y : T), x.size ≤ n → x.like y → y.like x from fun {x y} => h x.size x y (Nat.le_refl _)
  intro n
  induction n with
  | zero => intro x y hx; have := x.size_pos; omega
  | succ n ih =>
    intro x y hx h
    obtain ⟨h1, h2, h3, h4, h5, h6, h7⟩ := T.like_iff.1 h
    refine T.like_iff.2 ⟨h1.symm, h2.symm, h3.symm, h4.symm, h5.symm, h6.symm, ?_⟩
    have hk : ∀ (a b : List T), (∀ u ∈ a, u.size ≤ n) → T.likeL a b → T.likeL b a := by
      intro a
      induction a with
      | nil =>
        intro b _ h
        cases b with
        | nil => exact h
        | cons y b => exact absurd h (by simp [T.likeL])
      | cons u a iha =>
        intro b hs h
        cases b with
        | nil => exact absurd h (by simp [T.likeL])
        | cons v b => exact ⟨ih u v (hs u (List.mem_cons_self ..)) h.1, iha b (fun z hz => hs z (List.mem_cons_of_mem _ hz)) h.2⟩
    exact hk _ _ (fun u hu => by have := T.size_part hu; omega) h7
theorem T.like_trans : ∀ {x y z : T}, x.like y → y.like z → x.like z := by
  suffices h : ∀ n (x y z : T), x.size ≤ n → x.like y → y.like z → x.like z from fun {x y z} => h x.size x y z (Nat.le_refl _)
  intro n
  induction n with
  | zero => intro x y z hx; have := x.size_pos; omega
  | succ n ih =>
    intro x y z hx h g
    obtain ⟨h1, h2, h3, h4, h5, h6, h7⟩ := T.like_iff.1 h
    obtain ⟨g1, g2, g3, g4, g5, g6, g7⟩ := T.like_iff.1 g
    refine T.like_iff.2 ⟨h1.trans g1, h2.trans g2, h3.trans g3, h4.trans g4, h5.trans g5, h6.trans g6, ?_⟩
    have hk : ∀ (a b c : List T), (∀ u ∈ a, u.size ≤ n) → T.likeL a b → T.likeL b c → T.likeL a c := by
      intro a
      induction a with
      | nil =>
        intro b c _ h g
        cases b with
        | nil => exact g
        | cons y b => exact absurd h (by simp [T.likeL])
      | cons u a iha =>
        intro b c hs h g
        cases b with
        | nil => exact absurd h (by simp [T.likeL])
        | cons v b =>
          cases c with
          | nil => exact absurd g (by simp [T.likeL])
          | cons w c => exact ⟨ih u v w (hs u (List.mem_cons_self ..)) h.1 g.1, iha b c (fun z hz => hs z (List.mem_cons_of_mem _ hz)) h.2 g.2⟩
    exact hk _ _ _ (fun u hu => by have := T.size_part hu; omega) h7 g7
theorem T.likeL_get {a b : List T} (h : T.likeL a b) (i : Nat) (hi : i < a.length) (hj : i < b.length) : (a[i]).like b[i] := by
  induction a generalizing b i with
  | nil => simp at hi
  | cons x a ih =>
    cases b with
    | nil => exact absurd h (by simp [T.likeL])
    | cons y b =>
      cases i with
      | zero => exact h.1
      | succ i => exact ih h.2 i (by simpa using hi) (by simpa using hj)
theorem like_cmp : ∀ {x y x' y' : T}, x.like x' → y.like y' → cmpT x y = cmpT x' y' := by
  suffices h : ∀ n (x y x' y' : T), x.size ≤ n → x.like x' → y.like y' → cmpT x y = cmpT x' y' from fun {x y x' y'} => h x.size x y x' y' (Nat.le_refl _)
  intro n
  induction n with
  | zero => intro x y x' y' hx; have := x.size_pos; omega
  | succ n ih =>
    intro x y x' y' hx h g
    obtain ⟨h1, h2, h3, h4, h5, h6, h7⟩ := T.like_iff.1 h
    obtain ⟨g1, g2, g3, g4, g5, g6, g7⟩ := T.like_iff.1 g
    have hk : ∀ (a a' b b' : List T) (na nb : List ByteArray) (e : Int), (∀ u ∈ a, u.size ≤ n) → T.likeL a a' → T.likeL b b' → cmpL na nb a b e = cmpL na nb a' b' e := by
      intro a
      induction a with
      | nil =>
        intro a' b b' na nb e _ h g
        cases a' with
        | nil => rw [cmpL, cmpL]
        | cons y b => exact absurd h (by simp [T.likeL])
      | cons u a iha =>
        intro a' b b' na nb e hs h g
        cases a' with
        | nil => exact absurd h (by simp [T.likeL])
        | cons u' a' =>
          cases b with
          | nil =>
            cases b' with
            | nil => rw [cmpL, cmpL]
            | cons v' b' => exact absurd g (by simp [T.likeL])
          | cons v b =>
            cases b' with
            | nil => exact absurd g (by simp [T.likeL])
            | cons v' b' =>
              rw [cmpL, cmpL, ih u v u' v' (hs u (List.mem_cons_self ..)) h.1 g.1, iha a' b b' na.tail nb.tail e (fun z hz => hs z (List.mem_cons_of_mem _ hz)) h.2 g.2]
    rw [cmpT_eq, cmpT_eq, h1, h2, h3, h4, h5, h6, g1, g2, g3, g4, g5, g6, T.likeL_length h7, T.likeL_length g7, hk _ _ _ _ _ _ _ (fun u hu => by have := T.size_part hu; omega) h7 g7]
theorem like_rise {a b : List T} (h : T.likeL a b) : riseB a = riseB b := by
  induction a generalizing b with
  | nil =>
    cases b with
    | nil => rfl
    | cons y b => exact absurd h (by simp [T.likeL])
  | cons x a ih =>
    cases b with
    | nil => exact absurd h (by simp [T.likeL])
    | cons y b =>
      have hr := ih h.2
      cases a with
      | nil =>
        cases b with
        | nil => rfl
        | cons y' b => exact absurd h.2 (by simp [T.likeL])
      | cons x' a =>
        cases b with
        | nil => exact absurd h.2 (by simp [T.likeL])
        | cons y' b => rw [riseB, riseB, like_cmp h.1 h.2.1, hr]
theorem like_fr {x y : T} (h : x.like y) : frB x = frB y := by
  obtain ⟨h1, h2, h3, h4, h5, h6, h7⟩ := T.like_iff.1 h
  unfold frB
  rw [h1, h2, h3, h4, h5, h6, T.likeL_length h7, like_rise h7]
theorem like_meas : ∀ {x y : T}, x.like y → measT x = measT y := by
  suffices h : ∀ n (x y : T), x.size ≤ n → x.like y → measT x = measT y from fun {x y} => h x.size x y (Nat.le_refl _)
  intro n
  induction n with
  | zero => intro x y hx; have := x.size_pos; omega
  | succ n ih =>
    intro x y hx h
    have hk : ∀ (a b : List T) (d c : Int), (∀ u ∈ a, u.size ≤ n) → T.likeL a b → measL a d c = measL b d c := by
      intro a
      induction a with
      | nil =>
        intro b d c _ h
        cases b with
        | nil => rfl
        | cons y b => exact absurd h (by simp [T.likeL])
      | cons u a iha =>
        intro b d c hs h
        cases b with
        | nil => exact absurd h (by simp [T.likeL])
        | cons v b =>
          rw [measL, measL, ih u v (hs u (List.mem_cons_self ..)) h.1]
          cases measT v with
          | none => rfl
          | some p => exact iha b _ _ (fun z hz => hs z (List.mem_cons_of_mem _ hz)) h.2
    rw [measT_eq, measT_eq, like_fr h, hk _ _ 0 1 (fun u hu => by have := T.size_part hu; omega) (T.like_iff.1 h).2.2.2.2.2.2]
theorem like_chk {x y : T} (h : x.like y) : chkV x = chkV y := by
  unfold chkV
  rw [like_meas h]
end Go.Proofs.YtdjgkbpfmonebaaGreatDoor.Val
