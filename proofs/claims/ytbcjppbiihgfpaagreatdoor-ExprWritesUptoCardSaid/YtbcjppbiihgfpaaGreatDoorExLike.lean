/-
  Expressions that are alike: of one size, depth, as right. No walk.
-/
import Derived.Test.YtbcjppbiihgfpaaGreatDoorExKeep
import Derived.Test.YtbcjppbiihgfpaaGreatDoorExMath
namespace Go.Proofs.YtbcjppbiihgfpaaGreatDoor.Ex
open Go.ChangeShapes Go.WideShapes Go.ChangeAt Go.RowKit
open Go.Proofs.YtbcjppbiihgfpaaGreatDoor.Mem
set_option linter.unusedVariables false
set_option linter.unusedSimpArgs false
set_option maxRecDepth 100000
theorem T.likeL_get {a b : List T} (h : T.likeL a b) (i : Nat) (h1 : i < a.length) (h2 : i < b.length) : (a[i]).like b[i] := by
  induction a generalizing b i with
  | nil => simp at h1
  | cons x a ih =>
    cases b with
    | nil => exact absurd h (by simp [T.likeL])
    | cons y b =>
      cases i with
      | zero => exact h.1
      | succ i => exact ih h.2 i (by simpa using h1) (by simpa using h2)
theorem T.likeL_of {a b : List T} (hl : a.length = b.length) (h : ∀ i (h1 : i < a.length) (h2 : i < b.length), (a[i]).like b[i]) : T.likeL a b := by
  induction a generalizing b with
  | nil =>
    cases b with
    | nil => trivial
    | cons y b => simp at hl
  | cons x a ih =>
    cases b with
    | nil => simp at hl
    | cons y b =>
      exact ⟨h 0 (by simp) (by simp), ih (by simpa using hl) (fun i h1 h2 => by
        have := h (i + 1) (by simpa using h1) (by simpa using h2)
        simpa using this)⟩
theorem like_ind {P : T → T → Prop} (h : ∀ x y, x.like y → (∀ i (h1 : i < x.list.length) (h2 : i < y.list.length), P x.list[i] y.list[i]) → P x y) : ∀ {x y : T}, x.like y → P x y := by
  suffices g : ∀ n (x y : T), x.size ≤ n → x.like y → P x y from fun {x y} => g x.size x y (Nat.le_refl _)
  intro n
  induction n with
  | zero => intro x y hx; have := x.size_pos; omega
  | succ n ih =>
    intro x y hx hl
    refine h x y hl (fun i h1 h2 => ih _ _ ?_ (T.likeL_get (T.like_iff.1 hl).2.2.2.2.2 i h1 h2))
    have := T.size_part (List.getElem_mem h1)
    omega
theorem T.like_refl : ∀ (x : T), x.like x := by
  suffices g : ∀ n (x : T), x.size ≤ n → x.like x from fun x => g x.size x (Nat.le_refl _)
  intro n
  induction n with
  | zero => intro x hx; have := x.size_pos; omega
  | succ n ih => intro x hx; exact T.like_iff.2 ⟨rfl, rfl, rfl, rfl, rfl, T.likeL_of rfl (fun i h1 h2 => ih _ (by have := T.size_part (List.getElem_mem h1); omega))⟩
theorem T.like_trans {x y z : T} (h : x.like y) (g : y.like z) : x.like z := by
  refine like_ind (P := fun x y => ∀ z, y.like z → x.like z) ?_ h z g
  intro x y hl ih z g
  obtain ⟨a1, a2, a3, a4, a5, a6⟩ := T.like_iff.1 hl
  obtain ⟨b1, b2, b3, b4, b5, b6⟩ := T.like_iff.1 g
  have l1 := T.likeL_length a6
  have l2 := T.likeL_length b6
  exact T.like_iff.2 ⟨a1.trans b1, a2.trans b2, a3.trans b3, a4.trans b4, a5.trans b5, T.likeL_of (l1.trans l2) (fun i h1 h2 => ih i h1 (by omega) _ (T.likeL_get b6 i (by omega) h2))⟩
theorem T.like_symm {x y : T} (h : x.like y) : y.like x := by
  refine like_ind (P := fun x y => y.like x) ?_ h
  intro x y hl ih
  obtain ⟨a1, a2, a3, a4, a5, a6⟩ := T.like_iff.1 hl
  exact T.like_iff.2 ⟨a1.symm, a2.symm, a3.symm, a4.symm, a5.symm, T.likeL_of (T.likeL_length a6).symm (fun i h1 h2 => ih i h2 h1)⟩
theorem T.likeL_trans {a b c : List T} (h : T.likeL a b) (g : T.likeL b c) : T.likeL a c := by
  have l1 := T.likeL_length h
  have l2 := T.likeL_length g
  exact T.likeL_of (l1.trans l2) (fun i h1 h2 => T.like_trans (T.likeL_get h i h1 (by omega)) (T.likeL_get g i (by omega) h2))
theorem map_pt {α : Type} {f : T → α} {a b : List T} (hl : a.length = b.length) (h : ∀ i (h1 : i < a.length) (h2 : i < b.length), f a[i] = f b[i]) : a.map f = b.map f := by
  refine List.ext_getElem (by simpa using hl) (fun i h1 h2 => ?_)
  rw [List.getElem_map, List.getElem_map]
  exact h i (by simpa using h1) (by simpa using h2)
theorem sizeL_sum (l : List T) : T.sizeL l = (l.map T.size).sum := by
  induction l with
  | nil => rfl
  | cons x l ih => rw [T.sizeL, List.map_cons, List.sum_cons, ih]
theorem deepL_max (l : List T) : deepL l = (l.map deepN).foldr max 0 := by
  induction l with
  | nil => rfl
  | cons x l ih => rw [deepL, List.map_cons, List.foldr_cons, ih]
theorem rightL_map (l : List T) : rightL l = (l.map rightB).all id := by
  rw [rightL_all, List.all_map]; rfl
theorem like_size {x y : T} (h : x.like y) : x.size = y.size := by
  refine like_ind (P := fun x y => x.size = y.size) ?_ h
  intro x y hl ih
  rw [T.size_list, T.size_list, sizeL_sum, sizeL_sum, map_pt (T.likeL_length (T.like_iff.1 hl).2.2.2.2.2) ih]
theorem like_deep {x y : T} (h : x.like y) : deepN x = deepN y := by
  refine like_ind (P := fun x y => deepN x = deepN y) ?_ h
  intro x y hl ih
  rw [deepN_eq, deepN_eq, deepL_max, deepL_max, map_pt (T.likeL_length (T.like_iff.1 hl).2.2.2.2.2) ih]
theorem like_right {x y : T} (h : x.like y) : rightB x = rightB y := by
  refine like_ind (P := fun x y => rightB x = rightB y) ?_ h
  intro x y hl ih
  have hn : nodeB x = nodeB y := by
    obtain ⟨a1, a2, a3, a4, a5, a6⟩ := T.like_iff.1 hl
    unfold nodeB fldB
    rw [a1, a2, a3, a4, a5, T.likeL_length a6]
  rw [rightB_eq, rightB_eq, hn, rightL_map, rightL_map, map_pt (T.likeL_length (T.like_iff.1 hl).2.2.2.2.2) ih]
theorem like_chk {x y : T} (h : x.like y) : chkN x = chkN y := by
  unfold chkN
  rw [like_right h, like_deep h, like_size h]
end Go.Proofs.YtbcjppbiihgfpaaGreatDoor.Ex
