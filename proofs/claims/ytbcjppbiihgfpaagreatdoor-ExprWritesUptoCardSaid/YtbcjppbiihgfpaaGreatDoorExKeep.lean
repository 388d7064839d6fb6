/-
  Where an expression's slices lie; what keeps it as it is. No walk.
-/
import Derived.Test.YtbcjppbiihgfpaaGreatDoorExTree
import Derived.Test.YtbcjppbiihgfpaaGreatDoorKeep
namespace Go.Proofs.YtbcjppbiihgfpaaGreatDoor.Ex
open Go.ChangeShapes Go.WideShapes Go.ChangeAt Go.RowKit
open Go.Proofs.YtbcjppbiihgfpaaGreatDoor.Mem
set_option linter.unusedVariables false
set_option linter.unusedSimpArgs false
namespace T
mutual
/-- its slices lie in S -/
def inS (S : Nat → Prop) : T → Prop
  | .mk _ _ _ _ names nv list lv => SlIn S nv names.length ∧ SlIn S lv list.length ∧ inSL S list
def inSL (S : Nat → Prop) : List T → Prop
  | [] => True
  | x :: r => x.inS S ∧ inSL S r
end
theorem inSL_iff {S : Nat → Prop} {l : List T} : inSL S l ↔ ∀ x ∈ l, x.inS S := by
  induction l with
  | nil => simp [inSL]
  | cons x l ih => simp [inSL, ih]
theorem inS_iff {S : Nat → Prop} {x : T} : x.inS S ↔ SlIn S x.nv x.names.length ∧ SlIn S x.lv x.list.length ∧ ∀ y ∈ x.list, y.inS S := by
  cases x
  simp only [inS, inSL_iff]
  exact Iff.rfl
theorem ok.keep {w w' : World} {S : Nat → Prop} (hk : ∀ k, S k → w'.heap[k]? = w.heap[k]?) : ∀ {x : T}, x.ok w → x.inS S → x.ok w' := by
  suffices h : ∀ n (x : T), x.size ≤ n → x.ok w → x.inS S → x.ok w' from fun {x} => h x.size x (Nat.le_refl _)
  intro n
  induction n with
  | zero => intro x hx; have := x.size_pos; omega
  | succ n ih =>
    intro x hx h hS
    obtain ⟨h1, h2, h3, h4, h5, h6, h7, h8⟩ := h.parts
    obtain ⟨s1, s2, s3⟩ := inS_iff.1 hS
    refine ok.mk' ⟨h1, h2, h3, h4, h5, sl_stay h6 (fun e => ?_) s1 hk, sl_stay h7 (fun e => ?_) s2 hk, fun y hy => ih y (by have := size_part hy; omega) (h8 y hy) (s3 y hy)⟩
    · have : x.names = [] := List.eq_nil_of_length_eq_zero e
      rw [this]; rfl
    · have : x.list = [] := List.eq_nil_of_length_eq_zero e
      rw [this]; rfl
theorem inS.mono {S R : Nat → Prop} (hi : ∀ k, S k → R k) : ∀ {x : T}, x.inS S → x.inS R := by
  suffices h : ∀ n (x : T), x.size ≤ n → x.inS S → x.inS R from fun {x} => h x.size x (Nat.le_refl _)
  intro n
  induction n with
  | zero => intro x hx; have := x.size_pos; omega
  | succ n ih =>
    intro x hx hS
    obtain ⟨s1, s2, s3⟩ := inS_iff.1 hS
    exact inS_iff.2 ⟨fun hn ao m cap e a ha => hi _ (s1 hn ao m cap e a ha), fun hn ao m cap e a ha => hi _ (s2 hn ao m cap e a ha), fun y hy => ih y (by have := size_part hy; omega) (s3 y hy)⟩
/-- what stands in a world lies in it -/
theorem ok.inS {w : World} : ∀ {x : T}, x.ok w → x.inS (· < w.heap.size) := by
  suffices h : ∀ n (x : T), x.size ≤ n → x.ok w → x.inS (· < w.heap.size) from fun {x} => h x.size x (Nat.le_refl _)
  intro n
  induction n with
  | zero => intro x hx; have := x.size_pos; omega
  | succ n ih =>
    intro x hx h
    obtain ⟨h1, h2, h3, h4, h5, h6, h7, h8⟩ := h.parts
    refine inS_iff.2 ⟨fun hn ao m cap e a ha => ?_, fun hn ao m cap e a ha => ?_, fun y hy => ih y (by have := size_part hy; omega) (h8 y hy)⟩
    · obtain ⟨b, off, cap', q1, _, _, q4, _⟩ := StrsV.open h6 hn
      rw [q1] at e
      simp only [Value.slice.injEq] at e
      rw [← e.1] at ha
      cases ha
      exact q4
    · obtain ⟨b, off, cap', q1, _, _, q4, _⟩ := h.open hn
      rw [q1] at e
      simp only [Value.slice.injEq] at e
      rw [← e.1] at ha
      cases ha
      exact q4
mutual
/-- the same expression, wherever it lies -/
def like : T → T → Prop
  | .mk k n s t na _ l _, y => k = y.kind ∧ n = y.num ∧ s = y.str ∧ t = y.typ ∧ na = y.names ∧ likeL l y.list
def likeL : List T → List T → Prop
  | [], [] => True
  | x :: r, y :: q => x.like y ∧ likeL r q
  | _, _ => False
end
theorem like_iff {x y : T} : x.like y ↔ x.kind = y.kind ∧ x.num = y.num ∧ x.str = y.str ∧ x.typ = y.typ ∧ x.names = y.names ∧ likeL x.list y.list := by
  cases x
  exact Iff.rfl
theorem likeL_append {a b c d : List T} (h : likeL a b) (g : likeL c d) : likeL (a ++ c) (b ++ d) := by
  induction a generalizing b with
  | nil =>
    cases b with
    | nil => exact g
    | cons y b => exact absurd h (by simp [likeL])
  | cons x a ih =>
    cases b with
    | nil => exact absurd h (by simp [likeL])
    | cons y b => exact ⟨h.1, ih h.2⟩
theorem likeL_length {a b : List T} (h : likeL a b) : a.length = b.length := by
  induction a generalizing b with
  | nil =>
    cases b with
    | nil => rfl
    | cons y b => exact absurd h (by simp [likeL])
  | cons x a ih =>
    cases b with
    | nil => exact absurd h (by simp [likeL])
    | cons y b => simp [ih h.2]
theorem lit (x : T) : x.val = .agg #[.int .u8 (x.kind : Nat), .int .i64 x.num, .string x.str, .string x.typ, x.nv, x.lv] := rfl
end T
end Go.Proofs.YtbcjppbiihgfpaaGreatDoor.Ex
