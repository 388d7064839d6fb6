/-
  Comparers that are orders: antisymmetric and transitive; rows of pairs compared from the left. No program is named.
-/
import Derived.Handy
import Derived.Sort.Statements
namespace Go.Proofs.YtdjgkbpfmonebaaGreatDoor.Ord
set_option linter.unusedVariables false
/-- on what is in S, c is antisymmetric and transitive -/
structure Orders {α : Type} (S : α → Prop) (c : α → α → Int) : Prop where
  anti : ∀ x y, S x → S y → c y x = - c x y
  trans : ∀ x y z, S x → S y → S z → c x y ≤ 0 → c y z ≤ 0 → c x z ≤ 0
theorem Orders.self {α : Type} {S : α → Prop} {c : α → α → Int} (h : Orders S c) {x : α} (hx : S x) : c x x = 0 := by
  have := h.anti x x hx hx; omega
theorem Orders.eq_left {α : Type} {S : α → Prop} {c : α → α → Int} (h : Orders S c) {x y z : α} (hx : S x) (hy : S y) (hz : S z) (e : c x y = 0) (l : c y z < 0) : c x z < 0 := by
  have h1 := h.trans x y z hx hy hz (by omega) (by omega)
  have h2 : c x z ≠ 0 := by
    intro e2
    have a1 := h.anti x z hx hz
    have a2 := h.anti y z hy hz
    have h3 := h.trans z x y hz hx hy (by omega) (by omega)
    omega
  omega
theorem Orders.eq_right {α : Type} {S : α → Prop} {c : α → α → Int} (h : Orders S c) {x y z : α} (hx : S x) (hy : S y) (hz : S z) (l : c x y < 0) (e : c y z = 0) : c x z < 0 := by
  have h1 := h.trans x y z hx hy hz (by omega) (by omega)
  have h2 : c x z ≠ 0 := by
    intro e2
    have a1 := h.anti x z hx hz
    have a2 := h.anti x y hx hy
    have h3 := h.trans y z x hy hz hx (by omega) (by omega)
    omega
  omega
theorem Orders.lt {α : Type} {S : α → Prop} {c : α → α → Int} (h : Orders S c) {x y z : α} (hx : S x) (hy : S y) (hz : S z) (l : c x y < 0) (l2 : c y z ≤ 0) : c x z < 0 := by
  have h1 := h.trans x y z hx hy hz (by omega) (by omega)
  have h2 : c x z ≠ 0 := by
    intro e2
    have a1 := h.anti x z hx hz
    have a2 := h.anti x y hx hy
    have h3 := h.trans y z x hy hz hx (by omega) (by omega)
    omega
  omega
theorem Orders.lt' {α : Type} {S : α → Prop} {c : α → α → Int} (h : Orders S c) {x y z : α} (hx : S x) (hy : S y) (hz : S z) (l : c x y ≤ 0) (l2 : c y z < 0) : c x z < 0 := by
  have h1 := h.trans x y z hx hy hz (by omega) (by omega)
  have h2 : c x z ≠ 0 := by
    intro e2
    have a1 := h.anti x z hx hz
    have a2 := h.anti y z hy hz
    have h3 := h.trans z x y hz hx hy (by omega) (by omega)
    omega
  omega
theorem Orders.swo {α : Type} {c : α → α → Int} (h : Orders (fun _ => True) c) [Inhabited α] : Sort.SWO (fun x y => decide (c x y < 0)) where
  irrefl x := by simp [h.self (x := x) trivial]
  trans x y z a b := by
    simp only [decide_eq_true_eq] at a b ⊢
    exact h.lt trivial trivial trivial a (by omega)
  ntrans x y z a b := by
    simp only [decide_eq_false_iff_not] at a b ⊢
    have a1 := h.anti x y trivial trivial
    have a2 := h.anti y z trivial trivial
    have a3 := h.anti x z trivial trivial
    have := h.trans z y x trivial trivial trivial (by omega) (by omega)
    omega
theorem Orders.or {α : Type} {S : α → Prop} {c d : α → α → Int} (h : Orders S c) (g : Orders S d) : Orders S (fun x y => if c x y = 0 then d x y else c x y) where
  anti x y hx hy := by
    have a1 := h.anti x y hx hy
    have a2 := g.anti x y hx hy
    by_cases e : c x y = 0
    · rw [if_pos e, if_pos (by omega)]; exact a2
    · rw [if_neg e, if_neg (by omega)]; exact a1
  trans x y z hx hy hz a b := by
    by_cases e1 : c x y = 0
    · rw [if_pos e1] at a
      by_cases e2 : c y z = 0
      · rw [if_pos e2] at b
        have e3 : c x z = 0 := by
          have := h.trans x y z hx hy hz (by omega) (by omega)
          have a1 := h.anti x y hx hy
          have a2 := h.anti y z hy hz
          have a3 := h.anti x z hx hz
          have := h.trans z y x hz hy hx (by omega) (by omega)
          omega
        rw [if_pos e3]
        exact g.trans x y z hx hy hz a b
      · rw [if_neg e2] at b
        have := h.eq_left hx hy hz e1 (by omega)
        rw [if_neg (by omega)]; omega
    · rw [if_neg e1] at a
      have b' : c y z ≤ 0 := by
        by_cases e2 : c y z = 0
        · omega
        · rw [if_neg e2] at b; exact b
      have := h.lt hx hy hz (by omega) b'
      rw [if_neg (by omega)]; omega
theorem Orders.pull {α β : Type} {S : α → Prop} {c : α → α → Int} (h : Orders S c) (f : β → α) {R : β → Prop} (hR : ∀ x, R x → S (f x)) : Orders R (fun x y => c (f x) (f y)) where
  anti x y hx hy := h.anti _ _ (hR x hx) (hR y hy)
  trans x y z hx hy hz := h.trans _ _ _ (hR x hx) (hR y hy) (hR z hz)
theorem Orders.mono {α : Type} {S R : α → Prop} {c : α → α → Int} (h : Orders S c) (hR : ∀ x, R x → S x) : Orders R c where
  anti x y hx hy := h.anti _ _ (hR x hx) (hR y hy)
  trans x y z hx hy hz := h.trans _ _ _ (hR x hx) (hR y hy) (hR z hz)
/-- rows, from the left; the shorter one is below -/
def lexC {α : Type} (c : α → α → Int) : List α → List α → Int
  | [], [] => 0
  | [], _ :: _ => -1
  | _ :: _, [] => 1
  | x :: a, y :: b => if c x y = 0 then lexC c a b else c x y
theorem lexC_good {α : Type} {S : α → Prop} {c : α → α → Int} (h : Orders S c) : Orders (fun l => ∀ x ∈ l, S x) (lexC c) where
  anti := by
    intro a
    induction a with
    | nil => intro b _ _; cases b <;> simp [lexC]
    | cons x a ih =>
      intro b ha hb
      cases b with
      | nil => simp [lexC]
      | cons y b =>
        have a1 := h.anti x y (ha _ (List.mem_cons_self ..)) (hb _ (List.mem_cons_self ..))
        have a2 := ih b (fun z hz => ha z (List.mem_cons_of_mem _ hz)) (fun z hz => hb z (List.mem_cons_of_mem _ hz))
        simp only [lexC]
        by_cases e : c x y = 0
        · rw [if_pos e, if_pos (by omega)]; exact a2
        · rw [if_neg e, if_neg (by omega)]; exact a1
  trans := by
    intro a
    induction a with
    | nil => intro b d _ _ _ p q; cases d <;> simp [lexC]
    | cons x a ih =>
      intro b d ha hb hd p q
      cases b with
      | nil => simp [lexC] at p
      | cons y b =>
        cases d with
        | nil => simp [lexC] at q
        | cons z d =>
          have hx := ha _ (List.mem_cons_self ..)
          have hy := hb _ (List.mem_cons_self ..)
          have hz := hd _ (List.mem_cons_self ..)
          simp only [lexC] at p q ⊢
          by_cases e1 : c x y = 0
          · rw [if_pos e1] at p
            by_cases e2 : c y z = 0
            · rw [if_pos e2] at q
              have e3 : c x z = 0 := by
                have := h.trans x y z hx hy hz (by omega) (by omega)
                have a1 := h.anti x y hx hy
                have a2 := h.anti y z hy hz
                have a3 := h.anti x z hx hz
                have := h.trans z y x hz hy hx (by omega) (by omega)
                omega
              rw [if_pos e3]
              exact ih b d (fun z hz => ha z (List.mem_cons_of_mem _ hz)) (fun z hz => hb z (List.mem_cons_of_mem _ hz)) (fun z hz => hd z (List.mem_cons_of_mem _ hz)) p q
            · rw [if_neg e2] at q
              have := h.eq_left hx hy hz e1 (by omega)
              rw [if_neg (by omega)]; omega
          · rw [if_neg e1] at p
            have b' : c y z ≤ 0 := by
              by_cases e2 : c y z = 0
              · omega
              · rw [if_neg e2] at q; exact q
            have := h.lt hx hy hz (by omega) b'
            rw [if_neg (by omega)]; omega
end Go.Proofs.YtdjgkbpfmonebaaGreatDoor.Ord
