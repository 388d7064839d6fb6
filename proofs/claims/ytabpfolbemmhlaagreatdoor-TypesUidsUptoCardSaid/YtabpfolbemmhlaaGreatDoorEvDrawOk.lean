/-
  A checked evaluator of concrete calls: what it says of a region that draws its order is so at every order. No walk.
-/
import Derived.Test.YtabpfolbemmhlaaGreatDoorEvDraw
namespace Go.Proofs.YtabpfolbemmhlaaGreatDoor.Ev
open Go.ChangeShapes Go.WideShapes Go.ChangeAt Go.RowKit
open Go.Proofs.YtabpfolbemmhlaaGreatDoor.Mem
variable {N : Nat}
set_option linter.unusedVariables false
set_option linter.unusedSimpArgs false
/-! ### slots -/
theorem gets_putO (hN : N ≤ 4096) (a : Sls) (d : Option Nat) (v : Value) (t : Nat) : gets (putO N a d v) t = if d = some t ∧ t < N then v else gets a t := by
  cases d with
  | none => simp [putO]
  | some d =>
    unfold putO puts
    cases hb : Nat.blt d N with
    | true =>
      have hd : d < N := by simpa [Nat.blt_eq] using hb
      by_cases e : t = d
      · subst e
        rw [if_pos ⟨rfl, hd⟩]
        simp only [hb, cond_true, gets, Tr.get_put_same 13 _ _ _ (show t + 1 < 2 ^ 13 by omega)]
        rfl
      · rw [if_neg (fun q => e (Option.some.inj q.1).symm)]
        simp only [hb, cond_true, gets, Tr.get_put_other 13 _ _ _ _ e]
    | false =>
      have hd : ¬ d < N := by
        intro q
        rw [show Nat.blt d N = true from by simpa [Nat.blt_eq] using q] at hb
        cases hb
      rw [if_neg (fun q => by have := Option.some.inj q.1; omega)]
      simp only [hb, cond_false]
abbrev DVs := List (Option Nat × Value)
noncomputable def sl (N : Nat) : DVs → (Nat → Bool) → Nat → Sls → Sls
  | [], _, _, a => a
  | (d, v) :: r, p, i, a => sl N r p (i + 1) (bif p i then putO N a d v else a)
theorem sl_agree (hN : N ≤ 4096) (t : Nat) : ∀ (l : DVs) (p q : Nat → Bool) (i : Nat) (a b : Sls), (∀ j d v, l[j]? = some (d, v) → d = some t → p (i + j) = q (i + j)) → gets a t = gets b t → gets (sl N l p i a) t = gets (sl N l q i b) t := by
  intro l
  induction l with
  | nil => intro p q i a b _ h; exact h
  | cons x r ih =>
    intro p q i a b h hab
    obtain ⟨d, v⟩ := x
    simp only [sl]
    refine ih p q (i + 1) _ _ (fun j d' v' hj hd => ?_) ?_
    · have := h (j + 1) d' v' (by simpa using hj) hd
      rw [show i + 1 + j = i + (j + 1) by omega]; exact this
    · by_cases hd : d = some t
      · have := h 0 d v rfl hd
        rw [Nat.add_zero] at this
        rw [this]
        cases q i
        · exact hab
        · simp only [cond_true, gets_putO hN]
          split
          · rfl
          · exact hab
      · have e : ∀ (c : Bool) (x : Sls), gets (bif c then putO N x d v else x) t = gets x t := fun c x => by
          cases c
          · rfl
          · simp only [cond_true, gets_putO hN]
            rw [if_neg (fun q => hd q.1)]
        rw [e, e]; exact hab
theorem sl_far (hN : N ≤ 4096) {t : Nat} (ht : ¬ t < N) : ∀ (l : DVs) (p : Nat → Bool) (i : Nat) (a : Sls), gets (sl N l p i a) t = gets a t := by
  intro l
  induction l with
  | nil => intro p i a; rfl
  | cons x r ih =>
    intro p i a
    obtain ⟨d, v⟩ := x
    simp only [sl]
    rw [ih]
    cases p i
    · rfl
    · simp only [cond_true, gets_putO hN]
      rw [if_neg (fun q => ht q.2)]
theorem sl_none (hN : N ≤ 4096) {t : Nat} : ∀ (l : DVs) (p : Nat → Bool) (i : Nat) (a : Sls), (∀ (j : Nat) (d : Option Nat) (v : Value), l[j]? = some (d, v) → d ≠ some t) → gets (sl N l p i a) t = gets a t := by
  intro l
  induction l with
  | nil => intro p i a _; rfl
  | cons x r ih =>
    intro p i a h
    obtain ⟨d, v⟩ := x
    simp only [sl]
    rw [ih _ _ _ (fun j d' v' hj => h (j + 1) d' v' (by simpa using hj))]
    cases p i
    · rfl
    · simp only [cond_true, gets_putO hN]
      rw [if_neg (fun q => h 0 d v rfl q.1)]
theorem sl_hit (hN : N ≤ 4096) {t : Nat} (ht : t < N) {v0 : Value} : ∀ (l : DVs) (p : Nat → Bool) (i j0 : Nat) (a : Sls), l[j0]? = some (some t, v0) → p (i + j0) = true → (∀ j v, l[j]? = some (some t, v) → j = j0) → gets (sl N l p i a) t = v0 := by
  intro l
  induction l with
  | nil => intro p i j0 a h; simp at h
  | cons x r ih =>
    intro p i j0 a h hp hu
    obtain ⟨d, v⟩ := x
    simp only [sl]
    cases j0 with
    | zero =>
      simp only [List.getElem?_cons_zero, Option.some.injEq, Prod.mk.injEq] at h
      obtain ⟨rfl, rfl⟩ := h
      rw [Nat.add_zero] at hp
      rw [sl_none hN _ _ _ _ (fun j d' v' hj e => by
        subst e
        have := hu (j + 1) v' (by simpa using hj)
        omega), hp, cond_true, gets_putO hN, if_pos ⟨rfl, ht⟩]
    | succ j0 =>
      refine ih p (i + 1) j0 _ (by simpa using h) (by rw [show i + 1 + j0 = i + (j0 + 1) by omega]; exact hp) (fun j v' hj => ?_)
      have := hu (j + 1) v' (by simpa using hj)
      omega
/-- one more is done -/
theorem sl_add (hN : N ≤ 4096) (t : Nat) {d0 : Option Nat} {v0 : Value} (l : DVs) (p q : Nat → Bool) (j0 : Nat) (a : Sls) (h0 : l[j0]? = some (d0, v0)) (hq : ∀ k, q k = (p k || decide (k = j0))) (hu : ∀ j d v, l[j]? = some (d, v) → d = d0 → d0 ≠ none → j = j0) :
    gets (sl N l q 0 a) t = gets (putO N (sl N l p 0 a) d0 v0) t := by
  rw [gets_putO hN]
  by_cases ht : t < N
  · by_cases hd : d0 = some t
    · subst hd
      rw [if_pos ⟨rfl, ht⟩]
      exact sl_hit hN ht l q 0 j0 a h0 (by rw [hq]; simp) (fun j v hj => hu j _ v hj rfl (by simp))
    · rw [if_neg (fun e => hd e.1)]
      refine sl_agree hN t l q p 0 a a (fun j d v hj hdt => ?_) rfl
      rw [hq]
      have hne : j ≠ j0 := by
        intro e2
        subst e2
        rw [hj] at h0
        cases h0
        exact hd hdt
      simp [Nat.zero_add, hne]
  · rw [if_neg (fun e => ht e.2), sl_far hN ht, sl_far hN ht]
noncomputable def accs (N : Nat) : DVs → Sls → Nat → Sls
  | _, a, 0 => a
  | [], a, _ + 1 => a
  | (d, v) :: r, a, j + 1 => accs N r (putO N a d v) j
theorem accs_sl : ∀ (l : DVs) (a : Sls) (i j : Nat), accs N l a j = sl N l (fun k => decide (k < i + j)) i a := by
  intro l
  induction l with
  | nil => intro a i j; cases j <;> rfl
  | cons x r ih =>
    intro a i j
    obtain ⟨d, v⟩ := x
    cases j with
    | zero =>
      simp only [accs, sl, Nat.add_zero, Nat.lt_irrefl, decide_false, cond_false]
      have := ih a (i + 1) 0
      cases r with
      | nil => rfl
      | cons y r =>
        have e : ∀ (l : DVs) (k : Nat) (b : Sls), i ≤ k → sl N l (fun k => decide (k < i)) k b = b := by
          intro l
          induction l with
          | nil => intro k b _; rfl
          | cons z l ih2 =>
            intro k b hk
            obtain ⟨d', v'⟩ := z
            simp only [sl, show ¬ k < i from by omega, decide_false, cond_false]
            exact ih2 (k + 1) b (by omega)
        exact (e _ _ _ (by omega)).symm
    | succ j =>
      simp only [accs, sl, show i < i + (j + 1) from by omega, decide_true, cond_true]
      rw [ih _ (i + 1) j]
      congr 1
      funext k
      rw [show i + 1 + j = i + (j + 1) by omega]
/-! ### what was run -/
def dvs (l : List Inf) (rs : List (Sls × Value)) : DVs := List.zipWith (fun f r => (f.o.dst, r.2)) l rs
theorem dvs_get (l : List Inf) (rs : List (Sls × Value)) (j : Nat) {f : Inf} {a : Sls} {v : Value} (h1 : l[j]? = some f) (h2 : rs[j]? = some (a, v)) : (dvs l rs)[j]? = some (f.o.dst, v) := by
  simp [dvs, List.getElem?_zipWith, h1, h2]
def Fact (P : Program) (call : CallF) (ops : Array Oper) (base : Nat) (σ : Sts) (f : Inf) (a : Sls) (v : Value) (D i : Nat) : Prop :=
  ∃ s s', look σ D = some s ∧ evO P call (nameIf f.act (base + i)) ops f.o a s = some (v, s') ∧ (f.act = true → look σ (Nat.lor D f.bit) = some s')
theorem Fact.ext {P : Program} {call : CallF} {ops : Array Oper} {base : Nat} {σ τ : Sts} {f : Inf} {a : Sls} {v : Value} {D i : Nat} (h : Fact P call ops base σ f a v D i) (e : Ext σ τ) : Fact P call ops base τ f a v D i := by
  obtain ⟨s, s', h1, h2, h3⟩ := h
  exact ⟨s, s', e _ _ h1, h2, fun q => e _ _ (h3 q)⟩
theorem addIf_some {act : Bool} {σ τ : Sts} {D : Nat} {s : St} (h : addIf act σ D s = some τ) : Ext σ τ ∧ (act = true → look τ D = some s) := by
  cases act with
  | true => obtain ⟨h1, h2⟩ := addSt_some h; exact ⟨h1, fun _ => h2⟩
  | false => cases h; exact ⟨fun _ _ q => q, fun q => by cases q⟩
theorem canon_sound {P : Program} {call : CallF} {ops : Array Oper} {base : Nat} : ∀ (l : List Inf) (i : Nat) (a : Sls) (D : Nat) (s : St) (σ : Sts) {rs : List (Sls × Value)} {τ : Sts} {z : Sls}, canon N P call ops base l i a D s σ = some (rs, τ, z) → look σ D = some s →
    Ext σ τ ∧ rs.length = l.length ∧ z = accs N (dvs l rs) a l.length ∧ ∀ j f, l[j]? = some f → ∃ v, rs[j]? = some (accs N (dvs l rs) a j, v) ∧ Fact P call ops base τ f (accs N (dvs l rs) a j) v f.cD (i + j) := by
  intro l
  induction l with
  | nil =>
    intro i a D s σ rs τ z e hl
    cases e
    exact ⟨fun _ _ q => q, rfl, rfl, fun j f h => by simp at h⟩
  | cons f r ih =>
    intro i a D s σ rs τ z e hl
    simp only [canon] at e
    split at e
    · cases e
    · rename_i v s' he
      cases hb : Nat.beq D f.cD with
      | false => rw [hb] at e; cases e
      | true =>
        rw [hb, sel_true] at e
        have hD := Nat.eq_of_beq_eq_true hb
        split at e
        · cases e
        · rename_i υ hυ
          split at e
          · cases e
          · rename_i rs' τ' z' hr
            cases e
            obtain ⟨x1, x2⟩ := addIf_some hυ
            have hl2 : look υ (bif f.act then Nat.lor D f.bit else D) = some (bif f.act then s' else s) := by
              cases ha : f.act with
              | true => exact x2 ha
              | false => exact x1 _ _ hl
            obtain ⟨g1, g2, g3, g4⟩ := ih (i + 1) _ _ _ _ hr hl2
            refine ⟨fun E t q => g1 _ _ (x1 _ _ q), by simp [g2], ?_, fun j f' hj => ?_⟩
            · simp only [dvs, List.zipWith_cons_cons, List.length_cons, accs]; exact g3
            · cases j with
              | zero =>
                simp only [List.getElem?_cons_zero, Option.some.injEq] at hj
                subst hj
                refine ⟨v, by simp [dvs, accs], s, s', ?_, ?_, fun q => ?_⟩
                · rw [← hD]; exact g1 _ _ (x1 _ _ hl)
                · simpa [dvs, accs] using he
                · rw [← hD]; exact g1 _ _ (x2 q)
              | succ j =>
                obtain ⟨v', h1, h2⟩ := g4 j f' (by simpa using hj)
                refine ⟨v', by simpa [dvs, accs] using h1, ?_⟩
                rw [show i + (j + 1) = i + 1 + j by omega]
                simpa [dvs, accs] using h2
theorem steps_sound {P : Program} {call : CallF} {ops : Array Oper} {base : Nat} {infs : List Inf} {rs : List (Sls × Value)} : ∀ (l : List (Nat × Nat)) (σ τ : Sts), steps P call ops base infs rs l σ = some τ →
    Ext σ τ ∧ ∀ D i, (D, i) ∈ l → ∃ f a v, infs[i]? = some f ∧ rs[i]? = some (a, v) ∧ Fact P call ops base τ f a v D i := by
  intro l
  induction l with
  | nil => intro σ τ e; cases e; exact ⟨fun _ _ q => q, fun D i h => by cases h⟩
  | cons p l ih =>
    intro σ τ e
    obtain ⟨D, i⟩ := p
    simp only [steps] at e
    split at e
    · rename_i f a v s hf hr hs
      split at e
      · cases e
      · rename_i u s' he
        cases hb : eqV u v with
        | false => rw [hb] at e; cases e
        | true =>
          rw [hb, sel_true] at e
          have hu := eqV_eq _ _ hb
          subst hu
          split at e
          · cases e
          · rename_i υ hυ
            obtain ⟨x1, x2⟩ := addIf_some hυ
            obtain ⟨g1, g2⟩ := ih _ _ e
            refine ⟨fun E t q => g1 _ _ (x1 _ _ q), fun D' i' h => ?_⟩
            rcases List.mem_cons.1 h with h | h
            · cases h
              exact ⟨f, a, u, hf, hr, s, s', g1 _ _ (x1 _ _ hs), he, fun q => g1 _ _ (x2 q)⟩
            · exact g2 D' i' h
    · cases e
end Go.Proofs.YtabpfolbemmhlaaGreatDoor.Ev
