/-
  A checked evaluator of concrete calls, 4: operations that are no calls of functions with a body. No walk.
-/
import Derived.Test.YtabpfolbemmhlaaGreatDoorEvMem
import Derived.Orders
namespace Go.Proofs.YtabpfolbemmhlaaGreatDoor.Ev
open Go.ChangeShapes Go.WideShapes Go.ChangeAt Go.RowKit
open Go.Proofs.YtabpfolbemmhlaaGreatDoor.Mem
set_option linter.unusedVariables false
set_option linter.unusedSimpArgs false
/-- what an operation comes to that asks nothing of memory -/
def pureV (P : Program) {α : Type} : Sem α → Option α
  | .pure a => some a
  | .program k => pureV P (k P)
  | .mark _ k => pureV P k
  | _ => none
theorem pureV_run (P : Program) {α : Type} (W : World) : ∀ (s : Sem α) (a : α), pureV P s = some a → s.run P W = .ok a W := by
  intro s
  induction s with
  | pure a => intro b h; cases h; rfl
  | program k ih => intro b h; exact ih P b h
  | mark m k ih => intro b h; exact ih b h
  | load | store | new | shape | freeze | frozen | getObj | setObj | choose | sys | halt => intro b h; cases h
/-- flat, or a row of flat ones, or a function with nothing bound -/
def closed : Value → Bool
  | .agg a | .tuple a => a.toList.all flat
  | .func _ a b => a.toList.isEmpty && b.toList.isEmpty
  | v => flat v
theorem RL.of_flat {m : Mu} : ∀ {l : List Value}, l.all flat = true → RL m l l
  | [], _ => .nil
  | x :: l, h => by
    simp only [List.all_cons, Bool.and_eq_true] at h
    exact .cons (R.of_flat h.1) (RL.of_flat h.2)
theorem RL.flat_eq {m : Mu} : ∀ {l k : List Value}, RL m l k → l.all flat = true → k = l
  | _, _, .nil, _ => rfl
  | _, _, .cons h g, e => by
    simp only [List.all_cons, Bool.and_eq_true] at e
    rw [h.flat_eq e.1, RL.flat_eq g e.2]
theorem R.of_closed {m : Mu} {x : Value} (h : closed x = true) : R m x x := by
  cases x <;> first | exact R.of_flat h | skip
  · rename_i f a b
    simp only [closed, Bool.and_eq_true, List.isEmpty_iff] at h
    exact .func f a b a b (by rw [h.1]; exact .nil) (by rw [h.2]; exact .nil)
  · exact .agg _ _ (RL.of_flat h)
  · exact .tuple _ _ (RL.of_flat h)
theorem R.closed_eq {m : Mu} {x y : Value} (h : R m x y) (hf : closed x = true) : y = x := by
  cases h with
  | agg a b h => rw [Array.toList_inj.1 (RL.flat_eq h hf)]
  | tuple a b h => rw [Array.toList_inj.1 (RL.flat_eq h hf)]
  | func f a b a' b' h g =>
    simp only [closed, Bool.and_eq_true, List.isEmpty_iff] at hf
    have e1 : a' = a := Array.toList_inj.1 (by have := h.length; rw [hf.1] at this ⊢; exact List.eq_nil_of_length_eq_zero this.symm)
    have e2 : b' = b := Array.toList_inj.1 (by have := g.length; rw [hf.2] at this ⊢; exact List.eq_nil_of_length_eq_zero this.symm)
    rw [e1, e2]
  | _ => exact R.flat_eq (m := m) (by constructor <;> assumption) hf
/-! ### slots -/
abbrev Sls := Tr Value
def orUndef : Option Value → Value
  | some v => v
  | none => undef
noncomputable def gets (a : Sls) (t : Nat) : Value := orUndef (a.get 13 t)
/-- of N slots -/
noncomputable def puts (N : Nat) (a : Sls) (d : Nat) (v : Value) : Sls := bif Nat.blt d N then a.put 13 d (some v) else a
/-- the slots of a call, as they are said -/
structure RS (N : Nat) (m : Mu) (a : Sls) (A : Act) : Prop where
  size : A.tmps.size = N
  most : N ≤ 4096
  slot : ∀ t, R m (gets a t) (A.tmps.getD t undef)
variable {N : Nat}
theorem R.undef {m : Mu} : R m undef undef := R.of_closed rfl
theorem RS.up {m m' : Mu} (s : Sub m m') {a : Sls} {A : Act} (h : RS N m a A) : RS N m' a A := ⟨h.size, h.most, fun t => (h.slot t).up s⟩
theorem RS.put {m : Mu} {a : Sls} {A : Act} (h : RS N m a A) (d : Nat) {v v' : Value} (hv : R m v v') : RS N m (puts N a d v) (A.put (some d) v') := by
  unfold puts
  cases hb : Nat.blt d N with
  | true =>
    have hd : d < N := by simpa [Nat.blt_eq] using hb
    refine ⟨by simpa [Act.put] using h.size, h.most, fun t => ?_⟩
    by_cases e : t = d
    · subst e
      have h1 : (Tr.put 13 a t (some v)).get 13 t = some v := Tr.get_put_same 13 _ _ _ (by have := h.most; omega)
      have h2 : (A.put (some t) v').tmps.getD t Go.undef = v' := by
        show (A.tmps.setIfInBounds t v').getD t Go.undef = v'
        have hs := h.size
        simp [Array.getD_eq_getD_getElem?, Array.getElem?_setIfInBounds, hs, hd]
      simp only [cond_true, gets, h1, h2]
      exact hv
    · have h1 : (Tr.put 13 a d (some v)).get 13 t = a.get 13 t := Tr.get_put_other 13 _ _ _ _ e
      have h2 : (A.put (some d) v').tmps.getD t Go.undef = A.tmps.getD t Go.undef := by
        show (A.tmps.setIfInBounds d v').getD t Go.undef = _
        simp [Array.getD_eq_getD_getElem?, Array.getElem?_setIfInBounds_ne (Ne.symm e)]
      have := h.slot t
      simp only [cond_true, gets, h1, h2] at this ⊢
      exact this
  | false =>
    have hd : ¬ d < N := by
      intro q
      rw [show Nat.blt d N = true from by simpa [Nat.blt_eq] using q] at hb
      cases hb
    have h2 : (A.put (some d) v').tmps = A.tmps := by
      show A.tmps.setIfInBounds d v' = _
      have hs := h.size
      rw [Array.setIfInBounds_eq_of_size_le (by omega)]
    exact ⟨by rw [h2]; exact h.size, h.most, fun t => by rw [h2]; exact h.slot t⟩
/-! ### operands -/
noncomputable def evX (s : St) (a : Sls) : Operand → Option Value
  | .tmp t => some (gets a t)
  | .const v => if closed v then some v else none
  | .global g => match s.get g with | some c => if c.ro = true ∧ g < 2 ^ 40 then some (.pointer (some ⟨g, 0, none⟩)) else none | none => none
  | .func f => some (.func (.func f) #[] #[])
theorem evX_sound {m : Mu} {s : St} {B : Nat} {W : World} (h : Holds m s B W) {a : Sls} {A : Act} (ha : RS N m a A) {x : Operand} {v : Value} (e : evX s a x = some v) : R m v (A.eval x) := by
  cases x with
  | tmp t => cases e; exact ha.slot t
  | const v' =>
    simp only [evX] at e
    split at e
    · rename_i hc; cases e; exact R.of_closed hc
    · cases e
  | global g =>
    simp only [evX] at e
    split at e
    · rename_i c hc
      split at e
      · rename_i hq
        cases e
        obtain ⟨cap, hm⟩ := h.glob g c hq.2 hc hq.1
        exact .ptr g 0 ⟨g, cap⟩ hm
      · cases e
    · cases e
  | func f => cases e; exact R.of_closed rfl
/-! ### operations that ask nothing of memory, of operands that hold no address -/
def closedO : Option Value → Bool
  | some v => closed v
  | none => false
def noSelect : Op → Bool
  | .select _ _ => false
  | _ => true
noncomputable def evFlat (P : Program) (s : St) (a : Sls) (o : Oper) : Option Value :=
  if noSelect o.op && o.op.operands.toList.all (fun x => closedO (evX s a x)) then
    match pureV P (execOp (fun x => (evX s a x).getD undef) o) with
    | some (.value v) => if closed v then some v else none
    | _ => none
  else none
theorem evFlat_sound {P : Program} {m : Mu} {s : St} {B : Nat} {W : World} (h : Holds m s B W) {a : Sls} {A : Act} (ha : RS N m a A) {o : Oper} {v : Value} (e : evFlat P s a o = some v) :
    (execOp A.eval o).run P W = .ok (.value v) W ∧ R m v v := by
  unfold evFlat at e
  split at e
  · rename_i hq
    simp only [Bool.and_eq_true, List.all_eq_true] at hq
    split at e
    · rename_i v' hv
      split at e
      · rename_i hc
        cases e
        refine ⟨?_, R.of_closed hc⟩
        have hcong : execOp A.eval o = execOp (fun x => (evX s a x).getD undef) o := execOp_congr o (fun cs b hh => by rw [hh] at hq; exact absurd hq.1 (by simp [noSelect])) (fun x hx => by
          have hx2 := hq.2 x (by simpa using hx)
          cases hu : evX s a x with
          | some u =>
            rw [hu] at hx2
            exact (evX_sound h ha hu).closed_eq hx2
          | none => rw [hu] at hx2; cases hx2)
        rw [hcong]
        exact pureV_run P W _ _ hv
      · cases e
    · cases e
  · cases e
end Go.Proofs.YtabpfolbemmhlaaGreatDoor.Ev
