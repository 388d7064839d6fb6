/-
  A checked evaluator of concrete calls: code, calls. No walk.
-/
import Derived.Test.YtabpfolbemmhlaaGreatDoorEvStep
namespace Go.Proofs.YtabpfolbemmhlaaGreatDoor.Ev
open Go.ChangeShapes Go.WideShapes Go.ChangeAt Go.RowKit
open Go.Proofs.YtabpfolbemmhlaaGreatDoor.Mem
variable {N : Nat}
set_option linter.unusedVariables false
set_option linter.unusedSimpArgs false
inductive X where
  | normal
  | exit (id : Nat)
  | ret
def X.e : X → Exit
  | .normal => .normal
  | .exit id => .exit id
  | .ret => .ret
abbrev Out := Option (X × Sls × St)
abbrev Dr := Nat → CallF → Array Oper → Sls → St → Option (Sls × St)
noncomputable def loopN : Nat → (Sls → St → Out) → Sls → St → Out
  | 0 => fun _ _ _ => none
  | k + 1 => fun f a s => match f a s with
    | some (.normal, a', s') => loopN k f a' s'
    | r => r
def outOf : X → Sls → St → Out := fun x a s => some (x, a, s)
def normalOf : Option (Sls × St) → Out
  | some (a, s) => some (.normal, a, s)
  | none => none
def inBlock (id : Nat) : X → Sls → St → Out
  | .exit i => fun a s => bif Nat.beq i id then some (.normal, a, s) else some (.exit i, a, s)
  | x => fun a s => some (x, a, s)
def thenOf (f : Sls → St → Out) : X → Sls → St → Out
  | .normal => f
  | x => fun a s => some (x, a, s)
def onBool (f g : Sls → St → Out) : Option Value → Sls → St → Out
  | some (.bool true) => f
  | some (.bool false) => g
  | _ => fun _ _ => none
noncomputable def evC (N : Nat) (P : Program) (dr : Dr) (call : CallF) : Code → Sls → St → Out
  | .skip => fun a s => some (.normal, a, s)
  | .seq x y => fun a s => match evC N P dr call x a s with
    | some (x, a', s') => thenOf (evC N P dr call y) x a' s'
    | none => none
  | .cond c x y => fun a s => onBool (evC N P dr call x) (evC N P dr call y) (evX s a c) a s
  | .block id c => fun a s => match evC N P dr call c a s with
    | some (x, a', s') => inBlock id x a' s'
    | none => none
  | .loop c => loopN 100000 (evC N P dr call c)
  | .exit id => fun a s => some (.exit id, a, s)
  | .ret => fun a s => some (.ret, a, s)
  | .region _ ops draw => bif draw then (fun a s => normalOf (dr N call ops a s)) else fun a s => normalOf (evL N P call ops ops.toList a s)
  | _ => fun _ _ => none
noncomputable def fillFrom : List Value → Nat → Tr Value → Tr Value
  | [], _, t => t
  | v :: l, i, t => fillFrom l (Nat.succ i) (t.put 13 i (some v))
noncomputable def retOf (P : Program) (rs : List ResultVar) : X → Sls → St → Option (Value × St)
  | .exit _ => fun _ _ => none
  | _ => fun a s => match evResults P s a rs with
    | some l => some (packed l, s)
    | none => none
noncomputable def evF (P : Program) (dr : Dr) (call : CallF) (fn : Func) (c : Code) (args : List Value) (s : St) : Option (Value × St) :=
  bif Nat.ble args.length fn.ntmps && Nat.ble fn.ntmps 4096 then
    match evC fn.ntmps P dr call c (fillFrom args 0 .leaf) s with
    | some (x, a, s') => retOf P fn.results.toList x a s'
    | none => none
  else none
noncomputable def bodyTab (P : Program) (dr : Dr) (f : FuncId) : Option (CallF → List Value → St → Option (Value × St)) :=
  match P.funcs[f]? with
  | none => none
  | some fn => match fn.body with
    | none => none
    | some c => some fun call args s => evF P dr call fn c args s
noncomputable def evCall (P : Program) (dr : Dr) (orc : CallF) : Nat → CallF
  | 0 => fun _ _ _ => none
  | n + 1 => fun f args s => match orc f args s with
    | some r => some r
    | none => match bodyTab P dr f with
      | none => none
      | some b => b (evCall P dr orc n) args s
def DrOk (P : Program) (dr : Dr) : Prop := ∀ (N : Nat) (call : CallF), CallOk P call → ∀ (id : Nat) (ops : Array Oper) {a a' : Sls} {s s' : St}, dr N call ops a s = some (a', s') → ∀ {m : Mu} {B : Nat} {W : World} {A : Act} {Q : Exit → Act → World → Prop}, Holds m s B W → RS N m a A → A.defers = [] →
    (∀ A' W', After N m B W a' s' A' W' → Q .normal A' W') → (Code.region id ops true).wp P Q A W
def CodeOk (N : Nat) (P : Program) (f : Sls → St → Out) (c : Code) : Prop := ∀ {a a' : Sls} {s s' : St} {x : X}, f a s = some (x, a', s') → ∀ {m : Mu} {B : Nat} {W : World} {A : Act} {Q : Exit → Act → World → Prop}, Holds m s B W → RS N m a A → A.defers = [] →
    (∀ A' W', After N m B W a' s' A' W' → Q x.e A' W') → c.wp P Q A W
theorem loopN_sound {P : Program} {f : Sls → St → Out} {c : Code} (hf : CodeOk N P f c) : ∀ (k : Nat) {a a' : Sls} {s s' : St} {x : X}, loopN k f a s = some (x, a', s') → ∀ {m : Mu} {B : Nat} {W : World} {A : Act} {Q : Exit → Act → World → Prop}, Holds m s B W → RS N m a A → A.defers = [] →
    (∀ A' W', After N m B W a' s' A' W' → Q x.e A' W') → LoopIn P c Q k A W := by
  intro k
  induction k with
  | zero => intro a a' s s' x e; cases e
  | succ k ih =>
    intro a a' s s' x e m B W A Q h ha hd hq
    simp only [loopN] at e
    split at e
    · rename_i a1 s1 h1
      refine hf h1 h ha hd fun A' W' hA => ?_
      obtain ⟨m', g1, g2, g3, g4, g5⟩ := hA
      exact ih e g2 g4 g5 fun A2 W2 hA2 => hq A2 W2 (hA2.trans g1 g3)
    · rename_i r hr
      refine hf e h ha hd fun A' W' hA => ?_
      cases x with
      | normal => exact (hr _ _ e).elim
      | exit i => exact hq A' W' hA
      | ret => exact hq A' W' hA
theorem evC_sound {P : Program} {dr : Dr} (hdr : DrOk P dr) {call : CallF} (hcl : CallOk P call) : ∀ (c : Code), CodeOk N P (evC N P dr call c) c := by
  intro c
  induction c with
  | skip =>
    intro a a' s s' x e m B W A Q h ha hd hq
    cases e
    exact wp_skip (hq A W (.of h ha hd))
  | seq c1 c2 ih1 ih2 =>
    intro a a' s s' x e m B W A Q h ha hd hq
    simp only [evC] at e
    split at e
    · rename_i x1 a1 s1 h1
      refine wp_seq (ih1 h1 h ha hd fun A' W' hA => ?_)
      cases x1 with
      | normal =>
        obtain ⟨m', g1, g2, g3, g4, g5⟩ := hA
        exact ih2 e g2 g4 g5 fun A2 W2 hA2 => hq A2 W2 (hA2.trans g1 g3)
      | exit i => cases e; exact hq A' W' hA
      | ret => cases e; exact hq A' W' hA
    · cases e
  | cond c x y ihx ihy =>
    intro a a' s s' r e m B W A Q h ha hd hq
    simp only [evC] at e
    cases hb : evX s a c with
    | none => rw [hb] at e; cases e
    | some v =>
      rw [hb] at e
      cases v <;> simp only [onBool] at e <;> first | (cases e; done) | skip
      rename_i b
      have hc := (evX_sound h ha hb).flat_eq rfl
      cases b with
      | true => exact wp_cond_true hc (ihx e h ha hd hq)
      | false => exact wp_cond_false hc (ihy e h ha hd hq)
  | block id c ih =>
    intro a a' s s' x e m B W A Q h ha hd hq
    simp only [evC] at e
    split at e
    · rename_i x1 a1 s1 h1
      refine wp_block (ih h1 h ha hd fun A' W' hA => ?_)
      cases x1 with
      | normal => cases e; exact hq A' W' hA
      | ret => cases e; exact hq A' W' hA
      | exit i =>
        simp only [inBlock] at e
        simp only [X.e, Exit.inBlock]
        cases hi : Nat.beq i id with
        | true =>
          rw [hi, cond_true] at e
          cases e
          rw [if_pos (Nat.eq_of_beq_eq_true hi)]
          exact hq A' W' hA
        | false =>
          rw [hi, cond_false] at e
          cases e
          rw [if_neg (Nat.ne_of_beq_eq_false hi)]
          exact hq A' W' hA
    · cases e
  | loop c ih =>
    intro a a' s s' x e m B W A Q h ha hd hq
    simp only [evC] at e
    exact wp_loop_in (loopN_sound ih _ e h ha hd hq)
  | exit id =>
    intro a a' s s' x e m B W A Q h ha hd hq
    cases e
    exact wp_exit (hq A W (.of h ha hd))
  | ret =>
    intro a a' s s' x e m B W A Q h ha hd hq
    cases e
    exact wp_ret (hq A W (.of h ha hd))
  | region id ops draw =>
    intro a a' s s' x e m B W A Q h ha hd hq
    simp only [evC] at e
    cases draw with
    | true =>
      rw [cond_true] at e
      generalize hr : dr N call ops a s = r at e
      cases r with
      | none => cases e
      | some r =>
        obtain ⟨a1, s1⟩ := r
        cases e
        exact hdr N call hcl id ops hr h ha hd hq
    | false =>
      rw [cond_false] at e
      generalize hr : evL N P call ops ops.toList a s = r at e
      cases r with
      | none => cases e
      | some r =>
        obtain ⟨a1, s1⟩ := r
        cases e
        exact wp_region_list (evL_sound hcl _ hr h ha hd hq)
  | _ =>
    intro a a' s s' x e m B W A Q h ha hd hq
    cases e
theorem fill_rs {m : Mu} : ∀ (l l' : List Value) (i : Nat) (t : Tr Value), RL m l l' → i + l.length ≤ 4096 → ∀ j, (fillFrom l i t).get 13 j = if i ≤ j ∧ j < i + l.length then l[j - i]? else t.get 13 j := by
  intro l
  induction l with
  | nil =>
    intro l' i t h hi j
    rw [if_neg (by simp only [List.length_nil]; omega)]
    rfl
  | cons v l ih =>
    intro l' i t h hi j
    cases h with
    | cons h g =>
      simp only [List.length_cons] at hi ⊢
      rw [fillFrom, ih _ _ _ g (by show i + 1 + l.length ≤ 4096; omega) j]
      show (if i + 1 ≤ j ∧ j < i + 1 + l.length then l[j - (i + 1)]? else _) = _
      by_cases h1 : i + 1 ≤ j ∧ j < i + 1 + l.length
      · rw [if_pos h1, if_pos (by omega), show j - i = (j - (i + 1)) + 1 by omega, List.getElem?_cons_succ]
      · rw [if_neg h1]
        by_cases h2 : j = i
        · subst h2
          rw [if_pos (by omega), Tr.get_put_same 13 _ _ _ (by omega), Nat.sub_self]
          rfl
        · rw [if_neg (by omega), Tr.get_put_other 13 _ _ _ _ h2]
theorem evCall_sound {P : Program} {dr : Dr} (hdr : DrOk P dr) {orc : CallF} (ho : CallOk P orc) : ∀ n, CallOk P (evCall P dr orc n) := by
  intro n
  induction n with
  | zero => intro f args s v s' e; cases e
  | succ n ih =>
    intro f args s v s' e
    simp only [evCall] at e
    split at e
    · rename_i r hr
      cases e
      exact ho f args s v s' hr
    · generalize hb : bodyTab P dr f = b at e
      cases b with
      | none => cases e
      | some b =>
        simp only [] at e
        unfold bodyTab at hb
        split at hb
        · cases hb
        · rename_i fn hf
          split at hb
          · cases hb
          · rename_i c hbd
            cases hb
            unfold evF at e
            dsimp only at e
            cases hlen : (Nat.ble args.length fn.ntmps && Nat.ble fn.ntmps 4096) with
            | false => rw [hlen] at e; cases e
            | true =>
              rw [hlen, cond_true] at e
              simp only [Bool.and_eq_true] at hlen
              have hl1 := Nat.le_of_ble_eq_true hlen.1
              have hl2 := Nat.le_of_ble_eq_true hlen.2
              split at e
              · rename_i x a s1 hx
                intro m B W args' h ha
                have hal := ha.length
                have hrs : RS fn.ntmps m (fillFrom args 0 .leaf) ⟨args'.toArray ++ Array.replicate (fn.ntmps - args'.toArray.size) undef, []⟩ := by
                  refine ⟨by simp; omega, hl2, fun t => ?_⟩
                  have hg := fill_rs args args' 0 .leaf ha (by omega) t
                  show R m (match (fillFrom args 0 .leaf).get 13 t with | some v => v | none => undef) _
                  rw [hg]
                  simp only [Nat.zero_le, true_and, Nat.zero_add, Nat.sub_zero, Tr.get_leaf]
                  by_cases ht : t < args.length
                  · rw [if_pos ht]
                    obtain ⟨y, hy, hr⟩ := ha.get t (List.getElem?_eq_getElem ht)
                    have e2 : (args'.toArray ++ Array.replicate (fn.ntmps - args'.toArray.size) undef).getD t undef = y := by
                      rw [Array.getD_eq_getD_getElem?, Array.getElem?_append_left (by simp; omega)]
                      simp [hy]
                    rw [e2, List.getElem?_eq_getElem ht]
                    exact hr
                  · rw [if_neg ht]
                    have e2 : (args'.toArray ++ Array.replicate (fn.ntmps - args'.toArray.size) undef).getD t undef = undef := by
                      rw [Array.getD_eq_getD_getElem?, Array.getElem?_append_right (by simp; omega), Array.getElem?_replicate]
                      split <;> rfl
                    rw [e2]
                    exact R.undef
                refine calls_of_wp hf hbd (evC_sound hdr ih c hx h hrs rfl fun A' W' hA => ?_)
                obtain ⟨m', h1, h2, h3, h4, h5⟩ := hA
                have key : ∀ e', (match evResults P s1 a fn.results.toList with | some l => some (packed l, s1) | none => none) = some (v, s') → e' = .normal ∨ e' = .ret → bodyPost P fn (fun e W' => ∃ m' v', e = .returned v' ∧ R m' v v' ∧ Sub m m' ∧ Holds m' s' B W' ∧ Below B W W') e' A' W' := fun e' he hee => by
                  split at he
                  · rename_i l hl
                    cases he
                    obtain ⟨v', h6, h7⟩ := evResults_sound h2 h4 hl
                    rcases hee with rfl | rfl
                    · exact ⟨h5, v', h6, m', v', rfl, h7, h1, h2, h3⟩
                    · exact ⟨h5, v', h6, m', v', rfl, h7, h1, h2, h3⟩
                  · cases he
                cases x with
                | normal => exact key _ e (.inl rfl)
                | ret => exact key _ e (.inr rfl)
                | exit i => cases e
              · cases e
end Go.Proofs.YtabpfolbemmhlaaGreatDoor.Ev
