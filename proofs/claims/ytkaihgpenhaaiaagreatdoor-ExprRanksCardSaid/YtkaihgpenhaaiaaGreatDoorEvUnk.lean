/-
  Evaluated calls whose arguments are bytes that aren't known: pieces of code one behind the other, slots that are known better or less. No walk.
-/
import Derived.Test.YtkaihgpenhaaiaaGreatDoorEvRun
namespace Go.Proofs.YtkaihgpenhaaiaaGreatDoor.Ev
open Go.ChangeShapes Go.WideShapes Go.ChangeAt Go.RowKit
open Go.Proofs.YtkaihgpenhaaiaaGreatDoor.Mem
variable {N : Nat}
set_option linter.unusedVariables false
set_option linter.unusedSimpArgs false
def unkB : Value := .chan none
def unkI : Value := .chan (some 0)
theorem R.unkB {m : Mu} {n : Int} (h : 0 ≤ n) (h2 : n < 256) : R m unkB (.int .u8 n) := .unk none .u8 n fun _ => ⟨rfl, h, h2⟩
theorem R.unkI {m : Mu} (k : IntKind) (n : Int) : R m unkI (.int k n) := .unk (some 0) k n fun e => by cases e
theorem R.byte {m : Mu} {y : Value} (h : R m Ev.unkB y) : ∃ n, y = .int .u8 n ∧ 0 ≤ n ∧ n < 256 := by
  cases h with
  | unk c k n h =>
    obtain ⟨rfl, h1, h2⟩ := h rfl
    exact ⟨n, rfl, h1, h2⟩
theorem gets_same (a : Sls) (d : Nat) (v : Value) (hd : Nat.blt d N = true) (hN : N ≤ 4096) : gets (puts N a d v) d = v := by
  have : d < N := by simpa [Nat.blt_eq] using hd
  unfold gets puts
  rw [hd, cond_true, Tr.get_put_same 13 _ _ _ (by omega)]
  rfl
theorem gets_other (a : Sls) (d t : Nat) (v : Value) (h : t ≠ d) : gets (puts N a d v) t = gets a t := by
  unfold gets puts
  cases Nat.blt d N with
  | false => rfl
  | true => rw [cond_true, Tr.get_put_other 13 _ _ _ _ h]
/-- each slot of b says no more than that of a -/
def Less (m : Mu) (a b : Sls) : Prop := ∀ t y, R m (gets a t) y → R m (gets b t) y
theorem Less.refl (m : Mu) (a : Sls) : Less m a a := fun _ _ h => h
theorem Less.puts {m : Mu} {a b : Sls} (h : Less m a b) (d : Nat) {v v' : Value} (hd : Nat.blt d N = true) (hN : N ≤ 4096) (hv : ∀ y, R m v y → R m v' y) : Less m (puts N a d v) (puts N b d v') := fun t y e => by
  by_cases ht : t = d
  · subst ht
    rw [gets_same _ _ _ hd hN] at e ⊢
    exact hv y e
  · rw [gets_other _ _ _ _ ht] at e ⊢
    exact h t y e
theorem Less.keep {m : Mu} {a b : Sls} (h : Less m a b) (d : Nat) (v : Value) (hd : Nat.blt d N = true) (hN : N ≤ 4096) : Less m (Ev.puts N a d v) (Ev.puts N b d v) := h.puts d hd hN fun _ e => e
theorem RS.less {m : Mu} {a b : Sls} {A : Act} (h : RS N m a A) (l : Less m a b) : RS N m b A := ⟨h.size, h.most, fun t => l t _ (h.slot t)⟩
/-- a slot that is known better -/
theorem RS.know {m : Mu} {a : Sls} {A : Act} (h : RS N m a A) (d : Nat) {v : Value} (hd : Nat.blt d N = true) (hv : R m v (A.tmps.getD d Go.undef)) : RS N m (Ev.puts N a d v) A := by
  refine ⟨h.size, h.most, fun t => ?_⟩
  by_cases ht : t = d
  · subst ht
    rw [gets_same _ _ _ hd h.most]
    exact hv
  · rw [gets_other _ _ _ _ ht]
    exact h.slot t
def seqs : List Code → Code → Code
  | [], r => r
  | c :: l, r => .seq c (seqs l r)
def seqOf (f : Sls → St → Option (Sls × St)) : X → Sls → St → Option (Sls × St)
  | .normal => f
  | _ => fun _ _ => none
noncomputable def evSeq (N : Nat) (P : Program) (dr : Dr) (call : CallF) : List Code → Sls → St → Option (Sls × St)
  | [] => fun a s => some (a, s)
  | c :: l => fun a s => match evC N P dr call c a s with
    | some (x, a', s') => seqOf (evSeq N P dr call l) x a' s'
    | none => none
theorem evSeq_sound {P : Program} {dr : Dr} (hdr : DrOk P dr) {call : CallF} (hcl : CallOk P call) : ∀ (l : List Code) (r : Code) {a a' : Sls} {s s' : St}, evSeq N P dr call l a s = some (a', s') → ∀ {m : Mu} {B : Nat} {W : World} {A : Act} {Q : Exit → Act → World → Prop}, Holds m s B W → RS N m a A → A.defers = [] →
    (∀ A' W', After N m B W a' s' A' W' → r.wp P Q A' W') → (seqs l r).wp P Q A W := by
  intro l r
  induction l with
  | nil =>
    intro a a' s s' e m B W A Q h ha hd hq
    cases e
    exact hq A W (.of h ha hd)
  | cons c l ih =>
    intro a a' s s' e m B W A Q h ha hd hq
    simp only [evSeq] at e
    split at e
    · rename_i x a1 s1 h1
      refine wp_seq (evC_sound hdr hcl c h1 h ha hd fun A' W' hA => ?_)
      cases x with
      | normal =>
        obtain ⟨m', g1, g2, g3, g4, g5⟩ := hA
        exact ih e g2 g4 g5 fun A2 W2 hA2 => hq A2 W2 (hA2.trans g1 g3)
      | exit i => cases e
      | ret => cases e
    · cases e
/-- the end of a call -/
theorem post_of {P : Program} {fn : Func} {m : Mu} {B : Nat} {W : World} {a : Sls} {s1 s' : St} {A' : Act} {W' : World} {x : X} {v : Value} (hN : fn.ntmps = N) (hA : After N m B W a s1 A' W') (e : retOf P fn.results.toList x a s1 = some (v, s')) :
    bodyPost P fn (fun e W' => ∃ m' v', e = .returned v' ∧ R m' v v' ∧ Sub m m' ∧ Holds m' s' B W' ∧ Below B W W') x.e A' W' := by
  subst hN
  obtain ⟨m', h1, h2, h3, h4, h5⟩ := hA
  have key : ∀ e', (match evResults P s1 a fn.results.toList with | some l => some (packed l, s1) | none => none) = some (v, s') → e' = .normal ∨ e' = .ret → bodyPost P fn (fun e W' => ∃ m' v', e = .returned v' ∧ R m' v v' ∧ Sub m m' ∧ Holds m' s' B W' ∧ Below B W W') e' A' W' := fun e' he hee => by
    split at he
    · rename_i l hl
      cases he
      obtain ⟨v', h6, h7⟩ := evResults_sound h2 h4 hl
      rcases hee with rfl | rfl
      · exact ⟨h5, v', h6, m', v', rfl, h7, h1, h2, h3⟩
      · exact ⟨h5, v', h6, m', v', rfl, h7, h1, h2, h3⟩
    · cases he
  cases x with
  | normal => exact key _ e (.inl rfl)
  | ret => exact key _ e (.inr rfl)
  | exit i => cases e
theorem enter_rs {m : Mu} {fn : Func} {args args' : List Value} (ha : RL m args args') (hl1 : args.length ≤ fn.ntmps) (hl2 : fn.ntmps ≤ 4096) : RS fn.ntmps m (fillFrom args 0 .leaf) ⟨args'.toArray ++ Array.replicate (fn.ntmps - args'.toArray.size) Go.undef, []⟩ := by
  have hal := ha.length
  refine ⟨by simp; omega, hl2, fun t => ?_⟩
  have hg := fill_rs args args' 0 .leaf ha (by omega) t
  show R m (match (fillFrom args 0 .leaf).get 13 t with | some v => v | none => Go.undef) _
  rw [hg]
  simp only [Nat.zero_le, true_and, Nat.zero_add, Nat.sub_zero, Tr.get_leaf]
  by_cases ht : t < args.length
  · rw [if_pos ht]
    obtain ⟨y, hy, hr⟩ := ha.get t (List.getElem?_eq_getElem ht)
    have e2 : (args'.toArray ++ Array.replicate (fn.ntmps - args'.toArray.size) Go.undef).getD t Go.undef = y := by
      rw [Array.getD_eq_getD_getElem?, Array.getElem?_append_left (by simp; omega)]
      simp [hy]
    rw [e2, List.getElem?_eq_getElem ht]
    exact hr
  · rw [if_neg ht]
    have e2 : (args'.toArray ++ Array.replicate (fn.ntmps - args'.toArray.size) Go.undef).getD t Go.undef = Go.undef := by
      rw [Array.getD_eq_getD_getElem?, Array.getElem?_append_right (by simp; omega), Array.getElem?_replicate]
      split <;> rfl
    rw [e2]
    exact R.undef
end Go.Proofs.YtkaihgpenhaaiaaGreatDoor.Ev
