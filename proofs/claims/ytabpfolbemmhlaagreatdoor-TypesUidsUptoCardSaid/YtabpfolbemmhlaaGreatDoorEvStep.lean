/-
  A checked evaluator of concrete calls: one operation of a region, a call or not. No walk.
-/
import Derived.Test.YtabpfolbemmhlaaGreatDoorEvCode
namespace Go.Proofs.YtabpfolbemmhlaaGreatDoor.Ev
open Go.ChangeShapes Go.WideShapes Go.ChangeAt Go.RowKit
open Go.Proofs.YtabpfolbemmhlaaGreatDoor.Mem
variable {N : Nat}
set_option linter.unusedVariables false
set_option linter.unusedSimpArgs false
abbrev CallF := FuncId → List Value → St → Option (Value × St)
/-- a function that is entered when it is called -/
def entered (P : Program) (f : FuncId) : Bool :=
  match P.funcs[f]? with
  | some fn => fn.body.isSome && !(fn.name == "runtime.NumGoroutine")
  | none => false
noncomputable def callTab : Op → Program → St → Sls → Option (FuncId × List Value)
  | .call c => match c.callee with
    | .value f => fun P s a => match evX s a f, evXs s a c.args.toList with
      | some (.func (.func g) first cap), some l => bif entered P g then some (g, first.toList ++ l ++ cap.toList) else none
      | _, _ => none
    | _ => fun _ _ _ => none
  | _ => fun _ _ _ => none
noncomputable def putO (N : Nat) (a : Sls) (dst : Option Nat) (v : Value) : Sls :=
  match dst with
  | some d => puts N a d v
  | none => a
noncomputable def yieldedL (ops : Array Oper) (a : Sls) (j : Nat) : Option Bool :=
  match (ops[j]?).bind (·.dst) with
  | some d => match gets a d with
    | .bool b => some b
    | _ => none
  | none => none
noncomputable def wantedTab (ops : Array Oper) : Option (Nat × Bool) → Sls → Bool
  | none => fun _ => true
  | some (j, want) => fun a => match yieldedL ops a j with
    | some b => bif b then want else !want
    | none => false
/-- the answer, and what is left; a new block bears the name nm, if that was laid by -/
def resOk : Option Nat → List Nat → Bool
  | none => fun _ => true
  | some k => fun l => l.any (Nat.beq k)
noncomputable def evPlain (P : Program) (call : CallF) (nm : Option Nat) (o : Oper) (a : Sls) (s : St) : Option (Value × St) :=
  match callTab o.op P s a with
  | some (f, args) => call f args s
  | none => sel (resOk nm s.res) (match evOp P ⟨s.heap, s.next, s.res, nm⟩ a o with
    | some (v, s') => some (orUndef v, ⟨s'.heap, s'.next, s'.res, none⟩)
    | none => none) none
noncomputable def evO (P : Program) (call : CallF) (nm : Option Nat) (ops : Array Oper) (o : Oper) (a : Sls) (s : St) : Option (Value × St) :=
  sel (wantedTab ops o.guard a) (evPlain P call nm o a s) (some (undef, s))
theorem Holds.bare {m : Mu} {s : St} {B : Nat} {W : World} (h : Holds m s B W) : Holds m ⟨s.heap, s.next, s.res, none⟩ B W :=
  ⟨h.fresh, h.laid, (fun n e => by cases e), h.big, h.room, h.at', h.inj, h.glob, h.keep, h.maps⟩
theorem Holds.named {m : Mu} {s : St} {B : Nat} {W : World} (h : Holds m s B W) {nm : Option Nat} (hn : resOk nm s.res = true) : Holds m ⟨s.heap, s.next, s.res, nm⟩ B W := by
  refine ⟨h.fresh, h.laid, fun n e => ?_, h.big, h.room, h.at', h.inj, h.glob, h.keep, h.maps⟩
  have e2 : nm = some n := e
  subst e2
  simp only [resOk, List.any_eq_true] at hn
  obtain ⟨k, hk, hb⟩ := hn
  have := Nat.eq_of_beq_eq_true hb
  subst this
  exact hk
/-- what holds behind: blocks by name as they are said, slots as they are said -/
def After (N : Nat) (m : Mu) (B : Nat) (W : World) (a' : Sls) (s' : St) (A' : Act) (W' : World) : Prop :=
  ∃ m', Sub m m' ∧ Holds m' s' B W' ∧ Below B W W' ∧ RS N m' a' A' ∧ A'.defers = []
theorem After.of {m : Mu} {B : Nat} {W : World} {a : Sls} {s : St} {A : Act} (h : Holds m s B W) (ha : RS N m a A) (hd : A.defers = []) : After N m B W a s A W := ⟨m, Sub.refl m, h, Below.refl B W, ha, hd⟩
theorem After.trans {m m1 : Mu} {B : Nat} {W W1 W2 : World} {a2 : Sls} {s2 : St} {A2 : Act} (hs : Sub m m1) (hb : Below B W W1) (h : After N m1 B W1 a2 s2 A2 W2) : After N m B W a2 s2 A2 W2 := by
  obtain ⟨m', h1, h2, h3, h4, h5⟩ := h
  exact ⟨m', hs.trans h1, h2, hb.trans h3, h4, h5⟩
def CallOk (P : Program) (call : CallF) : Prop := ∀ f args s v s', call f args s = some (v, s') → ∀ m B W args', Holds m s B W → RL m args args' →
  Calls P f args'.toArray W fun e W' => ∃ m' v', e = .returned v' ∧ R m' v v' ∧ Sub m m' ∧ Holds m' s' B W' ∧ Below B W W'
theorem wanted_same {m : Mu} {a : Sls} {A : Act} (ha : RS N m a A) (ops : Array Oper) (o : Oper) : Region.wanted o (yielded ops A.tmps) = wantedTab ops o.guard a := by
  unfold Region.wanted wantedTab
  split
  · rename_i h; rw [h]
  · rename_i j want h
    rw [h]
    have : yielded ops A.tmps j = yieldedL ops a j := by
      unfold yielded yieldedL
      cases hd : (ops[j]?).bind (·.dst) with
      | none => rfl
      | some d =>
        simp only [Option.bind_some]
        have hr := ha.slot d
        cases hx : A.tmps[d]? with
        | none =>
          have e : A.tmps.getD d undef = undef := by simp [Array.getD_eq_getD_getElem?, hx]
          rw [e] at hr
          generalize gets a d = x at hr
          cases hr
          rfl
        | some y =>
          have e : A.tmps.getD d undef = y := by simp [Array.getD_eq_getD_getElem?, hx]
          rw [e] at hr
          generalize gets a d = x at hr
          cases hr <;> rfl
    simp only [this]
    cases yieldedL ops a j with
    | none => rfl
    | some b => cases b <;> cases want <;> rfl
theorem RS.putO {m : Mu} {a : Sls} {A : Act} (ha : RS N m a A) (dst : Option Nat) {v v' : Value} (hv : R m v v') : RS N m (putO N a dst v) (A.put dst v') := by
  cases dst with
  | none => exact ha
  | some d => exact ha.put d hv
theorem put_defers (A : Act) (dst : Option Nat) (v : Value) : (A.put dst v).defers = A.defers := by cases dst <;> rfl
/-- one operation that is wanted, at an act -/
theorem evPlain_sound {P : Program} {call : CallF} (hcl : CallOk P call) {o : Oper} {a : Sls} {s s' : St} {v : Value} {nm : Option Nat} (e : evPlain P call nm o a s = some (v, s')) {m : Mu} {B : Nat} {W : World} {A : Act} {K : Act → World → Prop} {Q : Exit → Act → World → Prop}
    (h : Holds m s B W) (ha : RS N m a A) (hk : ∀ m' W' v', Sub m m' → Holds m' s' B W' → Below B W W' → R m' v v' → K (A.put o.dst v') W') : o.wp P A W K Q := by
  unfold evPlain at e
  split at e
  · rename_i f args hcall
    unfold callTab at hcall
    generalize hop : o.op = op at hcall
    cases op <;> simp only [] at hcall <;> first | (cases hcall; done) | skip
    rename_i c
    generalize hcal : c.callee = cl at hcall
    cases cl <;> simp only [] at hcall <;> first | (cases hcall; done) | skip
    · rename_i fx
      split at hcall
      · rename_i g first cap l' hfx hxs
        cases hent : entered P g with
        | false => rw [hent] at hcall; cases hcall
        | true =>
          rw [hent] at hcall
          cases hcall
          have hfr := evX_sound h ha hfx
          generalize hy : A.eval fx = y at hfr
          cases hfr with
          | func _ _ _ fi' ca' hfi hca =>
            have hxr := evXs_sound h ha _ _ hxs
            have hargs : RL m (first.toList ++ l' ++ cap.toList) (fi' ++ c.args.map A.eval ++ ca').toList := by
              simp only [Array.toList_append, Array.toList_map]
              exact (hfi.append hxr).append hca
            have hcl2 := hcl _ _ _ _ _ e m B W _ h hargs
            obtain ⟨fn, hfn, hbody, hnum⟩ : ∃ fn : Func, P.funcs[f]? = some fn ∧ fn.body.isNone = false ∧ (fn.name == "runtime.NumGoroutine") = false := by
              unfold entered at hent
              split at hent
              · rename_i fn hfn
                simp only [Bool.and_eq_true, Bool.not_eq_true'] at hent
                exact ⟨fn, hfn, by cases hb : fn.body <;> simp_all, hent.2⟩
              · cases hent
            have hexec : (execOp A.eval o).run P W = .ok (.enter f (fi' ++ c.args.map A.eval ++ ca')) W := by
              simp only [execOp, hop, Sem.run_bind, resolve, hcal, Deferred.ofValue, hy, Sem.run_pure, Result.andThen_ok, invoke, callFunc]
              have hn2 : ¬ fn.name = "runtime.NumGoroutine" := by simpa using hnum
              have hb2 : ¬ fn.body = none := by intro hb; rw [hb] at hbody; cases hbody
              simp [program, Sem.run, Sem.run_bind, hfn, hn2, hb2]
            unfold Oper.wp
            rw [hexec, Oper.upon_enter]
            refine hcl2.mono fun e2 W' he => ?_
            obtain ⟨m', v', rfl, g1, g2, g3, g4⟩ := he
            exact hk m' W' v' g2 g3 g4 g1
      · cases hcall
  · cases hres : resOk nm s.res with
    | false => rw [hres] at e; cases e
    | true =>
      rw [hres, sel_true] at e
      split at e
      · rename_i v0 s0 hop
        cases e
        obtain ⟨m', W', g1, g2, g3, g4⟩ := evOp_sound (h.named hres) ha hop
        cases v0 with
        | some v =>
          obtain ⟨v', g5, g6⟩ := g4
          unfold Oper.wp
          rw [g5, Oper.upon_value]
          exact hk m' W' v' g1 g2.bare g3 g6
        | none =>
          unfold Oper.wp
          rw [g4, Oper.upon_skip]
          exact hk m' W' undef g1 g2.bare g3 R.undef
      · cases e
theorem evO_sound {P : Program} {call : CallF} (hcl : CallOk P call) {ops : Array Oper} {o : Oper} {a : Sls} {s s' : St} {v : Value} {nm : Option Nat} (e : evO P call nm ops o a s = some (v, s')) {m : Mu} {B : Nat} {W : World} {A : Act} {K : Act → World → Prop} {Q : Exit → Act → World → Prop}
    (h : Holds m s B W) (ha : RS N m a A) (hk : ∀ m' W' v', Sub m m' → Holds m' s' B W' → Below B W W' → R m' v v' → K (A.put o.dst v') W') :
    if Region.wanted o (yielded ops A.tmps) then o.wp P A W K Q ∨ (o.asks P A W ∧ LetsOut Q) else K (A.put o.dst undef) W := by
  rw [wanted_same ha]
  unfold evO at e
  cases hw : wantedTab ops o.guard a with
  | true =>
    rw [hw, sel_true] at e
    rw [if_pos rfl]
    exact .inl (evPlain_sound hcl e h ha hk)
  | false =>
    rw [hw, sel_false] at e
    cases e
    rw [if_neg (by simp)]
    exact hk m W undef (Sub.refl m) h (Below.refl B W) R.undef
noncomputable def evL (N : Nat) (P : Program) (call : CallF) (ops : Array Oper) : List Oper → Sls → St → Option (Sls × St)
  | [] => fun a s => some (a, s)
  | o :: r => fun a s => match evO P call none ops o a s with
    | some (v, s') => evL N P call ops r (putO N a o.dst v) s'
    | none => none
theorem evL_sound {P : Program} {call : CallF} (hcl : CallOk P call) {ops : Array Oper} : ∀ (l : List Oper) {a a' : Sls} {s s' : St}, evL N P call ops l a s = some (a', s') → ∀ {m : Mu} {B : Nat} {W : World} {A : Act} {Q : Exit → Act → World → Prop}, Holds m s B W → RS N m a A → A.defers = [] →
    (∀ A' W', After N m B W a' s' A' W' → Q .normal A' W') → wpList P ops Q l A W := by
  intro l
  induction l with
  | nil =>
    intro a a' s s' e m B W A Q h ha hd hq
    cases e
    exact hq A W (.of h ha hd)
  | cons o r ih =>
    intro a a' s s' e m B W A Q h ha hd hq
    simp only [evL] at e
    split at e
    · rename_i v s1 ho
      show (if _ then _ else _)
      exact evO_sound hcl ho h ha fun m' W' v' g1 g2 g3 g4 => ih e g2 ((ha.up g1).putO o.dst g4) (by rw [put_defers]; exact hd) fun A2 W2 hA2 => hq A2 W2 (hA2.trans g1 g3)
    · cases e
end Go.Proofs.YtabpfolbemmhlaaGreatDoor.Ev
