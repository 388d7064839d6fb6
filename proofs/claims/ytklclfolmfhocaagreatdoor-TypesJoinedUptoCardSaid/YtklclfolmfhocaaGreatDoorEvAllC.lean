/-
  The evaluator of concrete calls: EvCode, EvStep, EvSame, EvCongr, EvRun, EvDraw, EvDrawOk, EvDrawAny in one. Written by wip/groups.py.
-/
import Derived.Test.YtklclfolmfhocaaGreatDoorEvAllB
namespace Go.Proofs.YtklclfolmfhocaaGreatDoor.Ev
open Go.ChangeShapes Go.WideShapes Go.ChangeAt Go.RowKit
open Go.Proofs.YtklclfolmfhocaaGreatDoor.Mem
variable {N : Nat}
set_option linter.unusedVariables false
set_option linter.unusedSimpArgs false
/-! ### a loop, round by round -/
def LoopIn (P : Program) (c : Code) (Q : Exit → Act → World → Prop) : Nat → Act → World → Prop
  | 0 => fun _ _ => False
  | k + 1 => fun a w => c.wp P (Exit.then (LoopIn P c Q k) Q) a w
open Classical in
theorem wp_loop_in {P : Program} {c : Code} {Q : Exit → Act → World → Prop} {k : Nat} {a : Act} {w : World} (h : LoopIn P c Q k a w) : (Code.loop c).wp P Q a w := by
  have least : ∀ a w, (∃ k, LoopIn P c Q k a w) → ∃ k, LoopIn P c Q k a w ∧ ∀ j, LoopIn P c Q j a w → k ≤ j := by
    intro a w ⟨k, hk⟩
    induction k using Nat.strongRecOn with
    | _ k ih =>
      by_cases hq : ∃ j, LoopIn P c Q j a w ∧ j < k
      · obtain ⟨j, hj, hlt⟩ := hq; exact ih j hlt hj
      · exact ⟨k, hk, fun j hj => Nat.le_of_not_lt fun hlt => hq ⟨j, hj, hlt⟩⟩
  refine wp_loop (fun a w => ∃ k, LoopIn P c Q k a w) (fun a w => if h : ∃ k, LoopIn P c Q k a w then (least a w h).choose else 0) ⟨k, h⟩ fun a w hI => ?_
  have hspec := (least a w hI).choose_spec
  simp only [dif_pos hI]
  generalize (least a w hI).choose = n at hspec
  obtain ⟨h1, h2⟩ := hspec
  cases n with
  | zero => exact h1.elim
  | succ n =>
    refine Code.wp_mono (fun e a' w' q => ?_) h1
    cases e <;> first | exact q | skip
    have hI' : ∃ k, LoopIn P c Q k a' w' := ⟨n, q⟩
    refine ⟨hI', ?_⟩
    simp only [dif_pos hI']
    exact Nat.lt_succ_of_le ((least a' w' hI').choose_spec.2 n q)
/-! ### what is answered -/
noncomputable def evResult (P : Program) (s : St) (a : Sls) : ResultVar → Option Value
  | .tmp t => some (gets a t)
  | .cell t ty => evLoad P s ty (gets a t)
noncomputable def evResults (P : Program) (s : St) (a : Sls) : List ResultVar → Option (List Value)
  | [] => some []
  | r :: rs => match evResult P s a r, evResults P s a rs with
    | some v, some l => some (v :: l)
    | _, _ => none
def packed (l : List Value) : Value := match l with
  | [v] => v
  | l => .tuple l.toArray
def resOne (tmps : Array Value) : ResultVar → Sem Value
  | .tmp t => pure (tmps.getD t undef)
  | .cell a t => do loadVar t (← asAddr (tmps.getD a undef))
theorem results_eq (fn : Func) (tmps : Array Value) : results fn tmps = (do let vs ← fn.results.mapM (resOne tmps); pure (if h : vs.size = 1 then vs[0] else .tuple vs)) := rfl
theorem evResults_sound {P : Program} {m : Mu} {s : St} {B : Nat} {W : World} (h : Holds m s B W) {a : Sls} {A : Act} (ha : RS N m a A) {fn : Func} {l : List Value} (e : evResults P s a fn.results.toList = some l) :
    ∃ v', (results fn A.tmps).run P W = .ok v' W ∧ R m (packed l) v' := by
  have key : ∀ (rs : List ResultVar) (l : List Value), evResults P s a rs = some l → ∃ l', (rs.mapM (resOne A.tmps)).run P W = .ok l' W ∧ RL m l l' := by
    intro rs
    induction rs with
    | nil => intro l e; cases e; exact ⟨[], rfl, .nil⟩
    | cons r rs ih =>
      intro l e
      simp only [evResults] at e
      split at e
      · rename_i v k hv hk
        cases e
        obtain ⟨k', h1, h2⟩ := ih _ hk
        have hone : ∃ v', (resOne A.tmps r).run P W = .ok v' W ∧ R m v v' := by
          cases r with
          | tmp t => cases hv; exact ⟨_, rfl, ha.slot t⟩
          | cell t ty =>
            simp only [evResult] at hv
            have hr := ha.slot t
            obtain ⟨v', g1, g2⟩ := evLoad_sound h hr hv
            refine ⟨v', ?_, g2⟩
            show (do loadVar ty (← asAddr (A.tmps.getD t undef)) : Sem Value).run P W = _
            generalize A.tmps.getD t undef = y at hr g1 ⊢
            generalize gets a t = z at hr hv
            cases hr <;> first | (simp [evLoad] at hv; done) | skip
            simpa [Instr.loadAt, Instr.sureAddr, asAddr, Sem.run_bind] using g1
        obtain ⟨v', g1, g2⟩ := hone
        refine ⟨v' :: k', ?_, .cons g2 h2⟩
        rw [List.mapM_cons]
        simp only [Sem.run_bind, g1, Result.andThen_ok, h1, Sem.run_pure]
      · cases e
  obtain ⟨l', h1, h2⟩ := key _ _ e
  have hlen := h2.length
  refine ⟨packed l', ?_, ?_⟩
  · rw [results_eq, Array.mapM_eq_mapM_toList]
    simp only [Sem.run_bind, map_eq_pure_bind, h1, Result.andThen_ok, Sem.run_pure]
    match l' with
    | [] => rfl
    | [v] => rfl
    | _ :: _ :: _ => rfl
  · match l, l', h2 with
    | [], [], h2 => exact .tuple _ _ h2
    | [v], [v'], .cons h _ => exact h
    | _ :: _ :: _, _ :: _ :: _, h2 => exact .tuple _ _ h2
end Go.Proofs.YtklclfolmfhocaaGreatDoor.Ev
namespace Go.Proofs.YtklclfolmfhocaaGreatDoor.Ev
open Go.ChangeShapes Go.WideShapes Go.ChangeAt Go.RowKit
open Go.Proofs.YtklclfolmfhocaaGreatDoor.Mem
variable {N : Nat}
set_option linter.unusedVariables false
set_option linter.unusedSimpArgs false
abbrev CallF := FuncId → List Value → St → Option (Value × St)
/-- a function that is entered when it is called -/
def entered (P : Program) (f : FuncId) : Bool :=
  match P.funcs[f]? with
  | some fn => fn.body.isSome && !(fn.name == "runtime.NumGoroutine")
  | none => false
noncomputable def callTab : Op → Program → St → Sls → Option (FuncId × List Value)
  | .call c => match c.callee with
    | .value f => fun P s a => match evX s a f, evXs s a c.args.toList with
      | some (.func (.func g) first cap), some l => bif entered P g then some (g, first.toList ++ l ++ cap.toList) else none
      | _, _ => none
    | _ => fun _ _ _ => none
  | _ => fun _ _ _ => none
noncomputable def putO (N : Nat) (a : Sls) (dst : Option Nat) (v : Value) : Sls :=
  match dst with
  | some d => puts N a d v
  | none => a
noncomputable def yieldedL (ops : Array Oper) (a : Sls) (j : Nat) : Option Bool :=
  match (ops[j]?).bind (·.dst) with
  | some d => match gets a d with
    | .bool b => some b
    | _ => none
  | none => none
noncomputable def wantedTab (ops : Array Oper) : Option (Nat × Bool) → Sls → Bool
  | none => fun _ => true
  | some (j, want) => fun a => match yieldedL ops a j with
    | some b => bif b then want else !want
    | none => false
/-- the answer, and what is left; a new block bears the name nm, if that was laid by -/
def resOk : Option Nat → List Nat → Bool
  | none => fun _ => true
  | some k => fun l => l.any (Nat.beq k)
noncomputable def evPlain (P : Program) (call : CallF) (nm : Option Nat) (o : Oper) (a : Sls) (s : St) : Option (Value × St) :=
  match callTab o.op P s a with
  | some (f, args) => call f args s
  | none => sel (resOk nm s.res) (match evOp P ⟨s.heap, s.next, s.res, nm⟩ a o with
    | some (v, s') => some (orUndef v, ⟨s'.heap, s'.next, s'.res, none⟩)
    | none => none) none
noncomputable def evO (P : Program) (call : CallF) (nm : Option Nat) (ops : Array Oper) (o : Oper) (a : Sls) (s : St) : Option (Value × St) :=
  sel (wantedTab ops o.guard a) (evPlain P call nm o a s) (some (undef, s))
theorem Holds.bare {m : Mu} {s : St} {B : Nat} {W : World} (h : Holds m s B W) : Holds m ⟨s.heap, s.next, s.res, none⟩ B W :=
  ⟨h.fresh, h.laid, (fun n e => by cases e), h.big, h.room, h.at', h.inj, h.glob, h.keep, h.maps⟩
theorem Holds.named {m : Mu} {s : St} {B : Nat} {W : World} (h : Holds m s B W) {nm : Option Nat} (hn : resOk nm s.res = true) : Holds m ⟨s.heap, s.next, s.res, nm⟩ B W := by
  refine ⟨h.fresh, h.laid, fun n e => ?_, h.big, h.room, h.at', h.inj, h.glob, h.keep, h.maps⟩
  have e2 : nm = some n := e
  subst e2
  simp only [resOk, List.any_eq_true] at hn
  obtain ⟨k, hk, hb⟩ := hn
  have := Nat.eq_of_beq_eq_true hb
  subst this
  exact hk
/-- what holds behind: blocks by name as they are said, slots as they are said -/
def After (N : Nat) (m : Mu) (B : Nat) (W : World) (a' : Sls) (s' : St) (A' : Act) (W' : World) : Prop :=
  ∃ m', Sub m m' ∧ Holds m' s' B W' ∧ Below B W W' ∧ RS N m' a' A' ∧ A'.defers = []
theorem After.of {m : Mu} {B : Nat} {W : World} {a : Sls} {s : St} {A : Act} (h : Holds m s B W) (ha : RS N m a A) (hd : A.defers = []) : After N m B W a s A W := ⟨m, Sub.refl m, h, Below.refl B W, ha, hd⟩
theorem After.trans {m m1 : Mu} {B : Nat} {W W1 W2 : World} {a2 : Sls} {s2 : St} {A2 : Act} (hs : Sub m m1) (hb : Below B W W1) (h : After N m1 B W1 a2 s2 A2 W2) : After N m B W a2 s2 A2 W2 := by
  obtain ⟨m', h1, h2, h3, h4, h5⟩ := h
  exact ⟨m', hs.trans h1, h2, hb.trans h3, h4, h5⟩
def CallOk (P : Program) (call : CallF) : Prop := ∀ f args s v s', call f args s = some (v, s') → ∀ m B W args', Holds m s B W → RL m args args' →
  Calls P f args'.toArray W fun e W' => ∃ m' v', e = .returned v' ∧ R m' v v' ∧ Sub m m' ∧ Holds m' s' B W' ∧ Below B W W'
theorem wanted_same {m : Mu} {a : Sls} {A : Act} (ha : RS N m a A) (ops : Array Oper) (o : Oper) : Region.wanted o (yielded ops A.tmps) = wantedTab ops o.guard a := by
  unfold Region.wanted wantedTab
  split
  · rename_i h; rw [h]
  · rename_i j want h
    rw [h]
    have : yielded ops A.tmps j = yieldedL ops a j := by
      unfold yielded yieldedL
      cases hd : (ops[j]?).bind (·.dst) with
      | none => rfl
      | some d =>
        simp only [Option.bind_some]
        have hr := ha.slot d
        cases hx : A.tmps[d]? with
        | none =>
          have e : A.tmps.getD d undef = undef := by simp [Array.getD_eq_getD_getElem?, hx]
          rw [e] at hr
          generalize gets a d = x at hr
          cases hr
          rfl
        | some y =>
          have e : A.tmps.getD d undef = y := by simp [Array.getD_eq_getD_getElem?, hx]
          rw [e] at hr
          generalize gets a d = x at hr
          cases hr <;> rfl
    simp only [this]
    cases yieldedL ops a j with
    | none => rfl
    | some b => cases b <;> cases want <;> rfl
theorem RS.putO {m : Mu} {a : Sls} {A : Act} (ha : RS N m a A) (dst : Option Nat) {v v' : Value} (hv : R m v v') : RS N m (putO N a dst v) (A.put dst v') := by
  cases dst with
  | none => exact ha
  | some d => exact ha.put d hv
theorem put_defers (A : Act) (dst : Option Nat) (v : Value) : (A.put dst v).defers = A.defers := by cases dst <;> rfl
/-- one operation that is wanted, at an act -/
theorem evPlain_sound {P : Program} {call : CallF} (hcl : CallOk P call) {o : Oper} {a : Sls} {s s' : St} {v : Value} {nm : Option Nat} (e : evPlain P call nm o a s = some (v, s')) {m : Mu} {B : Nat} {W : World} {A : Act} {K : Act → World → Prop} {Q : Exit → Act → World → Prop}
    (h : Holds m s B W) (ha : RS N m a A) (hk : ∀ m' W' v', Sub m m' → Holds m' s' B W' → Below B W W' → R m' v v' → K (A.put o.dst v') W') : o.wp P A W K Q := by
  unfold evPlain at e
  split at e
  · rename_i f args hcall
    unfold callTab at hcall
    generalize hop : o.op = op at hcall
    cases op <;> simp only [] at hcall <;> first | (cases hcall; done) | skip
    rename_i c
    generalize hcal : c.callee = cl at hcall
    cases cl <;> simp only [] at hcall <;> first | (cases hcall; done) | skip
    · rename_i fx
      split at hcall
      · rename_i g first cap l' hfx hxs
        cases hent : entered P g with
        | false => rw [hent] at hcall; cases hcall
        | true =>
          rw [hent] at hcall
          cases hcall
          have hfr := evX_sound h ha hfx
          generalize hy : A.eval fx = y at hfr
          cases hfr with
          | func _ _ _ fi' ca' hfi hca =>
            have hxr := evXs_sound h ha _ _ hxs
            have hargs : RL m (first.toList ++ l' ++ cap.toList) (fi' ++ c.args.map A.eval ++ ca').toList := by
              simp only [Array.toList_append, Array.toList_map]
              exact (hfi.append hxr).append hca
            have hcl2 := hcl _ _ _ _ _ e m B W _ h hargs
            obtain ⟨fn, hfn, hbody, hnum⟩ : ∃ fn : Func, P.funcs[f]? = some fn ∧ fn.body.isNone = false ∧ (fn.name == "runtime.NumGoroutine") = false := by
              unfold entered at hent
              split at hent
              · rename_i fn hfn
                simp only [Bool.and_eq_true, Bool.not_eq_true'] at hent
                exact ⟨fn, hfn, by cases hb : fn.body <;> simp_all, hent.2⟩
              · cases hent
            have hexec : (execOp A.eval o).run P W = .ok (.enter f (fi' ++ c.args.map A.eval ++ ca')) W := by
              simp only [execOp, hop, Sem.run_bind, resolve, hcal, Deferred.ofValue, hy, Sem.run_pure, Result.andThen_ok, invoke, callFunc]
              have hn2 : ¬ fn.name = "runtime.NumGoroutine" := by simpa using hnum
              have hb2 : ¬ fn.body = none := by intro hb; rw [hb] at hbody; cases hbody
              simp [program, Sem.run, Sem.run_bind, hfn, hn2, hb2]
            unfold Oper.wp
            rw [hexec, Oper.upon_enter]
            refine hcl2.mono fun e2 W' he => ?_
            obtain ⟨m', v', rfl, g1, g2, g3, g4⟩ := he
            exact hk m' W' v' g2 g3 g4 g1
      · cases hcall
  · cases hres : resOk nm s.res with
    | false => rw [hres] at e; cases e
    | true =>
      rw [hres, sel_true] at e
      split at e
      · rename_i v0 s0 hop
        cases e
        obtain ⟨m', W', g1, g2, g3, g4⟩ := evOp_sound (h.named hres) ha hop
        cases v0 with
        | some v =>
          obtain ⟨v', g5, g6⟩ := g4
          unfold Oper.wp
          rw [g5, Oper.upon_value]
          exact hk m' W' v' g1 g2.bare g3 g6
        | none =>
          unfold Oper.wp
          rw [g4, Oper.upon_skip]
          exact hk m' W' undef g1 g2.bare g3 R.undef
      · cases e
theorem evO_sound {P : Program} {call : CallF} (hcl : CallOk P call) {ops : Array Oper} {o : Oper} {a : Sls} {s s' : St} {v : Value} {nm : Option Nat} (e : evO P call nm ops o a s = some (v, s')) {m : Mu} {B : Nat} {W : World} {A : Act} {K : Act → World → Prop} {Q : Exit → Act → World → Prop}
    (h : Holds m s B W) (ha : RS N m a A) (hk : ∀ m' W' v', Sub m m' → Holds m' s' B W' → Below B W W' → R m' v v' → K (A.put o.dst v') W') :
    if Region.wanted o (yielded ops A.tmps) then o.wp P A W K Q ∨ (o.asks P A W ∧ LetsOut Q) else K (A.put o.dst undef) W := by
  rw [wanted_same ha]
  unfold evO at e
  cases hw : wantedTab ops o.guard a with
  | true =>
    rw [hw, sel_true] at e
    rw [if_pos rfl]
    exact .inl (evPlain_sound hcl e h ha hk)
  | false =>
    rw [hw, sel_false] at e
    cases e
    rw [if_neg (by simp)]
    exact hk m W undef (Sub.refl m) h (Below.refl B W) R.undef
noncomputable def evL (N : Nat) (P : Program) (call : CallF) (ops : Array Oper) : List Oper → Sls → St → Option (Sls × St)
  | [] => fun a s => some (a, s)
  | o :: r => fun a s => match evO P call none ops o a s with
    | some (v, s') => evL N P call ops r (putO N a o.dst v) s'
    | none => none
theorem evL_sound {P : Program} {call : CallF} (hcl : CallOk P call) {ops : Array Oper} : ∀ (l : List Oper) {a a' : Sls} {s s' : St}, evL N P call ops l a s = some (a', s') → ∀ {m : Mu} {B : Nat} {W : World} {A : Act} {Q : Exit → Act → World → Prop}, Holds m s B W → RS N m a A → A.defers = [] →
    (∀ A' W', After N m B W a' s' A' W' → Q .normal A' W') → wpList P ops Q l A W := by
  intro l
  induction l with
  | nil =>
    intro a a' s s' e m B W A Q h ha hd hq
    cases e
    exact hq A W (.of h ha hd)
  | cons o r ih =>
    intro a a' s s' e m B W A Q h ha hd hq
    simp only [evL] at e
    split at e
    · rename_i v s1 ho
      show (if _ then _ else _)
      exact evO_sound hcl ho h ha fun m' W' v' g1 g2 g3 g4 => ih e g2 ((ha.up g1).putO o.dst g4) (by rw [put_defers]; exact hd) fun A2 W2 hA2 => hq A2 W2 (hA2.trans g1 g3)
    · cases e
end Go.Proofs.YtklclfolmfhocaaGreatDoor.Ev
namespace Go.Proofs.YtklclfolmfhocaaGreatDoor.Ev
set_option linter.unusedVariables false
set_option linter.unusedSimpArgs false
def eqAddr : Option Addr → Option Addr → Bool
  | none, none => true
  | some ⟨b, o, none⟩, some ⟨c, p, none⟩ => Nat.beq b c && Nat.beq o p
  | _, _ => false
theorem eqAddr_eq {a b : Option Addr} (h : eqAddr a b = true) : a = b := by
  match a, b with
  | none, none => rfl
  | some ⟨b, o, none⟩, some ⟨c, p, none⟩ =>
    simp only [eqAddr, Bool.and_eq_true] at h
    rw [Nat.eq_of_beq_eq_true h.1, Nat.eq_of_beq_eq_true h.2]
  | none, some _ => simp [eqAddr] at h
  | some ⟨_, _, _⟩, none => simp [eqAddr] at h
  | some ⟨_, _, some _⟩, some ⟨_, _, _⟩ => simp [eqAddr] at h
  | some ⟨_, _, none⟩, some ⟨_, _, some _⟩ => simp [eqAddr] at h
mutual
def eqV : Value → Value → Bool
  | .bool a, .bool b => a == b
  | .int k a, .int l b => decide (k = l) && eqN a b
  | .string a, .string b => eqBytes a.data.toList b.data.toList
  | .pointer a, .pointer b => eqAddr a b
  | .slice a n c, .slice b m d => eqAddr a b && Nat.beq n m && Nat.beq c d
  | .map none, .map none => true
  | .map (some a), .map (some b) => Nat.beq a b
  | .func f ⟨a⟩ ⟨b⟩, .func g ⟨c⟩ ⟨d⟩ => decide (f = g) && eqVs a c && eqVs b d
  | .nilFunc, .nilFunc => true
  | .iface t v, .iface u w => decide (t = u) && eqV v w
  | .nilIface, .nilIface => true
  | .agg ⟨a⟩, .agg ⟨b⟩ => eqVs a b
  | .tuple ⟨a⟩, .tuple ⟨b⟩ => eqVs a b
  | _, _ => false
def eqVs : List Value → List Value → Bool
  | [], [] => true
  | a :: l, b :: k => eqV a b && eqVs l k
  | _, _ => false
end
theorem eqBytes_data {a b : ByteArray} (h : eqBytes a.data.toList b.data.toList = true) : a = b := by
  rw [eqBytes_eq] at h
  have h2 := Array.toList_inj.1 (eq_of_beq h)
  cases a; cases b
  simp_all
mutual
theorem eqV_eq : ∀ (a b : Value), eqV a b = true → a = b
  | .bool a, .bool b, h => by simp only [eqV, beq_iff_eq] at h; rw [h]
  | .int k a, .int l b, h => by
    simp only [eqV, Bool.and_eq_true, decide_eq_true_eq, eqN_eq, beq_iff_eq] at h
    rw [h.1, h.2]
  | .string a, .string b, h => by simp only [eqV] at h; rw [eqBytes_data h]
  | .pointer a, .pointer b, h => by simp only [eqV] at h; rw [eqAddr_eq h]
  | .slice a n c, .slice b m d, h => by
    simp only [eqV, Bool.and_eq_true] at h
    rw [eqAddr_eq h.1.1, Nat.eq_of_beq_eq_true h.1.2, Nat.eq_of_beq_eq_true h.2]
  | .map none, .map none, _ => rfl
  | .map (some a), .map (some b), h => by simp only [eqV] at h; rw [Nat.eq_of_beq_eq_true h]
  | .func f ⟨a⟩ ⟨b⟩, .func g ⟨c⟩ ⟨d⟩, h => by
    simp only [eqV, Bool.and_eq_true, decide_eq_true_eq] at h
    rw [h.1.1, eqVs_eq a c h.1.2, eqVs_eq b d h.2]
  | .nilFunc, .nilFunc, _ => rfl
  | .iface t v, .iface u w, h => by
    simp only [eqV, Bool.and_eq_true, decide_eq_true_eq] at h
    rw [h.1, eqV_eq v w h.2]
  | .nilIface, .nilIface, _ => rfl
  | .agg ⟨a⟩, .agg ⟨b⟩, h => by simp only [eqV] at h; rw [eqVs_eq a b h]
  | .tuple ⟨a⟩, .tuple ⟨b⟩, h => by simp only [eqV] at h; rw [eqVs_eq a b h]
  | .bool _, .int _ _, h | .bool _, .float _ _, h | .bool _, .complex _ _ _, h | .bool _, .string _, h | .bool _, .pointer _, h | .bool _, .slice _ _ _, h | .bool _, .map _, h | .bool _, .chan _, h | .bool _, .func _ _ _, h | .bool _, .nilFunc, h | .bool _, .iface _ _, h | .bool _, .nilIface, h | .bool _, .agg _, h | .bool _, .tuple _, h => by simp [eqV] at h
  | .int _ _, .bool _, h | .int _ _, .float _ _, h | .int _ _, .complex _ _ _, h | .int _ _, .string _, h | .int _ _, .pointer _, h | .int _ _, .slice _ _ _, h | .int _ _, .map _, h | .int _ _, .chan _, h | .int _ _, .func _ _ _, h | .int _ _, .nilFunc, h | .int _ _, .iface _ _, h | .int _ _, .nilIface, h | .int _ _, .agg _, h | .int _ _, .tuple _, h => by simp [eqV] at h
  | .float _ _, _, h | .complex _ _ _, _, h | .chan _, _, h => by simp [eqV] at h
  | .string _, .bool _, h | .string _, .int _ _, h | .string _, .float _ _, h | .string _, .complex _ _ _, h | .string _, .pointer _, h | .string _, .slice _ _ _, h | .string _, .map _, h | .string _, .chan _, h | .string _, .func _ _ _, h | .string _, .nilFunc, h | .string _, .iface _ _, h | .string _, .nilIface, h | .string _, .agg _, h | .string _, .tuple _, h => by simp [eqV] at h
  | .pointer _, .bool _, h | .pointer _, .int _ _, h | .pointer _, .float _ _, h | .pointer _, .complex _ _ _, h | .pointer _, .string _, h | .pointer _, .slice _ _ _, h | .pointer _, .map _, h | .pointer _, .chan _, h | .pointer _, .func _ _ _, h | .pointer _, .nilFunc, h | .pointer _, .iface _ _, h | .pointer _, .nilIface, h | .pointer _, .agg _, h | .pointer _, .tuple _, h => by simp [eqV] at h
  | .slice _ _ _, .bool _, h | .slice _ _ _, .int _ _, h | .slice _ _ _, .float _ _, h | .slice _ _ _, .complex _ _ _, h | .slice _ _ _, .string _, h | .slice _ _ _, .pointer _, h | .slice _ _ _, .map _, h | .slice _ _ _, .chan _, h | .slice _ _ _, .func _ _ _, h | .slice _ _ _, .nilFunc, h | .slice _ _ _, .iface _ _, h | .slice _ _ _, .nilIface, h | .slice _ _ _, .agg _, h | .slice _ _ _, .tuple _, h => by simp [eqV] at h
  | .map none, .map (some _), h | .map (some _), .map none, h => by simp [eqV] at h
  | .map x, .bool _, h | .map x, .int _ _, h | .map x, .float _ _, h | .map x, .complex _ _ _, h | .map x, .string _, h | .map x, .pointer _, h | .map x, .slice _ _ _, h | .map x, .chan _, h | .map x, .func _ _ _, h | .map x, .nilFunc, h | .map x, .iface _ _, h | .map x, .nilIface, h | .map x, .agg _, h | .map x, .tuple _, h => by cases x <;> simp [eqV] at h
  | .func _ _ _, .bool _, h | .func _ _ _, .int _ _, h | .func _ _ _, .float _ _, h | .func _ _ _, .complex _ _ _, h | .func _ _ _, .string _, h | .func _ _ _, .pointer _, h | .func _ _ _, .slice _ _ _, h | .func _ _ _, .map _, h | .func _ _ _, .chan _, h | .func _ _ _, .nilFunc, h | .func _ _ _, .iface _ _, h | .func _ _ _, .nilIface, h | .func _ _ _, .agg _, h | .func _ _ _, .tuple _, h => by simp [eqV] at h
  | .nilFunc, .bool _, h | .nilFunc, .int _ _, h | .nilFunc, .float _ _, h | .nilFunc, .complex _ _ _, h | .nilFunc, .string _, h | .nilFunc, .pointer _, h | .nilFunc, .slice _ _ _, h | .nilFunc, .map _, h | .nilFunc, .chan _, h | .nilFunc, .func _ _ _, h | .nilFunc, .iface _ _, h | .nilFunc, .nilIface, h | .nilFunc, .agg _, h | .nilFunc, .tuple _, h => by simp [eqV] at h
  | .iface _ _, .bool _, h | .iface _ _, .int _ _, h | .iface _ _, .float _ _, h | .iface _ _, .complex _ _ _, h | .iface _ _, .string _, h | .iface _ _, .pointer _, h | .iface _ _, .slice _ _ _, h | .iface _ _, .map _, h | .iface _ _, .chan _, h | .iface _ _, .func _ _ _, h | .iface _ _, .nilFunc, h | .iface _ _, .nilIface, h | .iface _ _, .agg _, h | .iface _ _, .tuple _, h => by simp [eqV] at h
  | .nilIface, .bool _, h | .nilIface, .int _ _, h | .nilIface, .float _ _, h | .nilIface, .complex _ _ _, h | .nilIface, .string _, h | .nilIface, .pointer _, h | .nilIface, .slice _ _ _, h | .nilIface, .map _, h | .nilIface, .chan _, h | .nilIface, .func _ _ _, h | .nilIface, .nilFunc, h | .nilIface, .iface _ _, h | .nilIface, .agg _, h | .nilIface, .tuple _, h => by simp [eqV] at h
  | .agg _, .bool _, h | .agg _, .int _ _, h | .agg _, .float _ _, h | .agg _, .complex _ _ _, h | .agg _, .string _, h | .agg _, .pointer _, h | .agg _, .slice _ _ _, h | .agg _, .map _, h | .agg _, .chan _, h | .agg _, .func _ _ _, h | .agg _, .nilFunc, h | .agg _, .iface _ _, h | .agg _, .nilIface, h | .agg _, .tuple _, h => by simp [eqV] at h
  | .tuple _, .bool _, h | .tuple _, .int _ _, h | .tuple _, .float _ _, h | .tuple _, .complex _ _ _, h | .tuple _, .string _, h | .tuple _, .pointer _, h | .tuple _, .slice _ _ _, h | .tuple _, .map _, h | .tuple _, .chan _, h | .tuple _, .func _ _ _, h | .tuple _, .nilFunc, h | .tuple _, .iface _ _, h | .tuple _, .nilIface, h | .tuple _, .agg _, h => by simp [eqV] at h
theorem eqVs_eq : ∀ (a b : List Value), eqVs a b = true → a = b
  | [], [], _ => rfl
  | a :: l, b :: k, h => by
    simp only [eqVs, Bool.and_eq_true] at h
    rw [eqV_eq a b h.1, eqVs_eq l k h.2]
  | [], _ :: _, h => by simp [eqVs] at h
  | _ :: _, [], h => by simp [eqVs] at h
end
def eqRow : Option Nat → Option Nat → Bool
  | none, none => true
  | some a, some b => Nat.beq a b
  | _, _ => false
def eqCells : Option Cells → Option Cells → Bool
  | none, none => true
  | some c, some d => eqVs c.cells d.cells && Nat.beq c.ty d.ty && eqRow c.row d.row && (c.ro == d.ro)
  | _, _ => false
theorem eqCells_eq : ∀ {a b : Option Cells}, eqCells a b = true → a = b
  | none, none, _ => rfl
  | none, some _, h => by simp [eqCells] at h
  | some _, none, h => by simp [eqCells] at h
  | some ⟨c, t, r, o⟩, some ⟨d, u, s, p⟩, h => by
    simp only [eqCells, Bool.and_eq_true, beq_iff_eq] at h
    obtain ⟨⟨⟨h1, h2⟩, h3⟩, h4⟩ := h
    have e1 := eqVs_eq _ _ h1
    have e2 := Nat.eq_of_beq_eq_true h2
    have e3 : r = s := by
      cases r <;> cases s <;> simp [eqRow] at h3 <;> first | rfl | (rw [h3])
    subst e1 e2 e3 h4
    rfl
def eqTr : Tr Cells → Tr Cells → Bool
  | .leaf, .leaf => true
  | .node v l r, .node w k s => eqCells v w && eqTr l k && eqTr r s
  | _, _ => false
theorem eqTr_eq : ∀ {a b : Tr Cells}, eqTr a b = true → a = b
  | .leaf, .leaf, _ => rfl
  | .leaf, .node _ _ _, h => by simp [eqTr] at h
  | .node _ _ _, .leaf, h => by simp [eqTr] at h
  | .node v l r, .node w k s, h => by
    simp only [eqTr, Bool.and_eq_true] at h
    rw [eqCells_eq h.1.1, eqTr_eq h.1.2, eqTr_eq h.2]
def eqNats : List Nat → List Nat → Bool
  | [], [] => true
  | a :: l, b :: k => Nat.beq a b && eqNats l k
  | _, _ => false
theorem eqNats_eq : ∀ {a b : List Nat}, eqNats a b = true → a = b
  | [], [], _ => rfl
  | a :: l, b :: k, h => by
    simp only [eqNats, Bool.and_eq_true] at h
    rw [Nat.eq_of_beq_eq_true h.1, eqNats_eq h.2]
  | [], _ :: _, h => by simp [eqNats] at h
  | _ :: _, [], h => by simp [eqNats] at h
def eqSt (s t : St) : Bool := Nat.beq s.next t.next && eqNats s.res t.res && eqRow s.cur t.cur && eqTr s.heap t.heap
theorem eqSt_eq {s t : St} (h : eqSt s t = true) : s = t := by
  cases s with
  | mk sh sn sr sc =>
    cases t with
    | mk th tn tr tc =>
      simp only [eqSt, Bool.and_eq_true] at h
      obtain ⟨⟨⟨h1, h2⟩, h3⟩, h4⟩ := h
      have e1 := Nat.eq_of_beq_eq_true h1
      have e2 := eqNats_eq h2
      have e4 := eqTr_eq h4
      have e3 : sc = tc := by
        cases sc <;> cases tc <;> simp [eqRow] at h3 <;> first | rfl | (rw [h3])
      subst e1 e2 e3 e4
      rfl
end Go.Proofs.YtklclfolmfhocaaGreatDoor.Ev
namespace Go.Proofs.YtklclfolmfhocaaGreatDoor.Ev
open Go.ChangeShapes Go.WideShapes Go.ChangeAt Go.RowKit
open Go.Proofs.YtklclfolmfhocaaGreatDoor.Mem
set_option linter.unusedVariables false
set_option linter.unusedSimpArgs false
theorem evX_congr {s : St} {a a' : Sls} {x : Operand} (h : ∀ t, x = .tmp t → gets a t = gets a' t) : evX s a x = evX s a' x := by
  cases x with
  | tmp t => simp only [evX, h t rfl]
  | _ => rfl
theorem evXs_congr {s : St} {a a' : Sls} : ∀ (l : List Operand), (∀ x ∈ l, evX s a x = evX s a' x) → evXs s a l = evXs s a' l := by
  intro l
  induction l with
  | nil => intro _; rfl
  | cons x l ih =>
    intro h
    simp only [evXs, h x (by simp), ih (fun y hy => h y (by simp [hy]))]
theorem evParts_congr {s : St} {a a' : Sls} : ∀ (l : List (Nat × Operand)), (∀ p ∈ l, evX s a p.2 = evX s a' p.2) → evParts s a l = evParts s a' l := by
  intro l
  induction l with
  | nil => intro _; rfl
  | cons p l ih =>
    intro h
    obtain ⟨i, x⟩ := p
    simp only [evParts, h (i, x) (by simp), ih (fun y hy => h y (by simp [hy]))]
theorem evXo_congr {s : St} {a a' : Sls} (x : Option Operand) (h : ∀ y, x = some y → evX s a y = evX s a' y) : evXo s a x = evXo s a' x := by
  cases x with
  | none => rfl
  | some y => simp only [evXo, h y rfl]
theorem evTab_congr {P : Program} {s : St} {a a' : Sls} {o : Oper} (op : Op) (h : ∀ x ∈ op.operands, evX s a x = evX s a' x) : evTab op P s a o = evTab op P s a' o := by
  cases op <;> simp only [Op.operands] at h <;> simp only [evTab]
  case move x => rw [h x (by simp)]
  case assign x => rw [h x (by simp)]
  case pick c x y =>
    rw [h c (by simp)]
    split
    · rename_i b _
      cases b
      · simp only [Bool.false_eq_true, if_false, h y (by simp)]
      · simp only [if_true, h x (by simp)]
    · rfl
  case load t x => rw [h x (by simp)]
  case store t x y => rw [h x (by simp), h y (by simp)]
  case box t x => rw [h x (by simp)]
  case build t ps =>
    have e := evParts_congr (s := s) (a := a) (a' := a') ps.toList (fun p hp => h p.2 (by simp; exact ⟨p.1, by simpa using hp⟩))
    simp only [evBuild, e]
  case buildSlice t len ps =>
    have e := evParts_congr (s := s) (a := a) (a' := a') ps.toList (fun p hp => h p.2 (by simp; exact ⟨p.1, by simpa using hp⟩))
    simp only [evBuildSlice, e]
  case fieldAddr t x f => rw [h x (by simp)]
  case field t x f => rw [h x (by simp)]
  case indexAddr t x i => rw [h x (by simp), h i (by simp)]
  case index t x i => rw [h x (by simp), h i (by simp)]
  case extract x i => rw [h x (by simp)]
  case slice t x lo hi mx =>
    cases mx with
    | some z => rfl
    | none =>
      have e1 := evXo_congr (s := s) (a := a) (a' := a') lo (fun y hy => h y (by subst hy; simp))
      have e2 := evXo_congr (s := s) (a := a) (a' := a') hi (fun y hy => h y (by subst hy; simp))
      simp only [h x (by simp), e1, e2]
  case makeFunc f fs cs =>
    have e1 := evXs_congr (s := s) (a := a) (a' := a') fs.toList (fun y hy => h y (by simp at hy ⊢; exact .inl hy))
    have e2 := evXs_congr (s := s) (a := a) (a' := a') cs.toList (fun y hy => h y (by simp at hy ⊢; exact .inr hy))
    simp only [e1, e2]
  case nilCheck x => rw [h x (by simp)]
  case binOp op t x y t2 => rw [h x (by simp), h y (by simp)]
  case convert src dst x => rw [h x (by simp)]
  case makeMap t r => cases r <;> rfl
  case insert t x k y => rw [h x (by simp), h k (by simp), h y (by simp)]
  case mapUpdate t x k y => rw [h x (by simp), h k (by simp), h y (by simp)]
  case lookup t x k ok => rw [h x (by simp), h k (by simp)]
  case call c =>
    have ha : ∀ x ∈ c.args.toList, evX s a x = evX s a' x := fun x hx => h x (by simp at hx; simp [Call.operands, hx])
    cases hcal : c.callee with
    | invoke r n => rfl
    | value f =>
      dsimp only
      split
      · rename_i x hx
        rw [hx] at ha
        rw [ha x (by simp), h f (by simp [Call.operands, hcal])]
      · rfl
    | builtin bi =>
      cases bi <;> dsimp only
      case len =>
        split
        · rename_i x el hx hu
          rw [hx] at ha
          rw [ha x (by simp)]
        · rename_i x kt et hx hu
          rw [hx] at ha
          rw [ha x (by simp)]
        · rfl
      case append =>
        split
        · rename_i x y t t' hx hu
          rw [hx] at ha
          rw [ha x (by simp), ha y (by simp)]
        · rfl
      case unsafeSliceData =>
        split
        · rename_i x hx
          rw [hx] at ha
          rw [ha x (by simp)]
        · rfl
      case unsafeString =>
        split
        · rename_i x y pt it hx hu
          rw [hx] at ha
          rw [ha x (by simp), ha y (by simp)]
        · rfl
theorem callTab_congr {P : Program} {s : St} {a a' : Sls} (op : Op) (h : ∀ x ∈ op.operands, evX s a x = evX s a' x) : callTab op P s a = callTab op P s a' := by
  cases op <;> simp only [callTab]
  rename_i c
  simp only [Op.operands] at h
  cases hc : c.callee with
  | value f =>
    simp only []
    have hf := h f (by simp [Call.operands, hc])
    have e := evXs_congr (s := s) (a := a) (a' := a') c.args.toList (fun x hx => h x (by simp at hx; simp [Call.operands, hx]))
    rw [hf, e]
  | _ => rfl
theorem evFlat_congr {P : Program} {s : St} {a a' : Sls} {o : Oper} (h : ∀ x ∈ o.op.operands, evX s a x = evX s a' x) : evFlat P s a o = evFlat P s a' o := by
  unfold evFlat
  have e1 : (o.op.operands.toList.all fun x => closedO (evX s a x)) = (o.op.operands.toList.all fun x => closedO (evX s a' x)) := by
    rw [Bool.eq_iff_iff, List.all_eq_true, List.all_eq_true]
    constructor
    · intro q x hx; rw [← h x (by simpa using hx)]; exact q x hx
    · intro q x hx; rw [h x (by simpa using hx)]; exact q x hx
  rw [e1]
  cases hn : noSelect o.op with
  | false => rfl
  | true =>
    have e2 : execOp (fun x => (evX s a x).getD undef) o = execOp (fun x => (evX s a' x).getD undef) o := execOp_congr o (fun cs b hh => by rw [hh] at hn; cases hn) (fun x hx => by rw [h x hx])
    rw [e2]
theorem evO_congr {P : Program} {call : CallF} {nm : Option Nat} {ops : Array Oper} {o : Oper} {a a' : Sls} {s : St} (h : ∀ t ∈ o.looksAt ops, gets a t = gets a' t) : evO P call nm ops o a s = evO P call nm ops o a' s := by
  have hx : ∀ (s : St) x, x ∈ o.op.operands → evX s a x = evX s a' x := fun s x hx => evX_congr fun t ht => h t (List.mem_append_left _ (List.mem_filterMap.2 ⟨x, by simpa using hx, by rw [ht]⟩))
  have hw : wantedTab ops o.guard a = wantedTab ops o.guard a' := by
    cases hg : o.guard with
    | none => rfl
    | some g =>
      obtain ⟨j, want⟩ := g
      have hy : yieldedL ops a j = yieldedL ops a' j := by
        unfold yieldedL
        cases hd : (ops[j]?).bind (·.dst) with
        | none => rfl
        | some d =>
          have := h d (List.mem_append_right _ (by simp [hg, hd]))
          simp only [this]
      simp only [wantedTab, hy]
  unfold evO evPlain evOp
  rw [hw, callTab_congr o.op (hx s), evTab_congr o.op (hx _), evFlat_congr (hx _)]
def isAct : Op → Bool
  | .store .. | .alloc _ | .box .. | .buildSlice .. | .makeSlice .. | .makeMap .. | .insert .. | .mapUpdate .. => true
  | .call c => match c.callee with
    | .builtin .len | .builtin .min | .builtin .max | .builtin .cap | .builtin .unsafeSliceData => false
    | _ => true
  | _ => false
theorem evTab_still {P : Program} {s s' : St} {a : Sls} {o : Oper} {r : Option Value} (op : Op) (h : isAct op = false) (e : evTab op P s a o = some (r, s')) : s' = s := by
  generalize hq : op = op' at e h
  cases op' <;> simp only [evTab] at e <;> first | (cases e; done) | (simp [isAct] at h; done) | skip
  case call c =>
    simp only [isAct] at h
    cases hcal : c.callee with
    | invoke r n => rw [hcal] at h; cases h
    | value f => rw [hcal] at h; cases h
    | builtin bi =>
      rw [hcal] at h e
      cases bi <;> dsimp only at h e <;> first | (cases h; done) | (cases e; done) | skip
      · split at e
        · split at e
          · obtain ⟨v, hv, e⟩ := Option.map_eq_some_iff.1 e
            cases e; rfl
          · cases e
        · split at e
          · obtain ⟨v, hv, e⟩ := Option.map_eq_some_iff.1 e
            cases e; rfl
          · cases e
        · cases e
      · split at e
        · split at e
          · obtain ⟨v, hv, e⟩ := Option.map_eq_some_iff.1 e
            cases e; rfl
          · cases e
        · cases e
  case slice t x lo hi mx =>
    cases mx with
    | some z => cases e
    | none =>
      simp only [] at e
      split at e
      · obtain ⟨v, hv, e⟩ := Option.map_eq_some_iff.1 e
        cases e; rfl
      · cases e
  case index t x i =>
    split at e
    · cases hb : isStr P t <;> rw [hb] at e
      · rw [cond_false] at e
        obtain ⟨v, hv, e⟩ := Option.map_eq_some_iff.1 e
        cases e; rfl
      · rw [cond_true] at e
        obtain ⟨v, hv, e⟩ := Option.map_eq_some_iff.1 e
        cases e; rfl
    · cases e
  all_goals first
    | (obtain ⟨v, hv, e⟩ := Option.map_eq_some_iff.1 e; cases e; rfl)
    | (split at e <;> first | (cases e; done) | (obtain ⟨v, hv, e⟩ := Option.map_eq_some_iff.1 e; cases e; rfl) | (cases e; rfl))
theorem evO_still {P : Program} {call : CallF} {ops : Array Oper} {o : Oper} {a : Sls} {s s' : St} {v : Value} (h : isAct o.op = false) (e : evO P call none ops o a s = some (v, s')) : s'.heap = s.heap ∧ s'.next = s.next ∧ s'.res = s.res := by
  unfold evO at e
  cases hw : wantedTab ops o.guard a with
  | false => rw [hw, sel_false] at e; cases e; exact ⟨rfl, rfl, rfl⟩
  | true =>
    rw [hw, sel_true] at e
    unfold evPlain at e
    have hct : callTab o.op P s a = none := by
      generalize o.op = op at h
      cases op <;> simp only [callTab]
      rename_i c
      simp only [isAct] at h
      cases hc : c.callee with
      | value f => rw [hc] at h; cases h
      | _ => rfl
    rw [hct] at e
    simp only [resOk, sel_true] at e
    split at e
    · rename_i v0 s0 hop
      cases e
      unfold evOp at hop
      split at hop
      · rename_i r hr
        cases hop
        have := evTab_still o.op h hr
        subst this
        exact ⟨rfl, rfl, rfl⟩
      · split at hop
        · cases hop; exact ⟨rfl, rfl, rfl⟩
        · cases hop
    · cases e
end Go.Proofs.YtklclfolmfhocaaGreatDoor.Ev
namespace Go.Proofs.YtklclfolmfhocaaGreatDoor.Ev
open Go.ChangeShapes Go.WideShapes Go.ChangeAt Go.RowKit
open Go.Proofs.YtklclfolmfhocaaGreatDoor.Mem
variable {N : Nat}
set_option linter.unusedVariables false
set_option linter.unusedSimpArgs false
inductive X where
  | normal
  | exit (id : Nat)
  | ret
def X.e : X → Exit
  | .normal => .normal
  | .exit id => .exit id
  | .ret => .ret
abbrev Out := Option (X × Sls × St)
abbrev Dr := Nat → CallF → Array Oper → Sls → St → Option (Sls × St)
noncomputable def loopN : Nat → (Sls → St → Out) → Sls → St → Out
  | 0 => fun _ _ _ => none
  | k + 1 => fun f a s => match f a s with
    | some (.normal, a', s') => loopN k f a' s'
    | r => r
def outOf : X → Sls → St → Out := fun x a s => some (x, a, s)
def normalOf : Option (Sls × St) → Out
  | some (a, s) => some (.normal, a, s)
  | none => none
def inBlock (id : Nat) : X → Sls → St → Out
  | .exit i => fun a s => bif Nat.beq i id then some (.normal, a, s) else some (.exit i, a, s)
  | x => fun a s => some (x, a, s)
def thenOf (f : Sls → St → Out) : X → Sls → St → Out
  | .normal => f
  | x => fun a s => some (x, a, s)
def onBool (f g : Sls → St → Out) : Option Value → Sls → St → Out
  | some (.bool true) => f
  | some (.bool false) => g
  | _ => fun _ _ => none
noncomputable def evC (N : Nat) (P : Program) (dr : Dr) (call : CallF) : Code → Sls → St → Out
  | .skip => fun a s => some (.normal, a, s)
  | .seq x y => fun a s => match evC N P dr call x a s with
    | some (x, a', s') => thenOf (evC N P dr call y) x a' s'
    | none => none
  | .cond c x y => fun a s => onBool (evC N P dr call x) (evC N P dr call y) (evX s a c) a s
  | .block id c => fun a s => match evC N P dr call c a s with
    | some (x, a', s') => inBlock id x a' s'
    | none => none
  | .loop c => loopN 100000 (evC N P dr call c)
  | .exit id => fun a s => some (.exit id, a, s)
  | .ret => fun a s => some (.ret, a, s)
  | .region _ ops draw => bif draw then (fun a s => normalOf (dr N call ops a s)) else fun a s => normalOf (evL N P call ops ops.toList a s)
  | _ => fun _ _ => none
noncomputable def fillFrom : List Value → Nat → Tr Value → Tr Value
  | [], _, t => t
  | v :: l, i, t => fillFrom l (Nat.succ i) (t.put 13 i (some v))
noncomputable def retOf (P : Program) (rs : List ResultVar) : X → Sls → St → Option (Value × St)
  | .exit _ => fun _ _ => none
  | _ => fun a s => match evResults P s a rs with
    | some l => some (packed l, s)
    | none => none
noncomputable def evF (P : Program) (dr : Dr) (call : CallF) (fn : Func) (c : Code) (args : List Value) (s : St) : Option (Value × St) :=
  bif Nat.ble args.length fn.ntmps && Nat.ble fn.ntmps 4096 then
    match evC fn.ntmps P dr call c (fillFrom args 0 .leaf) s with
    | some (x, a, s') => retOf P fn.results.toList x a s'
    | none => none
  else none
noncomputable def bodyTab (P : Program) (dr : Dr) (f : FuncId) : Option (CallF → List Value → St → Option (Value × St)) :=
  match P.funcs[f]? with
  | none => none
  | some fn => match fn.body with
    | none => none
    | some c => some fun call args s => evF P dr call fn c args s
noncomputable def evCall (P : Program) (dr : Dr) (orc : CallF) : Nat → CallF
  | 0 => fun _ _ _ => none
  | n + 1 => fun f args s => match orc f args s with
    | some r => some r
    | none => match bodyTab P dr f with
      | none => none
      | some b => b (evCall P dr orc n) args s
def DrOk (P : Program) (dr : Dr) : Prop := ∀ (N : Nat) (call : CallF), CallOk P call → ∀ (id : Nat) (ops : Array Oper) {a a' : Sls} {s s' : St}, dr N call ops a s = some (a', s') → ∀ {m : Mu} {B : Nat} {W : World} {A : Act} {Q : Exit → Act → World → Prop}, Holds m s B W → RS N m a A → A.defers = [] →
    (∀ A' W', After N m B W a' s' A' W' → Q .normal A' W') → (Code.region id ops true).wp P Q A W
def CodeOk (N : Nat) (P : Program) (f : Sls → St → Out) (c : Code) : Prop := ∀ {a a' : Sls} {s s' : St} {x : X}, f a s = some (x, a', s') → ∀ {m : Mu} {B : Nat} {W : World} {A : Act} {Q : Exit → Act → World → Prop}, Holds m s B W → RS N m a A → A.defers = [] →
    (∀ A' W', After N m B W a' s' A' W' → Q x.e A' W') → c.wp P Q A W
theorem loopN_sound {P : Program} {f : Sls → St → Out} {c : Code} (hf : CodeOk N P f c) : ∀ (k : Nat) {a a' : Sls} {s s' : St} {x : X}, loopN k f a s = some (x, a', s') → ∀ {m : Mu} {B : Nat} {W : World} {A : Act} {Q : Exit → Act → World → Prop}, Holds m s B W → RS N m a A → A.defers = [] →
    (∀ A' W', After N m B W a' s' A' W' → Q x.e A' W') → LoopIn P c Q k A W := by
  intro k
  induction k with
  | zero => intro a a' s s' x e; cases e
  | succ k ih =>
    intro a a' s s' x e m B W A Q h ha hd hq
    simp only [loopN] at e
    split at e
    · rename_i a1 s1 h1
      refine hf h1 h ha hd fun A' W' hA => ?_
      obtain ⟨m', g1, g2, g3, g4, g5⟩ := hA
      exact ih e g2 g4 g5 fun A2 W2 hA2 => hq A2 W2 (hA2.trans g1 g3)
    · rename_i r hr
      refine hf e h ha hd fun A' W' hA => ?_
      cases x with
      | normal => exact (hr _ _ e).elim
      | exit i => exact hq A' W' hA
      | ret => exact hq A' W' hA
theorem evC_sound {P : Program} {dr : Dr} (hdr : DrOk P dr) {call : CallF} (hcl : CallOk P call) : ∀ (c : Code), CodeOk N P (evC N P dr call c) c := by
  intro c
  induction c with
  | skip =>
    intro a a' s s' x e m B W A Q h ha hd hq
    cases e
    exact wp_skip (hq A W (.of h ha hd))
  | seq c1 c2 ih1 ih2 =>
    intro a a' s s' x e m B W A Q h ha hd hq
    simp only [evC] at e
    split at e
    · rename_i x1 a1 s1 h1
      refine wp_seq (ih1 h1 h ha hd fun A' W' hA => ?_)
      cases x1 with
      | normal =>
        obtain ⟨m', g1, g2, g3, g4, g5⟩ := hA
        exact ih2 e g2 g4 g5 fun A2 W2 hA2 => hq A2 W2 (hA2.trans g1 g3)
      | exit i => cases e; exact hq A' W' hA
      | ret => cases e; exact hq A' W' hA
    · cases e
  | cond c x y ihx ihy =>
    intro a a' s s' r e m B W A Q h ha hd hq
    simp only [evC] at e
    cases hb : evX s a c with
    | none => rw [hb] at e; cases e
    | some v =>
      rw [hb] at e
      cases v <;> simp only [onBool] at e <;> first | (cases e; done) | skip
      rename_i b
      have hc := (evX_sound h ha hb).flat_eq rfl
      cases b with
      | true => exact wp_cond_true hc (ihx e h ha hd hq)
      | false => exact wp_cond_false hc (ihy e h ha hd hq)
  | block id c ih =>
    intro a a' s s' x e m B W A Q h ha hd hq
    simp only [evC] at e
    split at e
    · rename_i x1 a1 s1 h1
      refine wp_block (ih h1 h ha hd fun A' W' hA => ?_)
      cases x1 with
      | normal => cases e; exact hq A' W' hA
      | ret => cases e; exact hq A' W' hA
      | exit i =>
        simp only [inBlock] at e
        simp only [X.e, Exit.inBlock]
        cases hi : Nat.beq i id with
        | true =>
          rw [hi, cond_true] at e
          cases e
          rw [if_pos (Nat.eq_of_beq_eq_true hi)]
          exact hq A' W' hA
        | false =>
          rw [hi, cond_false] at e
          cases e
          rw [if_neg (Nat.ne_of_beq_eq_false hi)]
          exact hq A' W' hA
    · cases e
  | loop c ih =>
    intro a a' s s' x e m B W A Q h ha hd hq
    simp only [evC] at e
    exact wp_loop_in (loopN_sound ih _ e h ha hd hq)
  | exit id =>
    intro a a' s s' x e m B W A Q h ha hd hq
    cases e
    exact wp_exit (hq A W (.of h ha hd))
  | ret =>
    intro a a' s s' x e m B W A Q h ha hd hq
    cases e
    exact wp_ret (hq A W (.of h ha hd))
  | region id ops draw =>
    intro a a' s s' x e m B W A Q h ha hd hq
    simp only [evC] at e
    cases draw with
    | true =>
      rw [cond_true] at e
      generalize hr : dr N call ops a s = r at e
      cases r with
      | none => cases e
      | some r =>
        obtain ⟨a1, s1⟩ := r
        cases e
        exact hdr N call hcl id ops hr h ha hd hq
    | false =>
      rw [cond_false] at e
      generalize hr : evL N P call ops ops.toList a s = r at e
      cases r with
      | none => cases e
      | some r =>
        obtain ⟨a1, s1⟩ := r
        cases e
        exact wp_region_list (evL_sound hcl _ hr h ha hd hq)
  | _ =>
    intro a a' s s' x e m B W A Q h ha hd hq
    cases e
theorem fill_rs {m : Mu} : ∀ (l l' : List Value) (i : Nat) (t : Tr Value), RL m l l' → i + l.length ≤ 4096 → ∀ j, (fillFrom l i t).get 13 j = if i ≤ j ∧ j < i + l.length then l[j - i]? else t.get 13 j := by
  intro l
  induction l with
  | nil =>
    intro l' i t h hi j
    rw [if_neg (by simp only [List.length_nil]; omega)]
    rfl
  | cons v l ih =>
    intro l' i t h hi j
    cases h with
    | cons h g =>
      simp only [List.length_cons] at hi ⊢
      rw [fillFrom, ih _ _ _ g (by show i + 1 + l.length ≤ 4096; omega) j]
      show (if i + 1 ≤ j ∧ j < i + 1 + l.length then l[j - (i + 1)]? else _) = _
      by_cases h1 : i + 1 ≤ j ∧ j < i + 1 + l.length
      · rw [if_pos h1, if_pos (by omega), show j - i = (j - (i + 1)) + 1 by omega, List.getElem?_cons_succ]
      · rw [if_neg h1]
        by_cases h2 : j = i
        · subst h2
          rw [if_pos (by omega), Tr.get_put_same 13 _ _ _ (by omega), Nat.sub_self]
          rfl
        · rw [if_neg (by omega), Tr.get_put_other 13 _ _ _ _ h2]
theorem evCall_sound {P : Program} {dr : Dr} (hdr : DrOk P dr) {orc : CallF} (ho : CallOk P orc) : ∀ n, CallOk P (evCall P dr orc n) := by
  intro n
  induction n with
  | zero => intro f args s v s' e; cases e
  | succ n ih =>
    intro f args s v s' e
    simp only [evCall] at e
    split at e
    · rename_i r hr
      cases e
      exact ho f args s v s' hr
    · generalize hb : bodyTab P dr f = b at e
      cases b with
      | none => cases e
      | some b =>
        simp only [] at e
        unfold bodyTab at hb
        split at hb
        · cases hb
        · rename_i fn hf
          split at hb
          · cases hb
          · rename_i c hbd
            cases hb
            unfold evF at e
            dsimp only at e
            cases hlen : (Nat.ble args.length fn.ntmps && Nat.ble fn.ntmps 4096) with
            | false => rw [hlen] at e; cases e
            | true =>
              rw [hlen, cond_true] at e
              simp only [Bool.and_eq_true] at hlen
              have hl1 := Nat.le_of_ble_eq_true hlen.1
              have hl2 := Nat.le_of_ble_eq_true hlen.2
              split at e
              · rename_i x a s1 hx
                intro m B W args' h ha
                have hal := ha.length
                have hrs : RS fn.ntmps m (fillFrom args 0 .leaf) ⟨args'.toArray ++ Array.replicate (fn.ntmps - args'.toArray.size) undef, []⟩ := by
                  refine ⟨by simp; omega, hl2, fun t => ?_⟩
                  have hg := fill_rs args args' 0 .leaf ha (by omega) t
                  show R m (match (fillFrom args 0 .leaf).get 13 t with | some v => v | none => undef) _
                  rw [hg]
                  simp only [Nat.zero_le, true_and, Nat.zero_add, Nat.sub_zero, Tr.get_leaf]
                  by_cases ht : t < args.length
                  · rw [if_pos ht]
                    obtain ⟨y, hy, hr⟩ := ha.get t (List.getElem?_eq_getElem ht)
                    have e2 : (args'.toArray ++ Array.replicate (fn.ntmps - args'.toArray.size) undef).getD t undef = y := by
                      rw [Array.getD_eq_getD_getElem?, Array.getElem?_append_left (by simp; omega)]
                      simp [hy]
                    rw [e2, List.getElem?_eq_getElem ht]
                    exact hr
                  · rw [if_neg ht]
                    have e2 : (args'.toArray ++ Array.replicate (fn.ntmps - args'.toArray.size) undef).getD t undef = undef := by
                      rw [Array.getD_eq_getD_getElem?, Array.getElem?_append_right (by simp; omega), Array.getElem?_replicate]
                      split <;> rfl
                    rw [e2]
                    exact R.undef
                refine calls_of_wp hf hbd (evC_sound hdr ih c hx h hrs rfl fun A' W' hA => ?_)
                obtain ⟨m', h1, h2, h3, h4, h5⟩ := hA
                have key : ∀ e', (match evResults P s1 a fn.results.toList with | some l => some (packed l, s1) | none => none) = some (v, s') → e' = .normal ∨ e' = .ret → bodyPost P fn (fun e W' => ∃ m' v', e = .returned v' ∧ R m' v v' ∧ Sub m m' ∧ Holds m' s' B W' ∧ Below B W W') e' A' W' := fun e' he hee => by
                  split at he
                  · rename_i l hl
                    cases he
                    obtain ⟨v', h6, h7⟩ := evResults_sound h2 h4 hl
                    rcases hee with rfl | rfl
                    · exact ⟨h5, v', h6, m', v', rfl, h7, h1, h2, h3⟩
                    · exact ⟨h5, v', h6, m', v', rfl, h7, h1, h2, h3⟩
                  · cases he
                cases x with
                | normal => exact key _ e (.inl rfl)
                | ret => exact key _ e (.inr rfl)
                | exit i => cases e
              · cases e
end Go.Proofs.YtklclfolmfhocaaGreatDoor.Ev
namespace Go.Proofs.YtklclfolmfhocaaGreatDoor.Ev
open Go.ChangeShapes Go.WideShapes Go.ChangeAt Go.RowKit
open Go.Proofs.YtklclfolmfhocaaGreatDoor.Mem
variable {N : Nat}
set_option linter.unusedVariables false
set_option linter.unusedSimpArgs false
/-! ### what is known of a region at once -/
def direct (o : Oper) : List Nat := (o.after.toList.filter (Region.binds .any)).map (·.on)
def orAll : List Nat → Nat
  | [] => 0
  | x :: l => Nat.lor x (orAll l)
theorem lor_bit (x y k : Nat) : (Nat.lor x y).testBit k = (x.testBit k || y.testBit k) := Nat.testBit_or x y k
theorem land_bit (x y k : Nat) : (Nat.land x y).testBit k = (x.testBit k && y.testBit k) := Nat.testBit_and x y k
theorem orAll_bit (l : List Nat) (k : Nat) : (orAll l).testBit k = l.any (fun x => x.testBit k) := by
  induction l with
  | nil => simp [orAll]
  | cons x l ih => simp only [orAll, lor_bit, ih, List.any_cons]
theorem pow_bit (i k : Nat) : (2 ^ i).testBit k = decide (i = k) := by rw [Nat.testBit_two_pow]
def nth (l : List Nat) (k : Nat) : Nat := (l[k]?).getD 0
def masks : List Oper → List Nat → List Nat
  | [], acc => acc
  | o :: r, acc => masks r (acc ++ [orAll ((direct o).map fun k => Nat.lor (2 ^ k) (nth acc k))])
def bitIf (b : Bool) (i : Nat) : Nat := bif b then 2 ^ i else 0
theorem bitIf_bit (b : Bool) (i k : Nat) : (bitIf b i).testBit k = (b && decide (i = k)) := by
  cases b
  · simp [bitIf]
  · simp [bitIf, pow_bit]
structure Inf where
  o : Oper
  act : Bool
  bit : Nat
  pre : Nat
  aft : Nat
  cD : Nat
def actMask (L : List Oper) : Nat := orAll (L.zipIdx.map fun p => bitIf (isAct p.1.op) p.2)
def aftMask (L : List Oper) (bs : List Nat) (i : Nat) : Nat := orAll (L.zipIdx.map fun p => bitIf (isAct p.1.op && (nth bs p.2).testBit i) p.2)
def inf (L : List Oper) (bs : List Nat) (am : Nat) (p : Oper × Nat) : Inf := ⟨p.1, isAct p.1.op, 2 ^ p.2, Nat.land (nth bs p.2) am, aftMask L bs p.2, am % 2 ^ p.2⟩
def exec (f : Inf) (D : Nat) : Bool := Nat.beq (Nat.land f.pre D) f.pre && (bif f.act then Nat.beq (Nat.land D f.bit) 0 else Nat.beq (Nat.land D f.aft) 0)
structure Plan where
  bs : List Nat
  full : Nat
  infs : List Inf
  gs : List Nat
  pairs : List (Nat × Nat)
/-- the sets that may be done, one behind the other -/
def sets1 (infs : List Inf) : List Nat → List Nat → Nat → List Nat
  | _, seen, 0 => seen
  | [], seen, _ => seen
  | D :: todo, seen, k + 1 =>
    let new := (infs.filter fun f => f.act && exec f D).map (fun f => Nat.lor D f.bit)
    let new := new.foldl (fun l d => if l.contains d || seen.contains d then l else l ++ [d]) []
    sets1 infs (todo ++ new) (seen ++ new) k
def mkPlan (L : List Oper) : Plan :=
  let bs := masks L []
  let am := actMask L
  let infs := L.zipIdx.map (inf L bs am)
  let gs := sets1 infs [0] [0] 4000
  ⟨bs, am, infs, gs, gs.flatMap fun D => (infs.zipIdx.filter fun p => exec p.1 D && !(Nat.beq D p.1.cD)).map fun p => (D, p.2)⟩
def okEdges (L : List Oper) (bs : List Nat) : Bool := L.zipIdx.all fun p => (direct p.1).all (Nat.blt · p.2) && Nat.beq (nth bs p.2) (orAll ((direct p.1).map fun k => Nat.lor (2 ^ k) (nth bs k)))
def okSlots (ops : Array Oper) (L : List Oper) (bs : List Nat) : Bool := L.zipIdx.all fun p => (p.1.looksAt ops).all fun t => L.zipIdx.all fun q => !(q.1.dst == some t) || Nat.beq q.2 p.2 || (nth bs (max p.2 q.2)).testBit (min p.2 q.2)
def okDst (L : List Oper) : Bool := L.zipIdx.all fun p => match p.1.dst with
  | none => true
  | some d => L.zipIdx.all fun q => Nat.beq q.2 p.2 || !(q.1.dst == some d)
def okSets (pl : Plan) : Bool := pl.gs.contains 0 && pl.gs.all fun D => pl.infs.zipIdx.all fun p => !(exec p.1 D) || ((!p.1.act || pl.gs.contains (Nat.lor D p.1.bit)) && (Nat.beq D p.1.cD || pl.pairs.contains (D, p.2)))
def okPlan (ops : Array Oper) (L : List Oper) (pl : Plan) : Bool := okEdges L pl.bs && okSlots ops L pl.bs && okDst L && okSets pl
def planOf (P : Program) (ops : Array Oper) : Option Plan := bif P.follows .mixedOrders && okPlan ops ops.toList (mkPlan ops.toList) then some (mkPlan ops.toList) else none
/-! ### what runs -/
abbrev Sts := List (Nat × St)
def look : Sts → Nat → Option St
  | [], _ => none
  | (D, s) :: l, E => bif Nat.beq D E then some s else look l E
def Ext (σ τ : Sts) : Prop := ∀ D s, look σ D = some s → look τ D = some s
theorem look_app : ∀ (σ τ : Sts) (D : Nat) (s : St), look σ D = some s → look (σ ++ τ) D = some s := by
  intro σ
  induction σ with
  | nil => intro τ D s h; cases h
  | cons p σ ih =>
    intro τ D s h
    obtain ⟨E, t⟩ := p
    simp only [List.cons_append, look] at h ⊢
    cases hb : Nat.beq E D with
    | true => rw [hb] at h; exact h
    | false => rw [hb, cond_false] at h; rw [cond_false]; exact ih τ D s h
theorem look_new : ∀ (σ : Sts) (D : Nat) (s : St), look σ D = none → look (σ ++ [(D, s)]) D = some s := by
  intro σ
  induction σ with
  | nil => intro D s _; simp [look]
  | cons p σ ih =>
    intro D s h
    obtain ⟨E, t⟩ := p
    simp only [List.cons_append, look] at h ⊢
    cases hb : Nat.beq E D with
    | true => rw [hb] at h; cases h
    | false => rw [hb, cond_false] at h; rw [cond_false]; exact ih D s h
/-- what is left of a set: new, or the same -/
noncomputable def addSt (σ : Sts) (D : Nat) (s : St) : Option Sts :=
  match look σ D with
  | none => some (σ ++ [(D, s)])
  | some t => sel (eqSt s t) (some σ) none
theorem addSt_some {σ τ : Sts} {D : Nat} {s : St} (h : addSt σ D s = some τ) : Ext σ τ ∧ look τ D = some s := by
  unfold addSt at h
  split at h
  · rename_i hn
    cases h
    exact ⟨fun E t q => look_app σ _ E t q, look_new σ D s hn⟩
  · rename_i t ht
    cases hb : eqSt s t with
    | false => rw [hb] at h; cases h
    | true =>
      rw [hb] at h
      cases h
      exact ⟨fun _ _ q => q, by rw [ht, eqSt_eq hb]⟩
noncomputable def addIf (act : Bool) (σ : Sts) (D : Nat) (s : St) : Option Sts := match act with
  | true => addSt σ D s
  | false => some σ
def nameIf (act : Bool) (k : Nat) : Option Nat := match act with
  | true => some k
  | false => none
noncomputable def canon (N : Nat) (P : Program) (call : CallF) (ops : Array Oper) (base : Nat) : List Inf → Nat → Sls → Nat → St → Sts → Option (List (Sls × Value) × Sts × Sls)
  | [] => fun _ a _ _ σ => some ([], σ, a)
  | f :: r => fun i a D s σ => match evO P call (nameIf f.act (Nat.add base i)) ops f.o a s with
    | none => none
    | some (v, s') => sel (Nat.beq D f.cD) (match addIf f.act σ (Nat.lor D f.bit) s' with
      | none => none
      | some τ => match canon N P call ops base r (Nat.succ i) (putO N a f.o.dst v) (bif f.act then Nat.lor D f.bit else D) (bif f.act then s' else s) τ with
        | none => none
        | some (rs, υ, z) => some ((a, v) :: rs, υ, z)) none
noncomputable def steps (P : Program) (call : CallF) (ops : Array Oper) (base : Nat) (infs : List Inf) (rs : List (Sls × Value)) : List (Nat × Nat) → Sts → Option Sts
  | [] => fun σ => some σ
  | (D, i) :: l => fun σ => match infs[i]?, rs[i]?, look σ D with
    | some f, some (a, v), some s => match evO P call (nameIf f.act (Nat.add base i)) ops f.o a s with
      | none => none
      | some (u, s') => sel (eqV u v) (match addIf f.act σ (Nat.lor D f.bit) s' with
        | none => none
        | some τ => steps P call ops base infs rs l τ) none
    | _, _, _ => none
def namesFrom : Nat → Nat → List Nat
  | _, 0 => []
  | b, n + 1 => b :: namesFrom (Nat.succ b) n
theorem mem_namesFrom : ∀ (n b k : Nat), k ∈ namesFrom b n → b ≤ k ∧ k < b + n := by
  intro n
  induction n with
  | zero => intro b k h; cases h
  | succ n ih =>
    intro b k h
    simp only [namesFrom, List.mem_cons] at h
    rcases h with rfl | h
    · omega
    · have := ih _ _ h
      omega
noncomputable def evDraw (P : Program) : Dr := fun N call ops => match planOf P ops with
  | none => fun _ _ => none
  | some pl => fun a s => sel (Nat.ble (Nat.add s.next ops.size) (2 ^ 40))
    (match canon N P call ops s.next pl.infs 0 a 0 ⟨s.heap, Nat.add s.next ops.size, namesFrom s.next ops.size ++ s.res, none⟩ [(0, ⟨s.heap, Nat.add s.next ops.size, namesFrom s.next ops.size ++ s.res, none⟩)] with
    | none => none
    | some (rs, σ, z) => match steps P call ops s.next pl.infs rs pl.pairs σ with
      | none => none
      | some τ => match look τ pl.full with
        | none => none
        | some t => some (z, ⟨t.heap, t.next, t.res.filter (fun k => Nat.blt k s.next), none⟩)) none
end Go.Proofs.YtklclfolmfhocaaGreatDoor.Ev
namespace Go.Proofs.YtklclfolmfhocaaGreatDoor.Ev
open Go.ChangeShapes Go.WideShapes Go.ChangeAt Go.RowKit
open Go.Proofs.YtklclfolmfhocaaGreatDoor.Mem
variable {N : Nat}
set_option linter.unusedVariables false
set_option linter.unusedSimpArgs false
/-! ### slots -/
theorem gets_putO (hN : N ≤ 4096) (a : Sls) (d : Option Nat) (v : Value) (t : Nat) : gets (putO N a d v) t = if d = some t ∧ t < N then v else gets a t := by
  cases d with
  | none => simp [putO]
  | some d =>
    unfold putO puts
    cases hb : Nat.blt d N with
    | true =>
      have hd : d < N := by simpa [Nat.blt_eq] using hb
      by_cases e : t = d
      · subst e
        rw [if_pos ⟨rfl, hd⟩]
        simp only [hb, cond_true, gets, Tr.get_put_same 13 _ _ _ (show t + 1 < 2 ^ 13 by omega)]
        rfl
      · rw [if_neg (fun q => e (Option.some.inj q.1).symm)]
        simp only [hb, cond_true, gets, Tr.get_put_other 13 _ _ _ _ e]
    | false =>
      have hd : ¬ d < N := by
        intro q
        rw [show Nat.blt d N = true from by simpa [Nat.blt_eq] using q] at hb
        cases hb
      rw [if_neg (fun q => by have := Option.some.inj q.1; omega)]
      simp only [hb, cond_false]
abbrev DVs := List (Option Nat × Value)
noncomputable def sl (N : Nat) : DVs → (Nat → Bool) → Nat → Sls → Sls
  | [], _, _, a => a
  | (d, v) :: r, p, i, a => sl N r p (i + 1) (bif p i then putO N a d v else a)
theorem sl_agree (hN : N ≤ 4096) (t : Nat) : ∀ (l : DVs) (p q : Nat → Bool) (i : Nat) (a b : Sls), (∀ j d v, l[j]? = some (d, v) → d = some t → p (i + j) = q (i + j)) → gets a t = gets b t → gets (sl N l p i a) t = gets (sl N l q i b) t := by
  intro l
  induction l with
  | nil => intro p q i a b _ h; exact h
  | cons x r ih =>
    intro p q i a b h hab
    obtain ⟨d, v⟩ := x
    simp only [sl]
    refine ih p q (i + 1) _ _ (fun j d' v' hj hd => ?_) ?_
    · have := h (j + 1) d' v' (by simpa using hj) hd
      rw [show i + 1 + j = i + (j + 1) by omega]; exact this
    · by_cases hd : d = some t
      · have := h 0 d v rfl hd
        rw [Nat.add_zero] at this
        rw [this]
        cases q i
        · exact hab
        · simp only [cond_true, gets_putO hN]
          split
          · rfl
          · exact hab
      · have e : ∀ (c : Bool) (x : Sls), gets (bif c then putO N x d v else x) t = gets x t := fun c x => by
          cases c
          · rfl
          · simp only [cond_true, gets_putO hN]
            rw [if_neg (fun q => hd q.1)]
        rw [e, e]; exact hab
theorem sl_far (hN : N ≤ 4096) {t : Nat} (ht : ¬ t < N) : ∀ (l : DVs) (p : Nat → Bool) (i : Nat) (a : Sls), gets (sl N l p i a) t = gets a t := by
  intro l
  induction l with
  | nil => intro p i a; rfl
  | cons x r ih =>
    intro p i a
    obtain ⟨d, v⟩ := x
    simp only [sl]
    rw [ih]
    cases p i
    · rfl
    · simp only [cond_true, gets_putO hN]
      rw [if_neg (fun q => ht q.2)]
theorem sl_none (hN : N ≤ 4096) {t : Nat} : ∀ (l : DVs) (p : Nat → Bool) (i : Nat) (a : Sls), (∀ (j : Nat) (d : Option Nat) (v : Value), l[j]? = some (d, v) → d ≠ some t) → gets (sl N l p i a) t = gets a t := by
  intro l
  induction l with
  | nil => intro p i a _; rfl
  | cons x r ih =>
    intro p i a h
    obtain ⟨d, v⟩ := x
    simp only [sl]
    rw [ih _ _ _ (fun j d' v' hj => h (j + 1) d' v' (by simpa using hj))]
    cases p i
    · rfl
    · simp only [cond_true, gets_putO hN]
      rw [if_neg (fun q => h 0 d v rfl q.1)]
theorem sl_hit (hN : N ≤ 4096) {t : Nat} (ht : t < N) {v0 : Value} : ∀ (l : DVs) (p : Nat → Bool) (i j0 : Nat) (a : Sls), l[j0]? = some (some t, v0) → p (i + j0) = true → (∀ j v, l[j]? = some (some t, v) → j = j0) → gets (sl N l p i a) t = v0 := by
  intro l
  induction l with
  | nil => intro p i j0 a h; simp at h
  | cons x r ih =>
    intro p i j0 a h hp hu
    obtain ⟨d, v⟩ := x
    simp only [sl]
    cases j0 with
    | zero =>
      simp only [List.getElem?_cons_zero, Option.some.injEq, Prod.mk.injEq] at h
      obtain ⟨rfl, rfl⟩ := h
      rw [Nat.add_zero] at hp
      rw [sl_none hN _ _ _ _ (fun j d' v' hj e => by
        subst e
        have := hu (j + 1) v' (by simpa using hj)
        omega), hp, cond_true, gets_putO hN, if_pos ⟨rfl, ht⟩]
    | succ j0 =>
      refine ih p (i + 1) j0 _ (by simpa using h) (by rw [show i + 1 + j0 = i + (j0 + 1) by omega]; exact hp) (fun j v' hj => ?_)
      have := hu (j + 1) v' (by simpa using hj)
      omega
/-- one more is done -/
theorem sl_add (hN : N ≤ 4096) (t : Nat) {d0 : Option Nat} {v0 : Value} (l : DVs) (p q : Nat → Bool) (j0 : Nat) (a : Sls) (h0 : l[j0]? = some (d0, v0)) (hq : ∀ k, q k = (p k || decide (k = j0))) (hu : ∀ j d v, l[j]? = some (d, v) → d = d0 → d0 ≠ none → j = j0) :
    gets (sl N l q 0 a) t = gets (putO N (sl N l p 0 a) d0 v0) t := by
  rw [gets_putO hN]
  by_cases ht : t < N
  · by_cases hd : d0 = some t
    · subst hd
      rw [if_pos ⟨rfl, ht⟩]
      exact sl_hit hN ht l q 0 j0 a h0 (by rw [hq]; simp) (fun j v hj => hu j _ v hj rfl (by simp))
    · rw [if_neg (fun e => hd e.1)]
      refine sl_agree hN t l q p 0 a a (fun j d v hj hdt => ?_) rfl
      rw [hq]
      have hne : j ≠ j0 := by
        intro e2
        subst e2
        rw [hj] at h0
        cases h0
        exact hd hdt
      simp [Nat.zero_add, hne]
  · rw [if_neg (fun e => ht e.2), sl_far hN ht, sl_far hN ht]
noncomputable def accs (N : Nat) : DVs → Sls → Nat → Sls
  | _, a, 0 => a
  | [], a, _ + 1 => a
  | (d, v) :: r, a, j + 1 => accs N r (putO N a d v) j
theorem accs_sl : ∀ (l : DVs) (a : Sls) (i j : Nat), accs N l a j = sl N l (fun k => decide (k < i + j)) i a := by
  intro l
  induction l with
  | nil => intro a i j; cases j <;> rfl
  | cons x r ih =>
    intro a i j
    obtain ⟨d, v⟩ := x
    cases j with
    | zero =>
      simp only [accs, sl, Nat.add_zero, Nat.lt_irrefl, decide_false, cond_false]
      have := ih a (i + 1) 0
      cases r with
      | nil => rfl
      | cons y r =>
        have e : ∀ (l : DVs) (k : Nat) (b : Sls), i ≤ k → sl N l (fun k => decide (k < i)) k b = b := by
          intro l
          induction l with
          | nil => intro k b _; rfl
          | cons z l ih2 =>
            intro k b hk
            obtain ⟨d', v'⟩ := z
            simp only [sl, show ¬ k < i from by omega, decide_false, cond_false]
            exact ih2 (k + 1) b (by omega)
        exact (e _ _ _ (by omega)).symm
    | succ j =>
      simp only [accs, sl, show i < i + (j + 1) from by omega, decide_true, cond_true]
      rw [ih _ (i + 1) j]
      congr 1
      funext k
      rw [show i + 1 + j = i + (j + 1) by omega]
/-! ### what was run -/
def dvs (l : List Inf) (rs : List (Sls × Value)) : DVs := List.zipWith (fun f r => (f.o.dst, r.2)) l rs
theorem dvs_get (l : List Inf) (rs : List (Sls × Value)) (j : Nat) {f : Inf} {a : Sls} {v : Value} (h1 : l[j]? = some f) (h2 : rs[j]? = some (a, v)) : (dvs l rs)[j]? = some (f.o.dst, v) := by
  simp [dvs, List.getElem?_zipWith, h1, h2]
def Fact (P : Program) (call : CallF) (ops : Array Oper) (base : Nat) (σ : Sts) (f : Inf) (a : Sls) (v : Value) (D i : Nat) : Prop :=
  ∃ s s', look σ D = some s ∧ evO P call (nameIf f.act (base + i)) ops f.o a s = some (v, s') ∧ (f.act = true → look σ (Nat.lor D f.bit) = some s')
theorem Fact.ext {P : Program} {call : CallF} {ops : Array Oper} {base : Nat} {σ τ : Sts} {f : Inf} {a : Sls} {v : Value} {D i : Nat} (h : Fact P call ops base σ f a v D i) (e : Ext σ τ) : Fact P call ops base τ f a v D i := by
  obtain ⟨s, s', h1, h2, h3⟩ := h
  exact ⟨s, s', e _ _ h1, h2, fun q => e _ _ (h3 q)⟩
theorem addIf_some {act : Bool} {σ τ : Sts} {D : Nat} {s : St} (h : addIf act σ D s = some τ) : Ext σ τ ∧ (act = true → look τ D = some s) := by
  cases act with
  | true => obtain ⟨h1, h2⟩ := addSt_some h; exact ⟨h1, fun _ => h2⟩
  | false => cases h; exact ⟨fun _ _ q => q, fun q => by cases q⟩
theorem canon_sound {P : Program} {call : CallF} {ops : Array Oper} {base : Nat} : ∀ (l : List Inf) (i : Nat) (a : Sls) (D : Nat) (s : St) (σ : Sts) {rs : List (Sls × Value)} {τ : Sts} {z : Sls}, canon N P call ops base l i a D s σ = some (rs, τ, z) → look σ D = some s →
    Ext σ τ ∧ rs.length = l.length ∧ z = accs N (dvs l rs) a l.length ∧ ∀ j f, l[j]? = some f → ∃ v, rs[j]? = some (accs N (dvs l rs) a j, v) ∧ Fact P call ops base τ f (accs N (dvs l rs) a j) v f.cD (i + j) := by
  intro l
  induction l with
  | nil =>
    intro i a D s σ rs τ z e hl
    cases e
    exact ⟨fun _ _ q => q, rfl, rfl, fun j f h => by simp at h⟩
  | cons f r ih =>
    intro i a D s σ rs τ z e hl
    simp only [canon] at e
    split at e
    · cases e
    · rename_i v s' he
      cases hb : Nat.beq D f.cD with
      | false => rw [hb] at e; cases e
      | true =>
        rw [hb, sel_true] at e
        have hD := Nat.eq_of_beq_eq_true hb
        split at e
        · cases e
        · rename_i υ hυ
          split at e
          · cases e
          · rename_i rs' τ' z' hr
            cases e
            obtain ⟨x1, x2⟩ := addIf_some hυ
            have hl2 : look υ (bif f.act then Nat.lor D f.bit else D) = some (bif f.act then s' else s) := by
              cases ha : f.act with
              | true => exact x2 ha
              | false => exact x1 _ _ hl
            obtain ⟨g1, g2, g3, g4⟩ := ih (i + 1) _ _ _ _ hr hl2
            refine ⟨fun E t q => g1 _ _ (x1 _ _ q), by simp [g2], ?_, fun j f' hj => ?_⟩
            · simp only [dvs, List.zipWith_cons_cons, List.length_cons, accs]; exact g3
            · cases j with
              | zero =>
                simp only [List.getElem?_cons_zero, Option.some.injEq] at hj
                subst hj
                refine ⟨v, by simp [dvs, accs], s, s', ?_, ?_, fun q => ?_⟩
                · rw [← hD]; exact g1 _ _ (x1 _ _ hl)
                · simpa [dvs, accs] using he
                · rw [← hD]; exact g1 _ _ (x2 q)
              | succ j =>
                obtain ⟨v', h1, h2⟩ := g4 j f' (by simpa using hj)
                refine ⟨v', by simpa [dvs, accs] using h1, ?_⟩
                rw [show i + (j + 1) = i + 1 + j by omega]
                simpa [dvs, accs] using h2
theorem steps_sound {P : Program} {call : CallF} {ops : Array Oper} {base : Nat} {infs : List Inf} {rs : List (Sls × Value)} : ∀ (l : List (Nat × Nat)) (σ τ : Sts), steps P call ops base infs rs l σ = some τ →
    Ext σ τ ∧ ∀ D i, (D, i) ∈ l → ∃ f a v, infs[i]? = some f ∧ rs[i]? = some (a, v) ∧ Fact P call ops base τ f a v D i := by
  intro l
  induction l with
  | nil => intro σ τ e; cases e; exact ⟨fun _ _ q => q, fun D i h => by cases h⟩
  | cons p l ih =>
    intro σ τ e
    obtain ⟨D, i⟩ := p
    simp only [steps] at e
    split at e
    · rename_i f a v s hf hr hs
      split at e
      · cases e
      · rename_i u s' he
        cases hb : eqV u v with
        | false => rw [hb] at e; cases e
        | true =>
          rw [hb, sel_true] at e
          have hu := eqV_eq _ _ hb
          subst hu
          split at e
          · cases e
          · rename_i υ hυ
            obtain ⟨x1, x2⟩ := addIf_some hυ
            obtain ⟨g1, g2⟩ := ih _ _ e
            refine ⟨fun E t q => g1 _ _ (x1 _ _ q), fun D' i' h => ?_⟩
            rcases List.mem_cons.1 h with h | h
            · cases h
              exact ⟨f, a, u, hf, hr, s, s', g1 _ _ (x1 _ _ hs), he, fun q => g1 _ _ (x2 q)⟩
            · exact g2 D' i' h
    · cases e
end Go.Proofs.YtklclfolmfhocaaGreatDoor.Ev
namespace Go.Proofs.YtklclfolmfhocaaGreatDoor.Ev
open Go.ChangeShapes Go.WideShapes Go.ChangeAt Go.RowKit
open Go.Proofs.YtklclfolmfhocaaGreatDoor.Mem
variable {N : Nat}
set_option linter.unusedVariables false
set_option linter.unusedSimpArgs false
theorem zip_all {L : List Oper} {g : Oper × Nat → Bool} (h : L.zipIdx.all g = true) {i : Nat} {o : Oper} (hi : L[i]? = some o) : g (o, i) = true :=
  List.all_eq_true.1 h (o, i) (List.mem_zipIdx_iff_getElem?.2 hi)
def atOr (L : List Oper) (k : Nat) (g : Oper → Bool) : Bool := match L[k]? with
  | some o => g o
  | none => false
theorem orIdx_bit (L : List Oper) (g : Oper × Nat → Bool) (k : Nat) : (orAll (L.zipIdx.map fun p => bitIf (g p) p.2)).testBit k = atOr L k (fun o => g (o, k)) := by
  rw [orAll_bit, List.any_map, Bool.eq_iff_iff, List.any_eq_true]
  unfold atOr
  constructor
  · rintro ⟨⟨o, i⟩, hm, hb⟩
    have hi := List.mem_zipIdx_iff_getElem?.1 hm
    simp only [Function.comp, bitIf_bit, Bool.and_eq_true, decide_eq_true_eq] at hb
    obtain ⟨h1, h2⟩ := hb
    dsimp only at hi h2 h1
    subst h2
    rw [hi]
    exact h1
  · intro h
    split at h
    · rename_i o ho
      exact ⟨(o, k), List.mem_zipIdx_iff_getElem?.2 ho, by simp only [Function.comp, bitIf_bit, Bool.and_eq_true, decide_eq_true_eq]; exact ⟨h, trivial⟩⟩
    · cases h
theorem beq_of_eq {a b : Nat} (h : a = b) : Nat.beq a b = true := by subst h; simp
theorem infs_get {L : List Oper} {bs : List Nat} {am i : Nat} : (L.zipIdx.map (inf L bs am))[i]? = (L[i]?).map (fun o => inf L bs am (o, i)) := by
  rw [List.getElem?_map, List.getElem?_zipIdx]
  cases L[i]? <;> simp
section
variable {P : Program} {call : CallF} {ops : Array Oper} {bs gs : List Nat} {pairs : List (Nat × Nat)} {rs : List (Sls × Value)} {τ : Sts} {a0 : Sls} {base : Nat}
def isActAt (ops : Array Oper) (k : Nat) : Bool := atOr ops.toList k (fun o => isAct o.op)
/-- all that was found of a region -/
structure Found (N : Nat) (P : Program) (call : CallF) (ops : Array Oper) (bs gs : List Nat) (rs : List (Sls × Value)) (τ : Sts) (a0 : Sls) (base : Nat) : Prop where
  edges : okEdges ops.toList bs = true
  slots : okSlots ops ops.toList bs = true
  dst : okDst ops.toList = true
  zero : 0 ∈ gs
  size : rs.length = ops.size
  done : ∀ D, D ∈ gs → ∀ i o, ops.toList[i]? = some o → exec (inf ops.toList bs (actMask ops.toList) (o, i)) D = true → ∃ v, rs[i]? = some (accs N (dvs (ops.toList.zipIdx.map (inf ops.toList bs (actMask ops.toList))) rs) a0 i, v) ∧
    Fact P call ops base τ (inf ops.toList bs (actMask ops.toList) (o, i)) (accs N (dvs (ops.toList.zipIdx.map (inf ops.toList bs (actMask ops.toList))) rs) a0 i) v D i ∧ (isAct o.op = true → Nat.lor D (2 ^ i) ∈ gs)
  vals : ∀ (i : Nat) (o : Oper), ops.toList[i]? = some o → ∃ (a : Sls) (v : Value), rs[i]? = some (a, v)
theorem size_list (ops : Array Oper) : ops.toList.length = ops.size := by simp
theorem found_of (hok : okPlan ops ops.toList ⟨bs, actMask ops.toList, ops.toList.zipIdx.map (inf ops.toList bs (actMask ops.toList)), gs, pairs⟩ = true) {σ : Sts} {s0 : St} {z : Sls}
    (hc : canon N P call ops base (ops.toList.zipIdx.map (inf ops.toList bs (actMask ops.toList))) 0 a0 0 s0 [(0, s0)] = some (rs, σ, z)) (hs : steps P call ops base (ops.toList.zipIdx.map (inf ops.toList bs (actMask ops.toList))) rs pairs σ = some τ) :
    Found N P call ops bs gs rs τ a0 base ∧ look τ 0 = some s0 ∧ z = accs N (dvs (ops.toList.zipIdx.map (inf ops.toList bs (actMask ops.toList))) rs) a0 ops.size := by
  simp only [okPlan, Bool.and_eq_true, okSets] at hok
  obtain ⟨⟨⟨h1, h2⟩, h3⟩, h4, h5⟩ := hok
  obtain ⟨c1, c2, c3, c4⟩ := canon_sound _ _ _ _ _ _ hc (by simp [look])
  obtain ⟨s1, s2⟩ := steps_sound _ _ _ hs
  have hlen : (ops.toList.zipIdx.map (inf ops.toList bs (actMask ops.toList))).length = ops.size := by simp
  have hcan : ∀ i o, ops.toList[i]? = some o → ∃ v, rs[i]? = some (accs N (dvs (ops.toList.zipIdx.map (inf ops.toList bs (actMask ops.toList))) rs) a0 i, v) ∧
      Fact P call ops base τ (inf ops.toList bs (actMask ops.toList) (o, i)) (accs N (dvs (ops.toList.zipIdx.map (inf ops.toList bs (actMask ops.toList))) rs) a0 i) v (inf ops.toList bs (actMask ops.toList) (o, i)).cD i := fun i o hi => by
    obtain ⟨v, q1, q2⟩ := c4 i _ (by rw [infs_get, hi]; rfl)
    rw [Nat.zero_add] at q2
    exact ⟨v, q1, q2.ext s1⟩
  refine ⟨⟨h1, h2, h3, by simpa using h4, by rw [c2, hlen], fun D hD i o hi hex => ?_, fun i o hi => ?_⟩, s1 _ _ (c1 _ _ (by simp [look])), by rw [c3, hlen]⟩
  · have hg := List.all_eq_true.1 h5 D hD
    have hg2 := List.all_eq_true.1 hg (inf ops.toList bs (actMask ops.toList) (o, i), i) (List.mem_zipIdx_iff_getElem?.2 (by rw [infs_get, hi]; rfl))
    simp only [hex, Bool.not_true, Bool.false_or, Bool.and_eq_true, Bool.or_eq_true] at hg2
    obtain ⟨g1, g2⟩ := hg2
    have hact : isAct o.op = true → Nat.lor D (2 ^ i) ∈ gs := fun q => by
      rcases g1 with g1 | g1
      · rw [show (inf ops.toList bs (actMask ops.toList) (o, i)).act = isAct o.op from rfl, q] at g1
        cases g1
      · have g1' : gs.contains (Nat.lor D (2 ^ i)) = true := g1
        simpa using g1'
    obtain ⟨v, q1, q2⟩ := hcan i o hi
    rcases g2 with g2 | g2
    · have e := Nat.eq_of_beq_eq_true g2
      rw [← e] at q2
      exact ⟨v, q1, q2, hact⟩
    · obtain ⟨f, a, u, p1, p2, p3⟩ := s2 D i (by simpa using g2)
      rw [infs_get, hi] at p1
      cases p1
      rw [q1] at p2
      cases p2
      exact ⟨v, q1, p3, hact⟩
  · obtain ⟨v, q1, -⟩ := hcan i o hi
    exact ⟨_, v, q1⟩
/-- where an order stands -/
structure Stands (N : Nat) (ops : Array Oper) (bs gs : List Nat) (l : DVs) (τ : Sts) (a0 : Sls) (m0 : Mu) (B : Nat) (W0 : World) (listed : Array Bool) (A : Act) (W : World) : Prop where
  size : listed.size = ops.size
  shut : ∀ i, listed.getD i false = true → ∀ k, (nth bs i).testBit k = true → listed.getD k false = true
  defers : A.defers = []
  state : ∃ D s m', D ∈ gs ∧ (∀ k, D.testBit k = (isActAt ops k && listed.getD k false)) ∧ look τ D = some s ∧ Sub m0 m' ∧ Holds m' s B W ∧ Below B W0 W ∧ RS N m' (sl N l (fun k => listed.getD k false) 0 a0) A
theorem RS.same {m : Mu} {a b : Sls} {A : Act} (h : RS N m a A) (e : ∀ t, gets b t = gets a t) : RS N m b A := ⟨h.size, h.most, fun t => by rw [e]; exact h.slot t⟩
theorem listed_set (listed : Array Bool) (i k : Nat) (hi : i < listed.size) : (listed.setIfInBounds i true).getD k false = (listed.getD k false || decide (k = i)) := by
  simp only [Array.getD_eq_getD_getElem?]
  by_cases e : k = i
  · subst e
    simp [hi]
  · rw [Array.getElem?_setIfInBounds_ne (Ne.symm e)]
    simp [e]
def open' (ops : Array Oper) (listed : Array Bool) : Nat := ((List.range ops.size).filter fun k => !listed.getD k false).length
theorem open_set (ops : Array Oper) (listed : Array Bool) (i : Nat) (hi : i < ops.size) (hs : listed.size = ops.size) (hl : listed.getD i false = false) : open' ops (listed.setIfInBounds i true) < open' ops listed := by
  unfold open'
  have key : ∀ (l : List Nat), l.Nodup → i ∈ l → ((l.filter fun k => !(listed.setIfInBounds i true).getD k false)).length + 1 = (l.filter fun k => !listed.getD k false).length := by
    intro l
    induction l with
    | nil => intro _ h; cases h
    | cons x l ih =>
      intro hn hm
      have hx := List.nodup_cons.1 hn
      by_cases e : x = i
      · subst e
        have h1 : (!(listed.setIfInBounds x true).getD x false) = false := by rw [listed_set _ _ _ (by omega)]; simp
        have h2 : (!listed.getD x false) = true := by rw [hl]; rfl
        rw [List.filter_cons_of_neg (by rw [h1]; simp), List.filter_cons_of_pos (by rw [h2])]
        have h3 : (l.filter fun k => !(listed.setIfInBounds x true).getD k false) = l.filter fun k => !listed.getD k false := by
          refine List.filter_congr fun k hk => ?_
          rw [listed_set _ _ _ (by omega)]
          have : k ≠ x := fun q => hx.1 (q ▸ hk)
          simp [this]
        rw [h3]
        simp
      · have hm2 : i ∈ l := by
          rcases List.mem_cons.1 hm with h | h
          · exact absurd h.symm e
          · exact h
        have h1 : (!(listed.setIfInBounds i true).getD x false) = !listed.getD x false := by rw [listed_set _ _ _ (by omega)]; simp [e]
        have := ih hx.2 hm2
        cases hb : (!listed.getD x false) with
        | true =>
          rw [List.filter_cons_of_pos (by rw [h1, hb]), List.filter_cons_of_pos (by rw [hb])]
          simp only [List.length_cons]
          omega
        | false =>
          rw [List.filter_cons_of_neg (by rw [h1, hb]; simp), List.filter_cons_of_neg (by rw [hb]; simp)]
          exact this
  have := key (List.range ops.size) List.nodup_range (by simpa using hi)
  omega
theorem ready_all {listed : Array Bool} (hs : listed.size = ops.size) (hE : okEdges ops.toList bs = true) (hr : Region.ready .any ops listed = []) : ∀ k, k < ops.size → listed.getD k false = true := by
  intro k
  induction k using Nat.strongRecOn with
  | _ k ih =>
    intro hk
    have ho : ops.toList[k]? = some ops[k] := by simp [hk]
    have he := zip_all hE ho
    simp only [Bool.and_eq_true, List.all_eq_true] at he
    have hno : k ∉ Region.ready .any ops listed := by rw [hr]; simp
    unfold Region.ready at hno
    rw [List.mem_filter] at hno
    cases hb : listed.getD k false with
    | true => rfl
    | false =>
      exfalso
      refine hno ⟨by simpa using hk, ?_⟩
      have h1 : listed.getD k true = false := by
        have hlt : k < listed.size := by omega
        simp [Array.getD_eq_getD_getElem?, hlt] at hb ⊢
        exact hb
      rw [h1]
      simp only [Bool.not_false, Bool.true_and, Array.getElem?_eq_getElem hk, Option.map_some, Option.getD_some]
      rw [Array.all_eq_true_iff_forall_mem]
      intro e hm
      cases hbd : Region.binds .any e with
      | false => rfl
      | true =>
        have hd : e.on ∈ direct ops[k] := List.mem_map.2 ⟨e, List.mem_filter.2 ⟨by simpa using hm, hbd⟩, rfl⟩
        have hlt : e.on < k := by have := he.1 e.on hd; simpa [Nat.blt_eq] using this
        rw [ih e.on hlt (by omega)]
        rfl
theorem any_sound (hcl : CallOk P call) (hF : Found N P call ops bs gs rs τ a0 base) (hN : N ≤ 4096) {m0 : Mu} {B : Nat} {W0 : World} {Q : Exit → Act → World → Prop}
    (hq : ∀ listed A W, (∀ k, k < ops.size → listed.getD k false = true) → Stands N ops bs gs (dvs (ops.toList.zipIdx.map (inf ops.toList bs (actMask ops.toList))) rs) τ a0 m0 B W0 listed A W → Q .normal A W) :
    ∀ (fuel : Nat) (listed : Array Bool) (A : Act) (W : World), Stands N ops bs gs (dvs (ops.toList.zipIdx.map (inf ops.toList bs (actMask ops.toList))) rs) τ a0 m0 B W0 listed A W → open' ops listed ≤ fuel → wpAny P .any ops Q fuel listed A W := by
  intro fuel
  induction fuel with
  | zero =>
    intro listed A W h hf
    have hall : ∀ k, k < ops.size → listed.getD k false = true := fun k hk => by
      unfold open' at hf
      have h0 := List.eq_nil_of_length_eq_zero (Nat.le_zero.1 hf)
      cases hb : listed.getD k false with
      | true => rfl
      | false =>
        have : k ∈ (List.range ops.size).filter fun k => !listed.getD k false := List.mem_filter.2 ⟨by simpa using hk, by rw [hb]; rfl⟩
        rw [h0] at this
        cases this
    refine ⟨?_, hq listed A W hall h⟩
    unfold Region.ready
    rw [List.filter_eq_nil_iff]
    intro i hi
    have hi2 : i < ops.size := by simpa using hi
    have hlt : i < listed.size := by rw [h.size]; exact hi2
    have h1 := hall i hi2
    simp only [Array.getD_eq_getD_getElem?, Array.getElem?_eq_getElem hlt, Option.getD_some] at h1 ⊢
    simp [h1]
  | succ fuel ih =>
    intro listed A W h hf
    refine ⟨fun hr => hq listed A W (ready_all h.size hF.edges hr) h, fun i hi => ?_⟩
    unfold Region.ready at hi
    rw [List.mem_filter] at hi
    obtain ⟨hi1, hi2⟩ := hi
    have hin : i < ops.size := by simpa using hi1
    have hil : i < listed.size := by rw [h.size]; exact hin
    rw [Bool.and_eq_true] at hi2
    obtain ⟨hnl, hedge⟩ := hi2
    have hnl2 : listed.getD i false = false := by
      simp only [Array.getD_eq_getD_getElem?, Array.getElem?_eq_getElem hil, Option.getD_some] at hnl ⊢
      simpa using hnl
    have ho : ops.toList[i]? = some ops[i] := by simp [hin]
    have ho2 : ops[i]? = some ops[i] := Array.getElem?_eq_getElem hin
    rw [ho2] at hedge
    simp only [Option.map_some, Option.getD_some] at hedge
    rw [Array.all_eq_true_iff_forall_mem] at hedge
    generalize ops[i] = o at ho ho2 hedge
    have hE := zip_all hF.edges ho
    simp only [Bool.and_eq_true, List.all_eq_true] at hE
    have hdir : ∀ k ∈ direct o, listed.getD k false = true := fun k hk => by
      obtain ⟨e, he, rfl⟩ := List.mem_map.1 hk
      obtain ⟨he1, he2⟩ := List.mem_filter.1 he
      have := hedge e (by simpa using he1)
      rw [he2] at this
      simpa using this
    have hbs : ∀ k, (nth bs i).testBit k = true → listed.getD k false = true := fun k hk => by
      rw [Nat.eq_of_beq_eq_true hE.2, orAll_bit, List.any_map, List.any_eq_true] at hk
      obtain ⟨j, hj, hb⟩ := hk
      simp only [Function.comp, lor_bit, pow_bit, Bool.or_eq_true, decide_eq_true_eq] at hb
      rcases hb with hb | hb
      · subst hb; exact hdir _ hj
      · exact h.shut j (hdir j hj) k hb
    obtain ⟨D, s, m', hD, hbits, hlook, hsub, hholds, hbelow, hrs⟩ := h.state
    have hexec : exec (inf ops.toList bs (actMask ops.toList) (o, i)) D = true := by
      unfold exec
      rw [Bool.and_eq_true]
      constructor
      · refine beq_of_eq (Nat.eq_of_testBit_eq fun k => ?_)
        rw [land_bit]
        show ((Nat.land (nth bs i) (actMask ops.toList)).testBit k && D.testBit k) = (Nat.land (nth bs i) (actMask ops.toList)).testBit k
        rw [land_bit, hbits]
        have ham : (actMask ops.toList).testBit k = isActAt ops k := orIdx_bit ops.toList (fun p => isAct p.1.op) k
        rw [ham]
        cases h1 : (nth bs i).testBit k with
        | false => rfl
        | true =>
          rw [hbs k h1]
          cases isActAt ops k <;> rfl
      · show (bif isAct o.op then Nat.beq (Nat.land D (2 ^ i)) 0 else Nat.beq (Nat.land D (aftMask ops.toList bs i)) 0) = true
        cases hact : isAct o.op with
        | true =>
          refine beq_of_eq (Nat.eq_of_testBit_eq fun k => ?_)
          rw [land_bit, hbits, pow_bit, Nat.zero_testBit]
          by_cases e : i = k
          · subst e; rw [hnl2]; simp
          · simp [e]
        | false =>
          refine beq_of_eq (Nat.eq_of_testBit_eq fun k => ?_)
          rw [land_bit, hbits, Nat.zero_testBit]
          have hab : (aftMask ops.toList bs i).testBit k = atOr ops.toList k (fun q => isAct q.op && (nth bs k).testBit i) := orIdx_bit ops.toList (fun p => isAct p.1.op && (nth bs p.2).testBit i) k
          rw [hab]
          cases hl : listed.getD k false with
          | false => simp
          | true =>
            have : (nth bs k).testBit i = false := by
              cases hb : (nth bs k).testBit i with
              | false => rfl
              | true => rw [h.shut k hl i hb] at hnl2; cases hnl2
            rw [this]
            unfold atOr
            split <;> simp
    obtain ⟨v, hv, ⟨s1, s', f1, f2, f3⟩, hgs⟩ := hF.done D hD i o ho hexec
    rw [hlook] at f1
    cases f1
    have hagree : ∀ t ∈ o.looksAt ops, gets (accs N (dvs (ops.toList.zipIdx.map (inf ops.toList bs (actMask ops.toList))) rs) a0 i) t = gets (sl N (dvs (ops.toList.zipIdx.map (inf ops.toList bs (actMask ops.toList))) rs) (fun k => listed.getD k false) 0 a0) t := fun t ht => by
      rw [accs_sl _ _ 0 i]
      refine sl_agree hN t _ _ _ 0 a0 a0 (fun j d u hj hd => ?_) rfl
      subst hd
      obtain ⟨q, hq1, hq2⟩ : ∃ q, ops.toList[j]? = some q ∧ q.dst = some t := by
        rw [dvs, List.getElem?_zipWith, infs_get] at hj
        cases hq : ops.toList[j]? with
        | none => rw [hq] at hj; simp at hj
        | some q =>
          rw [hq] at hj
          cases hr : rs[j]? with
          | none => rw [hr] at hj; simp at hj
          | some r =>
            rw [hr] at hj
            simp only [Option.map_some, Option.some.injEq, Prod.mk.injEq] at hj
            exact ⟨q, rfl, hj.1⟩
      have hS := zip_all hF.slots ho
      have hS2 := zip_all (List.all_eq_true.1 hS t ht) hq1
      dsimp only at hS2
      rw [hq2] at hS2
      simp only [beq_self_eq_true, Bool.not_true, Bool.false_or, Bool.or_eq_true] at hS2
      simp only [Nat.zero_add]
      rcases hS2 with hS2 | hS2
      · have e := Nat.eq_of_beq_eq_true hS2
        subst e
        rw [hnl2]
        simp
      · by_cases hji : j < i
        · rw [Nat.max_eq_left (by omega), Nat.min_eq_right (by omega)] at hS2
          rw [hbs j hS2]
          simp [hji]
        · by_cases e : j = i
          · subst e; rw [hnl2]; simp
          · rw [Nat.max_eq_right (by omega), Nat.min_eq_left (by omega)] at hS2
            have : listed.getD j false = false := by
              cases hb : listed.getD j false with
              | false => rfl
              | true => rw [h.shut j hb i hS2] at hnl2; cases hnl2
            rw [this]
            simp [hji]
    have hev : evO P call (nameIf (isAct o.op) (base + i)) ops o (sl N (dvs (ops.toList.zipIdx.map (inf ops.toList bs (actMask ops.toList))) rs) (fun k => listed.getD k false) 0 a0) s = some (v, s') := by
      rw [← evO_congr hagree]; exact f2
    unfold wpOp
    rw [ho2]
    refine evO_sound hcl hev hholds hrs fun m2 W2 v2 k1 k2 k3 k4 => ?_
    refine ih _ _ _ ⟨by simpa using h.size, fun j hj k hk => ?_, by rw [put_defers]; exact h.defers, ?_⟩ (by have := open_set ops listed i hin h.size hnl2; omega)
    · rw [listed_set _ _ _ hil] at hj ⊢
      rw [Bool.or_eq_true] at hj ⊢
      rcases hj with hj | hj
      · exact .inl (h.shut j hj k hk)
      · have e : j = i := by simpa using hj
        subst e
        exact .inl (hbs k hk)
    · have hdv : (dvs (ops.toList.zipIdx.map (inf ops.toList bs (actMask ops.toList))) rs)[i]? = some (o.dst, v) := dvs_get (f := inf ops.toList bs (actMask ops.toList) (o, i)) _ _ i (by rw [infs_get, ho]; rfl) hv
      have hrs2 : RS N m2 (sl N (dvs (ops.toList.zipIdx.map (inf ops.toList bs (actMask ops.toList))) rs) (fun k => (listed.setIfInBounds i true).getD k false) 0 a0) (A.put o.dst v2) := by
        refine RS.same ((hrs.up k1).putO o.dst k4) fun t => ?_
        refine sl_add hN t _ (fun k => listed.getD k false) _ i a0 hdv (fun k => listed_set _ _ _ hil) (fun j d u hj hd hne => ?_)
        rw [dvs, List.getElem?_zipWith, infs_get] at hj
        cases hq : ops.toList[j]? with
        | none => rw [hq] at hj; simp at hj
        | some q =>
          rw [hq] at hj
          cases hr : rs[j]? with
          | none => rw [hr] at hj; simp at hj
          | some r =>
            rw [hr] at hj
            simp only [Option.map_some, Option.some.injEq, Prod.mk.injEq] at hj
            have hqd : q.dst = o.dst := by rw [← hd]; exact hj.1
            have hD4 := zip_all hF.dst ho
            dsimp only at hD4
            cases hod : o.dst with
            | none => exact absurd hod hne
            | some d0 =>
              rw [hod] at hD4
              dsimp only at hD4
              have := zip_all hD4 hq
              dsimp only at this
              rw [hqd, hod] at this
              simp only [beq_self_eq_true, Bool.not_true, Bool.or_false] at this
              exact Nat.eq_of_beq_eq_true this
      cases hact : isAct o.op with
      | true =>
        refine ⟨Nat.lor D (2 ^ i), s', m2, hgs hact, fun k => ?_, f3 hact, hsub.trans k1, k2, hbelow.trans k3, hrs2⟩
        rw [lor_bit, hbits, pow_bit, listed_set _ _ _ hil]
        by_cases e : i = k
        · subst e
          have : isActAt ops i = true := by unfold isActAt atOr; rw [ho]; exact hact
          simp [this]
        · simp [e, Ne.symm e]
      | false =>
        rw [show (inf ops.toList bs (actMask ops.toList) (o, i)).act = isAct o.op from rfl, hact] at f2
        obtain ⟨q1, q2, q3⟩ := evO_still hact f2
        have hh : Holds m2 s B W2 := by
          have hc := hholds.cin
          refine ⟨by rw [← q2]; exact k2.fresh, by rw [← q2, ← q3]; exact k2.laid, hc, by rw [← q2]; exact k2.big, k2.room, ?_, ?_, ?_, k2.keep, ?_⟩
          · intro n c hn hc; exact k2.at' n c hn (by unfold St.get at hc ⊢; rw [q1]; exact hc)
          · intro n k c d l e hc hd; exact k2.inj n k c d l e (by unfold St.get at hc ⊢; rw [q1]; exact hc) (by unfold St.get at hd ⊢; rw [q1]; exact hd)
          · intro n c hn hc; exact k2.glob n c hn (by unfold St.get at hc ⊢; rw [q1]; exact hc)
          · refine ⟨fun n c hn hc => k2.maps.1 n c hn (by unfold St.get at hc ⊢; rw [q1]; exact hc), fun n k c d l e hn hk hc hd => k2.maps.2 n k c d l e hn hk (by unfold St.get at hc ⊢; rw [q1]; exact hc) (by unfold St.get at hd ⊢; rw [q1]; exact hd)⟩
        refine ⟨D, s, m2, hD, fun k => ?_, hlook, hsub.trans k1, hh, hbelow.trans k3, hrs2⟩
        rw [hbits, listed_set _ _ _ hil]
        by_cases e : k = i
        · subst e
          have : isActAt ops k = false := by unfold isActAt atOr; rw [ho]; exact hact
          simp [this]
        · simp [e]
end
theorem evDraw_ok (P : Program) : DrOk P (evDraw P) := by
  intro N call hcl id ops a a' s s' e m B W A Q h ha hd hq
  unfold evDraw at e
  cases hp : planOf P ops with
  | none => rw [hp] at e; cases e
  | some pl =>
    rw [hp] at e
    dsimp only at e
    unfold planOf at hp
    cases hok : (P.follows .mixedOrders && okPlan ops ops.toList (mkPlan ops.toList)) with
    | false => rw [hok] at hp; cases hp
    | true =>
      rw [hok, cond_true] at hp
      cases hp
      rw [Bool.and_eq_true] at hok
      obtain ⟨hmix, hok⟩ := hok
      cases hble : Nat.ble (Nat.add s.next ops.size) (2 ^ 40) with
      | false => rw [hble] at e; cases e
      | true =>
        rw [hble, sel_true] at e
        have hnext : s.next + ops.size ≤ 2 ^ 40 := Nat.le_of_ble_eq_true hble
        split at e
        · cases e
        · rename_i rs σ z hc
          split at e
          · cases e
          · rename_i τ hs
            split at e
            · cases e
            · rename_i t ht
              cases e
              have h0 : Holds m ⟨s.heap, Nat.add s.next ops.size, namesFrom s.next ops.size ++ s.res, none⟩ B W := by
                refine ⟨fun n hn => h.fresh n (by have : s.next + ops.size ≤ n := hn; omega), fun n hn => ?_, (fun n e => by cases e), hnext, h.room, h.at', h.inj, h.glob, h.keep, h.maps⟩
                show m n = none ∧ n < s.next + ops.size
                rcases List.mem_append.1 hn with hn | hn
                · have := mem_namesFrom _ _ _ hn
                  exact ⟨h.fresh n this.1, this.2⟩
                · have := h.laid n hn
                  exact ⟨this.1, by omega⟩
              obtain ⟨hF, hl0, hz⟩ := found_of hok hc hs
              refine wp_region_any hmix (any_sound hcl hF ha.most (m0 := m) (B := B) (W0 := W) ?_ ops.size _ A _ ⟨by simp, fun i hi => ?_, hd, ?_⟩ ?_)
              · intro listed A2 W2 hall hst
                obtain ⟨D, s2, m2, hD, hbits, hlook, hsub, hholds, hbelow, hrs⟩ := hst.state
                have hDf : D = (mkPlan ops.toList).full := by
                  refine Nat.eq_of_testBit_eq fun k => ?_
                  have ham : (mkPlan ops.toList).full.testBit k = isActAt ops k := orIdx_bit ops.toList (fun p => isAct p.1.op) k
                  rw [ham, hbits]
                  by_cases hk : k < ops.size
                  · rw [hall k hk]; simp
                  · have : isActAt ops k = false := by
                      unfold isActAt atOr
                      rw [List.getElem?_eq_none (by simp; omega)]
                    rw [this]; rfl
                rw [hDf, ht] at hlook
                cases hlook
                refine hq A2 W2 ⟨m2, hsub, ?_, hbelow, ?_, hst.defers⟩
                · refine ⟨hholds.fresh, fun n hn => hholds.laid n (List.mem_filter.1 hn).1, (fun n e => by cases e), hholds.big, hholds.room, hholds.at', hholds.inj, hholds.glob, hholds.keep, hholds.maps⟩
                · refine RS.same hrs fun t => ?_
                  rw [hz, accs_sl _ _ 0 ops.size]
                  refine sl_agree ha.most t _ _ _ 0 a a (fun j d v hj hd => ?_) rfl
                  have hj2 : j < ops.size := by
                    have := (List.getElem?_eq_some_iff.1 hj).1
                    simp [dvs] at this
                    omega
                  simp only [Nat.zero_add]
                  rw [hall j hj2]
                  simp [hj2]
              · simp [Array.getD_eq_getD_getElem?, Array.getElem?_replicate] at hi
                split at hi <;> simp at hi
              · refine ⟨0, _, m, hF.zero, fun k => ?_, hl0, Sub.refl m, h0.below ?_, ?_, ?_⟩
                · have : (Array.replicate ops.size false).getD k false = false := by
                    simp [Array.getD_eq_getD_getElem?, Array.getElem?_replicate]
                    split <;> simp
                  rw [this]; simp
                · exact ⟨rfl, rfl, rfl, Nat.le_refl _, fun _ _ => rfl⟩
                · exact ⟨rfl, rfl, rfl, Nat.le_refl _, fun _ _ => rfl⟩
                · refine RS.same ha fun t => ?_
                  have e : ∀ (l : DVs) (i : Nat) (b : Sls), sl N l (fun k => (Array.replicate ops.size false).getD k false) i b = b := by
                    intro l
                    induction l with
                    | nil => intro i b; rfl
                    | cons x l ih =>
                      intro i b
                      obtain ⟨d, v⟩ := x
                      have : (Array.replicate ops.size false).getD i false = false := by
                        simp [Array.getD_eq_getD_getElem?, Array.getElem?_replicate]
                        split <;> simp
                      simp only [sl, this, cond_false]
                      exact ih _ _
                  rw [e]
              · unfold open'
                exact Nat.le_trans (List.length_filter_le ..) (by simp)
end Go.Proofs.YtklclfolmfhocaaGreatDoor.Ev
