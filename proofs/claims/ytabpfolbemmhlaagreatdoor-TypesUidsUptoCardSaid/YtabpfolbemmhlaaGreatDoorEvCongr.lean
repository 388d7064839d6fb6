/-
  A checked evaluator of concrete calls: an operation sees no slots but those that it looks at; one that is no act leaves all as it was. No walk.
-/
import Derived.Test.YtabpfolbemmhlaaGreatDoorEvSame
namespace Go.Proofs.YtabpfolbemmhlaaGreatDoor.Ev
open Go.ChangeShapes Go.WideShapes Go.ChangeAt Go.RowKit
open Go.Proofs.YtabpfolbemmhlaaGreatDoor.Mem
set_option linter.unusedVariables false
set_option linter.unusedSimpArgs false
theorem evX_congr {s : St} {a a' : Sls} {x : Operand} (h : ∀ t, x = .tmp t → gets a t = gets a' t) : evX s a x = evX s a' x := by
  cases x with
  | tmp t => simp only [evX, h t rfl]
  | _ => rfl
theorem evXs_congr {s : St} {a a' : Sls} : ∀ (l : List Operand), (∀ x ∈ l, evX s a x = evX s a' x) → evXs s a l = evXs s a' l := by
  intro l
  induction l with
  | nil => intro _; rfl
  | cons x l ih =>
    intro h
    simp only [evXs, h x (by simp), ih (fun y hy => h y (by simp [hy]))]
theorem evParts_congr {s : St} {a a' : Sls} : ∀ (l : List (Nat × Operand)), (∀ p ∈ l, evX s a p.2 = evX s a' p.2) → evParts s a l = evParts s a' l := by
  intro l
  induction l with
  | nil => intro _; rfl
  | cons p l ih =>
    intro h
    obtain ⟨i, x⟩ := p
    simp only [evParts, h (i, x) (by simp), ih (fun y hy => h y (by simp [hy]))]
theorem evXo_congr {s : St} {a a' : Sls} (x : Option Operand) (h : ∀ y, x = some y → evX s a y = evX s a' y) : evXo s a x = evXo s a' x := by
  cases x with
  | none => rfl
  | some y => simp only [evXo, h y rfl]
theorem evTab_congr {P : Program} {s : St} {a a' : Sls} {o : Oper} (op : Op) (h : ∀ x ∈ op.operands, evX s a x = evX s a' x) : evTab op P s a o = evTab op P s a' o := by
  cases op <;> simp only [Op.operands] at h <;> simp only [evTab]
  case move x => rw [h x (by simp)]
  case assign x => rw [h x (by simp)]
  case pick c x y =>
    rw [h c (by simp)]
    split
    · rename_i b _
      cases b
      · simp only [Bool.false_eq_true, if_false, h y (by simp)]
      · simp only [if_true, h x (by simp)]
    · rfl
  case load t x => rw [h x (by simp)]
  case store t x y => rw [h x (by simp), h y (by simp)]
  case box t x => rw [h x (by simp)]
  case build t ps =>
    have e := evParts_congr (s := s) (a := a) (a' := a') ps.toList (fun p hp => h p.2 (by simp; exact ⟨p.1, by simpa using hp⟩))
    simp only [evBuild, e]
  case buildSlice t len ps =>
    have e := evParts_congr (s := s) (a := a) (a' := a') ps.toList (fun p hp => h p.2 (by simp; exact ⟨p.1, by simpa using hp⟩))
    simp only [evBuildSlice, e]
  case fieldAddr t x f => rw [h x (by simp)]
  case field t x f => rw [h x (by simp)]
  case indexAddr t x i => rw [h x (by simp), h i (by simp)]
  case index t x i => rw [h x (by simp), h i (by simp)]
  case extract x i => rw [h x (by simp)]
  case slice t x lo hi mx =>
    cases mx with
    | some z => rfl
    | none =>
      have e1 := evXo_congr (s := s) (a := a) (a' := a') lo (fun y hy => h y (by subst hy; simp))
      have e2 := evXo_congr (s := s) (a := a) (a' := a') hi (fun y hy => h y (by subst hy; simp))
      simp only [h x (by simp), e1, e2]
  case makeFunc f fs cs =>
    have e1 := evXs_congr (s := s) (a := a) (a' := a') fs.toList (fun y hy => h y (by simp at hy ⊢; exact .inl hy))
    have e2 := evXs_congr (s := s) (a := a) (a' := a') cs.toList (fun y hy => h y (by simp at hy ⊢; exact .inr hy))
    simp only [e1, e2]
  case nilCheck x => rw [h x (by simp)]
  case binOp op t x y t2 => rw [h x (by simp), h y (by simp)]
  case convert src dst x => rw [h x (by simp)]
  case makeMap t r => cases r <;> rfl
  case insert t x k y => rw [h x (by simp), h k (by simp), h y (by simp)]
  case mapUpdate t x k y => rw [h x (by simp), h k (by simp), h y (by simp)]
  case lookup t x k ok => rw [h x (by simp), h k (by simp)]
  case call c =>
    have ha : ∀ x ∈ c.args.toList, evX s a x = evX s a' x := fun x hx => h x (by simp at hx; simp [Call.operands, hx])
    cases hcal : c.callee with
    | invoke r n => rfl
    | value f =>
      dsimp only
      split
      · rename_i x hx
        rw [hx] at ha
        rw [ha x (by simp), h f (by simp [Call.operands, hcal])]
      · rfl
    | builtin bi =>
      cases bi <;> dsimp only
      case len =>
        split
        · rename_i x el hx hu
          rw [hx] at ha
          rw [ha x (by simp)]
        · rename_i x kt et hx hu
          rw [hx] at ha
          rw [ha x (by simp)]
        · rfl
      case append =>
        split
        · rename_i x y t t' hx hu
          rw [hx] at ha
          rw [ha x (by simp), ha y (by simp)]
        · rfl
      case unsafeSliceData =>
        split
        · rename_i x hx
          rw [hx] at ha
          rw [ha x (by simp)]
        · rfl
      case unsafeString =>
        split
        · rename_i x y pt it hx hu
          rw [hx] at ha
          rw [ha x (by simp), ha y (by simp)]
        · rfl
theorem callTab_congr {P : Program} {s : St} {a a' : Sls} (op : Op) (h : ∀ x ∈ op.operands, evX s a x = evX s a' x) : callTab op P s a = callTab op P s a' := by
  cases op <;> simp only [callTab]
  rename_i c
  simp only [Op.operands] at h
  cases hc : c.callee with
  | value f =>
    simp only []
    have hf := h f (by simp [Call.operands, hc])
    have e := evXs_congr (s := s) (a := a) (a' := a') c.args.toList (fun x hx => h x (by simp at hx; simp [Call.operands, hx]))
    rw [hf, e]
  | _ => rfl
theorem evFlat_congr {P : Program} {s : St} {a a' : Sls} {o : Oper} (h : ∀ x ∈ o.op.operands, evX s a x = evX s a' x) : evFlat P s a o = evFlat P s a' o := by
  unfold evFlat
  have e1 : (o.op.operands.toList.all fun x => closedO (evX s a x)) = (o.op.operands.toList.all fun x => closedO (evX s a' x)) := by
    rw [Bool.eq_iff_iff, List.all_eq_true, List.all_eq_true]
    constructor
    · intro q x hx; rw [← h x (by simpa using hx)]; exact q x hx
    · intro q x hx; rw [h x (by simpa using hx)]; exact q x hx
  rw [e1]
  cases hn : noSelect o.op with
  | false => rfl
  | true =>
    have e2 : execOp (fun x => (evX s a x).getD undef) o = execOp (fun x => (evX s a' x).getD undef) o := execOp_congr o (fun cs b hh => by rw [hh] at hn; cases hn) (fun x hx => by rw [h x hx])
    rw [e2]
theorem evO_congr {P : Program} {call : CallF} {nm : Option Nat} {ops : Array Oper} {o : Oper} {a a' : Sls} {s : St} (h : ∀ t ∈ o.looksAt ops, gets a t = gets a' t) : evO P call nm ops o a s = evO P call nm ops o a' s := by
  have hx : ∀ (s : St) x, x ∈ o.op.operands → evX s a x = evX s a' x := fun s x hx => evX_congr fun t ht => h t (List.mem_append_left _ (List.mem_filterMap.2 ⟨x, by simpa using hx, by rw [ht]⟩))
  have hw : wantedTab ops o.guard a = wantedTab ops o.guard a' := by
    cases hg : o.guard with
    | none => rfl
    | some g =>
      obtain ⟨j, want⟩ := g
      have hy : yieldedL ops a j = yieldedL ops a' j := by
        unfold yieldedL
        cases hd : (ops[j]?).bind (·.dst) with
        | none => rfl
        | some d =>
          have := h d (List.mem_append_right _ (by simp [hg, hd]))
          simp only [this]
      simp only [wantedTab, hy]
  unfold evO evPlain evOp
  rw [hw, callTab_congr o.op (hx s), evTab_congr o.op (hx _), evFlat_congr (hx _)]
def isAct : Op → Bool
  | .store .. | .alloc _ | .box .. | .buildSlice .. | .makeSlice .. | .makeMap .. | .insert .. | .mapUpdate .. => true
  | .call c => match c.callee with
    | .builtin .len | .builtin .min | .builtin .max | .builtin .cap | .builtin .unsafeSliceData => false
    | _ => true
  | _ => false
theorem evTab_still {P : Program} {s s' : St} {a : Sls} {o : Oper} {r : Option Value} (op : Op) (h : isAct op = false) (e : evTab op P s a o = some (r, s')) : s' = s := by
  generalize hq : op = op' at e h
  cases op' <;> simp only [evTab] at e <;> first | (cases e; done) | (simp [isAct] at h; done) | skip
  case call c =>
    simp only [isAct] at h
    cases hcal : c.callee with
    | invoke r n => rw [hcal] at h; cases h
    | value f => rw [hcal] at h; cases h
    | builtin bi =>
      rw [hcal] at h e
      cases bi <;> dsimp only at h e <;> first | (cases h; done) | (cases e; done) | skip
      · split at e
        · split at e
          · obtain ⟨v, hv, e⟩ := Option.map_eq_some_iff.1 e
            cases e; rfl
          · cases e
        · split at e
          · obtain ⟨v, hv, e⟩ := Option.map_eq_some_iff.1 e
            cases e; rfl
          · cases e
        · cases e
      · split at e
        · split at e
          · obtain ⟨v, hv, e⟩ := Option.map_eq_some_iff.1 e
            cases e; rfl
          · cases e
        · cases e
  case slice t x lo hi mx =>
    cases mx with
    | some z => cases e
    | none =>
      simp only [] at e
      split at e
      · obtain ⟨v, hv, e⟩ := Option.map_eq_some_iff.1 e
        cases e; rfl
      · cases e
  case index t x i =>
    split at e
    · cases hb : isStr P t <;> rw [hb] at e
      · rw [cond_false] at e
        obtain ⟨v, hv, e⟩ := Option.map_eq_some_iff.1 e
        cases e; rfl
      · rw [cond_true] at e
        obtain ⟨v, hv, e⟩ := Option.map_eq_some_iff.1 e
        cases e; rfl
    · cases e
  all_goals first
    | (obtain ⟨v, hv, e⟩ := Option.map_eq_some_iff.1 e; cases e; rfl)
    | (split at e <;> first | (cases e; done) | (obtain ⟨v, hv, e⟩ := Option.map_eq_some_iff.1 e; cases e; rfl) | (cases e; rfl))
theorem evO_still {P : Program} {call : CallF} {ops : Array Oper} {o : Oper} {a : Sls} {s s' : St} {v : Value} (h : isAct o.op = false) (e : evO P call none ops o a s = some (v, s')) : s'.heap = s.heap ∧ s'.next = s.next ∧ s'.res = s.res := by
  unfold evO at e
  cases hw : wantedTab ops o.guard a with
  | false => rw [hw, sel_false] at e; cases e; exact ⟨rfl, rfl, rfl⟩
  | true =>
    rw [hw, sel_true] at e
    unfold evPlain at e
    have hct : callTab o.op P s a = none := by
      generalize o.op = op at h
      cases op <;> simp only [callTab]
      rename_i c
      simp only [isAct] at h
      cases hc : c.callee with
      | value f => rw [hc] at h; cases h
      | _ => rfl
    rw [hct] at e
    simp only [resOk, sel_true] at e
    split at e
    · rename_i v0 s0 hop
      cases e
      unfold evOp at hop
      split at hop
      · rename_i r hr
        cases hop
        have := evTab_still o.op h hr
        subst this
        exact ⟨rfl, rfl, rfl⟩
      · split at hop
        · cases hop; exact ⟨rfl, rfl, rfl⟩
        · cases hop
    · cases e
end Go.Proofs.YtabpfolbemmhlaaGreatDoor.Ev
