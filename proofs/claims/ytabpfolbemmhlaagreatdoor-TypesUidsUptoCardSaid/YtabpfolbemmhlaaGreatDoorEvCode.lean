/-
  A checked evaluator of concrete calls, 8: lists of operations, code, calls (regions that draw their order: not yet). No walk.
-/
import Derived.Test.YtabpfolbemmhlaaGreatDoorEvOp
namespace Go.Proofs.YtabpfolbemmhlaaGreatDoor.Ev
open Go.ChangeShapes Go.WideShapes Go.ChangeAt Go.RowKit
open Go.Proofs.YtabpfolbemmhlaaGreatDoor.Mem
variable {N : Nat}
set_option linter.unusedVariables false
set_option linter.unusedSimpArgs false
/-! ### a loop, round by round -/
def LoopIn (P : Program) (c : Code) (Q : Exit → Act → World → Prop) : Nat → Act → World → Prop
  | 0 => fun _ _ => False
  | k + 1 => fun a w => c.wp P (Exit.then (LoopIn P c Q k) Q) a w
open Classical in
theorem wp_loop_in {P : Program} {c : Code} {Q : Exit → Act → World → Prop} {k : Nat} {a : Act} {w : World} (h : LoopIn P c Q k a w) : (Code.loop c).wp P Q a w := by
  have least : ∀ a w, (∃ k, LoopIn P c Q k a w) → ∃ k, LoopIn P c Q k a w ∧ ∀ j, LoopIn P c Q j a w → k ≤ j := by
    intro a w ⟨k, hk⟩
    induction k using Nat.strongRecOn with
    | _ k ih =>
      by_cases hq : ∃ j, LoopIn P c Q j a w ∧ j < k
      · obtain ⟨j, hj, hlt⟩ := hq; exact ih j hlt hj
      · exact ⟨k, hk, fun j hj => Nat.le_of_not_lt fun hlt => hq ⟨j, hj, hlt⟩⟩
  refine wp_loop (fun a w => ∃ k, LoopIn P c Q k a w) (fun a w => if h : ∃ k, LoopIn P c Q k a w then (least a w h).choose else 0) ⟨k, h⟩ fun a w hI => ?_
  have hspec := (least a w hI).choose_spec
  simp only [dif_pos hI]
  generalize (least a w hI).choose = n at hspec
  obtain ⟨h1, h2⟩ := hspec
  cases n with
  | zero => exact h1.elim
  | succ n =>
    refine Code.wp_mono (fun e a' w' q => ?_) h1
    cases e <;> first | exact q | skip
    have hI' : ∃ k, LoopIn P c Q k a' w' := ⟨n, q⟩
    refine ⟨hI', ?_⟩
    simp only [dif_pos hI']
    exact Nat.lt_succ_of_le ((least a' w' hI').choose_spec.2 n q)
/-! ### what is answered -/
noncomputable def evResult (P : Program) (s : St) (a : Sls) : ResultVar → Option Value
  | .tmp t => some (gets a t)
  | .cell t ty => evLoad P s ty (gets a t)
noncomputable def evResults (P : Program) (s : St) (a : Sls) : List ResultVar → Option (List Value)
  | [] => some []
  | r :: rs => match evResult P s a r, evResults P s a rs with
    | some v, some l => some (v :: l)
    | _, _ => none
def packed (l : List Value) : Value := match l with
  | [v] => v
  | l => .tuple l.toArray
def resOne (tmps : Array Value) : ResultVar → Sem Value
  | .tmp t => pure (tmps.getD t undef)
  | .cell a t => do loadVar t (← asAddr (tmps.getD a undef))
theorem results_eq (fn : Func) (tmps : Array Value) : results fn tmps = (do let vs ← fn.results.mapM (resOne tmps); pure (if h : vs.size = 1 then vs[0] else .tuple vs)) := rfl
theorem evResults_sound {P : Program} {m : Mu} {s : St} {B : Nat} {W : World} (h : Holds m s B W) {a : Sls} {A : Act} (ha : RS N m a A) {fn : Func} {l : List Value} (e : evResults P s a fn.results.toList = some l) :
    ∃ v', (results fn A.tmps).run P W = .ok v' W ∧ R m (packed l) v' := by
  have key : ∀ (rs : List ResultVar) (l : List Value), evResults P s a rs = some l → ∃ l', (rs.mapM (resOne A.tmps)).run P W = .ok l' W ∧ RL m l l' := by
    intro rs
    induction rs with
    | nil => intro l e; cases e; exact ⟨[], rfl, .nil⟩
    | cons r rs ih =>
      intro l e
      simp only [evResults] at e
      split at e
      · rename_i v k hv hk
        cases e
        obtain ⟨k', h1, h2⟩ := ih _ hk
        have hone : ∃ v', (resOne A.tmps r).run P W = .ok v' W ∧ R m v v' := by
          cases r with
          | tmp t => cases hv; exact ⟨_, rfl, ha.slot t⟩
          | cell t ty =>
            simp only [evResult] at hv
            have hr := ha.slot t
            obtain ⟨v', g1, g2⟩ := evLoad_sound h hr hv
            refine ⟨v', ?_, g2⟩
            show (do loadVar ty (← asAddr (A.tmps.getD t undef)) : Sem Value).run P W = _
            generalize A.tmps.getD t undef = y at hr g1 ⊢
            generalize gets a t = z at hr hv
            cases hr <;> first | (simp [evLoad] at hv; done) | skip
            simpa [Instr.loadAt, Instr.sureAddr, asAddr, Sem.run_bind] using g1
        obtain ⟨v', g1, g2⟩ := hone
        refine ⟨v' :: k', ?_, .cons g2 h2⟩
        rw [List.mapM_cons]
        simp only [Sem.run_bind, g1, Result.andThen_ok, h1, Sem.run_pure]
      · cases e
  obtain ⟨l', h1, h2⟩ := key _ _ e
  have hlen := h2.length
  refine ⟨packed l', ?_, ?_⟩
  · rw [results_eq, Array.mapM_eq_mapM_toList]
    simp only [Sem.run_bind, map_eq_pure_bind, h1, Result.andThen_ok, Sem.run_pure]
    match l' with
    | [] => rfl
    | [v] => rfl
    | _ :: _ :: _ => rfl
  · match l, l', h2 with
    | [], [], h2 => exact .tuple _ _ h2
    | [v], [v'], .cons h _ => exact h
    | _ :: _ :: _, _ :: _ :: _, h2 => exact .tuple _ _ h2
end Go.Proofs.YtabpfolbemmhlaaGreatDoor.Ev
