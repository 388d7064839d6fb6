/-
  What is laid, seen from within an evaluation: the variables that are read by name still read so. No walk.
-/
import Derived.Test.YtklclfolmfhocaaGreatDoorEvKept
namespace Go.Proofs.YtklclfolmfhocaaGreatDoor.Ev
open Go.ChangeShapes Go.WideShapes Go.ChangeAt Go.RowKit
open Go.Proofs.YtklclfolmfhocaaGreatDoor.Mem
set_option linter.unusedVariables false
set_option linter.unusedSimpArgs false
theorem rl_scal {m : Mu} : ∀ {cs rl : List Value}, cs.all scalB = true → RL m cs rl → rl = cs := by
  intro cs
  induction cs with
  | nil => intro rl _ h; cases h; rfl
  | cons v cs ih =>
    intro rl hs h
    simp only [List.all_cons, Bool.and_eq_true] at hs
    cases h with
    | cons h1 h2 =>
      rw [ih hs.2 h2]
      congr 1
      refine h1.flat_eq ?_
      cases v <;> simp_all [scalB, flat]
theorem Holds.seen {m : Mu} {s : St} {B : Nat} {W : World} (h : Holds m s B W) {g : Nat} (hg : g < 2 ^ 40) {cs : List Value} (hs : cs.all scalB = true) (e : eqCells (s.get g) (some ⟨cs, 0, none, true⟩) = true) : ∀ j (hj : j < cs.length), W.cell? ⟨g, j, none⟩ = some cs[j] := by
  have hc := eqCells_eq e
  obtain ⟨l, h1, h2⟩ := h.at' g _ hg hc
  obtain ⟨cap, h3⟩ := h.glob g _ hg hc rfl
  rw [h3] at h1; cases h1
  obtain ⟨rl, h4, h5⟩ := h2.cell
  have := rl_scal hs h4
  subst this
  exact h5
noncomputable def seenS (s : St) : Bool := eqCells (s.get 4) (some ⟨signC, 0, none, true⟩)
noncomputable def seenO (s : St) : Bool := seenS s && eqCells (s.get 3) (some ⟨operC, 0, none, true⟩)
theorem seenS_laid {m : Mu} {s : St} {B : Nat} {W : World} (h : Holds m s B W) (e : seenS s = true) : LaidS W := ⟨h.keep.laid, h.seen (by decide) (by kernel_rfl) e⟩
theorem seenO_laid {m : Mu} {s : St} {B : Nat} {W : World} (h : Holds m s B W) (e : seenO s = true) : Laid W := by
  unfold seenO at e
  rw [Bool.and_eq_true] at e
  exact ⟨h.keep.laid, h.seen (by decide) (by kernel_rfl) e.1, h.seen (by decide) (by kernel_rfl) e.2⟩
/-- one more leaf: a call at these texts -/
noncomputable def withK (seen : St → Bool) (f0 : FuncId) (args0 : List Value) (k : Kept) (orc : CallF) : CallF := fun f args s =>
  sel (Nat.beq f f0 && eqVs args args0) (sel (seen s) (useK k s) none) (orc f args s)
theorem withK_ok {D : World → Prop} {seen : St → Bool} (hs : ∀ {m : Mu} {s : St} {B : Nat} {W : World}, Holds m s B W → seen s = true → D W) {f0 : FuncId} {args0 : List Value} {k : Kept} (ha : args0.all scalB = true) (hk : KeptAns D f0 args0 k) {orc : CallF} (ho : CallOk Tryz.prog orc) :
    CallOk Tryz.prog (withK seen f0 args0 k orc) := by
  intro f args s v s' e m B W args' h hargs
  unfold withK at e
  cases hb : (Nat.beq f f0 && eqVs args args0) with
  | false => rw [hb] at e; exact ho f args s v s' e m B W args' h hargs
  | true =>
    rw [hb] at e
    rw [Bool.and_eq_true] at hb
    have e1 := Nat.eq_of_beq_eq_true hb.1
    have e2 := eqVs_eq _ _ hb.2
    subst e1 e2
    have e3 := rl_scal ha hargs
    subst e3
    cases hq : seen s with
    | false => rw [sel_true, hq] at e; cases e
    | true =>
      rw [sel_true, hq, sel_true] at e
      exact useK_ok hk e h (hs h hq)
/-- as 'answers', with any leaves -/
theorem answers_with {D : World → Prop} {m : Mu} {st : St} (hD : ∀ W, D W → Begun m st W.heap.size W) {orc : CallF} (ho : CallOk Tryz.prog orc) {f n : Nat} {args : List Value} {v : Value} {s' : St} (e : evCall Tryz.prog (evDraw Tryz.prog) orc n f args st = some (v, s')) (ha : args.all scalB = true) (hv : flat v = true) {W : World} (h : D W) :
    Calls Tryz.prog f args.toArray W fun e W' => e = .returned v ∧ Below W.heap.size W W' := by
  refine (evCall_sound (evDraw_ok Tryz.prog) ho n f args st v s' e m W.heap.size W args (hD W h).holds (scal_rl _ _ ha)).mono ?_
  rintro e' W' ⟨m', v', rfl, hr, _, _, hb⟩
  rw [hr.flat_eq hv]
  exact ⟨rfl, hb⟩
end Go.Proofs.YtklclfolmfhocaaGreatDoor.Ev
