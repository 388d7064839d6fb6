/-
  A checked evaluator of concrete calls, 6: values and rows that are built of parts. No walk.
-/
import Derived.Test.YtabpfolbemmhlaaGreatDoorEvOps2
namespace Go.Proofs.YtabpfolbemmhlaaGreatDoor.Ev
open Go.ChangeShapes Go.WideShapes Go.ChangeAt Go.RowKit
open Go.Proofs.YtabpfolbemmhlaaGreatDoor.Mem
variable {N : Nat}
set_option linter.unusedVariables false
set_option linter.unusedSimpArgs false
theorem foldSet_rel {m : Mu} (off : Nat) : ∀ (l l' : List Value) (j : Nat) (cs cs' : Array Value), RL m l l' → RL m cs.toList cs'.toList →
    RL m ((l.zipIdx j).foldl (fun (cs : Array Value) (p : Value × Nat) => cs.setIfInBounds (off + p.2) p.1) cs).toList ((l'.zipIdx j).foldl (fun (cs : Array Value) (p : Value × Nat) => cs.setIfInBounds (off + p.2) p.1) cs').toList := by
  intro l
  induction l with
  | nil => intro l' j cs cs' h g; cases h; exact g
  | cons x l ih =>
    intro l' j cs cs' h g
    cases h with
    | cons h h2 =>
      simp only [List.zipIdx_cons, List.foldl_cons]
      refine ih _ _ _ _ h2 ?_
      rw [Array.toList_setIfInBounds, Array.toList_setIfInBounds]
      exact g.set _ h
/-- parts, as they stand for each other -/
inductive PL (m : Mu) : List (Nat × Value) → List (Nat × Value) → Prop
  | nil : PL m [] []
  | cons {i : Nat} {x y : Value} {l k : List (Nat × Value)} (h : R m x y) (g : PL m l k) : PL m ((i, x) :: l) ((i, y) :: k)
theorem fill_rel {m : Mu} (place : Nat → Option (Nat × Nat)) : ∀ (ps ps' : List (Nat × Value)) (cs cs' r : Array Value), PL m ps ps' → RL m cs.toList cs'.toList → Instr.fill place cs ps = some r → ∃ r', Instr.fill place cs' ps' = some r' ∧ RL m r.toList r'.toList := by
  intro ps
  induction ps with
  | nil => intro ps' cs cs' r h g e; cases h; cases e; exact ⟨_, rfl, g⟩
  | cons p ps ih =>
    intro ps' cs cs' r h g e
    cases h with
    | cons h h2 =>
      rename_i i x y k
      have hl1 : y.cells.size = x.cells.size := by simpa using h.cells.length.symm
      have hl2 : cs'.size = cs.size := by simpa using g.length.symm
      simp only [Instr.fill] at e ⊢
      cases hp : place i with
      | none => rw [hp] at e; cases e
      | some q =>
        obtain ⟨off, size⟩ := q
        rw [hp] at e
        simp only at e ⊢
        rw [hl1, hl2]
        split at e
        · cases e
        · rename_i hq
          rw [if_neg hq]
          refine ih _ _ _ _ h2 ?_ e
          have e3 : ∀ (v cs : Array Value), v.zipIdx.foldl (fun cs (x : Value × Nat) => cs.setIfInBounds (off + x.2) x.1) cs = (v.toList.zipIdx 0).foldl (fun cs (x : Value × Nat) => cs.setIfInBounds (off + x.2) x.1) cs := fun v cs => by
            rw [← Array.foldl_toList, Array.toList_zipIdx]
          have := foldSet_rel (m := m) off x.cells.toList y.cells.toList 0 cs cs' h.cells g
          rw [← e3, ← e3] at this
          exact this
noncomputable def evParts (s : St) (a : Sls) : List (Nat × Operand) → Option (List (Nat × Value))
  | [] => some []
  | (i, x) :: r => match evX s a x, evParts s a r with
    | some v, some l => some ((i, v) :: l)
    | _, _ => none
theorem evParts_sound {m : Mu} {s : St} {B : Nat} {W : World} (h : Holds m s B W) {a : Sls} {A : Act} (ha : RS N m a A) : ∀ (ps : List (Nat × Operand)) (l : List (Nat × Value)), evParts s a ps = some l → PL m l (ps.map fun p => (p.1, A.eval p.2)) := by
  intro ps
  induction ps with
  | nil => intro l e; cases e; exact .nil
  | cons p ps ih =>
    intro l e
    obtain ⟨i, x⟩ := p
    simp only [evParts] at e
    split at e
    · rename_i v r hv hr
      cases e
      exact .cons (evX_sound h ha hv) (ih _ hr)
    · cases e
def zeroB (P : Program) (t : TypeId) : Option Value :=
  match P.info? t with
  | some i => match i.zero with
    | some z => if closed z then some z else none
    | none => none
  | none => none
theorem zero_run {P : Program} {t : TypeId} {z : Value} (h : zeroB P t = some z) (W : World) : (zeroValue t).run P W = .ok z W ∧ closed z = true := by
  unfold zeroB at h
  split at h
  · rename_i i hi
    split at h
    · rename_i z' hz
      split at h
      · rename_i hc
        cases h
        exact ⟨by simp [zeroValue, typeInfo, Sem.run_bind, hi, hz], hc⟩
      · cases h
    · cases h
  · cases h
noncomputable def evBuild (P : Program) (s : St) (a : Sls) (t : TypeId) (ps : List (Nat × Operand)) : Option Value :=
  match zeroB P t, P.underlying t, evParts s a ps with
  | some z, some (.struct fs), some l =>
    match pureV P (fs.mapM fun f => do pure (f.offset, ← sizeOf f.type)) with
    | some places => (Instr.fill (places[·]?) z.cells l).map .agg
    | none => none
  | some z, some (.array _ el), some l =>
    match sizeB P el with
    | some size => (Instr.fill (fun i => some (i * size, size)) z.cells l).map .agg
    | none => none
  | _, _, _ => none
theorem evBuild_sound {P : Program} {m : Mu} {s : St} {B : Nat} {W : World} (h : Holds m s B W) {a : Sls} {A : Act} (ha : RS N m a A) {t : TypeId} {ps : Array (Nat × Operand)} {v : Value} (e : evBuild P s a t ps.toList = some v) :
    ∃ v', (Instr.build t (ps.map fun p => (p.1, A.eval p.2))).run P W = .ok v' W ∧ R m v v' := by
  unfold evBuild at e
  split at e
  · rename_i z fs l hz hu hl
    split at e
    · rename_i places hp
      obtain ⟨h1, h2⟩ := zero_run hz W
      obtain ⟨r, hr, rfl⟩ := Option.map_eq_some_iff.1 e
      obtain ⟨r', h3, h4⟩ := fill_rel (m := m) _ _ _ _ _ _ (evParts_sound h ha _ _ hl) (R.of_closed (m := m) h2).cells hr
      refine ⟨.agg r', ?_, .agg _ _ h4⟩
      have hpr := pureV_run P W _ _ hp
      rw [← Array.toList_map] at h3
      simp only [Instr.build, Sem.run_bind, h1, Result.andThen_ok, underlying_run hu W, hpr, h3, Sem.run_pure]
    · cases e
  · rename_i z n el l hz hu hl
    split at e
    · rename_i size hs
      obtain ⟨h1, h2⟩ := zero_run hz W
      obtain ⟨r, hr, rfl⟩ := Option.map_eq_some_iff.1 e
      obtain ⟨r', h3, h4⟩ := fill_rel (m := m) _ _ _ _ _ _ (evParts_sound h ha _ _ hl) (R.of_closed (m := m) h2).cells hr
      refine ⟨.agg r', ?_, .agg _ _ h4⟩
      rw [← Array.toList_map] at h3
      simp only [Instr.build, Sem.run_bind, h1, Result.andThen_ok, underlying_run hu W, sizeOf_run hs W, h3, Sem.run_pure]
    · cases e
  · cases e
noncomputable def evBuildSlice (P : Program) (s : St) (a : Sls) (t : TypeId) (len : Nat) (ps : List (Nat × Operand)) : Option (Value × St) :=
  match P.underlying t, evParts s a ps with
  | some (.slice el), some l =>
    match sizeB P el, zeroB P el with
    | some size, some z =>
      if s.next < 2 ^ 40 ∧ 0 < len * size ∧ len * size ≤ 2 ^ 24 ∧ z.cells.size = size ∧ z.cells.toList.all flat = true then
        match Instr.fill (fun i => some (i * size, size)) ((Array.range (len * size)).map (z.cells[· % z.cells.size]!)) l with
        | some r => if r.size = len * size then some (.slice (some ⟨s.name, 0, none⟩) len 0, s.alloc r.toList el (some size)) else none
        | none => none
      else none
    | _, _ => none
  | _, _ => none
theorem evBuildSlice_sound {P : Program} {m : Mu} {s s' : St} {B : Nat} {W : World} (h : Holds m s B W) {a : Sls} {A : Act} (ha : RS N m a A) {t : TypeId} {len : Nat} {ps : Array (Nat × Operand)} {v : Value} (e : evBuildSlice P s a t len ps.toList = some (v, s')) :
    ∃ v' W' m', (Instr.buildSlice t len (ps.map fun p => (p.1, A.eval p.2))).run P W = .ok v' W' ∧ R m' v v' ∧ Sub m m' ∧ Holds m' s' B W' ∧ Below W.heap.size W W' := by
  unfold evBuildSlice at e
  split at e
  · rename_i el l hu hl
    split at e
    · rename_i size z hs hz
      split at e
      · rename_i hq
        obtain ⟨q1, q2, q3, q4, hzc⟩ := hq
        split at e
        · rename_i r hr
          split at e
          · rename_i hrs
            cases e
            obtain ⟨h1, h2⟩ := zero_run hz W
            have hzp : 0 < z.cells.size := by rw [q4]; exact Nat.pos_of_mul_pos_left q2
            have hzf : ∀ i, flat (z.cells[i % z.cells.size]!) = true := fun i => by
              have hlt : i % z.cells.size < z.cells.size := Nat.mod_lt _ hzp
              rw [getElem!_pos z.cells _ hlt]
              exact List.all_eq_true.1 hzc _ (by simp)
            have hcs : RL m ((Array.range (len * size)).map (z.cells[· % z.cells.size]!)).toList ((Array.range (len * size)).map (z.cells[· % z.cells.size]!)).toList := by
              refine RL.of_flat (List.all_eq_true.2 fun v hv => ?_)
              simp only [Array.toList_map, List.mem_map] at hv
              obtain ⟨i, _, rfl⟩ := hv
              exact hzf i
            obtain ⟨r', h3, h4⟩ := fill_rel (m := m) _ _ _ _ _ _ (evParts_sound h ha _ _ hl) hcs hr
            rw [← Array.toList_map] at h3
            have hrl : r'.size = len * size := by rw [← hrs]; simpa using h4.length.symm
            obtain ⟨g1, g2, g3⟩ := h.alloc q1 h4 el (some size) len (fun k hk => by cases hk; simpa using hrl)
            refine ⟨_, _, _, ?_, .slice s.name 0 len 0 ⟨W.heap.size, len⟩ (by simp [Mu.put]) (by simp) (by show len ≤ maxLen; have : maxLen = 9223372036854775807 := rfl; have : 0 < size := Nat.pos_of_mul_pos_left q2; have : len ≤ len * size := Nat.le_mul_of_pos_right _ this; omega), g1, g2, g3⟩
            have hn : ¬ (len * size > 2 ^ 24) := by omega
            have hn0 : ¬ (len * size = 0) := by omega
            simp only [Instr.buildSlice, Sem.run_bind, underlying_run hu W, Result.andThen_ok, sizeOf_run hs W, hn, hn0, if_false, h1, Sem.run_pure, h3]
            simp [newRow, newObj, Sem.run_bind, Sem.run]
          · cases e
        · cases e
      · cases e
    · cases e
  · cases e
end Go.Proofs.YtabpfolbemmhlaaGreatDoor.Ev
