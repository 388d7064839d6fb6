/-
  A checked evaluator of concrete calls, 5: operations on memory and on values that hold addresses. No walk.
-/
import Derived.Test.YtabpfolbemmhlaaGreatDoorEvOps
namespace Go.Proofs.YtabpfolbemmhlaaGreatDoor.Ev
open Go.ChangeShapes Go.WideShapes Go.ChangeAt Go.RowKit
open Go.Proofs.YtabpfolbemmhlaaGreatDoor.Mem
set_option linter.unusedVariables false
set_option linter.unusedSimpArgs false
theorem underlying_run {P : Program} {t : TypeId} {d : TypeDesc} (h : P.underlying t = some d) (W : World) : (underlying t).run P W = .ok d W := run_underlying h W
/-- a part of a row of cells -/
noncomputable def evPart (P : Program) (t : TypeId) (cs : List Value) (off : Nat) : Option Value :=
  match isAggB P t, sizeB P t with
  | some true, some k => some (.agg ((cs.drop off).take k).toArray)
  | some false, _ => cs[off]?
  | _, _ => none
theorem evPart_sound {P : Program} {m : Mu} {t : TypeId} {a a' : Array Value} (h : RL m a.toList a'.toList) (off : Nat) {v : Value} (e : evPart P t a.toList off = some v) (W : World) : ∃ v', (part t a' off).run P W = .ok v' W ∧ R m v v' := by
  unfold evPart at e
  split at e
  · rename_i k hag hk
    cases e
    refine ⟨.agg (a'.extract off (off + k)), ?_, .agg _ _ ?_⟩
    · simp [part, Sem.run_bind, isAgg_run hag W, sizeOf_run hk W]
    · have := (h.drop off).take k
      simpa [Array.toList_extract, List.extract_eq_take_drop] using this
  · rename_i hag
    obtain ⟨y, hy, hr⟩ := h.get off e
    rw [Array.getElem?_toList] at hy
    refine ⟨y, ?_, hr⟩
    simp [part, Sem.run_bind, isAgg_run hag W, hy]
  · cases e
def fieldB (P : Program) (t : TypeId) (f : Nat) : Option Field :=
  match P.underlying t with
  | some (.struct fs) => fs[f]?
  | _ => none
noncomputable def evField (P : Program) (t : TypeId) (x : Value) (f : Nat) : Option Value :=
  match x, fieldB P t f with
  | .agg cs, some F => evPart P F.type cs.toList F.offset
  | _, _ => none
theorem evField_sound {P : Program} {m : Mu} {t : TypeId} {x x' v : Value} (h : R m x x') (f : Nat) (e : evField P t x f = some v) (W : World) : ∃ v', (Instr.field t x' f).run P W = .ok v' W ∧ R m v v' := by
  unfold evField at e
  split at e
  · rename_i cs F hF
    cases h with
    | agg a b h =>
      unfold fieldB at hF
      split at hF
      · rename_i fs hu
        obtain ⟨v', h1, h2⟩ := evPart_sound (P := P) h F.offset e W
        refine ⟨v', ?_, h2⟩
        simp [Instr.field, Sem.run_bind, underlying_run hu W, hF, asAgg, h1]
      · cases hF
  · cases e
noncomputable def evFieldAddr (P : Program) (t : TypeId) (x : Value) (f : Nat) : Option Value :=
  match x, fieldB P t f with
  | .pointer (some ⟨n, o, none⟩), some F => match sizeB P F.type with | some k => if k = 0 then none else some (.pointer (some ⟨n, o + F.offset, none⟩)) | none => none
  | _, _ => none
theorem evFieldAddr_sound {P : Program} {m : Mu} {t : TypeId} {x x' v : Value} (h : R m x x') (f : Nat) (e : evFieldAddr P t x f = some v) (W : World) : ∃ v', (Instr.fieldAt t x' f).run P W = .ok v' W ∧ R m v v' := by
  unfold evFieldAddr at e
  split at e
  · rename_i n o F hF
    cases h with
    | ptr _ _ l hl =>
      split at e
      · rename_i k hk
        split at e
        · cases e
        · rename_i hk0
          cases e
          unfold fieldB at hF
          split at hF
          · rename_i fs hu
            refine ⟨_, ?_, .ptr n (o + F.offset) l hl⟩
            simp [Instr.fieldAt, Sem.run_bind, underlying_run hu W, hF, Instr.sureAddr, fieldPlace, sizeOf_run hk W, hk0, Mem.add_plain]
          · cases hF
      · cases e
  · cases e
noncomputable def evIndexAddr (P : Program) (t : TypeId) (x i : Value) : Option Value :=
  match P.underlying t, x, i with
  | some (.slice el), .slice (some ⟨n, o, none⟩) len _, .int _ j => match sizeB P el with | some k => if 0 ≤ j ∧ j < len then some (.pointer (some ⟨n, o + j.toNat * k, none⟩)) else none | none => none
  | some (.array len el), .pointer (some ⟨n, o, none⟩), .int _ j => match sizeB P el with | some k => if 0 ≤ j ∧ j < len then some (.pointer (some ⟨n, o + j.toNat * k, none⟩)) else none | none => none
  | _, _, _ => none
theorem evIndexAddr_sound {P : Program} {m : Mu} {t : TypeId} {x x' i i' v : Value} (h : R m x x') (g : R m i i') (e : evIndexAddr P t x i = some v) (W : World) : ∃ v', (Instr.indexAt t x' i').run P W = .ok v' W ∧ R m v v' := by
  unfold evIndexAddr at e
  split at e
  · rename_i el n o len c kk j hu
    cases h with
    | slice _ _ _ _ l hl hc hm =>
      cases g
      split at e
      · rename_i k hk
        split at e
        · rename_i hj
          cases e
          refine ⟨_, ?_, .ptr n (o + j.toNat * k) l hl⟩
          simp [Instr.indexAt, Sem.run_bind, underlying_run hu W, asIntOf, hj, sizeOf_run hk W, Mem.add_plain]
        · cases e
      · cases e
  · rename_i len el n o kk j hu
    cases h with
    | ptr _ _ l hl =>
      cases g
      split at e
      · rename_i k hk
        split at e
        · rename_i hj
          cases e
          refine ⟨_, ?_, .ptr n (o + j.toNat * k) l hl⟩
          simp [Instr.indexAt, Sem.run_bind, underlying_run hu W, asIntOf, hj, sizeOf_run hk W, Mem.add_plain, Instr.sureAddr]
        · cases e
      · cases e
  · cases e
noncomputable def evIndex (P : Program) (t : TypeId) (x i : Value) : Option Value :=
  match P.underlying t, x, i with
  | some (.array len el), .agg cs, .int _ j => match sizeB P el with | some k => if 0 ≤ j ∧ j < len then evPart P el cs.toList (j.toNat * k) else none | none => none
  | _, _, _ => none
theorem evIndex_sound {P : Program} {m : Mu} {t : TypeId} {x x' i i' v : Value} (h : R m x x') (g : R m i i') (e : evIndex P t x i = some v) (W : World) : ∃ v', (Instr.index t x' i').run P W = .ok v' W ∧ R m v v' := by
  unfold evIndex at e
  split at e
  · rename_i len el cs kk j hu
    cases h with
    | agg a b h =>
      cases g
      split at e
      · rename_i k hk
        split at e
        · rename_i hj
          obtain ⟨v', h1, h2⟩ := evPart_sound (P := P) h _ e W
          exact ⟨v', by simp [Instr.index, Sem.run_bind, underlying_run hu W, asIntOf, hj, sizeOf_run hk W, h1], h2⟩
        · cases e
      · cases e
  · cases e
noncomputable def evExtract (x : Value) (i : Nat) : Option Value :=
  match x with
  | .tuple vs => vs.toList[i]?
  | _ => none
theorem evExtract_sound {P : Program} {m : Mu} {x x' v : Value} (h : R m x x') (i : Nat) (e : evExtract x i = some v) (W : World) : ∃ v', (Instr.extract x' i).run P W = .ok v' W ∧ R m v v' := by
  unfold evExtract at e
  split at e
  · cases h with
    | tuple a b h =>
      obtain ⟨y, hy, hr⟩ := h.get i e
      rw [Array.getElem?_toList] at hy
      exact ⟨y, by simp [Instr.extract, hy], hr⟩
  · cases e
noncomputable def evNilCheck (x : Value) : Option Value :=
  match x with
  | .pointer (some _) => some x
  | .func (.func _) _ _ => some x
  | _ => none
noncomputable def evLen (x : Value) : Option Value :=
  match x with
  | .slice _ n _ => some (.int .i64 n)
  | _ => none
/-- a slice of a slice -/
noncomputable def evSlice (P : Program) (t : TypeId) (x : Value) (lo hi : Option Value) : Option Value :=
  match P.underlying t, x with
  | some (.slice el), .slice (some ⟨n, o, none⟩) len e =>
    match sizeB P el, (match lo with | none => some (0 : Int) | some (.int _ j) => some j | _ => none), (match hi with | none => some (len : Int) | some (.int _ j) => some j | _ => none) with
    | some k, some l, some h => if 0 ≤ l ∧ l ≤ h ∧ h ≤ len ∧ (l = 0 ∨ l < h) then some (.slice (some ⟨n, o + l.toNat * k, none⟩) (h.toNat - l.toNat) (e + l.toNat)) else none
    | _, _, _ => none
  | _, _ => none
theorem sliceBound_run {P : Program} {k : IntKind} {j : Int} {y : Nat} {code : BoundsCode} (h : 0 ≤ j ∧ j ≤ y) (W : World) : (Instr.sliceBound (.int k j) y code).run P W = .ok j.toNat W := by
  simp [Instr.sliceBound, Sem.run_bind, asIntOf, h]
theorem evSlice_sound {P : Program} {m : Mu} {t : TypeId} {x x' v : Value} {lo hi lo' hi' : Option Value} (h : R m x x') (gl : ∀ u, lo = some u → ∃ u', lo' = some u' ∧ R m u u') (gl0 : lo = none → lo' = none) (gh : ∀ u, hi = some u → ∃ u', hi' = some u' ∧ R m u u') (gh0 : hi = none → hi' = none)
    (e : evSlice P t x lo hi = some v) (W : World) : ∃ v', (Instr.sliceAt t x' lo' hi' none).run P W = .ok v' W ∧ R m v v' := by
  unfold evSlice at e
  split at e
  · rename_i el n o len c hu
    cases h with
    | slice _ _ _ _ l hl hc hm =>
      split at e
      · rename_i k lv hv hk hlo hhi
        split at e
        · rename_i hq
          obtain ⟨q1, q2, q3, q4⟩ := hq
          cases e
          have hcap : (len : Int) ≤ ((l.cap - c : Nat) : Int) := by omega
          have hne : lv = 0 ∨ l.cap - c ≠ lv.toNat := by omega
          have hh : hv.toNat ≤ l.cap - c := by omega
          have hll : lv.toNat ≤ hv.toNat := by omega
          have H : (hi' = none ∧ hv = len) ∨ ∃ kk, hi' = some (.int kk hv) := by
            cases hi with
            | none => exact .inl ⟨gh0 rfl, by simpa using hhi.symm⟩
            | some u =>
              obtain ⟨u', rfl, hr⟩ := gh u rfl
              cases hr <;> simp only at hhi <;> first | cases hhi | skip
              exact .inr ⟨_, rfl⟩
          have L : (lo' = none ∧ lv = 0) ∨ ∃ kk, lo' = some (.int kk lv) := by
            cases lo with
            | none => exact .inl ⟨gl0 rfl, by simpa using hlo.symm⟩
            | some u =>
              obtain ⟨u', rfl, hr⟩ := gl u rfl
              cases hr <;> simp only at hlo <;> first | cases hlo | skip
              exact .inr ⟨_, rfl⟩
          have b1 : ∀ kk code, (Instr.sliceBound (.int kk hv) (l.cap - c) code).run P W = .ok hv.toNat W := fun kk code => sliceBound_run ⟨by omega, by omega⟩ W
          have b2 : ∀ kk code, (Instr.sliceBound (.int kk lv) hv.toNat code).run P W = .ok lv.toNat W := fun kk code => sliceBound_run ⟨by omega, by omega⟩ W
          have rb : (Instr.sliceBounds true len (l.cap - c) lo' hi' none).run P W = .ok (lv.toNat, hv.toNat, l.cap - c) W := by
            rcases H with ⟨rfl, e1⟩ | ⟨kk, rfl⟩ <;> rcases L with ⟨rfl, e2⟩ | ⟨kk2, rfl⟩
            · subst e1 e2; simp [Instr.sliceBounds, Sem.run_bind]
            · subst e1
              have b2' : ∀ code, (Instr.sliceBound (.int kk2 lv) len code).run P W = .ok lv.toNat W := fun code => by have := b2 kk2 code; rwa [Int.toNat_natCast] at this
              simp [Instr.sliceBounds, Sem.run_bind, b2']
            · subst e2; simp [Instr.sliceBounds, Sem.run_bind, b1]
            · simp [Instr.sliceBounds, Sem.run_bind, b1, b2]
          have ha : (if l.cap - c = lv.toNat then some (⟨l.blk, o, none⟩ : Addr) else (some (⟨l.blk, o, none⟩ : Addr)).map (·.add (lv.toNat * k))) = some ⟨l.blk, o + lv.toNat * k, none⟩ := by
            rcases hne with h0 | h0
            · subst h0; simp [Mem.add_plain]
            · rw [if_neg h0]; simp [Mem.add_plain]
          have hcap2 : l.cap - c - lv.toNat = l.cap - (c + lv.toNat) := by omega
          refine ⟨.slice (some ⟨l.blk, o + lv.toNat * k, none⟩) (hv.toNat - lv.toNat) (l.cap - (c + lv.toNat)), ?_, .slice n _ _ _ l hl (by omega) hm⟩
          simp [Instr.sliceAt, Instr.slice, Sem.run_bind, underlying_run hu W, rb, sizeOf_run hk W, hcap2]
          exact ha
        · cases e
      · cases e
  · cases e
end Go.Proofs.YtabpfolbemmhlaaGreatDoor.Ev
