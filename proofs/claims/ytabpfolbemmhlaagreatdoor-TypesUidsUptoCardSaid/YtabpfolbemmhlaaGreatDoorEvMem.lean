/-
  A checked evaluator of concrete calls, 3: loads, stores, new variables. No walk.
-/
import Derived.Test.YtabpfolbemmhlaaGreatDoorEvHeap
import Derived.Deep.MidRow
import Derived.Laws.Entries
namespace Go.Proofs.YtabpfolbemmhlaaGreatDoor.Ev
open Go.ChangeShapes Go.WideShapes Go.ChangeAt Go.RowKit
open Go.Proofs.YtabpfolbemmhlaaGreatDoor.Mem
set_option linter.unusedVariables false
set_option linter.unusedSimpArgs false
theorem R.one {m : Mu} {x y : Value} (h : R m x y) : y.oneCell' = x.oneCell' := by cases h <;> rfl
theorem RL.one {m : Mu} {a b : List Value} (h : RL m a b) (g : a.all (·.oneCell') = true) : ∀ v ∈ b, v.oneCell' = true := by
  induction a generalizing b with
  | nil => cases h; intro v hv; cases hv
  | cons x a ih =>
    cases h with
    | cons h k =>
      simp only [List.all_cons, Bool.and_eq_true] at g
      intro v hv
      rcases List.mem_cons.1 hv with rfl | hv
      · rw [h.one]; exact g.1
      · exact ih k g.2 v hv
theorem R.cells {m : Mu} {x y : Value} (h : R m x y) : RL m x.cells.toList y.cells.toList := by
  have h0 := h
  cases h <;> first | exact RL.cons h0 .nil | assumption
def isAggB (P : Program) (t : TypeId) : Option Bool :=
  match P.underlying t with
  | some (.struct _) | some (.array _ _) => some true
  | some _ => some false
  | none => none
def sizeB (P : Program) (t : TypeId) : Option Nat := (P.info? t).map (·.size)
theorem isAgg_run {P : Program} {t : TypeId} {b : Bool} (h : isAggB P t = some b) (W : World) : (isAgg t).run P W = .ok b W := by
  unfold isAggB at h
  cases hu : P.underlying t with
  | none => rw [hu] at h; cases h
  | some d =>
    rw [hu] at h
    unfold isAgg
    rw [Sem.run_bind, run_underlying hu W]
    cases d <;> simp_all
theorem sizeOf_run {P : Program} {t : TypeId} {k : Nat} (h : sizeB P t = some k) (W : World) : (sizeOf t).run P W = .ok k W := by
  unfold sizeB at h
  cases hi : P.info? t with
  | none => rw [hi] at h; cases h
  | some i =>
    rw [hi] at h
    have hk : i.size = k := by simpa using h
    simp [sizeOf, typeInfo, hi, hk]
noncomputable def evLoad (P : Program) (s : St) (t : TypeId) : Value → Option Value
  | .pointer (some ⟨n, o, none⟩) =>
    match s.get n, isAggB P t, sizeB P t with
    | some c, some true, some k => if o + k ≤ c.cells.length then some (.agg ((c.cells.drop o).take k).toArray) else none
    | some c, some false, _ => c.cells[o]?
    | _, _, _ => none
  | _ => none
theorem Holds.range {m : Mu} {s : St} {B : Nat} {W : World} (h : Holds m s B W) {n : Nat} {c : Cells} {l : Loc} (hc : s.get n = some c) (hl : m n = some l) (o k : Nat) :
    ∃ rl, RL m ((c.cells.drop o).take k) rl ∧ W.rangeAt l.blk o rl := by
  obtain ⟨l', h1, h2⟩ := h.at' n c (R.name_lt h hl) hc
  rw [hl] at h1; cases h1
  obtain ⟨rl, h3, h4⟩ := h2.cell
  refine ⟨(rl.drop o).take k, (h3.drop o).take k, fun j v hv => ?_⟩
  rw [List.getElem?_take] at hv
  split at hv
  · rw [List.getElem?_drop] at hv
    obtain ⟨hlt, e⟩ := List.getElem?_eq_some_iff.1 hv
    rw [h4 (o + j) hlt, e]
  · cases hv
theorem evLoad_sound {P : Program} {m : Mu} {s : St} {B : Nat} {W : World} (h : Holds m s B W) {t : TypeId} {x x' v : Value} (hx : R m x x') (e : evLoad P s t x = some v) :
    ∃ v', (Instr.loadAt t x').run P W = .ok v' W ∧ R m v v' := by
  unfold evLoad at e
  split at e
  · rename_i n o
    cases hx with
    | ptr _ _ l hl =>
      split at e
      · rename_i c k hc hag hk
        split at e
        · rename_i hle
          cases e
          obtain ⟨rl, h1, h2⟩ := h.range hc hl o k
          have hlen : rl.length = k := by rw [← h1.length]; simp; omega
          have hd : ∃ d, P.underlying t = some d ∧ d.isRow = true := by
            unfold isAggB at hag
            split at hag <;> first | cases hag | skip
            · exact ⟨_, by assumption, rfl⟩
            · exact ⟨_, by assumption, rfl⟩
          obtain ⟨d, hd1, hd2⟩ := hd
          exact ⟨_, run_loadAt_mid W l.blk o t rl d h2 hd1 hd2 (by rw [hlen]; exact hk), .agg _ _ (by simpa using h1)⟩
        · cases e
      · rename_i c _ hc hag
        obtain ⟨y, hy, hr⟩ := h.read hc hl o e
        refine ⟨y, ?_, hr⟩
        simp [Instr.loadAt, Instr.sureAddr, loadVar, Sem.run_bind, isAgg_run hag W, load, Sem.run, hy]
      · cases e
  · cases e
def sets : List Value → Nat → List Value → List Value
  | l, _, [] => l
  | l, o, v :: r => sets (l.set o v) (o + 1) r
theorem sets_length : ∀ (r l : List Value) (o : Nat), (sets l o r).length = l.length
  | [], _, _ => rfl
  | v :: r, l, o => by rw [sets, sets_length r]; simp
theorem put_put {m : Mu} {s : St} {n : Nat} (hn : n < 2 ^ 40) (c d : Option Cells) : ∀ k, k < 2 ^ 41 → ((s.put n c).put n d).get k = (s.put n d).get k := fun k hk => by
  by_cases e : k = n
  · subst e; rw [St.get_put_same _ _ _ hn, St.get_put_same _ _ _ hn]
  · rw [St.get_put_other _ _ e, St.get_put_other _ _ e, St.get_put_other _ _ e]
/-- states that hold the same blocks -/
theorem Holds.same {m : Mu} {s s' : St} {B : Nat} {W : World} (h : Holds m s B W) (hn : s'.next = s.next ∧ s'.res = s.res ∧ s'.cur = s.cur) (hg : ∀ k, k < 2 ^ 41 → s'.get k = s.get k) : Holds m s' B W :=
  ⟨by rw [hn.1]; exact h.fresh, by rw [hn.1, hn.2.1]; exact h.laid, by rw [hn.2.1, hn.2.2]; exact h.cin, by rw [hn.1]; exact h.big, h.room, fun n c hk hc => h.at' n c hk (by rw [← hg n (by omega)]; exact hc),
   fun n k c d l e hc hd hl he q => h.inj n k c d l e (by rw [← hg n (by have := R.name_lt h hl; omega)]; exact hc) (by rw [← hg k (by have := R.name_lt h he; omega)]; exact hd) hl he q, fun n c hk hc hr => h.glob n c hk (by rw [← hg n (by omega)]; exact hc) hr, h.keep, ⟨fun n c hk hc => h.maps.1 n c hk (by rw [← hg (n + 2 ^ 40) (by omega)]; exact hc), fun n k c d l e hn hk hc hd => h.maps.2 n k c d l e hn hk (by rw [← hg (n + 2 ^ 40) (by omega)]; exact hc) (by rw [← hg (k + 2 ^ 40) (by omega)]; exact hd)⟩⟩
theorem Holds.sets {m : Mu} {B : Nat} : ∀ (r r' : List Value) (s : St) (W : World) (n : Nat) (c : Cells) (l : Loc) (o : Nat), Holds m s B W → s.get n = some c → m n = some l → c.ro = false → o + r.length ≤ c.cells.length → RL m r r' →
    Holds m (s.put n (some { c with cells := Ev.sets c.cells o r })) B (W.setCells l.blk o r') ∧ Below B W (W.setCells l.blk o r') ∧ ∀ j, j < r.length → (W.cell? ⟨l.blk, o + j, none⟩).isSome = true ∧ W.frozen? ⟨l.blk, o + j, none⟩ = false := by
  intro r
  induction r with
  | nil =>
    intro r' s W n c l o h hc hl hro hle hr
    cases hr
    refine ⟨h.same ⟨rfl, rfl, rfl⟩ (fun k hk => ?_), Below.refl B W, fun j hj => absurd hj (by simp)⟩
    have hn := R.name_lt h hl
    by_cases e : k = n
    · subst e; rw [St.get_put_same _ _ _ hn, hc]; rfl
    · rw [St.get_put_other _ _ e]
  | cons v r ih =>
    intro r' s W n c l o h hc hl hro hle hr
    cases hr with
    | cons hv hr =>
      rename_i y r'
      simp only [List.length_cons] at hle
      have hn := R.name_lt h hl
      obtain ⟨h1, h2, ⟨u, h3⟩, h4⟩ := h.set hc hl hro o (by omega) hv
      have hg : (s.put n (some { c with cells := c.cells.set o v })).get n = some { c with cells := c.cells.set o v } := St.get_put_same _ _ _ hn
      obtain ⟨g1, g2, g3⟩ := ih r' _ _ n _ l (o + 1) h1 hg hl hro (by simp; omega) hr
      refine ⟨g1.same ⟨rfl, rfl, rfl⟩ (fun k hk => ?_), h2.trans g2, fun j hj => ?_⟩
      · exact (put_put (m := m) hn _ _ k hk).symm
      · cases j with
        | zero => exact ⟨by rw [Nat.add_zero, h3]; rfl, by rw [Nat.add_zero]; exact h4⟩
        | succ j =>
          obtain ⟨q1, q2⟩ := g3 j (by simp at hj; omega)
          have ea : o + 1 + j = o + (j + 1) := by omega
          rw [ea] at q1 q2
          refine ⟨?_, (World.frozen?_setCell W _ _ _).symm.trans q2⟩
          rw [World.cell?_setCell_other _ _ _ _ (by simp)] at q1
          exact q1
noncomputable def evStore (P : Program) (s : St) (t : TypeId) (x v : Value) : Option St :=
  match x with
  | .pointer (some ⟨n, o, none⟩) =>
    match s.get n, sizeB P t with
    | some c, some k => if v.cells.size = k ∧ o + k ≤ c.cells.length ∧ c.ro = false ∧ v.cells.toList.all (·.oneCell') = true then some (s.put n (some { c with cells := sets c.cells o v.cells.toList })) else none
    | _, _ => none
  | _ => none
theorem evStore_sound {P : Program} {m : Mu} {s s' : St} {B : Nat} {W : World} (h : Holds m s B W) {t : TypeId} {x x' v v' : Value} (hx : R m x x') (hv : R m v v') (e : evStore P s t x v = some s') :
    ∃ W', (Instr.storeAt t x' v').run P W = .ok () W' ∧ Holds m s' B W' ∧ Below B W W' := by
  unfold evStore at e
  split at e
  · rename_i n o
    cases hx with
    | ptr _ _ l hl =>
      split at e
      · rename_i c k hc hk
        split at e
        · rename_i hq
          obtain ⟨q1, q2, q3, q4⟩ := hq
          cases e
          have hcl := hv.cells
          have hlen := hcl.length
          obtain ⟨h1, h2, h3⟩ := Holds.sets v.cells.toList v'.cells.toList s W n c l o h hc hl q3 (by simpa [q1] using q2) hcl
          refine ⟨_, ?_, h1, h2⟩
          have hs : v'.cells.size = k := by rw [← q1]; simpa using hlen.symm
          have hst := run_storeCells_cells (P := P) l.blk o v'.cells.toList 0 W (fun j hj => by rw [Nat.add_zero]; exact (h3 j (by rw [hlen]; exact hj)).1) (fun j hj => by rw [Nat.add_zero]; exact (h3 j (by rw [hlen]; exact hj)).2) (hcl.one q4)
          rw [Nat.add_zero] at hst
          simp [Instr.storeAt, Instr.sureAddr, storeVar, Sem.run_bind, sizeOf_run hk W, hs, hst]
        · cases e
      · cases e
  · cases e
/-- a new variable -/
noncomputable def evNew (s : St) (t : TypeId) (v : Value) : Option (Value × St) :=
  if s.next < 2 ^ 40 then some (.pointer (some ⟨s.name, 0, none⟩), s.alloc v.cells.toList t none) else none
theorem evNew_sound {P : Program} {m : Mu} {s s' : St} {B : Nat} {W : World} (h : Holds m s B W) {t : TypeId} {v v' r : Value} (hv : R m v v') (e : evNew s t v = some (r, s')) :
    ∃ r' W' m', (Instr.box t v').run P W = .ok r' W' ∧ R m' r r' ∧ Sub m m' ∧ Holds m' s' B W' ∧ Below W.heap.size W W' := by
  unfold evNew at e
  split at e
  · rename_i hn
    cases e
    obtain ⟨h1, h2, h3⟩ := h.alloc hn hv.cells t none 0 (fun k hk => by cases hk)
    refine ⟨_, _, _, ?_, .ptr s.name 0 ⟨W.heap.size, 0⟩ (by simp [Mu.put]), h1, h2, h3⟩
    simp [Instr.box, newVar, newRow, newObj, Sem.run_bind, Sem.run]
  · cases e
end Go.Proofs.YtabpfolbemmhlaaGreatDoor.Ev
