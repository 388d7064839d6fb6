/-
  A checked evaluator of concrete calls: maps whose keys are texts or numbers. No walk.
-/
import Derived.Test.YtabpfolbemmhlaaGreatDoorEvText
import Derived.MapKept
import Derived.Carry
namespace Go.Proofs.YtabpfolbemmhlaaGreatDoor.Ev
open Go.ChangeShapes Go.WideShapes Go.ChangeAt Go.RowKit
open Go.Proofs.YtabpfolbemmhlaaGreatDoor.Mem
variable {N : Nat}
set_option linter.unusedVariables false
set_option linter.unusedSimpArgs false
def eqBytes : List UInt8 → List UInt8 → Bool
  | [], [] => true
  | a :: l, b :: k => bif Nat.beq a.toNat b.toNat then eqBytes l k else false
  | _, _ => false
theorem eqBytes_eq : ∀ (l k : List UInt8), eqBytes l k = (l == k) := by
  intro l
  induction l with
  | nil => intro k; cases k <;> rfl
  | cons a l ih =>
    intro k
    cases k with
    | nil => rfl
    | cons b k =>
      simp only [eqBytes, ih, List.cons_beq_cons]
      have e : Nat.beq a.toNat b.toNat = (a == b) := by
        rw [Bool.eq_iff_iff, Nat.beq_eq, beq_iff_eq]
        exact UInt8.toNat_inj
      rw [e]
      cases (a == b) <;> rfl
def eqN (a b : Int) : Bool := match a with
  | .ofNat a => (match b with
    | .ofNat b => Nat.beq a b
    | .negSucc _ => false)
  | .negSucc _ => a == b
theorem eqN_eq (a b : Int) : eqN a b = (a == b) := by
  cases a with
  | ofNat a =>
    cases b with
    | ofNat b =>
      simp only [eqN]
      rw [Bool.eq_iff_iff, Nat.beq_eq]
      simp
      omega
    | negSucc b =>
      simp only [eqN]
      symm
      rw [beq_eq_false_iff_ne]
      intro h
      cases h
  | negSucc a => rfl
def keyEq : Value → Value → Option Bool
  | .string a => fun y => match y with
    | .string b => some (eqBytes a.data.toList b.data.toList)
    | _ => none
  | .int k a => fun y => match y with
    | .int k' b => if k = k' then some (eqN a b) else none
    | _ => none
  | _ => fun _ => none
/-- the key is of the map's kind -/
def isKeyB : TypeDesc → Value → Bool
  | .string, .string _ => true
  | .int k, .int k' _ => decide (k' = k)
  | _, _ => false
theorem isKeyB_key {d : TypeDesc} {k : Value} (h : isKeyB d k = true) : MapKept.IsKey d k := by
  cases d <;> cases k <;> simp_all [isKeyB, MapKept.IsKey]
def findL (k : Value) : List Value → Nat → Option (Option (Nat × Value))
  | key :: v :: r, i => match keyEq k key with
    | some true => some (some (i, v))
    | some false => findL k r (Nat.succ i)
    | none => none
  | _, _ => some none
theorem keyEq_now {m : Mu} {d : TypeDesc} {k k' key key' : Value} {b : Bool} (hk : R m k k') (hkey : R m key key') (hd : isKeyB d k = true) (h : keyEq k key = some b) : k' = k ∧ Instr.sameNow d k' key' = some b := by
  cases hk <;> simp only [keyEq] at h <;> first | (cases h; done) | skip
  · cases hkey <;> simp only at h <;> first | (cases h; done) | skip
    rename_i kk n kk2 n2
    split at h
    · rename_i e
      subst e
      cases h
      refine ⟨rfl, ?_⟩
      cases d <;> simp [isKeyB] at hd
      simp [Instr.sameNow, eqN_eq]
    · cases h
  · cases hkey <;> simp only at h <;> first | (cases h; done) | skip
    rename_i s t
    cases h
    refine ⟨rfl, ?_⟩
    cases d <;> simp [isKeyB] at hd
    simp only [Instr.sameNow, eqBytes_eq]
    congr 1
    rw [Bool.eq_iff_iff, MapKept.bytes_beq, beq_iff_eq]
    constructor
    · intro e; rw [e]
    · intro e
      cases s; cases t
      simp only at e
      congr 1
      exact Array.ext' e
/-- what is found here is what is found there -/
def FoundM (m : Mu) : Option (Nat × Value) → Option (Nat × Value) → Prop
  | none, none => True
  | some (i, v), some (j, v') => i = j ∧ R m v v'
  | _, _ => False
def entL (es : List MapEntry) : List Value := es.flatMap fun e => [e.key, e.val]
theorem findL_now {m : Mu} {d : TypeDesc} {k k' : Value} (hk : R m k k') (hd : isKeyB d k = true) : ∀ (es : List MapEntry) (cs : List Value) (i : Nat) (r : Option (Nat × Value)), RL m cs (entL es) → findL k cs i = some r → ∃ r', Instr.findNow d k' es i = some r' ∧ FoundM m r r' := by
  intro es
  induction es with
  | nil =>
    intro cs i r h e
    cases h
    cases e
    exact ⟨none, rfl, trivial⟩
  | cons x es ih =>
    intro cs i r h e
    have h2 : RL m cs (x.key :: x.val :: entL es) := h
    cases h2 with
    | cons h0 h1 =>
      cases h1 with
      | cons h1 h3 =>
        simp only [findL] at e
        split at e
        · rename_i hb
          cases e
          obtain ⟨rfl, q⟩ := keyEq_now hk h0 hd hb
          exact ⟨some (i, x.val), by simp [Instr.findNow, q], rfl, h1⟩
        · rename_i hb
          obtain ⟨rfl, q⟩ := keyEq_now hk h0 hd hb
          obtain ⟨r', g1, g2⟩ := ih _ (i + 1) r h3 e
          exact ⟨r', by simp only [Instr.findNow, q]; exact g1, g2⟩
        · cases e
/-! ### the block of a map -/
noncomputable def hi (n : Nat) : Nat := Nat.add n 1099511627776
theorem hi_eq (n : Nat) : hi n = n + 2 ^ 40 := rfl
noncomputable def St.allocM (s : St) : St := match s.cur with
  | some n => ⟨s.heap.put 42 (hi n) (some ⟨[], 0, none, false⟩), s.next, s.res.filter (fun k => !Nat.beq k n), none⟩
  | none => ⟨s.heap.put 42 (hi s.next) (some ⟨[], 0, none, false⟩), Nat.succ s.next, s.res, none⟩
theorem St.allocM_get (s : St) (k : Nat) : s.allocM.get k = (s.put (hi s.name) (some ⟨[], 0, none, false⟩)).get k := by
  unfold St.allocM St.name St.put St.get
  cases s.cur <;> rfl
theorem Holds.allocM {m : Mu} {s : St} {B : Nat} {W : World} (h : Holds m s B W) (hn : s.next < 2 ^ 40) :
    Sub m (m.put s.name ⟨W.heap.size, 0⟩) ∧ Holds (m.put s.name ⟨W.heap.size, 0⟩) s.allocM B (W.alloc (.map #[] 0)) ∧ Below W.heap.size W (W.alloc (.map #[] 0)) := by
  have hs : Sub m (m.put s.name ⟨W.heap.size, 0⟩) := Sub.put _ (h.name hn).1
  have hb : Below W.heap.size W (W.alloc (.map #[] 0)) := (Below.refl _ W).alloc (Nat.le_refl _) _
  have hn40 := (h.name hn).2
  have hmu : (m.put s.name ⟨W.heap.size, 0⟩) s.name = some ⟨W.heap.size, 0⟩ := by simp [Mu.put]
  have hold : ∀ k, k ≠ s.name → (m.put s.name ⟨W.heap.size, 0⟩) k = m k := fun k hk => by simp [Mu.put, hk]
  have hlow : ∀ k, k < 2 ^ 40 → s.allocM.get k = s.get k := fun k hk => (St.allocM_get s k).trans (St.get_put_other s _ (by rw [hi_eq]; omega))
  have hhigh : ∀ k c, k < 2 ^ 40 → s.allocM.get (k + 2 ^ 40) = some c → (k = s.name ∧ c = ⟨[], 0, none, false⟩) ∨ (k ≠ s.name ∧ s.get (k + 2 ^ 40) = some c) := fun k c hk e => by
    rw [St.allocM_get] at e
    by_cases hk2 : k = s.name
    · subst hk2
      rw [← hi_eq, St.get_put_same' _ _ _ (by rw [hi_eq]; omega)] at e
      exact .inl ⟨rfl, (Option.some.inj e).symm⟩
    · exact .inr ⟨hk2, (St.get_put_other s _ (by rw [hi_eq]; omega)).symm.trans e⟩
  have hname : ∀ k l, (m.put s.name ⟨W.heap.size, 0⟩) k = some l → k < 2 ^ 40 := fun k l e => by
    by_cases hk : k = s.name
    · omega
    · rw [hold k hk] at e; exact R.name_lt h e
  have hne : ∀ k c, k < 2 ^ 40 → s.get k = some c → k ≠ s.name := fun k c hk hc e => by
    obtain ⟨l, h1, _⟩ := h.at' k c hk hc
    rw [e, (h.name hn).1] at h1
    cases h1
  obtain ⟨f1, f2, f3, f4⟩ := h.names hn ⟨W.heap.size, 0⟩ [] 0 none
  have ea : s.allocM.next = (s.alloc [] 0 none).next ∧ s.allocM.res = (s.alloc [] 0 none).res ∧ s.allocM.cur = (s.alloc [] 0 none).cur := by
    unfold St.allocM St.alloc
    cases s.cur <;> exact ⟨rfl, rfl, rfl⟩
  refine ⟨hs, ⟨by rw [ea.1]; exact f1, by rw [ea.1, ea.2.1]; exact f2, by rw [ea.2.1, ea.2.2]; exact f3, by rw [ea.1]; exact f4, Nat.le_trans h.room hb.size, fun n c hn2 hc => ?_, fun n k c d l e hc hd hl he heq => ?_, fun n c hn2 hc hro => ?_, h.keep.up (hb.mono h.room), ⟨fun n c hn2 hc => ?_, fun n k c d l e hn2 hk2 hc hd hl he heq => ?_⟩⟩, hb⟩
  · rw [hlow n hn2] at hc
    obtain ⟨l, h3, h4⟩ := h.at' n c hn2 hc
    exact ⟨l, hs _ _ h3, (h4.below hb).up hs⟩
  · have hn2 := hname n l hl
    have hk2 := hname k e he
    rw [hlow n hn2] at hc
    rw [hlow k hk2] at hd
    rw [hold n (hne n c hn2 hc)] at hl
    rw [hold k (hne k d hk2 hd)] at he
    exact h.inj n k c d l e hc hd hl he heq
  · rw [hlow n hn2] at hc
    obtain ⟨cap, h3⟩ := h.glob n c hn2 hc hro
    exact ⟨cap, hs _ _ h3⟩
  · rcases hhigh n c hn2 hc with ⟨rfl, rfl⟩ | ⟨h1, h2⟩
    · exact ⟨_, hmu, h.room, #[], 0, by show (W.heap.push _)[W.heap.size]? = _; simp, .nil⟩
    · obtain ⟨l, h3, h4⟩ := h.maps.1 n c hn2 h2
      exact ⟨l, hs _ _ h3, (h4.below hb).up hs⟩
  · rcases hhigh n c hn2 hc with ⟨rfl, rfl⟩ | ⟨h1, h2⟩
    · rcases hhigh k d hk2 hd with ⟨h3, _⟩ | ⟨h3, h4⟩
      · exact h3.symm
      · obtain ⟨l2, h5, h6⟩ := h.maps.1 k d hk2 h4
        rw [hold k h3, h5] at he; cases he
        rw [hmu] at hl; cases hl
        have := h6.lt
        simp only at heq
        omega
    · rcases hhigh k d hk2 hd with ⟨rfl, _⟩ | ⟨h3, h4⟩
      · obtain ⟨l2, h5, h6⟩ := h.maps.1 n c hn2 h2
        rw [hold n h1, h5] at hl; cases hl
        rw [hmu] at he; cases he
        have := h6.lt
        simp only at heq
        omega
      · rw [hold n h1] at hl
        rw [hold k h3] at he
        exact h.maps.2 n k c d l e hn2 hk2 h2 h4 hl he heq
/-- the entries of a map are turned -/
theorem Holds.setM {m : Mu} {s : St} {B : Nat} {W : World} (h : Holds m s B W) {n : Nat} (hn : n < 2 ^ 40) {c : Cells} {l : Loc} (hc : s.get (hi n) = some c) (hl : m n = some l) {cs : List Value} (es : Array MapEntry) (ck : Nat) (hr : RL m cs (entL es.toList)) :
    Holds m (s.put (hi n) (some { c with cells := cs })) B { W with heap := W.heap.setIfInBounds l.blk (.map es ck) } ∧ Below B W { W with heap := W.heap.setIfInBounds l.blk (.map es ck) } := by
  rw [hi_eq] at hc ⊢
  obtain ⟨l0, g1, g2⟩ := h.maps.1 n c hn hc
  rw [hl] at g1; cases g1
  obtain ⟨hB, es0, ck0, g3, g4⟩ := g2
  have hlt : l.blk < W.heap.size := (Array.getElem?_eq_some_iff.1 g3).1
  have hset := MapKept.heap_set (o' := .map es ck) g3
  have hother : ∀ r, r ≠ l.blk → ({ W with heap := W.heap.setIfInBounds l.blk (.map es ck) } : World).heap[r]? = W.heap[r]? := hset.2
  have hbel : Below B W { W with heap := W.heap.setIfInBounds l.blk (.map es ck) } := ⟨rfl, rfl, rfl, by simp, fun k hk => hother k (by omega)⟩
  have hlow : ∀ k, k < 2 ^ 40 → (s.put (n + 2 ^ 40) (some { c with cells := cs })).get k = s.get k := fun k hk => St.get_put_other s _ (by omega)
  have hhigh : ∀ k d, k < 2 ^ 40 → (s.put (n + 2 ^ 40) (some { c with cells := cs })).get (k + 2 ^ 40) = some d → (k = n ∧ d = { c with cells := cs }) ∨ (k ≠ n ∧ s.get (k + 2 ^ 40) = some d) := fun k d hk e => by
    by_cases hk2 : k = n
    · subst hk2
      rw [St.get_put_same' _ _ _ (by omega)] at e
      exact .inl ⟨rfl, (Option.some.inj e).symm⟩
    · exact .inr ⟨hk2, (St.get_put_other s _ (by omega)).symm.trans e⟩
  have hne : ∀ k d e, k < 2 ^ 40 → s.get k = some d → m k = some e → e.blk ≠ l.blk := fun k d e hk hd he q => by
    obtain ⟨e2, q1, q2⟩ := h.at' k d hk hd
    rw [he] at q1; cases q1
    cases hro : d.ro with
    | false =>
      obtain ⟨_, _, _, _, q3, _⟩ := q2.own hro
      rw [← q, q3.at'] at g3
      cases g3
    | true =>
      have := q2.low hro
      omega
  refine ⟨⟨h.fresh, h.laid, h.cin, h.big, Nat.le_trans h.room hbel.size, fun k d hk hd => ?_, fun a k d d' l1 e hd hd' hl1 he heq => ?_, fun k d hk hd hro => ?_, h.keep.up hbel, ⟨fun k d hk hd => ?_, fun a k d d' l1 e ha hk hd hd' hl1 he heq => ?_⟩⟩, hbel⟩
  · rw [hlow k hk] at hd
    obtain ⟨e, q1, q2⟩ := h.at' k d hk hd
    exact ⟨e, q1, q2.turn (hother _ (hne k d e hk hd q1))⟩
  · rw [hlow a (R.name_lt h hl1)] at hd
    rw [hlow k (R.name_lt h he)] at hd'
    exact h.inj a k d d' l1 e hd hd' hl1 he heq
  · rw [hlow k hk] at hd
    exact h.glob k d hk hd hro
  · rcases hhigh k d hk hd with ⟨rfl, rfl⟩ | ⟨h1, h2⟩
    · exact ⟨l, hl, hB, es, ck, hset.1, hr⟩
    · obtain ⟨e, q1, q2⟩ := h.maps.1 k d hk h2
      exact ⟨e, q1, q2.turn (hother _ (fun q => h1 (h.maps.2 k n d c e l hk hn h2 hc q1 hl q)))⟩
  · have q1 : ∃ d0, s.get (a + 2 ^ 40) = some d0 := by
      rcases hhigh a d ha hd with ⟨rfl, _⟩ | ⟨_, g⟩
      · exact ⟨c, hc⟩
      · exact ⟨d, g⟩
    have q2 : ∃ d0, s.get (k + 2 ^ 40) = some d0 := by
      rcases hhigh k d' hk hd' with ⟨rfl, _⟩ | ⟨_, g⟩
      · exact ⟨c, hc⟩
      · exact ⟨d', g⟩
    obtain ⟨d1, q1⟩ := q1
    obtain ⟨d2, q2⟩ := q2
    exact h.maps.2 a k d1 d2 l1 e ha hk q1 q2 hl1 he heq
/-! ### operations -/
noncomputable def evMakeMap (s : St) : Option (Value × St) := bif Nat.blt s.next 1099511627776 then some (.map (some s.name), s.allocM) else none
theorem evMakeMap_sound {P : Program} {m : Mu} {s s' : St} {B : Nat} {W : World} (h : Holds m s B W) {v : Value} (t : TypeId) (e : evMakeMap s = some (v, s')) :
    ∃ v' W' m', (Instr.makeMap t none).run P W = .ok v' W' ∧ R m' v v' ∧ Sub m m' ∧ Holds m' s' B W' ∧ Below W.heap.size W W' := by
  unfold evMakeMap at e
  cases hb : Nat.blt s.next 1099511627776 with
  | false => rw [hb] at e; cases e
  | true =>
    rw [hb, cond_true] at e
    cases e
    have hn : s.next < 2 ^ 40 := by simpa [Nat.blt_eq] using hb
    obtain ⟨h1, h2, h3⟩ := h.allocM hn
    exact ⟨_, _, _, run_makeMap t W, .map s.name ⟨W.heap.size, 0⟩ (by simp [Mu.put]), h1, h2, h3⟩
noncomputable def zeroOr (P : Program) (et : TypeId) (ok : Bool) : Option Value := match zeroB P et with
  | some z => some (bif ok then .tuple #[z, .bool false] else z)
  | none => none
noncomputable def evLookup (P : Program) (s : St) (mt : TypeId) (x k : Value) (ok : Bool) : Option Value :=
  match P.underlying mt with
  | some (.map kt et) => match P.underlying kt with
    | some d => bif isKeyB d k then (match x with
      | .map none => zeroOr P et ok
      | .map (some n) => match s.get (hi n) with
        | some c => match findL k c.cells 0 with
          | some (some (_, v)) => some (bif ok then .tuple #[v, .bool true] else v)
          | some none => zeroOr P et ok
          | none => none
        | none => none
      | _ => none) else none
    | none => none
  | _ => none
theorem zeroOr_run {P : Program} {et : TypeId} {ok : Bool} {v : Value} (h : zeroOr P et ok = some v) (m : Mu) (W : World) : ∃ z, (zeroValue et).run P W = .ok z W ∧ v = (bif ok then .tuple #[z, .bool false] else z) ∧ R m v v := by
  unfold zeroOr at h
  split at h
  · rename_i z hz
    cases h
    obtain ⟨h1, h2⟩ := zero_run hz W
    refine ⟨z, h1, rfl, ?_⟩
    have hr := R.of_closed (m := m) h2
    cases ok with
    | true => exact .tuple _ _ (.cons hr (.cons (.bool _) .nil))
    | false => exact hr
  · cases h
theorem evLookup_sound {P : Program} {m : Mu} {s : St} {B : Nat} {W : World} (h : Holds m s B W) {mt : TypeId} {x x' k k' v : Value} {ok : Bool} (hx : R m x x') (hk : R m k k') (e : evLookup P s mt x k ok = some v) :
    ∃ v', (Instr.lookup mt x' k' ok).run P W = .ok v' W ∧ R m v v' := by
  unfold evLookup at e
  split at e
  · rename_i kt et hm
    split at e
    · rename_i d hd
      cases hkb : isKeyB d k with
      | false => rw [hkb] at e; cases e
      | true =>
        rw [hkb, cond_true] at e
        have hkk : k' = k := by
          cases hk <;> first | rfl | (cases d <;> simp [isKeyB] at hkb)
        subst hkk
        have hkey := isKeyB_key hkb
        split at e
        · cases hx
          obtain ⟨z, h1, h2, h3⟩ := zeroOr_run e m W
          refine ⟨v, ?_, h3⟩
          have hf : Instr.findNow d k' [] 0 = some none := rfl
          simp only [Instr.lookup, Sem.run_bind, Sem.run_pure, run_underlying hm, Result.andThen, MapKept.run_checkKey hd hkey, MapKept.run_findKey hd hf, h1]
          cases ok <;> simp [h2]
        · rename_i n
          cases hx with
          | map _ l hl =>
            have hn := R.name_lt h hl
            split at e
            · rename_i c hc
              obtain ⟨l0, g1, g2⟩ := h.maps.1 n c hn hc
              rw [hl] at g1; cases g1
              obtain ⟨hB, es, ck, g3, g4⟩ := g2
              split at e
              · rename_i i u hf
                cases e
                obtain ⟨r', q1, q2⟩ := findL_now hk hkb es.toList c.cells 0 _ g4 hf
                match r', q2 with
                | some (j, u'), q2 =>
                  obtain ⟨rfl, q3⟩ := q2
                  refine ⟨bif ok then .tuple #[u', .bool true] else u', ?_, ?_⟩
                  · simp only [Instr.lookup, Sem.run_bind, Sem.run_pure, run_underlying hm, Result.andThen, MapKept.run_getObj_map g3, MapKept.run_checkKey hd hkey, MapKept.run_findKey hd q1]
                    cases ok <;> simp
                  · cases ok with
                    | true => exact .tuple _ _ (.cons q3 (.cons (.bool _) .nil))
                    | false => exact q3
              · rename_i hf
                obtain ⟨r', q1, q2⟩ := findL_now hk hkb es.toList c.cells 0 _ g4 hf
                match r', q2 with
                | none, _ =>
                  obtain ⟨z, h1, h2, h3⟩ := zeroOr_run e m W
                  refine ⟨v, ?_, h3⟩
                  simp only [Instr.lookup, Sem.run_bind, Sem.run_pure, run_underlying hm, Result.andThen, MapKept.run_getObj_map g3, MapKept.run_checkKey hd hkey, MapKept.run_findKey hd q1, h1]
                  cases ok <;> simp [h2]
              · cases e
            · cases e
        · cases e
    · cases e
  · cases e
theorem keyEq_true {k key : Value} (h : keyEq k key = some true) : key = k := by
  cases k <;> simp only [keyEq] at h <;> first | (cases h; done) | skip
  · cases key <;> simp only at h <;> first | (cases h; done) | skip
    split at h
    · rename_i e
      subst e
      simp only [Option.some.injEq, eqN_eq, beq_iff_eq] at h
      rw [h]
    · cases h
  · cases key <;> simp only at h <;> first | (cases h; done) | skip
    rename_i a b
    simp only [Option.some.injEq, eqBytes_eq, beq_iff_eq] at h
    congr 1
    cases a; cases b
    simp only at h
    congr 1
    exact (Array.ext' h).symm
theorem findL_at (k : Value) : ∀ (es : List MapEntry) (m : Mu) (cs : List Value) (i j : Nat) (v : Value), RL m cs (entL es) → findL k cs i = some (some (j, v)) → ∃ q e, j = i + q ∧ es[q]? = some e ∧ R m k e.key := by
  intro es
  induction es with
  | nil =>
    intro m cs i j v h e
    cases h
    cases e
  | cons x es ih =>
    intro m cs i j v h e
    have h2 : RL m cs (x.key :: x.val :: entL es) := h
    cases h2 with
    | cons h0 h1 =>
      cases h1 with
      | cons h1 h3 =>
        simp only [findL] at e
        split at e
        · rename_i hb
          cases e
          have := keyEq_true hb
          exact ⟨0, x, rfl, rfl, this ▸ h0⟩
        · obtain ⟨q, e2, g1, g2, g3⟩ := ih m _ (i + 1) j v h3 e
          exact ⟨q + 1, e2, by omega, by simpa using g2, g3⟩
        · cases e
theorem entL_modify (key' v' : Value) : ∀ (es : List MapEntry) (i : Nat) (e : MapEntry), es[i]? = some e → e.key = key' → entL (es.modify i fun e => { e with key := key', val := v' }) = (entL es).set (2 * i + 1) v' := by
  intro es
  induction es with
  | nil => intro i e h; simp at h
  | cons x es ih =>
    intro i e h hk
    cases i with
    | zero =>
      simp only [List.getElem?_cons_zero, Option.some.injEq] at h
      subst h
      simp [entL, hk]
    | succ i =>
      simp only [List.getElem?_cons_succ] at h
      have := ih i e h hk
      rw [List.modify_succ_cons]
      show x.key :: x.val :: entL (es.modify i _) = (x.key :: x.val :: entL es).set (2 * (i + 1) + 1) v'
      rw [this, show 2 * (i + 1) + 1 = (2 * i + 1) + 1 + 1 by omega]
      rfl
noncomputable def evUpdate (P : Program) (s : St) (mt : TypeId) (x k v : Value) : Option St :=
  match P.underlying mt with
  | some (.map kt et) => match P.underlying kt with
    | some d => bif isKeyB d k then (match x with
      | .map (some n) => match s.get (hi n) with
        | some c => match findL k c.cells 0 with
          | some (some (i, _)) => some (s.put (hi n) (some { c with cells := c.cells.set (Nat.succ (Nat.mul 2 i)) v }))
          | some none => some (s.put (hi n) (some { c with cells := c.cells ++ [k, v] }))
          | none => none
        | none => none
      | _ => none) else none
    | none => none
  | _ => none
theorem evUpdate_sound {P : Program} {m : Mu} {s s' : St} {B : Nat} {W : World} (h : Holds m s B W) {mt : TypeId} {x x' k k' v v' : Value} (hx : R m x x') (hk : R m k k') (hv : R m v v') (e : evUpdate P s mt x k v = some s') :
    ∃ W', (Instr.mapUpdate mt x' k' v').run P W = .ok () W' ∧ Holds m s' B W' ∧ Below B W W' := by
  unfold evUpdate at e
  split at e
  · rename_i kt et hm
    split at e
    · rename_i d hd
      cases hkb : isKeyB d k with
      | false => rw [hkb] at e; cases e
      | true =>
        rw [hkb, cond_true] at e
        have hkk : k' = k := by
          cases hk <;> first | rfl | (cases d <;> simp [isKeyB] at hkb)
        subst hkk
        have hkey := isKeyB_key hkb
        split at e
        · rename_i n
          cases hx with
          | map _ l hl =>
            have hn := R.name_lt h hl
            split at e
            · rename_i c hc
              obtain ⟨l0, g1, g2⟩ := h.maps.1 n c hn hc
              rw [hl] at g1; cases g1
              obtain ⟨hB, es, ck, g3, g4⟩ := g2
              split at e
              · rename_i i u hf
                cases e
                obtain ⟨r', q1, q2⟩ := findL_now hk hkb es.toList c.cells 0 _ g4 hf
                obtain ⟨q, e2, w1, w2, w3⟩ := findL_at k' es.toList m c.cells 0 i u g4 hf
                have w1' : i = q := by omega
                subst w1'
                have w4 : e2.key = k' := by
                  generalize hek : e2.key = ek at w3
                  cases w3 <;> first | rfl | (cases d <;> simp [isKeyB] at hkb)
                match r', q2 with
                | some (j, u'), q2 =>
                  obtain ⟨rfl, q3⟩ := q2
                  have hj : es[i]? = some e2 := by simpa using w2
                  obtain ⟨z1, z2⟩ := h.setM hn hc hl (es.modify i fun e => { e with key := k', val := v' }) ck (cs := c.cells.set (2 * i + 1) v) (by
                    rw [Array.toList_modify, entL_modify k' v' es.toList i e2 w2 w4]
                    exact g4.set _ hv)
                  refine ⟨_, ?_, z1, z2⟩
                  simp [Instr.mapUpdate, run_underlying hm, MapKept.run_getObj_map g3, MapKept.run_checkKey hd hkey, MapKept.run_findKey hd q1, hj, w4, MapKept.run_keyThatStays hkey, MapKept.run_setObj_map _ g3, Result.andThen]
              · rename_i hf
                cases e
                obtain ⟨r', q1, q2⟩ := findL_now hk hkb es.toList c.cells 0 _ g4 hf
                match r', q2 with
                | none, _ =>
                  obtain ⟨z1, z2⟩ := h.setM hn hc hl (es.push { key := k', val := v', born := ck }) (ck + 1) (cs := c.cells ++ [k', v]) (by
                    rw [Array.toList_push]
                    unfold entL
                    rw [List.flatMap_append]
                    exact g4.append (.cons hk (.cons hv .nil)))
                  refine ⟨_, ?_, z1, z2⟩
                  simp [Instr.mapUpdate, run_underlying hm, MapKept.run_getObj_map g3, MapKept.run_checkKey hd hkey, MapKept.run_findKey hd q1, MapKept.run_setObj_map _ g3, Result.andThen]
              · cases e
            · cases e
        · cases e
    · cases e
  · cases e
noncomputable def evLenM (s : St) (x : Value) : Option Value := match x with
  | .map none => some (.int .i64 0)
  | .map (some n) => match s.get (hi n) with
    | some c => some (.int .i64 (.ofNat (Nat.div c.cells.length 2)))
    | none => none
  | _ => none
theorem entL_len (es : List MapEntry) : (entL es).length = 2 * es.length := by
  induction es with
  | nil => rfl
  | cons x es ih =>
    show (x.key :: x.val :: entL es).length = _
    simp only [List.length_cons, ih]
    omega
theorem evLenM_sound {P : Program} {m : Mu} {s : St} {B : Nat} {W : World} (h : Holds m s B W) {t ty kt et : TypeId} (ht : P.underlying t = some (.map kt et)) {x x' v : Value} (hx : R m x x') (e : evLenM s x = some v) :
    ∃ v', (Builtin.len_ #[t] ty #[x']).run P W = .ok v' W ∧ R m v v' := by
  unfold evLenM at e
  split at e
  · cases hx
    cases e
    refine ⟨_, by simp [Builtin.len_, run_underlying ht, Result.andThen]; rfl, .int _ _⟩
  · rename_i n
    cases hx with
    | map _ l hl =>
      split at e
      · rename_i c hc
        obtain ⟨l0, g1, g2⟩ := h.maps.1 n c (R.name_lt h hl) hc
        rw [hl] at g1; cases g1
        obtain ⟨hB, es, ck, g3, g4⟩ := g2
        cases e
        have hlen : c.cells.length = 2 * es.size := by
          have h1 : c.cells.length = (entL es.toList).length := RL.length g4
          rw [h1, entL_len, Array.length_toList]
        have hd : Nat.div c.cells.length 2 = es.size := by
          rw [hlen]
          show 2 * es.size / 2 = es.size
          omega
        rw [hd]
        refine ⟨_, by simp [Builtin.len_, run_underlying ht, MapKept.run_getObj_map g3, Result.andThen]; rfl, ?_⟩
        exact .int _ _
      · cases e
  · cases e
end Go.Proofs.YtabpfolbemmhlaaGreatDoor.Ev
