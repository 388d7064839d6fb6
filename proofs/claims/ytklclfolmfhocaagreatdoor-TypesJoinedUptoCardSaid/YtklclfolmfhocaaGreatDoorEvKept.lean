/-
  Answers that are kept: a call evaluated once, its value and the blocks that it speaks of written out; then a leaf of other evaluations. No walk.
-/
import Derived.Test.YtklclfolmfhocaaGreatDoorEvSigns
namespace Go.Proofs.YtklclfolmfhocaaGreatDoor.Ev
open Go.ChangeShapes Go.WideShapes Go.ChangeAt Go.RowKit
open Go.Proofs.YtklclfolmfhocaaGreatDoor.Mem
set_option linter.unusedVariables false
set_option linter.unusedSimpArgs false
/-! ### names turned -/
mutual
def renV (f : Nat → Option Nat) : Value → Option Value
  | .bool b => some (.bool b)
  | .int k n => some (.int k n)
  | .string s => some (.string s)
  | .pointer none => some (.pointer none)
  | .pointer (some ⟨n, o, none⟩) => match f n with
    | some k => some (.pointer (some ⟨k, o, none⟩))
    | none => none
  | .slice none n c => bif Nat.beq n 0 && Nat.beq c 0 then some (.slice none 0 0) else none
  | .slice (some ⟨n, o, none⟩) len e => match f n with
    | some k => some (.slice (some ⟨k, o, none⟩) len e)
    | none => none
  | .map none => some (.map none)
  | .func g ⟨a⟩ ⟨b⟩ => match renVs f a, renVs f b with
    | some a', some b' => some (.func g ⟨a'⟩ ⟨b'⟩)
    | _, _ => none
  | .nilFunc => some .nilFunc
  | .iface t v => match renV f v with
    | some v' => some (.iface t v')
    | none => none
  | .nilIface => some .nilIface
  | .agg ⟨a⟩ => match renVs f a with
    | some a' => some (.agg ⟨a'⟩)
    | none => none
  | .tuple ⟨a⟩ => match renVs f a with
    | some a' => some (.tuple ⟨a'⟩)
    | none => none
  | _ => none
def renVs (f : Nat → Option Nat) : List Value → Option (List Value)
  | [] => some []
  | v :: l => match renV f v, renVs f l with
    | some v', some l' => some (v' :: l')
    | _, _ => none
end
mutual
theorem ren_fwd {f : Nat → Option Nat} {μ m : Mu} (hm : ∀ n k, f n = some k → ∀ l, μ n = some l → m k = some l) : ∀ (x : Value) {x' y : Value}, renV f x = some x' → R μ x y → R m x' y
  | .bool b, _, _, e, h => by simp only [renV] at e; cases e; cases h; exact .bool b
  | .int k n, _, _, e, h => by simp only [renV] at e; cases e; cases h; exact .int k n
  | .string s, _, _, e, h => by simp only [renV] at e; cases e; cases h; exact .string s
  | .pointer none, _, _, e, h => by simp only [renV] at e; cases e; cases h; exact .ptrNil
  | .pointer (some ⟨n, o, none⟩), _, _, e, h => by
    simp only [renV] at e
    split at e
    · rename_i k hk
      cases e
      cases h with
      | ptr _ _ l hl => exact .ptr k o l (hm n k hk l hl)
    · cases e
  | .pointer (some ⟨n, o, some q⟩), _, _, e, h => by simp [renV] at e
  | .slice none n c, _, _, e, h => by
    simp only [renV] at e
    obtain ⟨h1, h2⟩ := bif_some e
    subst h2
    cases h
    exact .sliceNil
  | .slice (some ⟨n, o, none⟩) len c, _, _, e, h => by
    simp only [renV] at e
    split at e
    · rename_i k hk
      cases e
      cases h with
      | slice _ _ _ _ l hl hc hcm => exact .slice k o len c l (hm n k hk l hl) hc hcm
    · cases e
  | .slice (some ⟨n, o, some q⟩) len c, _, _, e, h => by simp [renV] at e
  | .map none, _, _, e, h => by simp only [renV] at e; cases e; cases h; exact .mapNil
  | .map (some n), _, _, e, h => by simp [renV] at e
  | .func g ⟨a⟩ ⟨b⟩, _, _, e, h => by
    simp only [renV] at e
    split at e
    · rename_i a' b' ha hb
      cases e
      cases h with
      | func _ _ _ a2 b2 h1 h2 => exact .func g _ _ a2 b2 (rens_fwd hm a ha h1) (rens_fwd hm b hb h2)
    · cases e
  | .nilFunc, _, _, e, h => by simp only [renV] at e; cases e; cases h; exact .nilFunc
  | .iface t v, _, _, e, h => by
    simp only [renV] at e
    split at e
    · rename_i v' hv
      cases e
      cases h with
      | iface _ _ v2 h1 => exact .iface t v' v2 (ren_fwd hm v hv h1)
    · cases e
  | .nilIface, _, _, e, h => by simp only [renV] at e; cases e; cases h; exact .nilIface
  | .agg ⟨a⟩, _, _, e, h => by
    simp only [renV] at e
    split at e
    · rename_i a' ha
      cases e
      cases h with
      | agg _ a2 h1 => exact .agg _ a2 (rens_fwd hm a ha h1)
    · cases e
  | .tuple ⟨a⟩, _, _, e, h => by
    simp only [renV] at e
    split at e
    · rename_i a' ha
      cases e
      cases h with
      | tuple _ a2 h1 => exact .tuple _ a2 (rens_fwd hm a ha h1)
    · cases e
  | .float _ _, _, _, e, h => by simp [renV] at e
  | .complex _ _ _, _, _, e, h => by simp [renV] at e
  | .chan _, _, _, e, h => by simp [renV] at e
theorem rens_fwd {f : Nat → Option Nat} {μ m : Mu} (hm : ∀ n k, f n = some k → ∀ l, μ n = some l → m k = some l) : ∀ (x : List Value) {x' y : List Value}, renVs f x = some x' → RL μ x y → RL m x' y
  | [], _, _, e, h => by simp only [renVs] at e; cases e; cases h; exact .nil
  | v :: l, _, _, e, h => by
    simp only [renVs] at e
    split at e
    · rename_i v' l' hv hl
      cases e
      cases h with
      | cons h1 h2 => exact .cons (ren_fwd hm v hv h1) (rens_fwd hm l hl h2)
    · cases e
end
mutual
theorem ren_bwd {f : Nat → Option Nat} {μ m : Mu} (hm : ∀ n k, f n = some k → ∀ l, m k = some l → μ n = some l) : ∀ (x : Value) {x' y : Value}, renV f x = some x' → R m x' y → R μ x y
  | .bool b, _, _, e, h => by simp only [renV] at e; cases e; cases h; exact .bool b
  | .int k n, _, _, e, h => by simp only [renV] at e; cases e; cases h; exact .int k n
  | .string s, _, _, e, h => by simp only [renV] at e; cases e; cases h; exact .string s
  | .pointer none, _, _, e, h => by simp only [renV] at e; cases e; cases h; exact .ptrNil
  | .pointer (some ⟨n, o, none⟩), _, _, e, h => by
    simp only [renV] at e
    split at e
    · rename_i k hk
      cases e
      cases h with
      | ptr _ _ l hl => exact .ptr n o l (hm n k hk l hl)
    · cases e
  | .pointer (some ⟨n, o, some q⟩), _, _, e, h => by simp [renV] at e
  | .slice none n c, _, _, e, h => by
    simp only [renV] at e
    obtain ⟨h1, h2⟩ := bif_some e
    subst h2
    simp only [Bool.and_eq_true] at h1
    have e1 := Nat.eq_of_beq_eq_true h1.1
    have e2 := Nat.eq_of_beq_eq_true h1.2
    subst e1 e2
    cases h
    exact .sliceNil
  | .slice (some ⟨n, o, none⟩) len c, _, _, e, h => by
    simp only [renV] at e
    split at e
    · rename_i k hk
      cases e
      cases h with
      | slice _ _ _ _ l hl hc hcm => exact .slice n o len c l (hm n k hk l hl) hc hcm
    · cases e
  | .slice (some ⟨n, o, some q⟩) len c, _, _, e, h => by simp [renV] at e
  | .map none, _, _, e, h => by simp only [renV] at e; cases e; cases h; exact .mapNil
  | .map (some n), _, _, e, h => by simp [renV] at e
  | .func g ⟨a⟩ ⟨b⟩, _, _, e, h => by
    simp only [renV] at e
    split at e
    · rename_i a' b' ha hb
      cases e
      cases h with
      | func _ _ _ a2 b2 h1 h2 => exact .func g _ _ a2 b2 (rens_bwd hm a ha h1) (rens_bwd hm b hb h2)
    · cases e
  | .nilFunc, _, _, e, h => by simp only [renV] at e; cases e; cases h; exact .nilFunc
  | .iface t v, _, _, e, h => by
    simp only [renV] at e
    split at e
    · rename_i v' hv
      cases e
      cases h with
      | iface _ _ v2 h1 => exact .iface t v v2 (ren_bwd hm v hv h1)
    · cases e
  | .nilIface, _, _, e, h => by simp only [renV] at e; cases e; cases h; exact .nilIface
  | .agg ⟨a⟩, _, _, e, h => by
    simp only [renV] at e
    split at e
    · rename_i a' ha
      cases e
      cases h with
      | agg _ a2 h1 => exact .agg _ a2 (rens_bwd hm a ha h1)
    · cases e
  | .tuple ⟨a⟩, _, _, e, h => by
    simp only [renV] at e
    split at e
    · rename_i a' ha
      cases e
      cases h with
      | tuple _ a2 h1 => exact .tuple _ a2 (rens_bwd hm a ha h1)
    · cases e
  | .float _ _, _, _, e, h => by simp [renV] at e
  | .complex _ _ _, _, _, e, h => by simp [renV] at e
  | .chan _, _, _, e, h => by simp [renV] at e
theorem rens_bwd {f : Nat → Option Nat} {μ m : Mu} (hm : ∀ n k, f n = some k → ∀ l, m k = some l → μ n = some l) : ∀ (x : List Value) {x' y : List Value}, renVs f x = some x' → RL m x' y → RL μ x y
  | [], _, _, e, h => by simp only [renVs] at e; cases e; cases h; exact .nil
  | v :: l, _, _, e, h => by
    simp only [renVs] at e
    split at e
    · rename_i v' l' hv hl
      cases e
      cases h with
      | cons h1 h2 => exact .cons (ren_bwd hm v hv h1) (rens_bwd hm l hl h2)
    · cases e
end
/-! ### an answer, written out -/
structure Kept where
  val : Value
  blocks : List Cells
/-- in every world that is laid so, the call answers with the value, its blocks new -/
def KeptAns (D : World → Prop) (f : FuncId) (args : List Value) (k : Kept) : Prop := ∀ W, D W → Calls Tryz.prog f args.toArray W fun e W' => ∃ (μ : Mu) (v' : Value), e = .returned v' ∧ R μ k.val v' ∧
  (∀ (i : Nat) (c : Cells), k.blocks[i]? = some c → c.ro = false ∧ ∃ l, μ i = some l ∧ Lies μ W.heap.size W' c l) ∧ (∀ i j l e, i < k.blocks.length → j < k.blocks.length → μ i = some l → μ j = some e → l.blk = e.blk → i = j) ∧ (∀ i, k.blocks.length ≤ i → μ i = none) ∧ Below W.heap.size W W'
def nat? (ρ : List Nat) (n : Nat) : Option Nat := ρ[n]?
def noDup : List Nat → Bool
  | [] => true
  | a :: l => (l.all fun b => !Nat.beq a b) && noDup l
theorem noDup_at : ∀ (l : List Nat), noDup l = true → ∀ (i j n : Nat), l[i]? = some n → l[j]? = some n → i = j := by
  intro l
  induction l with
  | nil => intro _ i j n h; simp at h
  | cons a l ih =>
    intro h i j n hi hj
    simp only [noDup, Bool.and_eq_true, List.all_eq_true] at h
    have hne : ∀ q, l[q]? = some a → False := fun q hq => by
      have := h.1 a (List.mem_of_getElem? hq)
      simp at this
    cases i with
    | zero =>
      cases j with
      | zero => rfl
      | succ j =>
        simp only [List.getElem?_cons_zero, Option.some.injEq] at hi
        subst hi
        simp only [List.getElem?_cons_succ] at hj
        exact (hne j hj).elim
    | succ i =>
      cases j with
      | zero =>
        simp only [List.getElem?_cons_zero, Option.some.injEq] at hj
        subst hj
        simp only [List.getElem?_cons_succ] at hi
        exact (hne i hi).elim
      | succ j =>
        simp only [List.getElem?_cons_succ] at hi hj
        rw [ih h.2 i j n hi hj]
/-- the blocks are those of a state, under other names -/
def blocksB (s : St → Nat → Option Cells) (t : St) (ρ : Nat → Option Nat) : List Cells → List Nat → Bool
  | [], [] => true
  | c :: l, n :: r => (match renVs ρ c.cells with
      | some cs => eqCells (s t n) (some ⟨cs, c.ty, c.row, c.ro⟩) && !c.ro && Nat.blt n 1099511627776
      | none => false) && blocksB s t ρ l r
  | _, _ => false
noncomputable def keptB (r : Option (Value × St)) (ρ : List Nat) (k : Kept) : Bool := match r with
  | some (v, s) => (match renV (nat? ρ) k.val with
      | some v' => eqV v v'
      | none => false) && blocksB St.get s (nat? ρ) k.blocks ρ && noDup ρ
  | none => false
theorem blocksB_at {t : St} {ρ : Nat → Option Nat} : ∀ (l : List Cells) (r : List Nat), blocksB St.get t ρ l r = true → l.length = r.length ∧ ∀ (i : Nat) (c : Cells) (n : Nat), l[i]? = some c → r[i]? = some n → ∃ cs, renVs ρ c.cells = some cs ∧ t.get n = some ⟨cs, c.ty, c.row, c.ro⟩ ∧ c.ro = false ∧ n < 2 ^ 40 := by
  intro l
  induction l with
  | nil =>
    intro r h
    cases r with
    | nil => exact ⟨rfl, fun i c n h => by simp at h⟩
    | cons n r => simp [blocksB] at h
  | cons c l ih =>
    intro r h
    cases r with
    | nil => simp [blocksB] at h
    | cons n r =>
      simp only [blocksB, Bool.and_eq_true] at h
      obtain ⟨h1, h2⟩ := h
      obtain ⟨g1, g2⟩ := ih r h2
      refine ⟨by simp [g1], fun i c' n' hc hn => ?_⟩
      cases i with
      | zero =>
        simp only [List.getElem?_cons_zero, Option.some.injEq] at hc hn
        subst hc hn
        split at h1
        · rename_i cs hcs
          simp only [Bool.and_eq_true, Bool.not_eq_true'] at h1
          exact ⟨cs, hcs, eqCells_eq h1.1.1, h1.1.2, by simpa [Nat.blt_eq] using h1.2⟩
        · cases h1
      | succ i =>
        simp only [List.getElem?_cons_succ] at hc hn
        exact g2 i c' n' hc hn
/-- a call evaluated from a start, its answer written out -/
theorem kept_of {D : World → Prop} {m : Mu} {st : St} (hD : ∀ W, D W → Begun m st W.heap.size W) {orc : CallF} (ho : CallOk Tryz.prog orc) {f n : Nat} {args : List Value} {ρ : List Nat} {k : Kept} (ha : args.all scalB = true)
    (e : keptB (evCall Tryz.prog (evDraw Tryz.prog) orc n f args st) ρ k = true) : KeptAns D f args k := by
  intro W hW
  unfold keptB at e
  split at e
  · rename_i v s hr
    simp only [Bool.and_eq_true] at e
    obtain ⟨⟨e1, e2⟩, e3⟩ := e
    split at e1
    · rename_i v1 hv1
      have hv := eqV_eq _ _ e1
      subst hv
      obtain ⟨hlen, hat⟩ := blocksB_at _ _ e2
      refine (evCall_sound (evDraw_ok Tryz.prog) ho n f args st v s hr m W.heap.size W args (hD W hW).holds (scal_rl _ _ ha)).mono ?_
      rintro e' W' ⟨m', v', rfl, hR, _, hH, hb⟩
      refine ⟨fun i => (nat? ρ i).bind m', v', rfl, ren_bwd (fun a b hab l hl => by simp [hab, hl]) _ hv1 hR, fun i c hc => ?_, fun i j l e hi hj hl he hq => ?_, fun i hi => ?_, hb⟩
      · have hi : i < ρ.length := by rw [← hlen]; exact (List.getElem?_eq_some_iff.1 hc).1
        obtain ⟨cs, h1, h2, h3, h4⟩ := hat i c ρ[i] hc (List.getElem?_eq_getElem hi)
        obtain ⟨l, g1, g2⟩ := hH.at' ρ[i] _ h4 h2
        refine ⟨h3, l, by simp [nat?, List.getElem?_eq_getElem hi, g1], fun q => ?_, fun q => absurd q (by rw [h3]; simp), ?_⟩
        · obtain ⟨k1, rl, tl, k2, k3, k4⟩ := g2.own h3
          exact ⟨k1, rl, tl, rens_bwd (fun a b hab l hl => by simp [hab, hl]) _ h1 k2, k3, k4⟩
        · obtain ⟨rl, k1, k2⟩ := g2.cell
          exact ⟨rl, rens_bwd (fun a b hab l hl => by simp [hab, hl]) _ h1 k1, k2⟩
      · have hi2 : i < ρ.length := by omega
        have hj2 : j < ρ.length := by omega
        simp only [nat?, List.getElem?_eq_getElem hi2, Option.bind_some] at hl
        simp only [nat?, List.getElem?_eq_getElem hj2, Option.bind_some] at he
        obtain ⟨_, _, q2, _, _⟩ := hat i _ ρ[i] (List.getElem?_eq_getElem hi) (List.getElem?_eq_getElem hi2)
        obtain ⟨_, _, q4, _, _⟩ := hat j _ ρ[j] (List.getElem?_eq_getElem hj) (List.getElem?_eq_getElem hj2)
        have := hH.inj _ _ _ _ _ _ q2 q4 hl he hq
        exact noDup_at ρ e3 i j ρ[i] (List.getElem?_eq_getElem hi2) (by rw [List.getElem?_eq_getElem hj2, this])
      · show (nat? ρ i).bind m' = none
        rw [show nat? ρ i = none from List.getElem?_eq_none (by omega)]
        rfl
    · cases e1
  · cases e
/-! ### as a leaf -/
noncomputable def at? (b k : Nat) (n : Nat) : Option Nat := bif Nat.blt n k then some (Nat.add b n) else none
noncomputable def layB (ρ : Nat → Option Nat) : List Cells → Nat → Tr Cells → Option (Tr Cells)
  | [], _, t => some t
  | c :: l, n, t => match renVs ρ c.cells with
    | some cs => layB ρ l (Nat.succ n) (t.put 42 n (some ⟨cs, c.ty, c.row, false⟩))
    | none => none
noncomputable def useK (k : Kept) (s : St) : Option (Value × St) :=
  match s.cur with
  | none => bif Nat.ble (Nat.add s.next k.blocks.length) 1099511627776 then
      (match renV (at? s.next k.blocks.length) k.val, layB (at? s.next k.blocks.length) k.blocks s.next s.heap with
        | some v, some t => some (v, ⟨t, Nat.add s.next k.blocks.length, s.res, none⟩)
        | _, _ => none) else none
  | some _ => none
theorem layB_get {ρ : Nat → Option Nat} : ∀ (l : List Cells) (n : Nat) (t t' : Tr Cells), n + l.length ≤ 2 ^ 40 → layB ρ l n t = some t' →
    (∀ q, (q < n ∨ n + l.length ≤ q) → t'.get 42 q = t.get 42 q) ∧ ∀ (i : Nat) (c : Cells), l[i]? = some c → ∃ cs, renVs ρ c.cells = some cs ∧ t'.get 42 (n + i) = some ⟨cs, c.ty, c.row, false⟩ := by
  intro l
  induction l with
  | nil =>
    intro n t t' hn h
    simp only [layB, Option.some.injEq] at h
    subst h
    exact ⟨fun q _ => rfl, fun i c h => by simp at h⟩
  | cons c l ih =>
    intro n t t' hn h
    simp only [List.length_cons] at hn
    simp only [layB] at h
    split at h
    · rename_i cs hcs
      obtain ⟨h1, h2⟩ := ih (n + 1) _ t' (by omega) h
      refine ⟨fun q hq => ?_, fun i c' hc => ?_⟩
      · simp only [List.length_cons] at hq
        rw [h1 q (by omega), Tr.get_put_other 42 t n q _ (by omega)]
      · cases i with
        | zero =>
          simp only [List.getElem?_cons_zero, Option.some.injEq] at hc
          subst hc
          exact ⟨cs, hcs, by rw [Nat.add_zero, h1 n (by omega)]; exact Tr.get_put_same 42 t n _ (by omega)⟩
        | succ i =>
          simp only [List.getElem?_cons_succ] at hc
          obtain ⟨cs2, g1, g2⟩ := h2 i c' hc
          exact ⟨cs2, g1, by rw [← g2]; congr 1; omega⟩
    · cases h
theorem useK_ok {D : World → Prop} {f : FuncId} {args : List Value} {k : Kept} (hk : KeptAns D f args k) {s s' : St} {v : Value} (e : useK k s = some (v, s')) {m : Mu} {B : Nat} {W : World} (h : Holds m s B W) (hD : D W) :
    Calls Tryz.prog f args.toArray W fun e W' => ∃ m' v', e = .returned v' ∧ R m' v v' ∧ Sub m m' ∧ Holds m' s' B W' ∧ Below B W W' := by
  unfold useK at e
  split at e
  · rename_i hcur
    cases hb : Nat.ble (Nat.add s.next k.blocks.length) 1099511627776 with
    | false => rw [hb] at e; cases e
    | true =>
      rw [hb, cond_true] at e
      have hbig : s.next + k.blocks.length ≤ 2 ^ 40 := Nat.le_of_ble_eq_true hb
      split at e
      · rename_i v0 t hv ht
        cases e
        obtain ⟨l1, l2⟩ := layB_get _ _ _ _ hbig ht
        refine (hk W hD).mono ?_
        rintro e' W' ⟨μ, v', rfl, hR, hbl, hinj, hnone, hbel⟩
        have hat : ∀ a b, at? s.next k.blocks.length a = some b → a < k.blocks.length ∧ b = s.next + a := fun a b q => by
          unfold at? at q
          cases hq : Nat.blt a k.blocks.length with
          | false => rw [hq] at q; cases q
          | true => rw [hq, cond_true] at q; cases q; exact ⟨by simpa [Nat.blt_eq] using hq, rfl⟩
        obtain ⟨m', hm'⟩ : ∃ m' : Mu, m' = fun n => if s.next ≤ n ∧ n < s.next + k.blocks.length then μ (n - s.next) else m n := ⟨_, rfl⟩
        have hnew : ∀ i, i < k.blocks.length → m' (s.next + i) = μ i := fun i hi => by rw [hm']; simp [hi]
        have hold : ∀ n, n < s.next → m' n = m n := fun n hn => by rw [hm']; simp [show ¬ s.next ≤ n by omega]
        have hsub : Sub m m' := fun n l hl => by
          have hlt : n < s.next := by
            rcases Nat.lt_or_ge n s.next with q | q
            · exact q
            · rw [h.fresh n q] at hl; cases hl
          rw [hold n hlt]; exact hl
        have hfwd : ∀ a b, at? s.next k.blocks.length a = some b → ∀ l, μ a = some l → m' b = some l := fun a b q l hl => by
          obtain ⟨q1, rfl⟩ := hat a b q
          rw [hnew a q1]; exact hl
        have hgetlow : ∀ n, n < s.next → (⟨t, Nat.add s.next k.blocks.length, s.res, none⟩ : St).get n = s.get n := fun n hn => l1 n (.inl hn)
        have hgethigh : ∀ n, s.next + k.blocks.length ≤ n → (⟨t, Nat.add s.next k.blocks.length, s.res, none⟩ : St).get n = s.get n := fun n hn => l1 n (.inr hn)
        have hbW : Below B W W' := hbel.mono h.room
        have hcase : ∀ n c, n < 2 ^ 40 → (⟨t, Nat.add s.next k.blocks.length, s.res, none⟩ : St).get n = some c → (n < s.next ∧ s.get n = some c) ∨ ∃ i c0 cs, n = s.next + i ∧ k.blocks[i]? = some c0 ∧ renVs (at? s.next k.blocks.length) c0.cells = some cs ∧ c = ⟨cs, c0.ty, c0.row, false⟩ := fun n c hn hc => by
          rcases Nat.lt_or_ge n s.next with q | q
          · exact .inl ⟨q, (hgetlow n q).symm.trans hc⟩
          · rcases Nat.lt_or_ge n (s.next + k.blocks.length) with q2 | q2
            · have hi : n - s.next < k.blocks.length := by omega
              obtain ⟨cs, g1, g2⟩ := l2 (n - s.next) _ (List.getElem?_eq_getElem hi)
              refine .inr ⟨n - s.next, _, cs, by omega, List.getElem?_eq_getElem hi, g1, ?_⟩
              have g3 : t.get 42 n = some c := hc
              rw [show n = s.next + (n - s.next) by omega, g2] at g3
              exact (Option.some.inj g3).symm
            · have q3 := (hgethigh n q2).symm.trans hc
              have := St.get_lt h hn q3
              omega
        have hlies : ∀ (i : Nat) (c0 : Cells) (cs : List Value), k.blocks[i]? = some c0 → renVs (at? s.next k.blocks.length) c0.cells = some cs → ∃ l, m' (s.next + i) = some l ∧ μ i = some l ∧ W.heap.size ≤ l.blk ∧ Lies m' B W' ⟨cs, c0.ty, c0.row, false⟩ l := fun i c0 cs hc hcs => by
          obtain ⟨hro, l, g1, g2⟩ := hbl i c0 hc
          have hi : i < k.blocks.length := (List.getElem?_eq_some_iff.1 hc).1
          obtain ⟨k1, rl, tl, k2, k3, k4⟩ := g2.own hro
          refine ⟨l, (hnew i hi).trans g1, g1, k1, fun _ => ⟨Nat.le_trans h.room k1, rl, tl, rens_fwd hfwd _ hcs k2, k3, k4⟩, fun q => (by cases q), ?_⟩
          obtain ⟨rl, k1, k2⟩ := g2.cell
          exact ⟨rl, rens_fwd hfwd _ hcs k1, k2⟩
        refine ⟨m', v', rfl, ren_fwd hfwd _ hv hR, hsub, ⟨fun n hn => ?_, fun n hn => ?_, fun n hn => (by cases hn), hbig, Nat.le_trans h.room hbel.size, fun n c hn hc => ?_, fun n q c d l e hc hd hl he heq => ?_, fun n c hn hc hro => ?_, h.keep.up hbW, ⟨fun n c hn hc => ?_, fun n q c d l e hn hq hc hd hl he heq => ?_⟩⟩, hbW⟩
        · have hn2 : s.next + k.blocks.length ≤ n := hn
          rw [hm']
          simp only [show ¬ (s.next ≤ n ∧ n < s.next + k.blocks.length) by omega, if_false]
          exact h.fresh n (by omega)
        · obtain ⟨g1, g2⟩ := h.laid n hn
          exact ⟨(hold n g2).trans g1, by show n < s.next + k.blocks.length; omega⟩
        · rcases hcase n c hn hc with ⟨q, g⟩ | ⟨i, c0, cs, rfl, g1, g2, rfl⟩
          · obtain ⟨l, g1, g2⟩ := h.at' n c hn g
            exact ⟨l, hsub _ _ g1, (g2.below hbel).up hsub⟩
          · obtain ⟨l, g3, _, _, g4⟩ := hlies i c0 cs g1 g2
            exact ⟨l, g3, g4⟩
        · have hn40 : ∀ x y, m' x = some y → x < 2 ^ 40 := fun x y hx => by
            rcases Nat.lt_or_ge x (s.next + k.blocks.length) with p | p
            · omega
            · rw [hm'] at hx
              simp only [show ¬ (s.next ≤ x ∧ x < s.next + k.blocks.length) by omega, if_false] at hx
              exact R.name_lt h hx
          rcases hcase n c (hn40 n l hl) hc with ⟨q1, g1⟩ | ⟨i, c0, cs, rfl, g1, g2, rfl⟩
          · rcases hcase q d (hn40 q e he) hd with ⟨q2, g2⟩ | ⟨j, d0, ds, rfl, g3, g4, rfl⟩
            · rw [hold n q1] at hl
              rw [hold q q2] at he
              exact h.inj n q c d l e g1 g2 hl he heq
            · obtain ⟨l2, g5, _, g6, _⟩ := hlies j d0 ds g3 g4
              rw [g5] at he; cases he
              rw [hold n q1] at hl
              obtain ⟨l3, g7, g8⟩ := h.at' n c (R.name_lt h hl) g1
              rw [hl] at g7; cases g7
              have := g8.lt h.room
              omega
          · rcases hcase q d (hn40 q e he) hd with ⟨q2, g3⟩ | ⟨j, d0, ds, rfl, g3, g4, rfl⟩
            · obtain ⟨l2, g5, _, g6, _⟩ := hlies i c0 cs g1 g2
              rw [g5] at hl; cases hl
              rw [hold q q2] at he
              obtain ⟨l3, g7, g8⟩ := h.at' q d (R.name_lt h he) g3
              rw [he] at g7; cases g7
              have := g8.lt h.room
              omega
            · obtain ⟨l2, g5, g5', _, _⟩ := hlies i c0 cs g1 g2
              obtain ⟨l3, g6, g6', _, _⟩ := hlies j d0 ds g3 g4
              rw [g5] at hl; cases hl
              rw [g6] at he; cases he
              have := hinj i j _ _ (List.getElem?_eq_some_iff.1 g1).1 (List.getElem?_eq_some_iff.1 g3).1 g5' g6' heq
              omega
        · rcases hcase n c hn hc with ⟨q, g⟩ | ⟨i, c0, cs, rfl, g1, g2, rfl⟩
          · obtain ⟨cap, g1⟩ := h.glob n c hn g hro
            exact ⟨cap, hsub _ _ g1⟩
          · cases hro
        · rw [hgethigh (n + 2 ^ 40) (by omega)] at hc
          obtain ⟨l, g1, g2⟩ := h.maps.1 n c hn hc
          exact ⟨l, hsub _ _ g1, (g2.below hbel).up hsub⟩
        · rw [hgethigh (n + 2 ^ 40) (by omega)] at hc
          rw [hgethigh (q + 2 ^ 40) (by omega)] at hd
          obtain ⟨l2, g1, g2⟩ := h.maps.1 n c hn hc
          obtain ⟨l3, g3, g4⟩ := h.maps.1 q d hq hd
          rw [hsub _ _ g1] at hl; cases hl
          rw [hsub _ _ g3] at he; cases he
          exact h.maps.2 n q c d _ _ hn hq hc hd g1 g3 heq
      · cases e
  · cases e
end Go.Proofs.YtklclfolmfhocaaGreatDoor.Ev
