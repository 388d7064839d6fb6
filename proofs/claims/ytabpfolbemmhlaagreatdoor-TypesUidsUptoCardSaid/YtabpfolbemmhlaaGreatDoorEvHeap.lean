/-
  A checked evaluator of concrete calls, 2: named blocks and a world's. No walk.
-/
import Derived.Test.YtabpfolbemmhlaaGreatDoorEvBase
import Derived.Test.YtabpfolbemmhlaaGreatDoorEvGlob
namespace Go.Proofs.YtabpfolbemmhlaaGreatDoor.Ev
open Go.ChangeShapes Go.WideShapes Go.ChangeAt Go.RowKit
open Go.Proofs.YtabpfolbemmhlaaGreatDoor.Mem
set_option linter.unusedVariables false
set_option linter.unusedSimpArgs false
/-- a block: its cells, as far as they are known; row: how many cells an element has, if more may be appended; ro: it is only read -/
structure Cells where
  cells : List Value
  ty : TypeId
  row : Option Nat
  ro : Bool
/-- next: names from here on are new; res: names below it that were laid by; cur: the one of these that the next new block bears -/
structure St where
  heap : Tr Cells
  next : Nat
  res : List Nat
  cur : Option Nat
noncomputable def St.get (s : St) (n : Nat) : Option Cells := s.heap.get 42 n
noncomputable def St.put (s : St) (n : Nat) (c : Option Cells) : St := { s with heap := s.heap.put 42 n c }
def St.name (s : St) : Nat := match s.cur with
  | some n => n
  | none => s.next
noncomputable def St.alloc (s : St) (cs : List Value) (t : TypeId) (row : Option Nat) : St := match s.cur with
  | some n => ⟨s.heap.put 42 n (some ⟨cs, t, row, false⟩), s.next, s.res.filter (fun k => !Nat.beq k n), none⟩
  | none => ⟨s.heap.put 42 s.next (some ⟨cs, t, row, false⟩), Nat.succ s.next, s.res, none⟩
structure Lies (m : Mu) (B : Nat) (W : World) (c : Cells) (l : Loc) : Prop where
  own : c.ro = false → B ≤ l.blk ∧ ∃ rl tail, RL m c.cells rl ∧ Blk W l.blk (rl ++ tail) c.ty ∧ (∀ s, c.row = some s → (rl ++ tail).length = l.cap * s) ∧ (c.row = none → tail = [])
  low : c.ro = true → l.blk < B
  cell : ∃ rl, RL m c.cells rl ∧ ∀ j (h : j < rl.length), W.cell? ⟨l.blk, j, none⟩ = some rl[j]
/-- where a map's entries lie: key, value, key, value; they are kept above the names -/
structure LiesM (m : Mu) (B : Nat) (W : World) (c : Cells) (l : Loc) : Prop where
  base : B ≤ l.blk
  ents : ∃ es clock, W.heap[l.blk]? = some (.map es clock) ∧ RL m c.cells (es.toList.flatMap fun e => [e.key, e.val])
structure Holds (m : Mu) (s : St) (B : Nat) (W : World) : Prop where
  fresh : ∀ n, s.next ≤ n → m n = none
  laid : ∀ n, n ∈ s.res → m n = none ∧ n < s.next
  cin : ∀ n, s.cur = some n → n ∈ s.res
  big : s.next ≤ 2 ^ 40
  room : B ≤ W.heap.size
  at' : ∀ n c, n < 2 ^ 40 → s.get n = some c → ∃ l, m n = some l ∧ Lies m B W c l
  inj : ∀ n k c d l e, s.get n = some c → s.get k = some d → m n = some l → m k = some e → l.blk = e.blk → n = k
  glob : ∀ n c, n < 2 ^ 40 → s.get n = some c → c.ro = true → ∃ cap, m n = some ⟨n, cap⟩
  keep : Base B W
  maps : (∀ n c, n < 2 ^ 40 → s.get (n + 2 ^ 40) = some c → ∃ l, m n = some l ∧ LiesM m B W c l) ∧
    ∀ n k c d l e, n < 2 ^ 40 → k < 2 ^ 40 → s.get (n + 2 ^ 40) = some c → s.get (k + 2 ^ 40) = some d → m n = some l → m k = some e → l.blk = e.blk → n = k
theorem LiesM.up {m m' : Mu} {B : Nat} {W : World} {c : Cells} {l : Loc} (s : Sub m m') (h : LiesM m B W c l) : LiesM m' B W c l := by
  obtain ⟨h1, es, ck, h2, h3⟩ := h
  exact ⟨h1, es, ck, h2, h3.up s⟩
theorem LiesM.turn {m : Mu} {B : Nat} {W W' : World} {c : Cells} {l : Loc} (e : W'.heap[l.blk]? = W.heap[l.blk]?) (h : LiesM m B W c l) : LiesM m B W' c l := by
  obtain ⟨h1, es, ck, h2, h3⟩ := h
  exact ⟨h1, es, ck, e.trans h2, h3⟩
theorem LiesM.lt {m : Mu} {B : Nat} {W : World} {c : Cells} {l : Loc} (h : LiesM m B W c l) : l.blk < W.heap.size := by
  obtain ⟨h1, es, ck, h2, h3⟩ := h
  exact (Array.getElem?_eq_some_iff.1 h2).1
theorem LiesM.below {m : Mu} {B : Nat} {W W' : World} {c : Cells} {l : Loc} (b : Below W.heap.size W W') (h : LiesM m B W c l) : LiesM m B W' c l := h.turn (b.block _ h.lt)
theorem LiesM.ne {m : Mu} {B : Nat} {W : World} {c : Cells} {l : Loc} (h : LiesM m B W c l) {b : Nat} {cs : List Value} {t : TypeId} (k : Blk W b cs t) : l.blk ≠ b := by
  obtain ⟨h1, es, ck, h2, h3⟩ := h
  intro e
  rw [e, k.at'] at h2
  cases h2
theorem Lies.up {m m' : Mu} {B : Nat} {W : World} {c : Cells} {l : Loc} (s : Sub m m') (h : Lies m B W c l) : Lies m' B W c l := by
  refine ⟨fun e => ?_, h.low, ?_⟩
  · obtain ⟨h1, rl, tail, h2, h3, h4⟩ := h.own e
    exact ⟨h1, rl, tail, h2.up s, h3, h4⟩
  · obtain ⟨rl, h1, h2⟩ := h.cell
    exact ⟨rl, h1.up s, h2⟩
theorem Lies.below {m : Mu} {B : Nat} {W W' : World} {c : Cells} {l : Loc} (b : Below W.heap.size W W') (h : Lies m B W c l) : Lies m B W' c l := by
  refine ⟨fun e => ?_, h.low, ?_⟩
  · obtain ⟨h1, rl, tail, h2, h3, h4⟩ := h.own e
    exact ⟨h1, rl, tail, h2, h3.below b h3.lt, h4⟩
  · obtain ⟨rl, h1, h2⟩ := h.cell
    exact ⟨rl, h1, fun j hj => cell_below b _ _ (h2 j hj)⟩
/-- nothing of the names is turned -/
theorem Holds.below {m : Mu} {s : St} {B : Nat} {W W' : World} (b : Below W.heap.size W W') (h : Holds m s B W) : Holds m s B W' :=
  ⟨h.fresh, h.laid, h.cin, h.big, Nat.le_trans h.room b.size, fun n c hn hc => by obtain ⟨l, h1, h2⟩ := h.at' n c hn hc; exact ⟨l, h1, h2.below b⟩, h.inj, h.glob, h.keep.up (b.mono h.room), ⟨fun n c hn hc => by obtain ⟨l, h1, h2⟩ := h.maps.1 n c hn hc; exact ⟨l, h1, h2.below b⟩, h.maps.2⟩⟩
theorem St.get_lt {m : Mu} {s : St} {B : Nat} {W : World} (h : Holds m s B W) {n : Nat} {c : Cells} (hn : n < 2 ^ 40) (hc : s.get n = some c) : n < s.next := by
  obtain ⟨l, hl, _⟩ := h.at' n c hn hc
  rcases Nat.lt_or_ge n s.next with h1 | h1
  · exact h1
  · rw [h.fresh n h1] at hl; cases hl
theorem R.name_lt {m : Mu} {s : St} {B : Nat} {W : World} (h : Holds m s B W) {n : Nat} {l : Loc} (e : m n = some l) : n < 2 ^ 40 := by
  rcases Nat.lt_or_ge n s.next with h1 | h1
  · exact Nat.lt_of_lt_of_le h1 h.big
  · rw [h.fresh n h1] at e; cases e
/-- the cells of a live name, read -/
theorem Holds.read {m : Mu} {s : St} {B : Nat} {W : World} (h : Holds m s B W) {n : Nat} {c : Cells} {l : Loc} (hc : s.get n = some c) (hl : m n = some l) (i : Nat) {x : Value} (hx : c.cells[i]? = some x) :
    ∃ y, W.cell? ⟨l.blk, i, none⟩ = some y ∧ R m x y := by
  obtain ⟨l', h1, h2⟩ := h.at' n c (R.name_lt h hl) hc
  rw [hl] at h1; cases h1
  obtain ⟨rl, h3, h4⟩ := h2.cell
  obtain ⟨y, hy, hr⟩ := h3.get i hx
  obtain ⟨hlt, e⟩ := List.getElem?_eq_some_iff.1 hy
  exact ⟨y, by rw [h4 i hlt, e], hr⟩
theorem Lies.lt {m : Mu} {B : Nat} {W : World} {c : Cells} {l : Loc} (hB : B ≤ W.heap.size) (h : Lies m B W c l) : l.blk < W.heap.size := by
  cases hro : c.ro with
  | false => obtain ⟨_, _, _, _, h3, _⟩ := h.own hro; exact h3.lt
  | true => exact Nat.lt_of_lt_of_le (h.low hro) hB
theorem St.get_put_same (s : St) (n : Nat) (c : Option Cells) (h : n < 2 ^ 40) : (s.put n c).get n = c := Tr.get_put_same 42 s.heap n c (by omega)
theorem St.get_put_same' (s : St) (n : Nat) (c : Option Cells) (h : n < 2 ^ 41) : (s.put n c).get n = c := Tr.get_put_same 42 s.heap n c (by omega)
theorem St.get_put_other (s : St) {n k : Nat} (c : Option Cells) (h : k ≠ n) : (s.put n c).get k = s.get k := Tr.get_put_other 42 s.heap n k c h
theorem Holds.name {m : Mu} {s : St} {B : Nat} {W : World} (h : Holds m s B W) (hn : s.next < 2 ^ 40) : m s.name = none ∧ s.name < 2 ^ 40 := by
  unfold St.name
  split
  · rename_i n hc
    have h1 := h.laid n (h.cin n hc)
    exact ⟨h1.1, by omega⟩
  · exact ⟨h.fresh _ (Nat.le_refl _), hn⟩
theorem St.alloc_get (s : St) (cs : List Value) (t : TypeId) (row : Option Nat) (k : Nat) : (s.alloc cs t row).get k = (s.put s.name (some ⟨cs, t, row, false⟩)).get k := by
  unfold St.alloc St.name St.put St.get
  cases s.cur <;> rfl
theorem St.alloc_high (s : St) (cs : List Value) (t : TypeId) (row : Option Nat) (hn : s.name < 2 ^ 40) (k : Nat) : (s.alloc cs t row).get (k + 2 ^ 40) = s.get (k + 2 ^ 40) :=
  (St.alloc_get s cs t row _).trans (St.get_put_other s _ (by omega))
theorem beq_ne {a b : Nat} (h : (!Nat.beq a b) = true) : a ≠ b := by
  intro e
  subst e
  simp at h
/-- what of the names stands behind a new block -/
theorem Holds.names {m : Mu} {s : St} {B : Nat} {W : World} (h : Holds m s B W) (hn : s.next < 2 ^ 40) (l : Loc) (cs : List Value) (t : TypeId) (row : Option Nat) :
    (∀ n, (s.alloc cs t row).next ≤ n → (m.put s.name l) n = none) ∧ (∀ n, n ∈ (s.alloc cs t row).res → (m.put s.name l) n = none ∧ n < (s.alloc cs t row).next) ∧ (∀ n, (s.alloc cs t row).cur = some n → n ∈ (s.alloc cs t row).res) ∧ (s.alloc cs t row).next ≤ 2 ^ 40 := by
  unfold St.alloc St.name Mu.put
  cases hc : s.cur with
  | some c =>
    have h1 := h.laid c (h.cin c hc)
    refine ⟨fun n hn2 => ?_, fun n hn2 => ?_, (fun n e => by cases e), h.big⟩
    · have hne : n ≠ c := by have : s.next ≤ n := hn2; omega
      simp only [hne, if_false]
      exact h.fresh n hn2
    · simp only [List.mem_filter] at hn2
      have hne : n ≠ c := beq_ne hn2.2
      simp only [hne, if_false]
      exact h.laid n hn2.1
  | none =>
    refine ⟨fun n hn2 => ?_, fun n hn2 => ?_, (fun n e => by cases e), hn⟩
    · have h2 : s.next + 1 ≤ n := hn2
      have hne : n ≠ s.next := by omega
      simp only [hne, if_false]
      exact h.fresh n (by omega)
    · have h2 := h.laid n hn2
      have hne : n ≠ s.next := by omega
      simp only [hne, if_false]
      exact ⟨h2.1, Nat.lt_succ_of_lt h2.2⟩
/-- a new block -/
theorem Holds.alloc {m : Mu} {s : St} {B : Nat} {W : World} (h : Holds m s B W) (hn : s.next < 2 ^ 40) {cs rl : List Value} (hr : RL m cs rl) (t : TypeId) (row : Option Nat) (cap : Nat) (hrow : ∀ k, row = some k → rl.length = cap * k) :
    Sub m (m.put s.name ⟨W.heap.size, cap⟩) ∧ Holds (m.put s.name ⟨W.heap.size, cap⟩) (s.alloc cs t row) B (W.alloc (.cells rl.toArray t)) ∧ Below W.heap.size W (W.alloc (.cells rl.toArray t)) := by
  have hs : Sub m (m.put s.name ⟨W.heap.size, cap⟩) := Sub.put _ (h.name hn).1
  have hb : Below W.heap.size W (W.alloc (.cells rl.toArray t)) := (Below.refl _ W).alloc (Nat.le_refl _) _
  have hmu : (m.put s.name ⟨W.heap.size, cap⟩) s.name = some ⟨W.heap.size, cap⟩ := by simp [Mu.put]
  have hold : ∀ k, k ≠ s.name → (m.put s.name ⟨W.heap.size, cap⟩) k = m k := fun k hk => by simp [Mu.put, hk]
  have hget : ∀ k c, k < 2 ^ 40 → (s.alloc cs t row).get k = some c → (k = s.name ∧ c = ⟨cs, t, row, false⟩) ∨ (k ≠ s.name ∧ s.get k = some c) := fun k c hk e => by
    by_cases hk2 : k = s.name
    · subst hk2
      exact .inl ⟨rfl, Option.some.inj (e.symm.trans ((St.alloc_get s cs t row _).trans (St.get_put_same s s.name (some (⟨cs, t, row, false⟩ : Cells)) hk)))⟩
    · exact .inr ⟨hk2, (St.get_put_other s (some (⟨cs, t, row, false⟩ : Cells)) hk2).symm.trans ((St.alloc_get s cs t row _).symm.trans e)⟩
  have hnew : Lies (m.put s.name ⟨W.heap.size, cap⟩) B (W.alloc (.cells rl.toArray t)) ⟨cs, t, row, false⟩ ⟨W.heap.size, cap⟩ := by
    have hK := Blk.new W rl t
    refine ⟨fun _ => ⟨h.room, rl, [], hr.up hs, by rw [List.append_nil]; exact hK, fun k hk => by rw [List.append_nil]; exact hrow k hk, fun _ => rfl⟩, fun e => (by cases e), rl, hr.up hs, fun j hj => hK.cell j hj⟩
  have hblk : ∀ k l c, k < 2 ^ 40 → k ≠ s.name → (m.put s.name ⟨W.heap.size, cap⟩) k = some l → s.get k = some c → l.blk < W.heap.size := fun k l c hk2 hk hl hc => by
    rw [hold k hk] at hl
    obtain ⟨l', h1, h2⟩ := h.at' k c hk2 hc
    rw [hl] at h1; cases h1
    exact h2.lt h.room
  have hname : ∀ k l, (m.put s.name ⟨W.heap.size, cap⟩) k = some l → k < 2 ^ 40 := fun k l e => by
    by_cases hk : k = s.name
    · have := (h.name hn).2; omega
    · rw [hold k hk] at e; exact R.name_lt h e
  obtain ⟨f1, f2, f3, f4⟩ := h.names hn ⟨W.heap.size, cap⟩ cs t row
  refine ⟨hs, ⟨f1, f2, f3, f4, Nat.le_trans h.room hb.size, fun n c hn2 hc => ?_, fun n k c d l e hc hd hl he heq => ?_, fun n c hn2 hc hro => ?_, h.keep.up (hb.mono h.room), ⟨fun n c hn2 hc => by
    rw [St.alloc_high s cs t row (h.name hn).2] at hc
    obtain ⟨l, h3, h4⟩ := h.maps.1 n c hn2 hc
    exact ⟨l, hs _ _ h3, (h4.below hb).up hs⟩, fun n k c d l e hn2 hk2 hc hd hl he => by
    rw [St.alloc_high s cs t row (h.name hn).2] at hc hd
    obtain ⟨l1, h3, h4⟩ := h.maps.1 n c hn2 hc
    obtain ⟨l2, h5, h6⟩ := h.maps.1 k d hk2 hd
    rw [hs _ _ h3] at hl; cases hl
    rw [hs _ _ h5] at he; cases he
    exact h.maps.2 n k c d _ _ hn2 hk2 hc hd h3 h5⟩⟩, hb⟩
  · rcases hget n c hn2 hc with ⟨rfl, rfl⟩ | ⟨h1, h2⟩
    · exact ⟨_, hmu, hnew⟩
    · obtain ⟨l, h3, h4⟩ := h.at' n c hn2 h2
      exact ⟨l, hs _ _ h3, (h4.below hb).up hs⟩
  · rcases hget n c (hname n l hl) hc with ⟨rfl, rfl⟩ | ⟨h1, h2⟩
    · rcases hget k d (hname k e he) hd with ⟨h3, _⟩ | ⟨h3, h4⟩
      · exact h3.symm
      · have := hblk k e d (hname k e he) h3 he h4
        rw [hmu] at hl; cases hl
        simp only at heq
        omega
    · rcases hget k d (hname k e he) hd with ⟨rfl, rfl⟩ | ⟨h3, h4⟩
      · have := hblk n l c (hname n l hl) h1 hl h2
        rw [hmu] at he; cases he
        simp only at heq
        omega
      · rw [hold n h1] at hl
        rw [hold k h3] at he
        exact h.inj n k c d l e h2 h4 hl he heq
  · rcases hget n c hn2 hc with ⟨rfl, rfl⟩ | ⟨h1, h2⟩
    · cases hro
    · obtain ⟨cap, h3⟩ := h.glob n c hn2 h2 hro
      exact ⟨cap, hs _ _ h3⟩
/-- a block is no longer spoken of -/
theorem Holds.drop {m : Mu} {s : St} {B : Nat} {W : World} (h : Holds m s B W) (n : Nat) (hn : n < 2 ^ 40) : Holds m (s.put n none) B W := by
  have hget : ∀ k c, k < 2 ^ 40 → (s.put n none).get k = some c → k ≠ n ∧ s.get k = some c := fun k c hk e => by
    by_cases hk2 : k = n
    · subst hk2; rw [St.get_put_same _ _ _ hk] at e; cases e
    · exact ⟨hk2, (St.get_put_other s none hk2).symm.trans e⟩
  refine ⟨h.fresh, h.laid, h.cin, h.big, h.room, fun k c hk hc => h.at' k c hk (hget k c hk hc).2, fun a k c d l e hc hd hl he heq => ?_, fun k c hk hc hro => h.glob k c hk (hget k c hk hc).2 hro, h.keep, ⟨fun k c hk hc => h.maps.1 k c hk ((St.get_put_other s none (by omega)).symm.trans hc), fun a k c d l e ha hk hc hd => h.maps.2 a k c d l e ha hk ((St.get_put_other s none (by omega)).symm.trans hc) ((St.get_put_other s none (by omega)).symm.trans hd)⟩⟩
  exact h.inj a k c d l e (hget a c (R.name_lt h hl) hc).2 (hget k d (R.name_lt h he) hd).2 hl he heq
/-- one cell is written -/
theorem Holds.set {m : Mu} {s : St} {B : Nat} {W : World} (h : Holds m s B W) {n : Nat} {c : Cells} {l : Loc} (hc : s.get n = some c) (hl : m n = some l) (hro : c.ro = false) (i : Nat) (hi : i < c.cells.length) {x y : Value} (hx : R m x y) :
    Holds m (s.put n (some { c with cells := c.cells.set i x })) B (W.setCell ⟨l.blk, i, none⟩ y) ∧ Below B W (W.setCell ⟨l.blk, i, none⟩ y) ∧ (∃ u, W.cell? ⟨l.blk, i, none⟩ = some u) ∧ W.frozen? ⟨l.blk, i, none⟩ = false := by
  have hn := R.name_lt h hl
  obtain ⟨l0, h1, h2⟩ := h.at' n c hn hc
  rw [hl] at h1; cases h1
  obtain ⟨hB, rl, tail, h3, h4, h5, h6⟩ := h2.own hro
  have hlen := h3.length
  have hget : ∀ k d, k < 2 ^ 40 → (s.put n (some { c with cells := c.cells.set i x })).get k = some d → (k = n ∧ d = { c with cells := c.cells.set i x }) ∨ (k ≠ n ∧ s.get k = some d) := fun k d hk e => by
    by_cases hk2 : k = n
    · subst hk2; rw [St.get_put_same _ _ _ hk] at e; exact .inl ⟨rfl, (Option.some.inj e).symm⟩
    · exact .inr ⟨hk2, (St.get_put_other s _ hk2).symm.trans e⟩
  have hset : (rl ++ tail).set i y = rl.set i y ++ tail := List.set_append_left _ _ (by omega)
  have hnew : Lies m B (W.setCell ⟨l.blk, i, none⟩ y) { c with cells := c.cells.set i x } l := by
    have hK := h4.set i y
    rw [hset] at hK
    refine ⟨fun _ => ⟨hB, rl.set i y, tail, h3.set i hx, hK, fun k hk => ?_, h6⟩, fun e => ?_, rl.set i y, h3.set i hx, fun j hj => ?_⟩
    · have := h5 k hk
      simpa using this
    · rw [show ({ c with cells := c.cells.set i x } : Cells).ro = c.ro from rfl, hro] at e; cases e
    · rw [hK.cell j (by rw [List.length_append]; omega), List.getElem_append_left hj]
  have hother : ∀ k d e, k ≠ n → s.get k = some d → m k = some e → Lies m B W d e → Lies m B (W.setCell ⟨l.blk, i, none⟩ y) d e := fun k d e hk hd he hL => by
    have hne : l.blk ≠ e.blk := fun q => hk (h.inj k n d c e l hd hc he hl q.symm)
    refine ⟨fun q => ?_, hL.low, ?_⟩
    · obtain ⟨g1, r2, t2, g2, g3, g4⟩ := hL.own q
      exact ⟨g1, r2, t2, g2, g3.other (p := ⟨l.blk, i, none⟩) hne y, g4⟩
    · obtain ⟨r2, g1, g2⟩ := hL.cell
      exact ⟨r2, g1, fun j hj => (World.cell?_setCell_other _ _ _ _ (show (⟨l.blk, i, none⟩ : Addr) ≠ ⟨e.blk, j, none⟩ from fun q => hne (congrArg Addr.block q))).trans (g2 j hj)⟩
  refine ⟨⟨h.fresh, h.laid, h.cin, h.big, ?_, fun k d hk hd => ?_, fun a k d d' l1 e hd hd' hl1 he heq => ?_, fun k d hk hd hr => ?_, h.keep.up ((Below.refl B W).setCell (p := ⟨l.blk, i, none⟩) hB y), ⟨fun k d hk hd => by
    obtain ⟨e, g3, g4⟩ := h.maps.1 k d hk ((St.get_put_other s _ (by omega)).symm.trans hd)
    exact ⟨e, g3, g4.turn (Below.heap_setCell _ _ _ _ (g4.ne h4))⟩, fun a k c1 d1 l1 e1 ha hk hc1 hd1 => h.maps.2 a k c1 d1 l1 e1 ha hk ((St.get_put_other s _ (by omega)).symm.trans hc1) ((St.get_put_other s _ (by omega)).symm.trans hd1)⟩⟩, (Below.refl B W).setCell (p := ⟨l.blk, i, none⟩) hB y, ⟨_, h4.cell i (by rw [List.length_append]; omega)⟩, h4.free i⟩
  · have := h.room; simpa using this
  · rcases hget k d hk hd with ⟨rfl, rfl⟩ | ⟨g1, g2⟩
    · exact ⟨l, hl, hnew⟩
    · obtain ⟨e, g3, g4⟩ := h.at' k d hk g2
      exact ⟨e, g3, hother k d e g1 g2 g3 g4⟩
  · have q1 : ∃ d0, s.get a = some d0 := by
      rcases hget a d (R.name_lt h hl1) hd with ⟨rfl, _⟩ | ⟨_, g⟩
      · exact ⟨c, hc⟩
      · exact ⟨d, g⟩
    have q2 : ∃ d0, s.get k = some d0 := by
      rcases hget k d' (R.name_lt h he) hd' with ⟨rfl, _⟩ | ⟨_, g⟩
      · exact ⟨c, hc⟩
      · exact ⟨d', g⟩
    obtain ⟨d1, q1⟩ := q1
    obtain ⟨d2, q2⟩ := q2
    exact h.inj a k d1 d2 l1 e q1 q2 hl1 he heq
  · rcases hget k d hk hd with ⟨rfl, rfl⟩ | ⟨_, g⟩
    · rw [show ({ c with cells := c.cells.set i x } : Cells).ro = c.ro from rfl, hro] at hr; cases hr
    · exact h.glob k d hk g hr
end Go.Proofs.YtabpfolbemmhlaaGreatDoor.Ev
