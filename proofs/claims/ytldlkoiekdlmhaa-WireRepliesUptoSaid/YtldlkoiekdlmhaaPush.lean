/-
  append of one element that a literal makes to a row of the call's own. No program is named.
-/
import Derived.Test.YtldlkoiekdlmhaaKeep
namespace Go.Proofs.Ytldlkoiekdlmhaa.Mem
open Go.ChangeShapes Go.WideShapes Go.ChangeAt Go.RowKit
set_option linter.unusedVariables false
set_option linter.unusedSimpArgs false
theorem push {P : Program} (W : World) (base : Nat) (t e : TypeId) (i : TypeInfo) (z : Value) (size bytes : Nat) (ht : P.underlying t = some (.slice e)) (hi : P.info? e = some i) (hz : i.zero = some z)
    (hsize : i.size = size) (hby : i.bytes = bytes) (hzs : z.cells.size = size) (hsz : 0 < size)
    (v : Value) (n : Nat) (xs : List Value) (hown : W.ownsRow base e size v n xs) (cs : List Value) (hl : cs.length = size) (h1 : ∀ u ∈ cs, u.oneCell' = true)
    (h63 : n + 1 ≤ maxLen) (hbytes : (n + 1) * bytes ≤ 140737488355328) (hbase : base ≤ W.heap.size) :
    ∃ so cap W1, (Builtin.append_ #[t, t] t #[v, .slice (some ⟨W.heap.size, 0, none⟩) 1 1]).run P (W.alloc (.cells cs.toArray e)) = .ok (.slice so (n + 1) cap) W1 ∧ W1.ownsRow base e size (.slice so (n + 1) cap) (n + 1) (xs ++ cs) ∧ Below base W W1 ∧
      (∀ b c T, Blk W b c T → T ≠ e → Blk W1 b c T) ∧ W.heap.size ≤ W1.heap.size := by
  have hA := ownsRow_below hown ((Below.refl W.heap.size W).alloc (Nat.le_refl _) (.cells cs.toArray e))
  have hB := (Below.refl base W).alloc hbase (.cells cs.toArray e)
  have hx := Blk.new W cs e
  have hk : ∀ b c T, Blk W b c T → Blk (W.alloc (.cells cs.toArray e)) b c T := fun b c T h => h.alloc _
  have hsz1 : W.heap.size ≤ (W.alloc (.cells cs.toArray e)).heap.size := by simp
  obtain ⟨v', w8, hr8, ho8, hg8, _⟩ := run_append_own (P := P) (w := W.alloc (.cells cs.toArray e)) base t t e i z size bytes ht hi hz hsize hby hzs hsz v n xs hA ⟨W.heap.size, 0, none⟩ 1 1 cs (by omega)
    (getElem?_cells' (fun j hj => by rw [Mem.add_plain, Nat.zero_add]; exact hx.cell j hj)) h1 h63 hbytes (by omega)
  obtain ⟨so, cp, rfl, _, _⟩ := ownsRow_form ho8
  refine ⟨so, cp, w8, hr8, ho8, hB.grown hg8 (by omega) (fun k hk => (hA.lt k hk).1), ?_, by have := hg8.size; omega⟩
  intro b c T hb hT
  refine ⟨(hg8.block b (by have := hb.lt; omega) ?_).trans (hk b c T hb).at'⟩
  intro e'
  rcases hown.2 with ⟨h2, _⟩ | ⟨g, cap, cur, h2, _, hg, _⟩
  · rw [h2] at e'; simp [Value.ownBlock] at e'
  · rw [h2] at e'
    simp only [Value.ownBlock, Option.some.injEq] at e'
    subst e'
    have q := hb.at'
    rw [hg] at q
    simp only [Option.some.injEq, Obj.cells.injEq] at q
    exact hT q.2.1.symm
theorem wpList_push {P : Program} {ops : Array Oper} {rest : List Oper} {o : Oper} {a : Act} {w : World} {Q : Exit → Act → World → Prop} (hgd : o.guard = none) (s x : Operand) (t t' : TypeId)
    (ho : o.op = .call { callee := .builtin .append, args := #[s, x], argTypes := #[t, t'] }) (v1 v2 v : Value) (w' : World) (hs : a.eval s = v1) (hx : a.eval x = v2)
    (hrun : (Builtin.append_ #[t, t'] o.type #[v1, v2]).run P w = .ok v w') (h : ∀ W, W = w' → wpList P ops Q rest (a.put o.dst v) W) : wpList P ops Q (o :: rest) a w :=
  wpList_plain hgd fun _ hK => by
    unfold Oper.wp
    simp [execOp, ho, resolve, invoke, builtin, hs, hx, hrun, Result.andThen]
    exact hK _ _ (h _ rfl)
/-- a row of the call's own, while one block that is no part of it is written, and others are made -/
theorem ownsRow_but {b : Nat} {w w' : World} {base : Nat} {e : TypeId} {size : Nat} {v : Value} {n : Nat} {xs : List Value} (h : w.ownsRow base e size v n xs) (hb : But w.heap.size b w w') (hne : v.ownBlock ≠ some b) : w'.ownsRow base e size v n xs := by
  obtain ⟨h1, h2⟩ := h
  refine ⟨h1, ?_⟩
  rcases h2 with h2 | ⟨g, cap, cur, hv, hg, hh, r⟩
  · exact .inl h2
  · refine .inr ⟨g, cap, cur, hv, hg, (hb.block g (Array.getElem?_eq_some_iff.1 hh).1 ?_).trans hh, r⟩
    rintro rfl
    exact hne (by rw [hv]; rfl)
theorem ownsRow_at {w w' : World} {base : Nat} {e : TypeId} {size : Nat} {v : Value} {n : Nat} {xs : List Value} (h : w.ownsRow base e size v n xs) (hk : ∀ g, v.ownBlock = some g → w'.heap[g]? = w.heap[g]?) : w'.ownsRow base e size v n xs := by
  obtain ⟨h1, h2⟩ := h
  refine ⟨h1, ?_⟩
  rcases h2 with h2 | ⟨g, cap, cur, hv, hg, hh, r⟩
  · exact .inl h2
  · exact .inr ⟨g, cap, cur, hv, hg, (hk g (by rw [hv]; rfl)).trans hh, r⟩
theorem ownsRow_store {w : World} {base : Nat} {e : TypeId} {size : Nat} {v : Value} {n : Nat} {xs : List Value} (h : w.ownsRow base e size v n xs) {c : Nat} (hc : ∀ g, v.ownBlock = some g → g ≠ c) (i : Nat) (x : Value) : (w.setCell ⟨c, i, none⟩ x).ownsRow base e size v n xs :=
  ownsRow_at h fun g hg => Below.heap_setCell _ _ _ _ (hc g hg)
end Go.Proofs.Ytldlkoiekdlmhaa.Mem
