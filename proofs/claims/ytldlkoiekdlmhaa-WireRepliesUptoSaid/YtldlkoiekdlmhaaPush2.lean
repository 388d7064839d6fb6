/-
  append of one element that a literal makes: what is no row of its type stands as it stood. No program is named.
-/
import Derived.Test.YtldlkoiekdlmhaaPush
namespace Go.Proofs.Ytldlkoiekdlmhaa.Mem
open Go.ChangeShapes Go.WideShapes Go.ChangeAt Go.RowKit
set_option linter.unusedVariables false
set_option linter.unusedSimpArgs false
theorem push2 {P : Program} (W : World) (base : Nat) (t e : TypeId) (i : TypeInfo) (z : Value) (size bytes : Nat) (ht : P.underlying t = some (.slice e)) (hi : P.info? e = some i) (hz : i.zero = some z)
    (hsize : i.size = size) (hby : i.bytes = bytes) (hzs : z.cells.size = size) (hsz : 0 < size)
    (v : Value) (n : Nat) (xs : List Value) (hown : W.ownsRow base e size v n xs) (cs : List Value) (hl : cs.length = size) (h1 : ∀ u ∈ cs, u.oneCell' = true)
    (h63 : n + 1 ≤ maxLen) (hbytes : (n + 1) * bytes ≤ 140737488355328) (hbase : base ≤ W.heap.size) :
    ∃ so cap W1, (Builtin.append_ #[t, t] t #[v, .slice (some ⟨W.heap.size, 0, none⟩) 1 1]).run P (W.alloc (.cells cs.toArray e)) = .ok (.slice so (n + 1) cap) W1 ∧ W1.ownsRow base e size (.slice so (n + 1) cap) (n + 1) (xs ++ cs) ∧ Below base W W1 ∧
      (∀ (k : Nat) (o : Obj), W.heap[k]? = some o → (∀ c, o ≠ .cells c e (0, 0)) → W1.heap[k]? = some o) ∧ (∀ k, k < W.heap.size → v.ownBlock ≠ some k → W1.heap[k]? = W.heap[k]?) ∧ W.heap.size ≤ W1.heap.size := by
  have hA := ownsRow_below hown ((Below.refl W.heap.size W).alloc (Nat.le_refl _) (.cells cs.toArray e))
  have hB := (Below.refl base W).alloc hbase (.cells cs.toArray e)
  have hB0 := (Below.refl W.heap.size W).alloc (Nat.le_refl _) (.cells cs.toArray e)
  have hx := Blk.new W cs e
  have hsz1 : W.heap.size ≤ (W.alloc (.cells cs.toArray e)).heap.size := by simp
  obtain ⟨v', w8, hr8, ho8, hg8, _⟩ := run_append_own (P := P) (w := W.alloc (.cells cs.toArray e)) base t t e i z size bytes ht hi hz hsize hby hzs hsz v n xs hA ⟨W.heap.size, 0, none⟩ 1 1 cs (by omega)
    (getElem?_cells' (fun j hj => by rw [Mem.add_plain, Nat.zero_add]; exact hx.cell j hj)) h1 h63 hbytes (by omega)
  obtain ⟨so, cp, rfl, _, _⟩ := ownsRow_form ho8
  have key : ∀ k, k < W.heap.size → v.ownBlock ≠ some k → w8.heap[k]? = W.heap[k]? := fun k hk hne => (hg8.block k (by omega) (fun e => hne e.symm)).trans (hB0.block k hk)
  refine ⟨so, cp, w8, hr8, ho8, hB.grown hg8 (by omega) (fun k hk => (hA.lt k hk).1), ?_, key, by have := hg8.size; omega⟩
  intro k o hk ho
  rw [key k (Array.getElem?_eq_some_iff.1 hk).1 ?_]
  · exact hk
  · intro e'
    rcases hown.2 with ⟨h2, _⟩ | ⟨g, cap, cur, h2, _, hg, _⟩
    · rw [h2] at e'; simp [Value.ownBlock] at e'
    · rw [h2] at e'
      simp only [Value.ownBlock, Option.some.injEq] at e'
      subst e'
      rw [hg] at hk
      exact ho cur (Option.some.inj hk).symm
end Go.Proofs.Ytldlkoiekdlmhaa.Mem
