/-
  Where slices lie, what keeps them; rows of the call's own as blocks. No program is named.
-/
import Derived.Test.YtklclfolmfhocaaGreatDoorRowOwn
namespace Go.Proofs.YtklclfolmfhocaaGreatDoor.Mem
open Go.ChangeShapes Go.WideShapes Go.ChangeAt Go.RowKit
set_option linter.unusedVariables false
set_option linter.unusedSimpArgs false
/-- a slice that has something lies in S -/
def SlIn (S : Nat → Prop) (v : Value) (n : Nat) : Prop := 0 < n → ∀ ao m cap, v = .slice ao m cap → ∀ a, ao = some a → S a.block
theorem sl_stay {w w' : World} {v : Value} {n : Nat} {cs : List Value} {S : Nat → Prop} (h : SlV w v n cs) (hn : n = 0 → cs = []) (hS : SlIn S v n) (hk : ∀ k, S k → w'.heap[k]? = w.heap[k]?) : SlV w' v n cs := by
  obtain ⟨ao, cap, h1, h2, h3, h4, h5, h6⟩ := h
  refine ⟨ao, cap, h1, h2, h3, h4, h5, fun a ha j hj => ?_⟩
  rw [← h6 a ha j hj]
  have hpos : 0 < n := by
    rcases Nat.eq_zero_or_pos n with h0 | h0
    · rw [hn h0] at hj; simp at hj
    · exact h0
  have := hk _ (hS hpos ao n cap h1 a ha)
  have hb : (a.add j).block = a.block := by unfold Addr.add; split <;> rfl
  simp only [World.cell?]
  rw [hb, this]
theorem wpList_app {P : Program} {ops : Array Oper} {rest : List Oper} {o : Oper} {a : Act} {w : World} {Q : Exit → Act → World → Prop} (hgd : o.guard = none) (s x : Operand) (t t' : TypeId)
    (ho : o.op = .call { callee := .builtin .append, args := #[s, x], argTypes := #[t, t'] }) (v1 v2 v : Value) (w' : World) (hs : a.eval s = v1) (hx : a.eval x = v2)
    (hrun : (Builtin.append_ #[t, t'] o.type #[v1, v2]).run P w = .ok v w') (h : wpList P ops Q rest (a.put o.dst v) w') : wpList P ops Q (o :: rest) a w :=
  wpList_plain hgd fun _ hK => by
    unfold Oper.wp
    simp [execOp, ho, resolve, invoke, builtin, hs, hx, hrun, Result.andThen]
    exact hK _ _ h
theorem own_in {w : World} {base : Nat} {e : TypeId} {size n : Nat} {so : Option Addr} {sc : Nat} {xs : List Value} (h : w.ownsRow base e size (.slice so n sc) n xs) : SlIn (fun k => base ≤ k ∧ k < w.heap.size) (.slice so n sc) n := by
  intro hn ao m cap he a ha
  simp only [Value.slice.injEq] at he
  obtain ⟨rfl, rfl, rfl⟩ := he
  subst ha
  rcases h.2 with h2 | ⟨g, cap, cur, hv, hg, hh, r⟩
  · have := h2.1
    simp at this
  · simp only [Value.slice.injEq, Option.some.injEq] at hv
    obtain ⟨rfl, _, _⟩ := hv
    exact ⟨hg, (Array.getElem?_eq_some_iff.1 hh).1⟩
theorem own_blk {w : World} {base : Nat} {e : TypeId} {size n : Nat} {so : Option Addr} {sc : Nat} {xs : List Value} (h : w.ownsRow base e size (.slice so n sc) n xs) :
    ((xs = [] ∧ so = none) ∨ ∃ g tail, so = some ⟨g, 0, none⟩ ∧ base ≤ g ∧ Blk w g (xs ++ tail) e) ∧ n ≤ sc ∧ sc ≤ maxLen ∧ (so = none → sc = 0) := by
  have hl := h.1
  rcases h.2 with ⟨h2, h3⟩ | ⟨g, cap, cur, hv, hg, hh, hnc, hcm, hcs, htake⟩
  · simp only [Value.slice.injEq] at h2
    refine ⟨.inl ⟨List.eq_nil_of_length_eq_zero ?_, h2.1⟩, by omega, by rw [h2.2.2]; decide, fun _ => h2.2.2⟩
    rw [hl, h2.2.1]; simp
  · simp only [Value.slice.injEq] at hv
    refine ⟨.inr ⟨g, cur.toList.drop xs.length, hv.1, hg, ⟨?_⟩⟩, by rw [hv.2.2]; exact hnc, by rw [hv.2.2]; exact hcm, fun e => by rw [hv.1] at e; exact absurd e (by simp)⟩
    rw [hh]
    have e1 : cur.toList = xs ++ cur.toList.drop xs.length := by
      have := (List.take_append_drop (n * size) cur.toList).symm
      rw [htake] at this
      rw [hl]
      exact this
    rw [← e1]
theorem Blk.keepAt {w w' : World} {b : Nat} {cs : List Value} {t : TypeId} (h : Blk w b cs t) (e : w'.heap[b]? = w.heap[b]?) : Blk w' b cs t := ⟨e.trans h.at'⟩
theorem set_mid (A C : List Value) (b v : Value) (L : List Value) (hL : L = A ++ b :: C) (i : Nat) (hi : A.length = i) : L.set i v = A ++ v :: C := by
  subst hL hi
  rw [List.set_append_right _ _ (Nat.le_refl _), Nat.sub_self]
  rfl
theorem getElem?_cells' {w : World} {a : Addr} {cs : List Value} (h : ∀ j (h : j < cs.length), w.cell? (a.add j) = some cs[j]) : ∀ j u, cs[j]? = some u → w.cell? (a.add j) = some u := by
  intro j u hu
  obtain ⟨hj, rfl⟩ := List.getElem?_eq_some_iff.1 hu
  exact h j hj
end Go.Proofs.YtklclfolmfhocaaGreatDoor.Mem
