/-
  append of one element that a literal makes: what is no row of its type stands as it stood. No program is named.
-/
import Derived.Test.YtldlkoiekdlmhaaPkLikBuild
import Derived.ArgAppend
import Derived.Laws.IdiomCopy
namespace Go.Proofs.Ytldlkoiekdlmhaa.Mem
open Go.ChangeShapes Go.WideShapes Go.ChangeAt Go.RowKit
set_option linter.unusedVariables false
/-- the row is where it was, or new -/
def Placed (w : World) (v v' : Value) : Prop := v'.ownBlock = v.ownBlock ∨ ∃ g, v'.ownBlock = some g ∧ w.heap.size ≤ g
theorem run_append_place {P : Program} (w : World) (base : Nat) (t ty e : TypeId) (i : TypeInfo) (z : Value) (size bytes : Nat) (ht : P.underlying t = some (.slice e)) (hi : P.info? e = some i) (hz : i.zero = some z)
    (hsize : i.size = size) (hby : i.bytes = bytes) (hzs : z.cells.size = size) (hsz : 0 < size)
    (v : Value) (n : Nat) (xs : List Value) (hown : w.ownsRow base e size v n xs)
    (a : Addr) (m c : Nat) (news : List Value) (hl : news.length = m * size) (hnews : ∀ j u, news[j]? = some u → w.cell? (a.add j) = some u) (h1 : ∀ u ∈ news, u.oneCell' = true)
    (h63 : n + m ≤ maxLen) (hbytes : (n + m) * bytes ≤ 140737488355328) (hbase : base ≤ w.heap.size) :
    ∃ v' w', (Builtin.append_ #[t, t] ty #[v, .slice (some a) m c]).run P w = .ok v' w' ∧ w'.ownsRow base e size v' (n + m) (xs ++ news) ∧ w.grownBy w' v.ownBlock ∧ Placed w v v' := by
  obtain ⟨v', w', hrun, ho, hg, _⟩ := run_append_own (P := P) w base t ty e i z size bytes ht hi hz hsize hby hzs hsz v n xs hown a m c news hl hnews h1 h63 hbytes hbase
  refine ⟨v', w', hrun, ho, hg, ?_⟩
  rcases hown.2 with ⟨rfl, h0⟩ | ⟨g, cap, cur, rfl, hb, hh, hnc, hcm, hcs, htake⟩
  · obtain ⟨v2, w2, hrun2, ho2, _, _⟩ := run_append_own (P := P) w w.heap.size t ty e i z size bytes ht hi hz hsize hby hzs hsz (.slice none 0 0) n xs ⟨hown.1, .inl ⟨rfl, h0⟩⟩ a m c news hl hnews h1 h63 hbytes (Nat.le_refl _)
    rw [hrun] at hrun2
    simp only [Result.ok.injEq] at hrun2
    obtain ⟨rfl, rfl⟩ := hrun2
    cases hv : v'.ownBlock with
    | none => exact .inl hv
    | some g => exact .inr ⟨g, hv, (ho2.lt g hv).1⟩
  · by_cases hroom : n + m ≤ cap
    · have hmul : (n + m) * size ≤ cap * size := Nat.mul_le_mul_right _ hroom
      rw [Nat.add_mul] at hmul
      have hrun2 := run_append_room_cells (P := P) w t ty e i ht hi g 0 n cap a m c news (by rw [hsize]; exact hl) hnews h1 hroom
        (fun j hj => by simp only [World.cell?, hh]; rw [hsize, Nat.zero_add, Array.getElem?_eq_getElem (by rw [hcs]; omega)]; rfl)
        (fun j hj => by simp [World.frozen?, hh])
      rw [hrun] at hrun2
      simp only [Result.ok.injEq] at hrun2
      rw [hrun2.1]
      exact .inl rfl
    · obtain ⟨v2, w2, hrun2, ho2, _⟩ := run_append_arg_grows (P := P) w t ty e i z size bytes ht hi hz hsize hby hzs hsz ⟨g, 0, none⟩ n cap xs hown.1 (fun j u hu => by
          obtain ⟨hj, hu'⟩ := List.getElem?_eq_some_iff.1 hu
          rw [Mem.add_plain, Nat.zero_add]
          have := hown.cells rfl j u hu
          rw [Mem.add_plain, Nat.zero_add] at this
          exact this) a m c news hl hnews (by omega) h63 hbytes
      rw [hrun] at hrun2
      simp only [Result.ok.injEq] at hrun2
      obtain ⟨rfl, rfl⟩ := hrun2
      cases hv : v'.ownBlock with
      | none =>
        rcases ho2.2 with ⟨_, h0⟩ | ⟨g', _, _, rfl, _⟩
        · omega
        · exact absurd hv (by simp [Value.ownBlock])
      | some g' => exact .inr ⟨g', hv, (ho2.lt g' hv).1⟩
end Go.Proofs.Ytldlkoiekdlmhaa.Mem
namespace Go.Proofs.Ytldlkoiekdlmhaa.Mem
open Go.ChangeShapes Go.WideShapes Go.ChangeAt Go.RowKit
set_option linter.unusedVariables false
set_option linter.unusedSimpArgs false
/-- a slice that has something lies in S -/
def SlIn (S : Nat → Prop) (v : Value) (n : Nat) : Prop := 0 < n → ∀ ao m cap, v = .slice ao m cap → ∀ a, ao = some a → S a.block
theorem sl_stay {w w' : World} {v : Value} {n : Nat} {cs : List Value} {S : Nat → Prop} (h : SlV w v n cs) (hn : n = 0 → cs = []) (hS : SlIn S v n) (hk : ∀ k, S k → w'.heap[k]? = w.heap[k]?) : SlV w' v n cs := by
  obtain ⟨ao, cap, h1, h2, h3, h4, h5, h6⟩ := h
  refine ⟨ao, cap, h1, h2, h3, h4, h5, fun a ha j hj => ?_⟩
  rw [← h6 a ha j hj]
  have hpos : 0 < n := by
    rcases Nat.eq_zero_or_pos n with h0 | h0
    · rw [hn h0] at hj; simp at hj
    · exact h0
  have := hk _ (hS hpos ao n cap h1 a ha)
  have hb : (a.add j).block = a.block := by unfold Addr.add; split <;> rfl
  simp only [World.cell?]
  rw [hb, this]
theorem wpList_app {P : Program} {ops : Array Oper} {rest : List Oper} {o : Oper} {a : Act} {w : World} {Q : Exit → Act → World → Prop} (hgd : o.guard = none) (s x : Operand) (t t' : TypeId)
    (ho : o.op = .call { callee := .builtin .append, args := #[s, x], argTypes := #[t, t'] }) (v1 v2 v : Value) (w' : World) (hs : a.eval s = v1) (hx : a.eval x = v2)
    (hrun : (Builtin.append_ #[t, t'] o.type #[v1, v2]).run P w = .ok v w') (h : wpList P ops Q rest (a.put o.dst v) w') : wpList P ops Q (o :: rest) a w :=
  wpList_plain hgd fun _ hK => by
    unfold Oper.wp
    simp [execOp, ho, resolve, invoke, builtin, hs, hx, hrun, Result.andThen]
    exact hK _ _ h
theorem own_in {w : World} {base : Nat} {e : TypeId} {size n : Nat} {so : Option Addr} {sc : Nat} {xs : List Value} (h : w.ownsRow base e size (.slice so n sc) n xs) : SlIn (fun k => base ≤ k ∧ k < w.heap.size) (.slice so n sc) n := by
  intro hn ao m cap he a ha
  simp only [Value.slice.injEq] at he
  obtain ⟨rfl, rfl, rfl⟩ := he
  subst ha
  rcases h.2 with h2 | ⟨g, cap, cur, hv, hg, hh, r⟩
  · have := h2.1
    simp at this
  · simp only [Value.slice.injEq, Option.some.injEq] at hv
    obtain ⟨rfl, _, _⟩ := hv
    exact ⟨hg, (Array.getElem?_eq_some_iff.1 hh).1⟩
theorem own_blk {w : World} {base : Nat} {e : TypeId} {size n : Nat} {so : Option Addr} {sc : Nat} {xs : List Value} (h : w.ownsRow base e size (.slice so n sc) n xs) :
    ((xs = [] ∧ so = none) ∨ ∃ g tail, so = some ⟨g, 0, none⟩ ∧ base ≤ g ∧ Blk w g (xs ++ tail) e) ∧ n ≤ sc ∧ sc ≤ maxLen ∧ (so = none → sc = 0) := by
  have hl := h.1
  rcases h.2 with ⟨h2, h3⟩ | ⟨g, cap, cur, hv, hg, hh, hnc, hcm, hcs, htake⟩
  · simp only [Value.slice.injEq] at h2
    refine ⟨.inl ⟨List.eq_nil_of_length_eq_zero ?_, h2.1⟩, by omega, by rw [h2.2.2]; decide, fun _ => h2.2.2⟩
    rw [hl, h2.2.1]; simp
  · simp only [Value.slice.injEq] at hv
    refine ⟨.inr ⟨g, cur.toList.drop xs.length, hv.1, hg, ⟨?_⟩⟩, by rw [hv.2.2]; exact hnc, by rw [hv.2.2]; exact hcm, fun e => by rw [hv.1] at e; exact absurd e (by simp)⟩
    rw [hh]
    have e1 : cur.toList = xs ++ cur.toList.drop xs.length := by
      have := (List.take_append_drop (n * size) cur.toList).symm
      rw [htake] at this
      rw [hl]
      exact this
    rw [← e1]
theorem Blk.keepAt {w w' : World} {b : Nat} {cs : List Value} {t : TypeId} (h : Blk w b cs t) (e : w'.heap[b]? = w.heap[b]?) : Blk w' b cs t := ⟨e.trans h.at'⟩
theorem set_mid (A C : List Value) (b v : Value) (L : List Value) (hL : L = A ++ b :: C) (i : Nat) (hi : A.length = i) : L.set i v = A ++ v :: C := by
  subst hL hi
  rw [List.set_append_right _ _ (Nat.le_refl _), Nat.sub_self]
  rfl
theorem getElem?_cells' {w : World} {a : Addr} {cs : List Value} (h : ∀ j (h : j < cs.length), w.cell? (a.add j) = some cs[j]) : ∀ j u, cs[j]? = some u → w.cell? (a.add j) = some u := by
  intro j u hu
  obtain ⟨hj, rfl⟩ := List.getElem?_eq_some_iff.1 hu
  exact h j hj
end Go.Proofs.Ytldlkoiekdlmhaa.Mem
namespace Go.Proofs.Ytldlkoiekdlmhaa.Mem
open Go.ChangeShapes Go.WideShapes Go.ChangeAt Go.RowKit
set_option linter.unusedVariables false
set_option linter.unusedSimpArgs false
theorem Blk.row {w : World} {g : Nat} {cs : List Value} {t : TypeId} (h : Blk w g cs t) (vs : List Value) : Blk (w.setRow g vs.toArray) g vs t := ⟨setRow_heap w g _ _ t (0, 0) h.at'⟩
theorem Blk.rowOther {w : World} {g b : Nat} {cs : List Value} {t : TypeId} (h : Blk w b cs t) (hg : b ≠ g) (vs : Array Value) : Blk (w.setRow g vs) b cs t := ⟨(setRow_other w g b vs hg).trans h.at'⟩
theorem below_row {B g : Nat} {w W : World} (h : Below B w W) (hg : B ≤ g) (vs : Array Value) : Below B w (W.setRow g vs) :=
  ⟨h.os, h.tape, h.output, by rw [setRow_size]; exact h.size, fun k hk => by rw [setRow_other _ _ _ _ (show k ≠ g by omega)]; exact h.block k hk⟩
theorem results_ct {P : Program} {fn : Func} {p q : Tmp} {ty : TypeId} (h : fn.results = #[.cell p ty, .tmp q]) (tmps : Array Value) (w : World) (g : Nat) (t : TypeId) (cs : Array Value) (fr : Nat × Nat) (d : TypeDesc)
    (hp : tmps.getD p undef = .pointer (some ⟨g, 0, none⟩)) (hg : w.heap[g]? = some (.cells cs t fr))
    (hu : P.underlying ty = some d) (hd : (match d with | .struct _ | .array _ _ => true | _ => false) = true) (hi : (P.info? ty).map (·.size) = some cs.size) :
    (results fn tmps).run P w = .ok (.tuple #[.agg cs, tmps.getD q undef]) w := by
  have hp' : tmps[p]?.getD undef = .pointer (some ⟨g, 0, none⟩) := by simpa using hp
  simp [results, h, hp', asAddr, run_loadVar_row w g t ty cs fr d hg hu hd hi]
theorem wpList_build0 {P : Program} {ops : Array Oper} {rest : List Oper} {o : Oper} {a : Act} {w : World} {Q : Exit → Act → World → Prop} (hg : o.guard = none) (t : TypeId) (ho : o.op = .build t #[]) (cs : Array Value) (hb : P.built t [] = some cs)
    (h : wpList P ops Q rest (a.put o.dst (.agg cs)) w) : wpList P ops Q (o :: rest) a w := by
  have e : P.built t ((#[] : Array (Nat × Operand)).map fun (i, x) => (i, a.eval x)).toList = some cs := by simpa using hb
  refine wpList_build hg t #[] ho (by rw [e]; rfl) ?_
  rw [e]
  exact h
end Go.Proofs.Ytldlkoiekdlmhaa.Mem
namespace Go.Proofs.Ytldlkoiekdlmhaa.Mem
open Go.ChangeShapes Go.WideShapes Go.ChangeAt Go.RowKit
set_option linter.unusedVariables false
set_option linter.unusedSimpArgs false
theorem push {P : Program} (W : World) (base : Nat) (t e : TypeId) (i : TypeInfo) (z : Value) (size bytes : Nat) (ht : P.underlying t = some (.slice e)) (hi : P.info? e = some i) (hz : i.zero = some z)
    (hsize : i.size = size) (hby : i.bytes = bytes) (hzs : z.cells.size = size) (hsz : 0 < size)
    (v : Value) (n : Nat) (xs : List Value) (hown : W.ownsRow base e size v n xs) (cs : List Value) (hl : cs.length = size) (h1 : ∀ u ∈ cs, u.oneCell' = true)
    (h63 : n + 1 ≤ maxLen) (hbytes : (n + 1) * bytes ≤ 140737488355328) (hbase : base ≤ W.heap.size) :
    ∃ so cap W1, (Builtin.append_ #[t, t] t #[v, .slice (some ⟨W.heap.size, 0, none⟩) 1 1]).run P (W.alloc (.cells cs.toArray e)) = .ok (.slice so (n + 1) cap) W1 ∧ W1.ownsRow base e size (.slice so (n + 1) cap) (n + 1) (xs ++ cs) ∧ Below base W W1 ∧
      (∀ b c T, Blk W b c T → T ≠ e → Blk W1 b c T) ∧ W.heap.size ≤ W1.heap.size := by
  have hA := ownsRow_below hown ((Below.refl W.heap.size W).alloc (Nat.le_refl _) (.cells cs.toArray e))
  have hB := (Below.refl base W).alloc hbase (.cells cs.toArray e)
  have hx := Blk.new W cs e
  have hk : ∀ b c T, Blk W b c T → Blk (W.alloc (.cells cs.toArray e)) b c T := fun b c T h => h.alloc _
  have hsz1 : W.heap.size ≤ (W.alloc (.cells cs.toArray e)).heap.size := by simp
  obtain ⟨v', w8, hr8, ho8, hg8, _⟩ := run_append_own (P := P) (w := W.alloc (.cells cs.toArray e)) base t t e i z size bytes ht hi hz hsize hby hzs hsz v n xs hA ⟨W.heap.size, 0, none⟩ 1 1 cs (by omega)
    (getElem?_cells' (fun j hj => by rw [Mem.add_plain, Nat.zero_add]; exact hx.cell j hj)) h1 h63 hbytes (by omega)
  obtain ⟨so, cp, rfl, _, _⟩ := ownsRow_form ho8
  refine ⟨so, cp, w8, hr8, ho8, hB.grown hg8 (by omega) (fun k hk => (hA.lt k hk).1), ?_, by have := hg8.size; omega⟩
  intro b c T hb hT
  refine ⟨(hg8.block b (by have := hb.lt; omega) ?_).trans (hk b c T hb).at'⟩
  intro e'
  rcases hown.2 with ⟨h2, _⟩ | ⟨g, cap, cur, h2, _, hg, _⟩
  · rw [h2] at e'; simp [Value.ownBlock] at e'
  · rw [h2] at e'
    simp only [Value.ownBlock, Option.some.injEq] at e'
    subst e'
    have q := hb.at'
    rw [hg] at q
    simp only [Option.some.injEq, Obj.cells.injEq] at q
    exact hT q.2.1.symm
theorem wpList_push {P : Program} {ops : Array Oper} {rest : List Oper} {o : Oper} {a : Act} {w : World} {Q : Exit → Act → World → Prop} (hgd : o.guard = none) (s x : Operand) (t t' : TypeId)
    (ho : o.op = .call { callee := .builtin .append, args := #[s, x], argTypes := #[t, t'] }) (v1 v2 v : Value) (w' : World) (hs : a.eval s = v1) (hx : a.eval x = v2)
    (hrun : (Builtin.append_ #[t, t'] o.type #[v1, v2]).run P w = .ok v w') (h : ∀ W, W = w' → wpList P ops Q rest (a.put o.dst v) W) : wpList P ops Q (o :: rest) a w :=
  wpList_plain hgd fun _ hK => by
    unfold Oper.wp
    simp [execOp, ho, resolve, invoke, builtin, hs, hx, hrun, Result.andThen]
    exact hK _ _ (h _ rfl)
/-- a row of the call's own, while one block that is no part of it is written, and others are made -/
theorem ownsRow_but {b : Nat} {w w' : World} {base : Nat} {e : TypeId} {size : Nat} {v : Value} {n : Nat} {xs : List Value} (h : w.ownsRow base e size v n xs) (hb : But w.heap.size b w w') (hne : v.ownBlock ≠ some b) : w'.ownsRow base e size v n xs := by
  obtain ⟨h1, h2⟩ := h
  refine ⟨h1, ?_⟩
  rcases h2 with h2 | ⟨g, cap, cur, hv, hg, hh, r⟩
  · exact .inl h2
  · refine .inr ⟨g, cap, cur, hv, hg, (hb.block g (Array.getElem?_eq_some_iff.1 hh).1 ?_).trans hh, r⟩
    rintro rfl
    exact hne (by rw [hv]; rfl)
theorem ownsRow_at {w w' : World} {base : Nat} {e : TypeId} {size : Nat} {v : Value} {n : Nat} {xs : List Value} (h : w.ownsRow base e size v n xs) (hk : ∀ g, v.ownBlock = some g → w'.heap[g]? = w.heap[g]?) : w'.ownsRow base e size v n xs := by
  obtain ⟨h1, h2⟩ := h
  refine ⟨h1, ?_⟩
  rcases h2 with h2 | ⟨g, cap, cur, hv, hg, hh, r⟩
  · exact .inl h2
  · exact .inr ⟨g, cap, cur, hv, hg, (hk g (by rw [hv]; rfl)).trans hh, r⟩
theorem ownsRow_store {w : World} {base : Nat} {e : TypeId} {size : Nat} {v : Value} {n : Nat} {xs : List Value} (h : w.ownsRow base e size v n xs) {c : Nat} (hc : ∀ g, v.ownBlock = some g → g ≠ c) (i : Nat) (x : Value) : (w.setCell ⟨c, i, none⟩ x).ownsRow base e size v n xs :=
  ownsRow_at h fun g hg => Below.heap_setCell _ _ _ _ (hc g hg)
end Go.Proofs.Ytldlkoiekdlmhaa.Mem
namespace Go.Proofs.Ytldlkoiekdlmhaa.Mem
open Go.ChangeShapes Go.WideShapes Go.ChangeAt Go.RowKit
set_option linter.unusedVariables false
set_option linter.unusedSimpArgs false
theorem push2 {P : Program} (W : World) (base : Nat) (t e : TypeId) (i : TypeInfo) (z : Value) (size bytes : Nat) (ht : P.underlying t = some (.slice e)) (hi : P.info? e = some i) (hz : i.zero = some z)
    (hsize : i.size = size) (hby : i.bytes = bytes) (hzs : z.cells.size = size) (hsz : 0 < size)
    (v : Value) (n : Nat) (xs : List Value) (hown : W.ownsRow base e size v n xs) (cs : List Value) (hl : cs.length = size) (h1 : ∀ u ∈ cs, u.oneCell' = true)
    (h63 : n + 1 ≤ maxLen) (hbytes : (n + 1) * bytes ≤ 140737488355328) (hbase : base ≤ W.heap.size) :
    ∃ so cap W1, (Builtin.append_ #[t, t] t #[v, .slice (some ⟨W.heap.size, 0, none⟩) 1 1]).run P (W.alloc (.cells cs.toArray e)) = .ok (.slice so (n + 1) cap) W1 ∧ W1.ownsRow base e size (.slice so (n + 1) cap) (n + 1) (xs ++ cs) ∧ Below base W W1 ∧
      (∀ (k : Nat) (o : Obj), W.heap[k]? = some o → (∀ c, o ≠ .cells c e (0, 0)) → W1.heap[k]? = some o) ∧ (∀ k, k < W.heap.size → v.ownBlock ≠ some k → W1.heap[k]? = W.heap[k]?) ∧ W.heap.size ≤ W1.heap.size := by
  have hA := ownsRow_below hown ((Below.refl W.heap.size W).alloc (Nat.le_refl _) (.cells cs.toArray e))
  have hB := (Below.refl base W).alloc hbase (.cells cs.toArray e)
  have hB0 := (Below.refl W.heap.size W).alloc (Nat.le_refl _) (.cells cs.toArray e)
  have hx := Blk.new W cs e
  have hsz1 : W.heap.size ≤ (W.alloc (.cells cs.toArray e)).heap.size := by simp
  obtain ⟨v', w8, hr8, ho8, hg8, _⟩ := run_append_own (P := P) (w := W.alloc (.cells cs.toArray e)) base t t e i z size bytes ht hi hz hsize hby hzs hsz v n xs hA ⟨W.heap.size, 0, none⟩ 1 1 cs (by omega)
    (getElem?_cells' (fun j hj => by rw [Mem.add_plain, Nat.zero_add]; exact hx.cell j hj)) h1 h63 hbytes (by omega)
  obtain ⟨so, cp, rfl, _, _⟩ := ownsRow_form ho8
  have key : ∀ k, k < W.heap.size → v.ownBlock ≠ some k → w8.heap[k]? = W.heap[k]? := fun k hk hne => (hg8.block k (by omega) (fun e => hne e.symm)).trans (hB0.block k hk)
  refine ⟨so, cp, w8, hr8, ho8, hB.grown hg8 (by omega) (fun k hk => (hA.lt k hk).1), ?_, key, by have := hg8.size; omega⟩
  intro k o hk ho
  rw [key k (Array.getElem?_eq_some_iff.1 hk).1 ?_]
  · exact hk
  · intro e'
    rcases hown.2 with ⟨h2, _⟩ | ⟨g, cap, cur, h2, _, hg, _⟩
    · rw [h2] at e'; simp [Value.ownBlock] at e'
    · rw [h2] at e'
      simp only [Value.ownBlock, Option.some.injEq] at e'
      subst e'
      rw [hg] at hk
      exact ho cur (Option.some.inj hk).symm
end Go.Proofs.Ytldlkoiekdlmhaa.Mem
