/-
  append of names, of expressions to nothing.
-/
import Derived.Test.YtihnhinnohnfgaaGreatDoorExKeep
import Derived.Test.YtihnhinnohnfgaaGreatDoorRows
import Derived.WalkKit
import Derived.ProofKit
import Derived.OpenShut
import Derived.Handy
import Derived.Outline
import Derived.Deep.Cut
import Derived.WalkSpells
namespace Go.Proofs.YtihnhinnohnfgaaGreatDoor.Ex
open Go.ChangeShapes Go.WideShapes Go.ChangeAt Go.RowKit
open Go.Proofs.YtihnhinnohnfgaaGreatDoor.Mem
set_option linter.unusedVariables false
set_option linter.unusedSimpArgs false
set_option maxRecDepth 100000
theorem info_string : (Tryz.prog.info? 9).map (fun i => (i.zero, i.size, i.bytes)) = some (some (.string ⟨#[]⟩), 1, 16) := by kernel_rfl
theorem info_expr : (Tryz.prog.info? 26).map (fun i => (i.zero, i.size, i.bytes)) = some (some (.agg #[.int .u8 0, .int .i64 0, .string ⟨#[]⟩, .string ⟨#[]⟩, .slice none 0 0, .slice none 0 0]), 6, 96) := by kernel_rfl
theorem info_parts' {t : TypeId} {z : Value} {n b : Nat} (h : (Tryz.prog.info? t).map (fun i => (i.zero, i.size, i.bytes)) = some (some z, n, b)) : ∃ i, Tryz.prog.info? t = some i ∧ i.zero = some z ∧ i.size = n ∧ i.bytes = b := by
  obtain ⟨i, hi, he⟩ := Option.map_eq_some_iff.1 h
  simp only [Prod.mk.injEq] at he
  exact ⟨i, hi, he.1, he.2.1, he.2.2⟩
theorem enc_one {w : World} {x : T} (h : x.ok w) : ∀ u ∈ x.enc, u.oneCell' = true := by
  obtain ⟨no, nc, lo, lc, e1, e2, _, _⟩ := h.forms
  intro u hu
  unfold T.enc at hu
  rw [e1, e2] at hu
  simp only [List.mem_cons, List.mem_nil_iff, or_false] at hu
  rcases hu with rfl | rfl | rfl | rfl | rfl | rfl <;> rfl
theorem encL_one {w : World} {l : List T} (h : ∀ x ∈ l, x.ok w) : ∀ u ∈ T.encL l, u.oneCell' = true := by
  intro u hu
  obtain ⟨x, hx, hu⟩ := List.mem_flatMap.1 hu
  exact enc_one (h x hx) u hu
theorem app_strs0 (l : List ByteArray) (v : Value) (W : World) (h : StrsV W v l) (hn : l.length * 16 ≤ 140737488355328) :
    ∃ so sc W1, (Builtin.append_ #[23, 23] 23 #[.slice none 0 0, v]).run Tryz.prog W = .ok (.slice so l.length sc) W1 ∧
      W1.ownsRow W.heap.size 9 1 (.slice so l.length sc) l.length (strC l) ∧ Below W.heap.size W W1 := by
  have hown : W.ownsRow W.heap.size 9 1 (.slice none 0 0) 0 [] := World.ownsRow_nil _ _ _ _
  have hone : ∀ u ∈ strC l, u.oneCell' = true := fun u hu => by simp [strC] at hu; obtain ⟨a, _, rfl⟩ := hu; rfl
  obtain ⟨ao, cap, rfl, h2, h3, h4, h5, h6⟩ := h
  cases ao with
  | none =>
    obtain rfl := h4 rfl
    obtain rfl : l = [] := List.eq_nil_of_length_eq_zero (by omega)
    refine ⟨none, 0, W, ?_, hown, Below.refl _ _⟩
    simp [Builtin.append_, go_sem]
  | some a =>
    obtain ⟨i0, hi, hz0, hz1, hz2⟩ := info_parts' info_string
    obtain ⟨v', w', hrun, ho, hg, _⟩ := run_append_own (P := Tryz.prog) W W.heap.size 23 23 9 i0 (.string ⟨#[]⟩) 1 16 Tryz.underlying23 hi hz0 hz1 hz2 rfl (by decide) (.slice none 0 0) 0 [] hown a l.length cap (strC l) (by simp [strC_len])
      (getElem?_cells' (fun j hj => h6 a rfl j hj)) hone (by omega) (by omega) (by simp)
    rw [Nat.zero_add] at ho
    obtain ⟨so, sc, rfl, _⟩ := ownsRow_form ho
    exact ⟨so, sc, w', hrun, ho, (Below.refl _ W).grown hg (by simp) (fun k hk => (hown.lt k hk).1)⟩
theorem app_exprs0 (l : List T) (v : Value) (W : World) (h : SlV W v l.length (T.encL l)) (hall : ∀ x ∈ l, x.ok W) (hn : l.length * 96 ≤ 140737488355328) :
    ∃ so sc W1, (Builtin.append_ #[24, 24] 24 #[.slice none 0 0, v]).run Tryz.prog W = .ok (.slice so l.length sc) W1 ∧
      W1.ownsRow W.heap.size 26 6 (.slice so l.length sc) l.length (T.encL l) ∧ Below W.heap.size W W1 := by
  have hown : W.ownsRow W.heap.size 26 6 (.slice none 0 0) 0 [] := World.ownsRow_nil _ _ _ _
  have hone : ∀ u ∈ T.encL l, u.oneCell' = true := encL_one hall
  obtain ⟨ao, cap, rfl, h2, h3, h4, h5, h6⟩ := h
  cases ao with
  | none =>
    obtain rfl := h4 rfl
    obtain rfl : l = [] := List.eq_nil_of_length_eq_zero (by omega)
    refine ⟨none, 0, W, ?_, hown, Below.refl _ _⟩
    simp [Builtin.append_, go_sem]
  | some a =>
    obtain ⟨i0, hi, hz0, hz1, hz2⟩ := info_parts' info_expr
    obtain ⟨v', w', hrun, ho, hg, _⟩ := run_append_own (P := Tryz.prog) W W.heap.size 24 24 26 i0 (.agg #[.int .u8 0, .int .i64 0, .string ⟨#[]⟩, .string ⟨#[]⟩, .slice none 0 0, .slice none 0 0]) 6 96 Tryz.underlying24 hi hz0 hz1 hz2 rfl (by decide) (.slice none 0 0) 0 [] hown a l.length cap (T.encL l) (T.encL_len l)
      (getElem?_cells' (fun j hj => h6 a rfl j hj)) hone (by omega) (by omega) (by simp)
    rw [Nat.zero_add] at ho
    obtain ⟨so, sc, rfl, _⟩ := ownsRow_form ho
    exact ⟨so, sc, w', hrun, ho, (Below.refl _ W).grown hg (by simp) (fun k hk => (hown.lt k hk).1)⟩
end Go.Proofs.YtihnhinnohnfgaaGreatDoor.Ex
