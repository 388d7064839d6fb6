/-
  slices.Clone of values: contract.
-/
import Derived.Test.YtdjgkbpfmonebaaGreatDoorValRise
import Derived.Test.YtdjgkbpfmonebaaGreatDoorNameMath
import Derived.WalkSpells
namespace Go.Proofs.YtdjgkbpfmonebaaGreatDoor.Val
open Go.ChangeShapes Go.WideShapes Go.ChangeAt Go.RowKit
open Go.Proofs.YtdjgkbpfmonebaaGreatDoor.Mem Go.Proofs.YtdjgkbpfmonebaaGreatDoor.Nam
set_option linter.unusedVariables false
set_option linter.unusedSimpArgs false
set_option maxRecDepth 100000
theorem info_string : (Tryz.prog.info? 9).map (fun i => (i.zero, i.size, i.bytes)) = some (some (.string ⟨#[]⟩), 1, 16) := by kernel_rfl
theorem info_value : (Tryz.prog.info? 27).map (fun i => (i.zero, i.size, i.bytes)) = some (some (.agg #[.int .u8 0, .bool false, .int .i64 0, .string ⟨#[]⟩, .string ⟨#[]⟩, .slice none 0 0, .slice none 0 0]), 7, 96) := by kernel_rfl
theorem info_parts' {t : TypeId} {z : Value} {n b : Nat} (h : (Tryz.prog.info? t).map (fun i => (i.zero, i.size, i.bytes)) = some (some z, n, b)) : ∃ i, Tryz.prog.info? t = some i ∧ i.zero = some z ∧ i.size = n ∧ i.bytes = b := by
  obtain ⟨i, hi, he⟩ := Option.map_eq_some_iff.1 h
  simp only [Prod.mk.injEq] at he
  exact ⟨i, hi, he.1, he.2.1, he.2.2⟩
theorem enc_one {w : World} {x : T} (h : x.ok w) : ∀ u ∈ x.enc, u.oneCell' = true := by
  obtain ⟨no, nc, lo, lc, e1, e2, _, _⟩ := h.forms
  intro u hu
  unfold T.enc at hu
  rw [e1, e2] at hu
  simp only [List.mem_cons, List.mem_nil_iff, or_false] at hu
  rcases hu with rfl | rfl | rfl | rfl | rfl | rfl | rfl <;> rfl
theorem encL_one {w : World} {l : List T} (h : ∀ x ∈ l, x.ok w) : ∀ u ∈ T.encL l, u.oneCell' = true := by
  intro u hu
  obtain ⟨x, hx, hu⟩ := List.mem_flatMap.1 hu
  exact enc_one (h x hx) u hu
theorem getElem?_cells' {w : World} {a : Addr} {cs : List Value} (h : ∀ j (h : j < cs.length), w.cell? (a.add j) = some cs[j]) : ∀ j u, cs[j]? = some u → w.cell? (a.add j) = some u := by
  intro j u hu
  obtain ⟨hj, rfl⟩ := List.getElem?_eq_some_iff.1 hu
  exact h j hj
def OwnedV (w0 : World) (e : TypeId) (size n : Nat) (cs : List Value) (e0 : Ending) (w' : World) : Prop := ∃ v, e0 = .returned v ∧ w'.ownsRow w0.heap.size e size v n cs ∧ Below w0.heap.size w0 w'
set_option maxHeartbeats 4000000 in
theorem clone_any (l : List T) (v : Value) (w : World) (h : LV w v l) :
    Calls Tryz.prog 29 #[v] w (OwnedV w 27 7 l.length (T.encL l)) := by
  have hn := h.room
  have hone := encL_one h.all
  obtain ⟨ao, cap, rfl, h2, h3, h4, h5, h6⟩ := h.sl
  cases ao with
  | none =>
    obtain rfl := h4 rfl
    have hl : l = [] := List.eq_nil_of_length_eq_zero (by omega)
    subst hl
    have hq := fun (w : World) => Lib.run_eql_slice_nil (P := Tryz.prog) w 23
    clear h2 h3 h4 h5 h6 h hn hone
    go_enter Tryz.func29, Tryz.ntmps29
    go_wp2_with fail
    go_ret
    exact ⟨_, rfl, World.ownsRow_nil _ _ _ _, Below.refl _ _⟩
  | some a =>
    obtain ⟨i0, hi, hz0, hz1, hz2⟩ := info_parts' info_value
    have hq : ∀ w : World, (binOp .eql 23 (.slice (some a) l.length cap) (.slice none 0 0)).run Tryz.prog w = .ok (.bool false) w := fun w => by
      rw [Lib.run_eql_slice_nil (P := Tryz.prog) w 23 27 (some a) l.length cap 0 0 Tryz.underlying23]; rfl
    have h7 := h6 a rfl
    have hlen : l.length ≤ maxLen := by omega
    have hcl : (T.encL l).length = l.length * 7 := T.encL_len l
    have hown : (w.alloc (.cells #[] 27)).ownsRow w.heap.size 27 7 (.slice (some ⟨w.heap.size, 0, none⟩) 0 0) 0 [] := World.ownsRow_made w #[] 0 (Nat.le_refl _) (by decide) rfl
    have h7' := hid h7
    have hcl' := hid hcl
    have hone' := hid hone
    clear h2 h3 h4 h5 h6 h7 hcl hone h
    go_enter Tryz.func29, Tryz.ntmps29
    go_wp2_with (at_builtin; refine wpList_append_own _ rfl _ _ 23 rfl w.heap.size 27 i0 (.agg #[.int .u8 0, .bool false, .int .i64 0, .string ⟨#[]⟩, .string ⟨#[]⟩, .slice none 0 0, .slice none 0 0]) 7 96 Tryz.underlying23 hi hz0 hz1 hz2 rfl (by decide) _ _ _ rfl hown a l.length cap (T.encL l) rfl hcl'.out ?c1 hone'.out ?c3 ?c4 ?c5 ?_)
    case c1 => exact getElem?_cells' (fun j hj => (((Below.refl _ w).alloc (Nat.le_refl _) _).cell (World.block_lt_of_cell? _ _ (h7'.out j hj))).trans (h7'.out j hj))
    case c3 => omega
    case c4 => omega
    case c5 => simp
    intro v' w1 hown' hg _
    have hb : Below w.heap.size w w1 := ((Below.refl _ w).alloc (Nat.le_refl _) _).grown hg (by simp) (fun k hk => (hown.lt k hk).1)
    clear hown hg
    go_wp2_with fail
    go_ret
    exact ⟨_, rfl, hown', hb⟩
theorem app_strs0 (l : List ByteArray) (v : Value) (W : World) (h : StrsV W v l) (hn : l.length * 16 ≤ 140737488355328) :
    ∃ so sc W1, (Builtin.append_ #[22, 22] 22 #[.slice none 0 0, v]).run Tryz.prog W = .ok (.slice so l.length sc) W1 ∧
      W1.ownsRow W.heap.size 9 1 (.slice so l.length sc) l.length (strC l) ∧ Below W.heap.size W W1 := by
  have hown : W.ownsRow W.heap.size 9 1 (.slice none 0 0) 0 [] := World.ownsRow_nil _ _ _ _
  have hone : ∀ u ∈ strC l, u.oneCell' = true := fun u hu => by simp [strC] at hu; obtain ⟨a, _, rfl⟩ := hu; rfl
  obtain ⟨ao, cap, rfl, h2, h3, h4, h5, h6⟩ := h
  cases ao with
  | none =>
    obtain rfl := h4 rfl
    obtain rfl : l = [] := List.eq_nil_of_length_eq_zero (by omega)
    refine ⟨none, 0, W, ?_, hown, Below.refl _ _⟩
    simp [Builtin.append_, go_sem]
  | some a =>
    obtain ⟨i0, hi, hz0, hz1, hz2⟩ := info_parts' info_string
    obtain ⟨v', w', hrun, ho, hg, _⟩ := run_append_own (P := Tryz.prog) W W.heap.size 22 22 9 i0 (.string ⟨#[]⟩) 1 16 Tryz.underlying22 hi hz0 hz1 hz2 rfl (by decide) (.slice none 0 0) 0 [] hown a l.length cap (strC l) (by simp [strC_len])
      (getElem?_cells' (fun j hj => h6 a rfl j hj)) hone (by omega) (by omega) (by simp)
    rw [Nat.zero_add] at ho
    obtain ⟨so, sc, rfl, _⟩ := ownsRow_form ho
    exact ⟨so, sc, w', hrun, ho, (Below.refl _ W).grown hg (by simp) (fun k hk => (hown.lt k hk).1)⟩
theorem app_vals0 (l : List T) (v : Value) (W : World) (h : LV W v l) (hn : l.length * 96 ≤ 140737488355328) :
    ∃ so sc W1, (Builtin.append_ #[23, 23] 23 #[.slice none 0 0, v]).run Tryz.prog W = .ok (.slice so l.length sc) W1 ∧
      W1.ownsRow W.heap.size 27 7 (.slice so l.length sc) l.length (T.encL l) ∧ Below W.heap.size W W1 := by
  have hown : W.ownsRow W.heap.size 27 7 (.slice none 0 0) 0 [] := World.ownsRow_nil _ _ _ _
  have hone : ∀ u ∈ T.encL l, u.oneCell' = true := encL_one h.all
  obtain ⟨ao, cap, rfl, h2, h3, h4, h5, h6⟩ := h.sl
  cases ao with
  | none =>
    obtain rfl := h4 rfl
    obtain rfl : l = [] := List.eq_nil_of_length_eq_zero (by omega)
    refine ⟨none, 0, W, ?_, hown, Below.refl _ _⟩
    simp [Builtin.append_, go_sem]
  | some a =>
    obtain ⟨i0, hi, hz0, hz1, hz2⟩ := info_parts' info_value
    obtain ⟨v', w', hrun, ho, hg, _⟩ := run_append_own (P := Tryz.prog) W W.heap.size 23 23 27 i0 (.agg #[.int .u8 0, .bool false, .int .i64 0, .string ⟨#[]⟩, .string ⟨#[]⟩, .slice none 0 0, .slice none 0 0]) 7 96 Tryz.underlying23 hi hz0 hz1 hz2 rfl (by decide) (.slice none 0 0) 0 [] hown a l.length cap (T.encL l) (T.encL_len l)
      (getElem?_cells' (fun j hj => h6 a rfl j hj)) hone (by omega) (by omega) (by simp)
    rw [Nat.zero_add] at ho
    obtain ⟨so, sc, rfl, _⟩ := ownsRow_form ho
    exact ⟨so, sc, w', hrun, ho, (Below.refl _ W).grown hg (by simp) (fun k hk => (hown.lt k hk).1)⟩
end Go.Proofs.YtdjgkbpfmonebaaGreatDoor.Val
