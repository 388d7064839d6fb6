/-
  The document's Copy.
-/
import Derived.Test.YtiegocbdgimimaaSectorCopy
import Derived.Deep.Cut
namespace Go.Proofs.Ytiegocbdgimimaa.Sector
open Go.ChangeShapes Go.WideShapes Go.ChangeAt Go.RowKit
open Go.Proofs.Ytiegocbdgimimaa.Mem
set_option linter.unusedVariables false

theorem wpList_app {P : Program} {ops : Array Oper} {rest : List Oper} {o : Oper} {a : Act} {w : World} {Q : Exit → Act → World → Prop} (hgd : o.guard = none) (s x : Operand) (t t' : TypeId)
    (ho : o.op = .call { callee := .builtin .append, args := #[s, x], argTypes := #[t, t'] }) (v1 v2 v : Value) (w' : World) (hs : a.eval s = v1) (hx : a.eval x = v2)
    (hrun : (Builtin.append_ #[t, t'] o.type #[v1, v2]).run P w = .ok v w') (h : wpList P ops Q rest (a.put o.dst v) w') : wpList P ops Q (o :: rest) a w :=
  wpList_plain hgd fun _ hK => by
    unfold Oper.wp
    simp [execOp, ho, resolve, invoke, builtin, hs, hx, hrun, Result.andThen]
    exact hK _ _ h

theorem app_strs (l : List ByteArray) (v : Value) (W : World) (h : StrsV W v l) (hn : l.length * 16 ≤ 140737488355328) :
    ∃ so sc W1, (Builtin.append_ #[22, 22] 22 #[.slice (some ⟨W.heap.size, 0, none⟩) 0 0, v]).run Try.prog (W.alloc (.cells #[] 9)) = .ok (.slice so l.length sc) W1 ∧
      W1.ownsRow W.heap.size 9 1 (.slice so l.length sc) l.length (strC l) ∧ Below W.heap.size W W1 := by
  have hown : (W.alloc (.cells #[] 9)).ownsRow W.heap.size 9 1 (.slice (some ⟨W.heap.size, 0, none⟩) 0 0) 0 [] := World.ownsRow_made W #[] 0 (Nat.le_refl _) (by decide) rfl
  have hb0 := (Below.refl _ W).alloc (Nat.le_refl _) (.cells #[] 9)
  obtain ⟨ao, cap, rfl, h2, h3, h4, h5, h6⟩ := h
  cases ao with
  | none =>
    obtain rfl := h4 rfl
    obtain rfl : l = [] := List.eq_nil_of_length_eq_zero (by omega)
    refine ⟨some ⟨W.heap.size, 0, none⟩, 0, _, ?_, hown, hb0⟩
    simp [Builtin.append_, go_sem]
  | some a =>
    obtain ⟨i0, hi, hz0, hz1, hz2⟩ := info_parts info_string
    obtain ⟨v', w', hrun, ho, hg, _⟩ := run_append_own (P := Try.prog) (W.alloc (.cells #[] 9)) W.heap.size 22 22 9 i0 (.string ⟨#[]⟩) 1 16 Try.underlying22 hi hz0 hz1 hz2 rfl (by decide) _ _ _ hown a l.length cap (strC l) (by simp [strC_len])
      (getElem?_cells (fun j hj => cell_below hb0 _ _ (h6 a rfl j hj))) (strC_one l) (by omega) (by omega) (by simp)
    rw [Nat.zero_add] at ho
    obtain ⟨so, sc, rfl, _⟩ := ownsRow_form ho
    exact ⟨so, sc, w', hrun, ho, hb0.grown hg (by simp) (fun k hk => (hown.lt k hk).1)⟩
theorem app_prs (l : List (Int × ByteArray)) (v : Value) (W : World) (h : PrsV W v l) (hn : l.length * 24 ≤ 140737488355328) :
    ∃ so sc W1, (Builtin.append_ #[23, 23] 23 #[.slice (some ⟨W.heap.size, 0, none⟩) 0 0, v]).run Try.prog (W.alloc (.cells #[] 62)) = .ok (.slice so l.length sc) W1 ∧
      W1.ownsRow W.heap.size 62 2 (.slice so l.length sc) l.length (prC l) ∧ Below W.heap.size W W1 := by
  have hown : (W.alloc (.cells #[] 62)).ownsRow W.heap.size 62 2 (.slice (some ⟨W.heap.size, 0, none⟩) 0 0) 0 [] := World.ownsRow_made W #[] 0 (Nat.le_refl _) (by decide) rfl
  have hb0 := (Below.refl _ W).alloc (Nat.le_refl _) (.cells #[] 62)
  obtain ⟨ao, cap, rfl, h2, h3, h4, h5, h6⟩ := h
  cases ao with
  | none =>
    obtain rfl := h4 rfl
    obtain rfl : l = [] := List.eq_nil_of_length_eq_zero (by omega)
    refine ⟨some ⟨W.heap.size, 0, none⟩, 0, _, ?_, hown, hb0⟩
    simp [Builtin.append_, go_sem]
  | some a =>
    obtain ⟨i0, hi, hz0, hz1, hz2⟩ := info_parts info_write
    obtain ⟨v', w', hrun, ho, hg, _⟩ := run_append_own (P := Try.prog) (W.alloc (.cells #[] 62)) W.heap.size 23 23 62 i0 (.agg #[.int .i64 0, .string ⟨#[]⟩]) 2 24 Try.underlying23 hi hz0 hz1 hz2 rfl (by decide) _ _ _ hown a l.length cap (prC l) (by simp [prC_len])
      (getElem?_cells (fun j hj => cell_below hb0 _ _ (h6 a rfl j hj))) (prC_one l) (by omega) (by omega) (by simp)
    rw [Nat.zero_add] at ho
    obtain ⟨so, sc, rfl, _⟩ := ownsRow_form ho
    exact ⟨so, sc, w', hrun, ho, hb0.grown hg (by simp) (fun k hk => (hown.lt k hk).1)⟩

set_option maxRecDepth 20000 in
theorem rcopy_any (d : Disk) (v : Value) (w : World) (h : DiskV w v d) (hn : d.secs.length * 16 ≤ 140737488355328) (hm : d.pend.length * 24 ≤ 140737488355328) :
    Calls Try.prog 5 #[v] w (Copied w d) := by
  obtain ⟨sv, pv, rfl, hs, hp⟩ := h
  obtain ⟨so, sc, rfl, _⟩ := hs.form
  obtain ⟨po, pc, rfl, _⟩ := hp.form
  have hs' := hid hs
  have hp' := hid hp
  clear hs hp
  obtain ⟨W, hW⟩ : ∃ W, ((w.alloc (.cells #[.slice so d.secs.length sc, .slice po d.pend.length pc, .bool d.off, .int .i64 d.fuse] 25)).alloc (.cells #[.slice none 0 0, .slice none 0 0, .bool false, .int .i64 0] 25)) = W := ⟨_, rfl⟩
  have B0 : Blk W w.heap.size [.slice so d.secs.length sc, .slice po d.pend.length pc, .bool d.off, .int .i64 d.fuse] 25 := by rw [← hW]; exact (Blk.new w _ _).alloc _
  have R0 : Blk W (w.heap.size + 1) [.slice none 0 0, .slice none 0 0, .bool false, .int .i64 0] 25 := by rw [← hW]; exact Blk.new' _ _ _ _ (by simp)
  have hb0 : Below w.heap.size w W := by rw [← hW]; go_grown
  have hsz : W.heap.size = w.heap.size + 2 := by rw [← hW]; simp
  obtain ⟨so1, sc1, W1, hrun1, ho1, hb1⟩ := app_strs d.secs _ W (hs'.out.below hb0) hn
  rw [show W.heap.size = w.heap.size + 1 + 1 from hsz] at hrun1
  rw [← hW] at hrun1
  have hrun1' := hid hrun1
  have hb1w := hb0.trans (hb1.mono (by omega))
  have B1 := B0.below hb1 B0.lt
  have R1 := hid (R0.below hb1 R0.lt)
  have B1' := hid B1
  obtain ⟨b0, b1, b2, b3, bf⟩ := B1.four
  have hb1' := hid hb1w
  have ho1' := hid (ownsRow_mono (base' := w.heap.size + 2) ho1 (by omega))
  have hsz1 : Hid (w.heap.size + 2 ≤ W1.heap.size) := hid (by have := hb1.size; omega)
  clear hrun1 hb1w B1 B0 R0 hb0 hb1 ho1 hsz hW
  go_enter Try.func5, Try.ntmps5
  go_upto_region 2 with (at_builtin; refine wpList_app rfl (.tmp 3) (.tmp 5) _ _ rfl _ _ _ _ rfl rfl hrun1'.out ?_)
  have B2 := B1'.out.set 0 (.slice so1 d.secs.length sc1)
  simp only [List.set_cons_zero] at B2
  have R2 := R1.out.other (p := ⟨w.heap.size, 0, none⟩) (by simp) (.slice so1 d.secs.length sc1)
  have hb2 := hb1'.out.setCell (p := ⟨w.heap.size, 0, none⟩) (Nat.le_refl _) (.slice so1 d.secs.length sc1)
  have hs2 := ownsRow_setCell_below ho1'.out (a := ⟨w.heap.size, 0, none⟩) (by simp) (.slice so1 d.secs.length sc1)
  have hsz2 : W1.heap.size = (W1.setCell ⟨w.heap.size, 0, none⟩ (.slice so1 d.secs.length sc1)).heap.size := by simp
  clear b0 b1 b2 b3 bf
  generalize hW2 : W1.setCell ⟨w.heap.size, 0, none⟩ (.slice so1 d.secs.length sc1) = W2 at B2 R2 hb2 hs2 hsz2 ⊢
  clear hW2
  obtain ⟨so2, sc2, W3, hrun2, ho2, hb3⟩ := app_prs d.pend _ W2 (hp'.out.below hb2) hm
  have hrun2' := hid hrun2
  have hl2 : Hid (∀ k, (Value.slice so1 d.secs.length sc1).ownBlock = some k → k < W2.heap.size) := hid (fun k hk => (ownBlock_lt hs2 hk).2)
  have B3 := B2.below hb3 B2.lt
  have R3 := R2.below hb3 R2.lt
  have hs3 := hid (ownsRow_below hs2 hb3)
  have hp3 := hid ho2
  have hb3' := hid (bt hb2 hb3)
  have hg3 : Hid (W2.heap.size ≤ W3.heap.size) := hid hb3.size
  have hz2 : Hid (w.heap.size + 2 ≤ W2.heap.size) := hid (by rw [← hsz2]; exact hsz1.out)
  obtain ⟨b0, b1, b2, b3, bf⟩ := (B2.alloc (.cells #[] 62)).four
  obtain ⟨c0, c1, c2, c3, cf⟩ := B3.four
  have B3' := hid B3
  have R3' := hid R3
  clear hrun2 B2 R2 hb2 hs2 ho2 hb3 B3 R3 hsz2
  go_upto_region 3 with (at_builtin; refine wpList_app rfl (.tmp 8) (.tmp 10) _ _ rfl _ _ _ _ rfl rfl hrun2'.out ?_)
  have B4 := B3'.out.set 1 (.slice so2 d.pend.length sc2)
  have R4 := R3'.out.other (p := ⟨w.heap.size, 1, none⟩) (by simp) (.slice so2 d.pend.length sc2)
  have hb4 := hb3'.out.setCell (p := ⟨w.heap.size, 1, none⟩) (Nat.le_refl _) (.slice so2 d.pend.length sc2)
  have hs4 := ownsRow_setCell_below hs3.out (a := ⟨w.heap.size, 1, none⟩) (by simp) (.slice so2 d.pend.length sc2)
  have hp4 := ownsRow_setCell_below hp3.out (a := ⟨w.heap.size, 1, none⟩) (by have := hz2.out; simp; omega) (.slice so2 d.pend.length sc2)
  have hg4 : W2.heap.size ≤ (W3.setCell ⟨w.heap.size, 1, none⟩ (.slice so2 d.pend.length sc2)).heap.size := by simp; exact hg3.out
  simp only [List.set_cons_zero, List.set_cons_succ] at B4
  clear b0 b1 b2 b3 bf c0 c1 c2 c3 cf B3' R3' hs3 hp3 hb3' hg3
  generalize hW4 : W3.setCell ⟨w.heap.size, 1, none⟩ (.slice so2 d.pend.length sc2) = W4 at B4 R4 hb4 hs4 hp4 hg4 ⊢
  clear hW4
  have R5 := (((R4.set 0 (.slice so1 d.secs.length sc1)).set 1 (.slice so2 d.pend.length sc2)).set 2 (.bool d.off)).set 3 (.int .i64 d.fuse)
  simp only [List.set_cons_zero, List.set_cons_succ] at R5
  obtain ⟨b0, b1, b2, b3, bf⟩ := B4.four
  obtain ⟨r0, r1, r2, r3, rf⟩ := R4.four
  have hb4' := hid hb4
  have hs4' := hid hs4
  have hp4' := hid hp4
  have R5' := hid R5
  clear B4 R4 hb4 hs4 hp4 R5
  go_wp2_with fail
  clear b0 b1 b2 b3 bf r0 r1 r2 r3 rf
  obtain ⟨q0, q1, q2, q3, qf⟩ := R5'.out.four
  refine bodyPost_ret (v := .agg #[.slice so1 d.secs.length sc1, .slice so2 d.pend.length sc2, .bool d.off, .int .i64 d.fuse]) (by simp [results, Try.results5, go_sem, q0, q1, q2, q3]) rfl ?_
  have hz := hz2.out
  refine ⟨_, _, rfl, ⟨?_, W2.heap.size, by omega, ?_, hl2.out, ?_⟩, ?_⟩
  · have h := hs4'.out
    exact ownsRow_mono (ownsRow_setCell_below (ownsRow_setCell_below (ownsRow_setCell_below (ownsRow_setCell_below h (by simp) _) (by simp) _) (by simp) _) (by simp) _) (by omega)
  · simp; exact hg4
  · have h := hp4'.out
    exact ownsRow_setCell_below (ownsRow_setCell_below (ownsRow_setCell_below (ownsRow_setCell_below h (by simp; omega) _) (by simp; omega) _) (by simp; omega) _) (by simp; omega) _
  · exact (((hb4'.out.setCell (by simp) _).setCell (by simp) _).setCell (by simp) _).setCell (by simp) _
end Go.Proofs.Ytiegocbdgimimaa.Sector
