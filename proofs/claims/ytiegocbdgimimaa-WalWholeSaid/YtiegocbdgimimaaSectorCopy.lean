/-
  The contracts of Clone, copied: new rows of the call's own.
-/
import Derived.Test.YtiegocbdgimimaaSectorCalls
import Derived.WalkSpells
namespace Go.Proofs.Ytiegocbdgimimaa.Sector
open Go.ChangeShapes Go.WideShapes Go.ChangeAt Go.RowKit
open Go.Proofs.Ytiegocbdgimimaa.Mem
set_option linter.unusedVariables false

theorem info_string : (Try.prog.info? 9).map (fun i => (i.zero, i.size, i.bytes)) = some (some (.string ⟨#[]⟩), 1, 16) := by kernel_rfl
theorem info_write : (Try.prog.info? 62).map (fun i => (i.zero, i.size, i.bytes)) = some (some (.agg #[.int .i64 0, .string ⟨#[]⟩]), 2, 24) := by kernel_rfl

theorem strC_one (l : List ByteArray) : ∀ u ∈ strC l, u.oneCell' = true := by
  intro u hu
  simp [strC] at hu
  obtain ⟨a, _, rfl⟩ := hu
  rfl
theorem prC_one (l : List (Int × ByteArray)) : ∀ u ∈ prC l, u.oneCell' = true := by
  intro u hu
  simp [prC] at hu
  obtain ⟨a, b, _, h⟩ := hu
  rcases h with rfl | rfl <;> rfl
theorem getElem?_cells {w : World} {a : Addr} {cs : List Value} (h : ∀ j (h : j < cs.length), w.cell? (a.add j) = some cs[j]) : ∀ j u, cs[j]? = some u → w.cell? (a.add j) = some u := by
  intro j u hu
  obtain ⟨hj, rfl⟩ := List.getElem?_eq_some_iff.1 hu
  exact h j hj

def Owned (w0 : World) (e : TypeId) (size n : Nat) (cs : List Value) (e0 : Ending) (w' : World) : Prop := ∃ v, e0 = .returned v ∧ w'.ownsRow w0.heap.size e size v n cs ∧ Below w0.heap.size w0 w'

theorem cloneStrs_any (l : List ByteArray) (v : Value) (w : World) (h : StrsV w v l) (hn : l.length * 16 ≤ 140737488355328) :
    Calls Try.prog 38 #[v] w (Owned w 9 1 l.length (strC l)) := by
  obtain ⟨ao, cap, rfl, h2, h3, h4, h5, h6⟩ := h
  cases ao with
  | none =>
    obtain rfl := h4 rfl
    have hl : l = [] := List.eq_nil_of_length_eq_zero (by omega)
    subst hl
    have hq := fun (w : World) => Lib.run_eql_slice_nil (P := Try.prog) w 22
    clear h2 h3 h4 h5 h6
    go_enter Try.func38, Try.ntmps38
    go_wp2_with fail
    go_ret
    exact ⟨_, rfl, World.ownsRow_nil _ _ _ _, Below.refl _ _⟩
  | some a =>
    obtain ⟨i0, hi, hz0, hz1, hz2⟩ := info_parts info_string
    have hq : ∀ w : World, (binOp .eql 22 (.slice (some a) l.length cap) (.slice none 0 0)).run Try.prog w = .ok (.bool false) w := fun w => by
      rw [Lib.run_eql_slice_nil (P := Try.prog) w 22 9 (some a) l.length cap 0 0 Try.underlying22]; rfl
    have h7 := h6 a rfl
    have hlen : l.length ≤ maxLen := by omega
    have hcl : (strC l).length = l.length * 1 := by simp [strC_len]
    have hown : (w.alloc (.cells #[] 9)).ownsRow w.heap.size 9 1 (.slice (some ⟨w.heap.size, 0, none⟩) 0 0) 0 [] := World.ownsRow_made w #[] 0 (Nat.le_refl _) (by decide) rfl
    have h7' := hid h7
    have hcl' := hid hcl
    clear h2 h3 h4 h5 h6 h7 hcl
    go_enter Try.func38, Try.ntmps38
    go_wp2_with (at_builtin; refine wpList_append_own _ rfl _ _ 22 rfl w.heap.size 9 i0 (.string ⟨#[]⟩) 1 16 Try.underlying22 hi hz0 hz1 hz2 rfl (by decide) _ _ _ rfl hown a l.length cap (strC l) rfl hcl'.out ?c1 (strC_one l) ?c3 ?c4 ?c5 ?_)
    case c1 => exact getElem?_cells (fun j hj => cell_below ((Below.refl _ w).alloc (Nat.le_refl _) _) _ _ (h7'.out j hj))
    case c3 => omega
    case c4 => omega
    case c5 => simp
    intro v' w1 hown' hg _
    have hb : Below w.heap.size w w1 := ((Below.refl _ w).alloc (Nat.le_refl _) _).grown hg (by simp) (fun k hk => (hown.lt k hk).1)
    clear hown hg
    go_wp2_with fail
    go_ret
    exact ⟨_, rfl, hown', hb⟩
theorem clonePrs_any (l : List (Int × ByteArray)) (v : Value) (w : World) (h : PrsV w v l) (hn : l.length * 24 ≤ 140737488355328) :
    Calls Try.prog 39 #[v] w (Owned w 62 2 l.length (prC l)) := by
  obtain ⟨ao, cap, rfl, h2, h3, h4, h5, h6⟩ := h
  cases ao with
  | none =>
    obtain rfl := h4 rfl
    have hl : l = [] := List.eq_nil_of_length_eq_zero (by omega)
    subst hl
    have hq := fun (w : World) => Lib.run_eql_slice_nil (P := Try.prog) w 23
    clear h2 h3 h4 h5 h6
    go_enter Try.func39, Try.ntmps39
    go_wp2_with fail
    go_ret
    exact ⟨_, rfl, World.ownsRow_nil _ _ _ _, Below.refl _ _⟩
  | some a =>
    obtain ⟨i0, hi, hz0, hz1, hz2⟩ := info_parts info_write
    have hq : ∀ w : World, (binOp .eql 23 (.slice (some a) l.length cap) (.slice none 0 0)).run Try.prog w = .ok (.bool false) w := fun w => by
      rw [Lib.run_eql_slice_nil (P := Try.prog) w 23 62 (some a) l.length cap 0 0 Try.underlying23]; rfl
    have h7 := h6 a rfl
    have hlen : l.length ≤ maxLen := by omega
    have hcl : (prC l).length = l.length * 2 := by simp [prC_len]
    have hown : (w.alloc (.cells #[] 62)).ownsRow w.heap.size 62 2 (.slice (some ⟨w.heap.size, 0, none⟩) 0 0) 0 [] := World.ownsRow_made w #[] 0 (Nat.le_refl _) (by decide) rfl
    have h7' := hid h7
    have hcl' := hid hcl
    clear h2 h3 h4 h5 h6 h7 hcl
    go_enter Try.func39, Try.ntmps39
    go_wp2_with (at_builtin; refine wpList_append_own _ rfl _ _ 23 rfl w.heap.size 62 i0 (.agg #[.int .i64 0, .string ⟨#[]⟩]) 2 24 Try.underlying23 hi hz0 hz1 hz2 rfl (by decide) _ _ _ rfl hown a l.length cap (prC l) rfl hcl'.out ?c1 (prC_one l) ?c3 ?c4 ?c5 ?_)
    case c1 => exact getElem?_cells (fun j hj => cell_below ((Below.refl _ w).alloc (Nat.le_refl _) _) _ _ (h7'.out j hj))
    case c3 => omega
    case c4 => omega
    case c5 => simp
    intro v' w1 hown' hg _
    have hb : Below w.heap.size w w1 := ((Below.refl _ w).alloc (Nat.le_refl _) _).grown hg (by simp) (fun k hk => (hown.lt k hk).1)
    clear hown hg
    go_wp2_with fail
    go_ret
    exact ⟨_, rfl, hown', hb⟩

theorem bcell {W w1 : World} (hb : Below W.heap.size W w1) : (∀ b o, b < W.heap.size → w1.cell? ⟨b, o, none⟩ = W.cell? ⟨b, o, none⟩) ∧ (∀ b o, b < W.heap.size → w1.frozen? ⟨b, o, none⟩ = W.frozen? ⟨b, o, none⟩) :=
  ⟨fun b o h => hb.cell (p := ⟨b, o, none⟩) h, fun b o h => hb.frozen (p := ⟨b, o, none⟩) h⟩

/-- A disk of the call's own: new rows, apart. -/
structure OwnDisk (B : Nat) (w : World) (sv pv : Value) (d : Disk) : Prop where
  secs : w.ownsRow B 9 1 sv d.secs.length (strC d.secs)
  far : ∃ M, B ≤ M ∧ M ≤ w.heap.size ∧ (∀ k, sv.ownBlock = some k → k < M) ∧ w.ownsRow M 62 2 pv d.pend.length (prC d.pend)
theorem OwnDisk.pend {B : Nat} {w : World} {sv pv : Value} {d : Disk} (h : OwnDisk B w sv pv d) : w.ownsRow B 62 2 pv d.pend.length (prC d.pend) := by
  obtain ⟨M, h1, _, _, h4⟩ := h.far
  exact ownsRow_mono h4 h1
theorem OwnDisk.apart {B : Nat} {w : World} {sv pv : Value} {d : Disk} (h : OwnDisk B w sv pv d) : ∀ k, sv.ownBlock = some k → pv.ownBlock ≠ some k := by
  intro k hk e
  obtain ⟨M, _, _, h3, h4⟩ := h.far
  have h1 := h3 k hk
  have h2 := (ownBlock_lt h4 e).1
  omega
def Copied (w0 : World) (d : Disk) (e0 : Ending) (w' : World) : Prop := ∃ sv pv, e0 = .returned (.agg #[sv, pv, .bool d.off, .int .i64 d.fuse]) ∧ OwnDisk w0.heap.size w' sv pv d ∧ Below w0.heap.size w0 w'


theorem copied_any (d : Disk) (v : Value) (w : World) (h : DiskV w v d) (hn : d.secs.length * 16 ≤ 140737488355328) (hm : d.pend.length * 24 ≤ 140737488355328) :
    Calls Try.prog 26 #[v] w (Copied w d) := by
  obtain ⟨sv, pv, rfl, hs, hp⟩ := h
  obtain ⟨so, sc, rfl, _⟩ := hs.form
  obtain ⟨po, pc, rfl, _⟩ := hp.form
  have hs' := hid hs
  have hp' := hid hp
  clear hs hp
  go_enter Try.func26, Try.ntmps26
  go_wp2_with fail
  refine (cloneStrs_any d.secs _ _ (hs'.out.below (by go_grown)) hn).mono ?_
  rintro e w1 ⟨sv', rfl, hown1, hb1⟩
  have hb1w : Below w.heap.size w w1 := ((Below.refl _ w).alloc (Nat.le_refl _) _ |>.alloc (by simp) _).trans (hb1.mono (by simp; omega))
  have B1 : Blk w1 w.heap.size [.slice so d.secs.length sc, .slice po d.pend.length pc, .bool d.off, .int .i64 d.fuse] 25 := ((Blk.new w _ _).alloc _).below hb1 (by simp; omega)
  have R1 : Blk w1 (w.heap.size + 1) [.slice none 0 0, .slice none 0 0, .bool false, .int .i64 0] 25 := (Blk.new' (w.alloc _) _ _ _ (by simp)).below hb1 (by simp)
  obtain ⟨so', sc', rfl, _⟩ := ownsRow_form hown1
  have hown1' := hid (ownsRow_mono (base' := w.heap.size + 2) hown1 (by simp))
  have hp1 := hid (hp'.out.below hb1w)
  have hb1' := hid hb1w
  have B1' := hid B1
  have R1' := hid R1
  obtain ⟨b0, b1, b2, b3, bf⟩ := B1.four
  clear hown1 hb1 hb1w B1 R1
  go_wp2_with fail
  refine (clonePrs_any d.pend _ _ (hp'.out.below (hb1'.out.setCell (p := ⟨w.heap.size, 0, none⟩) (Nat.le_refl _) _)) hm).mono ?_
  rintro e w2 ⟨pv', rfl, hown2, hb2⟩
  have B2 := (B1'.out.set 0 (.slice so' d.secs.length sc')).below hb2 (by simp [B1'.out.lt])
  have R2 := (R1'.out.other (p := ⟨w.heap.size, 0, none⟩) (by simp) (.slice so' d.secs.length sc')).below hb2 (by simp [R1'.out.lt])
  have hb2' := hid (bt (hb1'.out.setCell (p := ⟨w.heap.size, 0, none⟩) (Nat.le_refl _) (.slice so' d.secs.length sc')) hb2)
  have hown1'' := hid (ownsRow_below (ownsRow_setCell_below hown1'.out (a := ⟨w.heap.size, 0, none⟩) (by simp) (.slice so' d.secs.length sc')) hb2)
  have hown2' := hid hown2
  obtain ⟨po', pc', rfl, _⟩ := ownsRow_form hown2
  have B2' := hid B2
  have R2' := hid R2
  simp only [List.set_cons_zero] at B2
  obtain ⟨b0, b1, b2, b3, bf⟩ := B2.four
  obtain ⟨r0, r1, r2, r3, rf⟩ := R2.four
  have hsz3 : w1.heap.size ≤ w2.heap.size := by have := hb2.size; simpa using this
  clear hown2 hb2 B2 R2
  go_wp2_with fail
  have R5 := ((((R2'.out.other (p := ⟨w.heap.size, 1, none⟩) (by simp) (.slice po' d.pend.length pc')).set 0 (.slice so' d.secs.length sc')).set 1 (.slice po' d.pend.length pc')).set 2 (.bool d.off)).set 3 (.int .i64 d.fuse)
  simp only [List.set_cons_zero, List.set_cons_succ] at R5
  obtain ⟨q0, q1, q2, q3, qf⟩ := R5.four
  clear b0 b1 b2 b3 bf r0 r1 r2 r3 rf
  refine bodyPost_ret (v := .agg #[.slice so' d.secs.length sc', .slice po' d.pend.length pc', .bool d.off, .int .i64 d.fuse]) (by simp [results, Try.results26, go_sem, q0, q1, q2, q3]) rfl ?_
  have hsz := R1'.out.lt
  have hsz2 := hb2'.out.size
  refine ⟨_, _, rfl, ⟨?_, w1.heap.size, by omega, ?_, fun k hk => (ownBlock_lt hown1'.out hk).2, ?_⟩, ?_⟩
  · have h := hown1''.out
    exact ownsRow_mono (ownsRow_setCell_below (ownsRow_setCell_below (ownsRow_setCell_below (ownsRow_setCell_below (ownsRow_setCell_below h (by simp) _) (by simp) _) (by simp) _) (by simp) _) (by simp) _) (by omega)
  · simp; exact hsz3
  · have h := hown2'.out
    exact ownsRow_mono (ownsRow_setCell_below (ownsRow_setCell_below (ownsRow_setCell_below (ownsRow_setCell_below (ownsRow_setCell_below h (by simp; omega) _) (by simp; omega) _) (by simp; omega) _) (by simp; omega) _) (by simp; omega) _) (by simp)
  · exact ((((hb2'.out.setCell (by simp) _).setCell (by simp) _).setCell (by simp) _).setCell (by simp) _).setCell (by simp) _
end Go.Proofs.Ytiegocbdgimimaa.Sector
