/-
  The contract of Crash.
-/
import Derived.Test.YtiegocbdgimimaaSectorPut
namespace Go.Proofs.Ytiegocbdgimimaa.Sector
open Go.ChangeShapes Go.WideShapes Go.ChangeAt Go.RowKit
open Go.Proofs.Ytiegocbdgimimaa.Mem
set_option linter.unusedVariables false

def BoolsV (w : World) (v : Value) (l : List Bool) : Prop := SlV w v l.length (l.map Value.bool)
theorem BoolsV.below {w w' : World} {v : Value} {l : List Bool} (h : BoolsV w v l) (hb : Below w.heap.size w w') : BoolsV w' v l := SlV.below h hb
theorem BoolsV.open {w : World} {v : Value} {l : List Bool} (h : BoolsV w v l) (hc : 0 < l.length) :
    ∃ b off cap, v = .slice (some ⟨b, off, none⟩) l.length cap ∧ l.length ≤ cap ∧ cap ≤ maxLen ∧ b < w.heap.size ∧ ∀ j (h : j < l.length), w.cell? ⟨b, off + j, none⟩ = some (.bool l[j]) := by
  obtain ⟨b, off, cap, h1, h2, h3, h4, h5⟩ := SlV.open h (by simpa using hc)
  exact ⟨b, off, cap, h1, h2, h3, h4, fun j hj => by rw [h5 j (by simpa using hj)]; simp⟩
def kept (l : List Bool) (i : Nat) : Bool := l.getD i false

theorem kept_any (l : List Bool) (kv : Value) (p : Addr) (i : Nat) (hi : i ≤ 4096) (W : World) (hp : W.cell? p = some kv) (hk : BoolsV W kv l) :
    Calls Try.prog 28 (#[.int .i64 i] ++ #[.pointer (some p)]) W fun e W' => e = .returned (.bool (kept l i)) ∧ W = W' := by
  obtain ⟨ao, cap, rfl, h2, h3⟩ := hk.form
  have hl : (l.length : Int) ≤ 9223372036854775807 := by have := hk.len; unfold maxLen at this; omega
  show Calls Try.prog 28 #[_, _] W _
  by_cases h : i < l.length
  · obtain ⟨b, off, cap', hv, _, _, hb, hc⟩ := hk.open (by omega)
    simp only [Value.slice.injEq] at hv
    obtain ⟨rfl, _, rfl⟩ := hv
    have hcell := hc i h
    have hf : Hid (kept l i = l[i]) := hid (by unfold kept; simp [List.getD, h])
    have hlt : (i : Int) < (l.length : Int) := by omega
    clear hk hc h2 h3
    go_enter Try.func28, Try.ntmps28
    go_wp2_with fail
    go_ret
    refine ⟨?_, rfl⟩
    rw [hf.out]; rfl
  · have hf : Hid (kept l i = false) := hid (by unfold kept; simp [List.getD]; rw [List.getElem?_eq_none (by omega)]; rfl)
    have hlt : ¬ (i : Int) < (l.length : Int) := by omega
    clear hk h2 h3
    go_enter Try.func28, Try.ntmps28
    go_wp2_with fail
    go_ret
    refine ⟨?_, rfl⟩
    rw [hf.out]; rfl

theorem cf_kept : ∀ args W, (callFunc 28 args).run Try.prog W = .ok (.enter 28 args) W := by
  intro args W
  simp [callFunc, go_sem, Try.func28, Try.f28]

def crashD (d : Disk) (l : List Bool) : Disk := ⟨sett (kept l) d.pend d.secs d.pend.length, [], false, -1⟩
def crashE (d : Disk) (l : List Bool) : Disk × Int := if okB d = true then (crashD d l, 0) else (zeroDisk, 13)

theorem crash_bad (d : Disk) (v kv : Value) (l : List Bool) (w : World) (h : DiskV w v d) (hk : BoolsV w kv l) (hok : Hid (okB d = false)) :
    Calls Try.prog 10 #[v, kv] w (Res w (zeroDisk, 13)) := by
  have hv := hid h
  obtain ⟨sv, pv, rfl, hs, hp⟩ := h
  obtain ⟨so, scap, rfl, _⟩ := hs.form
  obtain ⟨po, pcap, rfl, _⟩ := hp.form
  obtain ⟨ko, kcap, rfl, _⟩ := hk.form
  have hc := hid (chk_bad hok.out)
  clear hs hp hk
  go_enter Try.func10, Try.ntmps10
  go_wp2_with fail
  refine (check_any d _ _ (hv.out.below (by go_grown))).mono ?_
  rintro e w1 ⟨rfl, hb1⟩
  have hb1w : Below w.heap.size w w1 := (show Below w.heap.size w _ from by go_grown).trans (hb1.mono (by simp; omega))
  have R1 : Blk w1 (w.heap.size + 2) [.slice none 0 0, .slice none 0 0, .bool false, .int .i64 0] 25 := (Blk.new' _ _ _ _ (by simp)).below hb1 (by simp)
  have R5 := (((R1.set 0 (.slice none 0 0)).set 1 (.slice none 0 0)).set 2 (.bool false)).set 3 (.int .i64 0)
  simp only [List.set_cons_zero, List.set_cons_succ] at R5
  have R5' := hid R5
  obtain ⟨q0, q1, q2, q3, qf⟩ := R1.four
  have hb1' := hid hb1w
  clear R5 R1 hb1 hb1w hv
  rw [hc.out]
  go_wp2_with fail
  obtain ⟨q0, q1, q2, q3, qf⟩ := R5'.out.four
  refine bodyPost_ret (v := .tuple #[.agg #[.slice none 0 0, .slice none 0 0, .bool false, .int .i64 0], .int .i64 13]) (by simp [results, Try.results10, go_sem, q0, q1, q2, q3]) rfl ?_
  have hz : w.heap.size ≤ w1.heap.size := hb1'.out.size
  exact ⟨_, _, rfl, zero_own (by simp; omega), (((hb1'.out.setCell (by simp; omega) _).setCell (by simp; omega) _).setCell (by simp; omega) _).setCell (by simp; omega) _⟩

set_option maxHeartbeats 800000 in
theorem crash_ok (secs : List ByteArray) (pend : List (Int × ByteArray)) (off : Bool) (fuse : Int) (v kv : Value) (l : List Bool) (w : World) (h : DiskV w v ⟨secs, pend, off, fuse⟩) (hk : BoolsV w kv l) (hok : Hid (okB ⟨secs, pend, off, fuse⟩ = true)) :
    Calls Try.prog 10 #[v, kv] w (Res w (crashD ⟨secs, pend, off, fuse⟩ l, 0)) := by
  have hv := hid h
  obtain ⟨sv, pv, rfl, hs, hp⟩ := h
  obtain ⟨so, scap, rfl, _⟩ := hs.form
  obtain ⟨po, pcap, rfl, _⟩ := hp.form
  obtain ⟨ko, kcap, rfl, _⟩ := hk.form
  have hk' := hid hk
  have hc := hid (chk_ok hok.out)
  have hn := hid (okB_secs hok.out)
  have hm := hid (okB_pend hok.out)
  clear hs hp hk
  go_enter Try.func10, Try.ntmps10
  go_wp2_with fail
  refine (check_any _ _ _ (hv.out.below (by go_grown))).mono ?_
  rintro e w1 ⟨rfl, hb1⟩
  have hb1w : Below w.heap.size w w1 := (show Below w.heap.size w _ from by go_grown).trans (hb1.mono (by simp; omega))
  have D1 : Blk w1 w.heap.size [.slice so secs.length scap, .slice po pend.length pcap, .bool off, .int .i64 fuse] 25 := (((Blk.new w _ _).alloc _).alloc _).below hb1 (by simp; omega)
  have K1 : Blk w1 (w.heap.size + 1) [.slice ko l.length kcap] 38 := ((Blk.new' _ _ _ _ (by simp)).alloc _).below hb1 (by simp)
  have R1 : Blk w1 (w.heap.size + 2) [.slice none 0 0, .slice none 0 0, .bool false, .int .i64 0] 25 := (Blk.new' _ _ _ _ (by simp)).below hb1 (by simp)
  obtain ⟨d0, d1, d2, d3, df'⟩ := D1.four
  have D1' := hid D1
  have K1' := hid K1
  have R1' := hid R1
  have hb1' := hid hb1w
  clear D1 K1 R1 hb1 hb1w
  rw [hc.out]
  go_wp2_with fail
  refine (copied_any _ _ _ (hv.out.below hb1'.out) hn.out hm.out).mono ?_
  rintro e w2 ⟨sv2, pv2, rfl, hown, hb2⟩
  clear d0 d1 d2 d3 df'
  obtain ⟨so2, sc2, rfl, _⟩ := ownsRow_form hown.secs
  obtain ⟨po2, pc2, rfl, _⟩ := ownsRow_form hown.pend
  have D2 := D1'.out.below hb2 D1'.out.lt
  have K2 := K1'.out.below hb2 K1'.out.lt
  have R2 := R1'.out.below hb2 R1'.out.lt
  obtain ⟨d0, d1, d2, d3, df'⟩ := D2.four
  have D3 := (((D2.set 0 (.slice so2 secs.length sc2)).set 1 (.slice po2 pend.length pc2)).set 2 (.bool off)).set 3 (.int .i64 fuse)
  simp only [List.set_cons_zero, List.set_cons_succ] at D3
  have K3 := (((K2.other (p := ⟨w.heap.size, 0, none⟩) (by simp) (.slice so2 secs.length sc2)).other (p := ⟨w.heap.size, 1, none⟩) (by simp) (.slice po2 pend.length pc2)).other (p := ⟨w.heap.size, 2, none⟩) (by simp) (.bool off)).other (p := ⟨w.heap.size, 3, none⟩) (by simp) (.int .i64 fuse)
  have R3 := (((R2.other (p := ⟨w.heap.size, 0, none⟩) (by simp) (.slice so2 secs.length sc2)).other (p := ⟨w.heap.size, 1, none⟩) (by simp) (.slice po2 pend.length pc2)).other (p := ⟨w.heap.size, 2, none⟩) (by simp) (.bool off)).other (p := ⟨w.heap.size, 3, none⟩) (by simp) (.int .i64 fuse)
  have hb3 := ((((bt hb1'.out hb2).setCell (p := ⟨w.heap.size, 0, none⟩) (Nat.le_refl _) (.slice so2 secs.length sc2)).setCell (p := ⟨w.heap.size, 1, none⟩) (Nat.le_refl _) (.slice po2 pend.length pc2)).setCell (p := ⟨w.heap.size, 2, none⟩) (Nat.le_refl _) (.bool off)).setCell (p := ⟨w.heap.size, 3, none⟩) (Nat.le_refl _) (.int .i64 fuse)
  have hsz1 : w.heap.size + 3 ≤ w1.heap.size := by have := R1'.out.lt; omega
  have O3 := (((own_setCell (hown.mono hsz1) (p := ⟨w.heap.size, 0, none⟩) (by simp) (.slice so2 secs.length sc2)).setCell' (p := ⟨w.heap.size, 1, none⟩) (by simp) (.slice po2 pend.length pc2)).setCell' (p := ⟨w.heap.size, 2, none⟩) (by simp) (.bool off)).setCell' (p := ⟨w.heap.size, 3, none⟩) (by simp) (.int .i64 fuse)
  have hsz : Hid (w.heap.size + 3 ≤ ((((w2.setCell ⟨w.heap.size, 0, none⟩ (.slice so2 secs.length sc2)).setCell ⟨w.heap.size, 1, none⟩ (.slice po2 pend.length pc2)).setCell ⟨w.heap.size, 2, none⟩ (.bool off)).setCell ⟨w.heap.size, 3, none⟩ (.int .i64 fuse)).heap.size) := hid (by simp; have := hb2.size; omega)
  have D3' := hid D3
  have K3' := hid K3
  have R3' := hid R3
  have O3' := hid O3
  have hb3' := hid hb3
  clear hown hb2 D2 K2 R2 D3 K3 R3 O3 hb3 hsz1
  go_wp2_with fail
  generalize (((w2.setCell ⟨w.heap.size, 0, none⟩ (.slice so2 secs.length sc2)).setCell ⟨w.heap.size, 1, none⟩ (.slice po2 pend.length pc2)).setCell ⟨w.heap.size, 2, none⟩ (.bool off)).setCell ⟨w.heap.size, 3, none⟩ (.int .i64 fuse) = W at D3' K3' R3' O3' hb3' hsz ⊢
  have hset := settle_any (w.heap.size + 3) w.heap.size (by omega) _ _ _ 28 #[.pointer (some ⟨w.heap.size + 1, 0, none⟩)] (kept l) W hsz.out D3'.out O3'.out (okB_in hok.out) cf_kept
    (fun i hi W' hb => kept_any l _ _ i (by have := hi; have h2 := okB_pend' hok.out; simp at this h2; omega) W' ((hb.cell (p := ⟨w.heap.size + 1, 0, none⟩) (by simp)).trans K3'.out.one.1) (hk'.out.below (hb3'.out.trans (hb.mono (by omega)))))
  clear d0 d1 d2 d3 df'
  refine hset.mono ?_
  intro e w5 h5
  obtain ⟨sv5, pv5, he, D5, O5, hbut⟩ := settled_did (by omega) hsz.out (sett_len _ _ _ _) D3'.out h5
  clear h5 hset
  subst he
  have R5a := R3'.out.but hbut (by omega) (by omega)
  have hb5 := hid (hb3'.out.trans (hbut.below (Nat.le_refl _) (by omega)))
  obtain ⟨so5, sc5, rfl, _⟩ := ownsRow_form O5.secs
  obtain ⟨po5, pc5, rfl, _⟩ := ownsRow_form O5.pend
  simp only [] at D5 O5
  have O5' := hid O5
  have D5' := hid D5
  have R5' := hid R5a
  obtain ⟨d0, d1, d2', d3, df'⟩ := D5.four
  obtain ⟨r0, r1, r2, r3, rf'⟩ := R5a.four
  clear D5 R5a O5 hbut
  go_wp2_with fail
  have O6 := own_setCell (own_setCell O5'.out (p := ⟨w.heap.size, 2, none⟩) (by simp) (.bool false)) (p := ⟨w.heap.size, 3, none⟩) (by simp) (.int .i64 (-1))
  have R6 := (R5'.out.other (p := ⟨w.heap.size, 2, none⟩) (by simp) (.bool false)).other (p := ⟨w.heap.size, 3, none⟩) (by simp) (.int .i64 (-1))
  have hb6 := (hb5.out.setCell (p := ⟨w.heap.size, 2, none⟩) (Nat.le_refl _) (.bool false)).setCell (p := ⟨w.heap.size, 3, none⟩) (Nat.le_refl _) (.int .i64 (-1))
  have R7 := (((R6.set 0 (.slice so5 (sett (kept l) pend secs pend.length).length sc5)).set 1 (.slice po5 0 pc5)).set 2 (.bool false)).set 3 (.int .i64 (-1))
  simp only [List.set_cons_zero, List.set_cons_succ] at R7
  obtain ⟨q0, q1, q2, q3, qf⟩ := R7.four
  refine bodyPost_ret (v := .tuple #[.agg #[.slice so5 (sett (kept l) pend secs pend.length).length sc5, .slice po5 0 pc5, .bool false, .int .i64 (-1)], .int .i64 0]) (by simp [results, Try.results10, go_sem, q0, q1, q2, q3]) rfl ?_
  have O7 := own_setCell (own_setCell (own_setCell (own_setCell O6 (p := ⟨w.heap.size + 1 + 1, 0, none⟩) (by simp) (.slice so5 (sett (kept l) pend secs pend.length).length sc5)) (p := ⟨w.heap.size + 1 + 1, 1, none⟩) (by simp) (.slice po5 0 pc5)) (p := ⟨w.heap.size + 1 + 1, 2, none⟩) (by simp) (.bool false)) (p := ⟨w.heap.size + 1 + 1, 3, none⟩) (by simp) (.int .i64 (-1))
  exact ⟨_, _, rfl, OwnDisk.mono (d := crashD ⟨secs, pend, off, fuse⟩ l) ⟨O7.secs, O7.far⟩ (by omega), (((hb6.setCell (by simp; omega) _).setCell (by simp; omega) _).setCell (by simp; omega) _).setCell (by simp; omega) _⟩

theorem crash_any (d : Disk) (v kv : Value) (l : List Bool) (w : World) (h : DiskV w v d) (hk : BoolsV w kv l) :
    Calls Try.prog 10 #[v, kv] w (Res w (crashE d l)) := by
  unfold crashE
  cases hok : okB d with
  | false => rw [if_neg (by simp)]; exact crash_bad d v kv l w h hk (hid hok)
  | true =>
    rw [if_pos rfl]
    obtain ⟨secs, pend, off, fuse⟩ := d
    exact crash_ok secs pend off fuse v kv l w h hk (hid hok)
end Go.Proofs.Ytiegocbdgimimaa.Sector
