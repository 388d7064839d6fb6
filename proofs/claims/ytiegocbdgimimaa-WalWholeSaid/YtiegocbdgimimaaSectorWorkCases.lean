/-
  The contract of work, case by case.
-/
import Derived.Test.YtiegocbdgimimaaSectorWork
import Derived.Deep.Cut
namespace Go.Proofs.Ytiegocbdgimimaa.Sector
open Go.ChangeShapes Go.WideShapes Go.ChangeAt Go.RowKit
open Go.Proofs.Ytiegocbdgimimaa.Mem
set_option linter.unusedVariables false


set_option maxHeartbeats 800000 in
theorem work_off (secs : List ByteArray) (pend : List (Int × ByteArray)) (fuse : Int) (v : Value) (w : World) (h : DiskV w v ⟨secs, pend, true, fuse⟩) (rf df cf : Nat) (ra da ca : Array Value) (hok : Hid (okB ⟨secs, pend, true, fuse⟩ = true)) :
    Calls Try.prog 69 #[v, .agg #[.func (Fn.func rf) ra #[], .func (Fn.func df) da #[], .func (Fn.func cf) ca #[]]] w (Res w (⟨secs, pend, true, fuse⟩, 15)) := by
  have hv := hid h
  obtain ⟨sv, pv, rfl, hs, hp⟩ := h
  obtain ⟨so, scap, rfl, _⟩ := hs.form
  obtain ⟨po, pcap, rfl, _⟩ := hp.form
  have hk := hid (chk_ok hok.out)
  have hn := hid (okB_secs hok.out)
  have hm := hid (okB_pend hok.out)
  clear hs hp
  go_enter Try.func69, Try.ntmps69
  go_wp2_with fail
  refine (check_any _ _ _ (hv.out.below (by go_grown))).mono ?_
  rintro e w1 ⟨rfl, hb1⟩
  have hb1w : Below w.heap.size w w1 := (show Below w.heap.size w _ from by go_grown).trans (hb1.mono (by simp; omega))
  have D1 : Blk w1 w.heap.size [.slice so secs.length scap, .slice po pend.length pcap, .bool true, .int .i64 fuse] 25 := (((Blk.new w _ _).alloc _).alloc _).below hb1 (by simp; omega)
  have J1 : Blk w1 (w.heap.size + 1) [.func (Fn.func rf) ra #[], .func (Fn.func df) da #[], .func (Fn.func cf) ca #[]] 112 := ((Blk.new' _ _ _ _ (by simp)).alloc _).below hb1 (by simp)
  have R1 : Blk w1 (w.heap.size + 2) [.slice none 0 0, .slice none 0 0, .bool false, .int .i64 0] 25 := (Blk.new' _ _ _ _ (by simp)).below hb1 (by simp)
  obtain ⟨d0, d1, d2, d3, df'⟩ := D1.four
  have D1' := hid D1
  have J1' := hid J1
  have R1' := hid R1
  have hb1' := hid hb1w
  clear D1 J1 R1 hb1 hb1w
  rw [hk.out]
  go_wp2_with fail
  refine (copied_any _ _ _ (hv.out.below hb1'.out) hn.out hm.out).mono ?_
  rintro e w2 ⟨sv2, pv2, rfl, hown, hb2⟩
  clear d0 d1 d2 d3 df'
  obtain ⟨so2, sc2, rfl, _⟩ := ownsRow_form hown.secs
  obtain ⟨po2, pc2, rfl, _⟩ := ownsRow_form hown.pend
  have D2 := D1'.out.below hb2 D1'.out.lt
  have J2 := J1'.out.below hb2 J1'.out.lt
  have R2 := R1'.out.below hb2 R1'.out.lt
  obtain ⟨d0, d1, d2, d3, df'⟩ := D2.four
  go_upto_region 5 with (fail)
  have D3 := (((D2.set 0 (.slice so2 secs.length sc2)).set 1 (.slice po2 pend.length pc2)).set 2 (.bool true)).set 3 (.int .i64 fuse)
  simp only [List.set_cons_zero, List.set_cons_succ] at D3
  have J3 := (((J2.other (p := ⟨w.heap.size, 0, none⟩) (by simp) (.slice so2 secs.length sc2)).other (p := ⟨w.heap.size, 1, none⟩) (by simp) (.slice po2 pend.length pc2)).other (p := ⟨w.heap.size, 2, none⟩) (by simp) (.bool true)).other (p := ⟨w.heap.size, 3, none⟩) (by simp) (.int .i64 fuse)
  have R3 := (((R2.other (p := ⟨w.heap.size, 0, none⟩) (by simp) (.slice so2 secs.length sc2)).other (p := ⟨w.heap.size, 1, none⟩) (by simp) (.slice po2 pend.length pc2)).other (p := ⟨w.heap.size, 2, none⟩) (by simp) (.bool true)).other (p := ⟨w.heap.size, 3, none⟩) (by simp) (.int .i64 fuse)
  have hb3 := ((((bt hb1'.out hb2).setCell (p := ⟨w.heap.size, 0, none⟩) (Nat.le_refl _) (.slice so2 secs.length sc2)).setCell (p := ⟨w.heap.size, 1, none⟩) (Nat.le_refl _) (.slice po2 pend.length pc2)).setCell (p := ⟨w.heap.size, 2, none⟩) (Nat.le_refl _) (.bool true)).setCell (p := ⟨w.heap.size, 3, none⟩) (Nat.le_refl _) (.int .i64 fuse)
  have hsz1 : w.heap.size + 3 ≤ w1.heap.size := by have := R1'.out.lt; omega
  have O3 := (((own_setCell (hown.mono hsz1) (p := ⟨w.heap.size, 0, none⟩) (by simp) (.slice so2 secs.length sc2)).setCell' (p := ⟨w.heap.size, 1, none⟩) (by simp) (.slice po2 pend.length pc2)).setCell' (p := ⟨w.heap.size, 2, none⟩) (by simp) (.bool true)).setCell' (p := ⟨w.heap.size, 3, none⟩) (by simp) (.int .i64 fuse)
  have hsz : Hid (w.heap.size + 3 ≤ ((((w2.setCell ⟨w.heap.size, 0, none⟩ (.slice so2 secs.length sc2)).setCell ⟨w.heap.size, 1, none⟩ (.slice po2 pend.length pc2)).setCell ⟨w.heap.size, 2, none⟩ (.bool true)).setCell ⟨w.heap.size, 3, none⟩ (.int .i64 fuse)).heap.size) := hid (by simp; have := hb2.size; omega)
  have D3' := hid D3
  have J3' := hid J3
  have R3' := hid R3
  have O3' := hid O3
  have hb3' := hid hb3
  clear hown hb2 D2 J2 R2 D3 J3 R3 O3 hb3 hsz1 d0 d1 d2 d3 df'
  generalize (((w2.setCell ⟨w.heap.size, 0, none⟩ (.slice so2 secs.length sc2)).setCell ⟨w.heap.size, 1, none⟩ (.slice po2 pend.length pc2)).setCell ⟨w.heap.size, 2, none⟩ (.bool true)).setCell ⟨w.heap.size, 3, none⟩ (.int .i64 fuse) = W at D3' J3' R3' O3' hb3' hsz ⊢
  obtain ⟨d0, d1, d2, d3, df'⟩ := D3'.out.four
  obtain ⟨j0, j1, j2, jf⟩ := J3'.out.three
  obtain ⟨r0, r1, r2, r3, rf'⟩ := R3'.out.four
  go_wp2_with fail
  have R5 := (((R3'.out.set 0 (.slice so2 secs.length sc2)).set 1 (.slice po2 pend.length pc2)).set 2 (.bool true)).set 3 (.int .i64 fuse)
  simp only [List.set_cons_zero, List.set_cons_succ] at R5
  obtain ⟨q0, q1, q2, q3, qf⟩ := R5.four
  refine bodyPost_ret (v := .tuple #[.agg #[.slice so2 secs.length sc2, .slice po2 pend.length pc2, .bool true, .int .i64 fuse], .int .i64 15]) (by simp [results, Try.results69, go_sem, q0, q1, q2, q3]) rfl ?_
  refine ⟨_, _, rfl, ?_, (((hb3'.out.setCell (by simp; omega) _).setCell (by simp; omega) _).setCell (by simp; omega) _).setCell (by simp; omega) _⟩
  exact OwnDisk.mono (d := ⟨secs, pend, true, fuse⟩) ((((own_setCell O3'.out (by simp) _).setCell' (by simp) _).setCell' (by simp) _).setCell' (by simp) _) (by omega)
set_option maxHeartbeats 800000 in
theorem work_refused (secs : List ByteArray) (pend : List (Int × ByteArray)) (fuse : Int) (v : Value) (w : World) (h : DiskV w v ⟨secs, pend, false, fuse⟩) (rf df cf : Nat) (ra da ca : Array Value) (hok : Hid (okB ⟨secs, pend, false, fuse⟩ = true)) (r : Int) (hcf : ∀ args W, (callFunc rf args).run Try.prog W = .ok (.enter rf args) W)
    (hrefuse : Hid (∀ W v, DiskV W v ⟨secs, pend, false, fuse⟩ → Calls Try.prog rf (ra ++ #[v]) W fun e W' => e = .returned (.int .i64 r) ∧ Below W.heap.size W W')) (hr0 : (r != 0) = true) :
    Calls Try.prog 69 #[v, .agg #[.func (Fn.func rf) ra #[], .func (Fn.func df) da #[], .func (Fn.func cf) ca #[]]] w (Res w (⟨secs, pend, false, fuse⟩, r)) := by
  have hv := hid h
  obtain ⟨sv, pv, rfl, hs, hp⟩ := h
  obtain ⟨so, scap, rfl, _⟩ := hs.form
  obtain ⟨po, pcap, rfl, _⟩ := hp.form
  have hk := hid (chk_ok hok.out)
  have hn := hid (okB_secs hok.out)
  have hm := hid (okB_pend hok.out)
  clear hs hp
  go_enter Try.func69, Try.ntmps69
  go_wp2_with fail
  refine (check_any _ _ _ (hv.out.below (by go_grown))).mono ?_
  rintro e w1 ⟨rfl, hb1⟩
  have hb1w : Below w.heap.size w w1 := (show Below w.heap.size w _ from by go_grown).trans (hb1.mono (by simp; omega))
  have D1 : Blk w1 w.heap.size [.slice so secs.length scap, .slice po pend.length pcap, .bool false, .int .i64 fuse] 25 := (((Blk.new w _ _).alloc _).alloc _).below hb1 (by simp; omega)
  have J1 : Blk w1 (w.heap.size + 1) [.func (Fn.func rf) ra #[], .func (Fn.func df) da #[], .func (Fn.func cf) ca #[]] 112 := ((Blk.new' _ _ _ _ (by simp)).alloc _).below hb1 (by simp)
  have R1 : Blk w1 (w.heap.size + 2) [.slice none 0 0, .slice none 0 0, .bool false, .int .i64 0] 25 := (Blk.new' _ _ _ _ (by simp)).below hb1 (by simp)
  obtain ⟨d0, d1, d2, d3, df'⟩ := D1.four
  have D1' := hid D1
  have J1' := hid J1
  have R1' := hid R1
  have hb1' := hid hb1w
  clear D1 J1 R1 hb1 hb1w
  rw [hk.out]
  go_wp2_with fail
  refine (copied_any _ _ _ (hv.out.below hb1'.out) hn.out hm.out).mono ?_
  rintro e w2 ⟨sv2, pv2, rfl, hown, hb2⟩
  clear d0 d1 d2 d3 df'
  obtain ⟨so2, sc2, rfl, _⟩ := ownsRow_form hown.secs
  obtain ⟨po2, pc2, rfl, _⟩ := ownsRow_form hown.pend
  have D2 := D1'.out.below hb2 D1'.out.lt
  have J2 := J1'.out.below hb2 J1'.out.lt
  have R2 := R1'.out.below hb2 R1'.out.lt
  obtain ⟨d0, d1, d2, d3, df'⟩ := D2.four
  go_upto_region 5 with (fail)
  have D3 := (((D2.set 0 (.slice so2 secs.length sc2)).set 1 (.slice po2 pend.length pc2)).set 2 (.bool false)).set 3 (.int .i64 fuse)
  simp only [List.set_cons_zero, List.set_cons_succ] at D3
  have J3 := (((J2.other (p := ⟨w.heap.size, 0, none⟩) (by simp) (.slice so2 secs.length sc2)).other (p := ⟨w.heap.size, 1, none⟩) (by simp) (.slice po2 pend.length pc2)).other (p := ⟨w.heap.size, 2, none⟩) (by simp) (.bool false)).other (p := ⟨w.heap.size, 3, none⟩) (by simp) (.int .i64 fuse)
  have R3 := (((R2.other (p := ⟨w.heap.size, 0, none⟩) (by simp) (.slice so2 secs.length sc2)).other (p := ⟨w.heap.size, 1, none⟩) (by simp) (.slice po2 pend.length pc2)).other (p := ⟨w.heap.size, 2, none⟩) (by simp) (.bool false)).other (p := ⟨w.heap.size, 3, none⟩) (by simp) (.int .i64 fuse)
  have hb3 := ((((bt hb1'.out hb2).setCell (p := ⟨w.heap.size, 0, none⟩) (Nat.le_refl _) (.slice so2 secs.length sc2)).setCell (p := ⟨w.heap.size, 1, none⟩) (Nat.le_refl _) (.slice po2 pend.length pc2)).setCell (p := ⟨w.heap.size, 2, none⟩) (Nat.le_refl _) (.bool false)).setCell (p := ⟨w.heap.size, 3, none⟩) (Nat.le_refl _) (.int .i64 fuse)
  have hsz1 : w.heap.size + 3 ≤ w1.heap.size := by have := R1'.out.lt; omega
  have O3 := (((own_setCell (hown.mono hsz1) (p := ⟨w.heap.size, 0, none⟩) (by simp) (.slice so2 secs.length sc2)).setCell' (p := ⟨w.heap.size, 1, none⟩) (by simp) (.slice po2 pend.length pc2)).setCell' (p := ⟨w.heap.size, 2, none⟩) (by simp) (.bool false)).setCell' (p := ⟨w.heap.size, 3, none⟩) (by simp) (.int .i64 fuse)
  have hsz : Hid (w.heap.size + 3 ≤ ((((w2.setCell ⟨w.heap.size, 0, none⟩ (.slice so2 secs.length sc2)).setCell ⟨w.heap.size, 1, none⟩ (.slice po2 pend.length pc2)).setCell ⟨w.heap.size, 2, none⟩ (.bool false)).setCell ⟨w.heap.size, 3, none⟩ (.int .i64 fuse)).heap.size) := hid (by simp; have := hb2.size; omega)
  have D3' := hid D3
  have J3' := hid J3
  have R3' := hid R3
  have O3' := hid O3
  have hb3' := hid hb3
  clear hown hb2 D2 J2 R2 D3 J3 R3 O3 hb3 hsz1 d0 d1 d2 d3 df'
  generalize (((w2.setCell ⟨w.heap.size, 0, none⟩ (.slice so2 secs.length sc2)).setCell ⟨w.heap.size, 1, none⟩ (.slice po2 pend.length pc2)).setCell ⟨w.heap.size, 2, none⟩ (.bool false)).setCell ⟨w.heap.size, 3, none⟩ (.int .i64 fuse) = W at D3' J3' R3' O3' hb3' hsz ⊢
  obtain ⟨d0, d1, d2, d3, df'⟩ := D3'.out.four
  obtain ⟨j0, j1, j2, jf⟩ := J3'.out.three
  obtain ⟨r0, r1, r2, r3, rf'⟩ := R3'.out.four
  go_wp2_with fail
  refine (hrefuse.out _ _ O3'.out.v).mono ?_
  rintro e w4 ⟨rfl, hb4⟩
  have D4 := D3'.out.below hb4 D3'.out.lt
  have J4 := J3'.out.below hb4 J3'.out.lt
  have R4 := R3'.out.below hb4 R3'.out.lt
  have O4' := hid (O3'.out.below hb4)
  have hb4' := hid (bt hb3'.out hb4)
  have hsz4 := hid (Nat.le_trans hsz.out hb4.size)
  have D4' := hid D4
  have J4' := hid J4
  have R4' := hid R4
  clear d0 d1 d2 d3 df' j0 j1 j2 jf r0 r1 r2 r3 rf'
  obtain ⟨d0, d1, d2, d3, df'⟩ := D4.four
  obtain ⟨j0, j1, j2, jf⟩ := J4.three
  obtain ⟨r0, r1, r2, r3, rf'⟩ := R4.four
  clear D4 J4 R4 hb4
  go_wp2_with fail
  have R5 := (((R4'.out.set 0 (.slice so2 secs.length sc2)).set 1 (.slice po2 pend.length pc2)).set 2 (.bool false)).set 3 (.int .i64 fuse)
  simp only [List.set_cons_zero, List.set_cons_succ] at R5
  obtain ⟨q0, q1, q2, q3, qf⟩ := R5.four
  refine bodyPost_ret (v := .tuple #[.agg #[.slice so2 secs.length sc2, .slice po2 pend.length pc2, .bool false, .int .i64 fuse], .int .i64 r]) (by simp [results, Try.results69, go_sem, q0, q1, q2, q3]) rfl ?_
  refine ⟨_, _, rfl, ?_, (((hb4'.out.setCell (by simp; omega) _).setCell (by simp; omega) _).setCell (by simp; omega) _).setCell (by simp; omega) _⟩
  exact OwnDisk.mono (d := ⟨secs, pend, false, fuse⟩) ((((own_setCell O4'.out (by simp) _).setCell' (by simp) _).setCell' (by simp) _).setCell' (by simp) _) (by omega)
set_option maxHeartbeats 800000 in
theorem work_cut (secs : List ByteArray) (pend : List (Int × ByteArray)) (v : Value) (w : World) (h : DiskV w v ⟨secs, pend, false, 0⟩) (rf df cf : Nat) (ra da ca : Array Value) (hok : Hid (okB ⟨secs, pend, false, 0⟩ = true)) (hcf : ∀ args W, (callFunc rf args).run Try.prog W = .ok (.enter rf args) W)
    (hrefuse : Hid (∀ W v, DiskV W v ⟨secs, pend, false, 0⟩ → Calls Try.prog rf (ra ++ #[v]) W fun e W' => e = .returned (.int .i64 0) ∧ Below W.heap.size W W')) (secs2 : List ByteArray) (pend2 : List (Int × ByteArray)) (hdl : secs2.length = secs.length) (hccc : ∀ args W, (callFunc cf args).run Try.prog W = .ok (.enter cf args) W)
    (hdo : Hid (∀ W B db sv pv, db < B → B ≤ W.heap.size → Blk W db [sv, pv, .bool false, .int .i64 0] 25 → OwnDisk B W sv pv ⟨secs, pend, false, 0⟩ → Calls Try.prog cf (ca ++ #[.pointer (some ⟨db, 0, none⟩)]) W (Did W B db ⟨secs2, pend2, false, 0⟩))) :
    Calls Try.prog 69 #[v, .agg #[.func (Fn.func rf) ra #[], .func (Fn.func df) da #[], .func (Fn.func cf) ca #[]]] w (Res w (⟨secs2, pend2, true, 0⟩, 15)) := by
  have hv := hid h
  obtain ⟨sv, pv, rfl, hs, hp⟩ := h
  obtain ⟨so, scap, rfl, _⟩ := hs.form
  obtain ⟨po, pcap, rfl, _⟩ := hp.form
  have hk := hid (chk_ok hok.out)
  have hn := hid (okB_secs hok.out)
  have hm := hid (okB_pend hok.out)
  clear hs hp
  go_enter Try.func69, Try.ntmps69
  go_wp2_with fail
  refine (check_any _ _ _ (hv.out.below (by go_grown))).mono ?_
  rintro e w1 ⟨rfl, hb1⟩
  have hb1w : Below w.heap.size w w1 := (show Below w.heap.size w _ from by go_grown).trans (hb1.mono (by simp; omega))
  have D1 : Blk w1 w.heap.size [.slice so secs.length scap, .slice po pend.length pcap, .bool false, .int .i64 0] 25 := (((Blk.new w _ _).alloc _).alloc _).below hb1 (by simp; omega)
  have J1 : Blk w1 (w.heap.size + 1) [.func (Fn.func rf) ra #[], .func (Fn.func df) da #[], .func (Fn.func cf) ca #[]] 112 := ((Blk.new' _ _ _ _ (by simp)).alloc _).below hb1 (by simp)
  have R1 : Blk w1 (w.heap.size + 2) [.slice none 0 0, .slice none 0 0, .bool false, .int .i64 0] 25 := (Blk.new' _ _ _ _ (by simp)).below hb1 (by simp)
  obtain ⟨d0, d1, d2, d3, df'⟩ := D1.four
  have D1' := hid D1
  have J1' := hid J1
  have R1' := hid R1
  have hb1' := hid hb1w
  clear D1 J1 R1 hb1 hb1w
  rw [hk.out]
  go_wp2_with fail
  refine (copied_any _ _ _ (hv.out.below hb1'.out) hn.out hm.out).mono ?_
  rintro e w2 ⟨sv2, pv2, rfl, hown, hb2⟩
  clear d0 d1 d2 d3 df'
  obtain ⟨so2, sc2, rfl, _⟩ := ownsRow_form hown.secs
  obtain ⟨po2, pc2, rfl, _⟩ := ownsRow_form hown.pend
  have D2 := D1'.out.below hb2 D1'.out.lt
  have J2 := J1'.out.below hb2 J1'.out.lt
  have R2 := R1'.out.below hb2 R1'.out.lt
  obtain ⟨d0, d1, d2, d3, df'⟩ := D2.four
  go_upto_region 5 with (fail)
  have D3 := (((D2.set 0 (.slice so2 secs.length sc2)).set 1 (.slice po2 pend.length pc2)).set 2 (.bool false)).set 3 (.int .i64 0)
  simp only [List.set_cons_zero, List.set_cons_succ] at D3
  have J3 := (((J2.other (p := ⟨w.heap.size, 0, none⟩) (by simp) (.slice so2 secs.length sc2)).other (p := ⟨w.heap.size, 1, none⟩) (by simp) (.slice po2 pend.length pc2)).other (p := ⟨w.heap.size, 2, none⟩) (by simp) (.bool false)).other (p := ⟨w.heap.size, 3, none⟩) (by simp) (.int .i64 0)
  have R3 := (((R2.other (p := ⟨w.heap.size, 0, none⟩) (by simp) (.slice so2 secs.length sc2)).other (p := ⟨w.heap.size, 1, none⟩) (by simp) (.slice po2 pend.length pc2)).other (p := ⟨w.heap.size, 2, none⟩) (by simp) (.bool false)).other (p := ⟨w.heap.size, 3, none⟩) (by simp) (.int .i64 0)
  have hb3 := ((((bt hb1'.out hb2).setCell (p := ⟨w.heap.size, 0, none⟩) (Nat.le_refl _) (.slice so2 secs.length sc2)).setCell (p := ⟨w.heap.size, 1, none⟩) (Nat.le_refl _) (.slice po2 pend.length pc2)).setCell (p := ⟨w.heap.size, 2, none⟩) (Nat.le_refl _) (.bool false)).setCell (p := ⟨w.heap.size, 3, none⟩) (Nat.le_refl _) (.int .i64 0)
  have hsz1 : w.heap.size + 3 ≤ w1.heap.size := by have := R1'.out.lt; omega
  have O3 := (((own_setCell (hown.mono hsz1) (p := ⟨w.heap.size, 0, none⟩) (by simp) (.slice so2 secs.length sc2)).setCell' (p := ⟨w.heap.size, 1, none⟩) (by simp) (.slice po2 pend.length pc2)).setCell' (p := ⟨w.heap.size, 2, none⟩) (by simp) (.bool false)).setCell' (p := ⟨w.heap.size, 3, none⟩) (by simp) (.int .i64 0)
  have hsz : Hid (w.heap.size + 3 ≤ ((((w2.setCell ⟨w.heap.size, 0, none⟩ (.slice so2 secs.length sc2)).setCell ⟨w.heap.size, 1, none⟩ (.slice po2 pend.length pc2)).setCell ⟨w.heap.size, 2, none⟩ (.bool false)).setCell ⟨w.heap.size, 3, none⟩ (.int .i64 0)).heap.size) := hid (by simp; have := hb2.size; omega)
  have D3' := hid D3
  have J3' := hid J3
  have R3' := hid R3
  have O3' := hid O3
  have hb3' := hid hb3
  clear hown hb2 D2 J2 R2 D3 J3 R3 O3 hb3 hsz1 d0 d1 d2 d3 df'
  generalize (((w2.setCell ⟨w.heap.size, 0, none⟩ (.slice so2 secs.length sc2)).setCell ⟨w.heap.size, 1, none⟩ (.slice po2 pend.length pc2)).setCell ⟨w.heap.size, 2, none⟩ (.bool false)).setCell ⟨w.heap.size, 3, none⟩ (.int .i64 0) = W at D3' J3' R3' O3' hb3' hsz ⊢
  obtain ⟨d0, d1, d2, d3, df'⟩ := D3'.out.four
  obtain ⟨j0, j1, j2, jf⟩ := J3'.out.three
  obtain ⟨r0, r1, r2, r3, rf'⟩ := R3'.out.four
  go_wp2_with fail
  refine (hrefuse.out _ _ O3'.out.v).mono ?_
  rintro e w4 ⟨rfl, hb4⟩
  have D4 := D3'.out.below hb4 D3'.out.lt
  have J4 := J3'.out.below hb4 J3'.out.lt
  have R4 := R3'.out.below hb4 R3'.out.lt
  have O4' := hid (O3'.out.below hb4)
  have hb4' := hid (bt hb3'.out hb4)
  have hsz4 := hid (Nat.le_trans hsz.out hb4.size)
  have D4' := hid D4
  have J4' := hid J4
  have R4' := hid R4
  clear d0 d1 d2 d3 df' j0 j1 j2 jf r0 r1 r2 r3 rf'
  obtain ⟨d0, d1, d2, d3, df'⟩ := D4.four
  obtain ⟨j0, j1, j2, jf⟩ := J4.three
  obtain ⟨r0, r1, r2, r3, rf'⟩ := R4.four
  clear D4 J4 R4 hb4
  go_wp2_with fail
  refine (hdo.out _ (w.heap.size + 3) w.heap.size _ _ (by omega) hsz4.out D4'.out O4'.out).mono ?_
  rintro e w5 ⟨sv5, pv5, rfl, D5, O5, hbut⟩
  have R5a := R4'.out.but hbut (by omega) (by omega)
  have hb5 : Below w.heap.size w w5 := hb4'.out.trans (hbut.below (Nat.le_refl _) (by omega))
  obtain ⟨so5, sc5, rfl, _⟩ := ownsRow_form O5.secs
  obtain ⟨po5, pc5, rfl, _⟩ := ownsRow_form O5.pend
  simp only [] at D5 O5
  rw [hdl] at D5 O5
  have O5' := hid O5
  have D5' := hid D5
  have R5' := hid R5a
  have hb5' := hid hb5
  clear d0 d1 d2 d3 df' j0 j1 j2 jf r0 r1 r2 r3 rf'
  obtain ⟨d0, d1, d2', d3, df'⟩ := D5.four
  obtain ⟨r0, r1, r2, r3, rf'⟩ := R5a.four
  clear D5 R5a O5 hb5 hbut
  go_wp2_with fail
  have O6' := hid (own_setCell O5'.out (p := ⟨w.heap.size, 2, none⟩) (by simp) (.bool true))
  have R6' := hid (R5'.out.other (p := ⟨w.heap.size, 2, none⟩) (by simp) (.bool true))
  have hb6' := hid (hb5'.out.setCell (p := ⟨w.heap.size, 2, none⟩) (Nat.le_refl _) (.bool true))
  have R5 := (((R6'.out.set 0 (.slice so5 secs.length sc5)).set 1 (.slice po5 pend2.length pc5)).set 2 (.bool true)).set 3 (.int .i64 0)
  simp only [List.set_cons_zero, List.set_cons_succ] at R5
  obtain ⟨q0, q1, q2, q3, qf⟩ := R5.four
  refine bodyPost_ret (v := .tuple #[.agg #[.slice so5 secs.length sc5, .slice po5 pend2.length pc5, .bool true, .int .i64 0], .int .i64 15]) (by simp [results, Try.results69, go_sem, q0, q1, q2, q3]) rfl ?_
  refine ⟨_, _, rfl, ?_, (((hb6'.out.setCell (by simp; omega) _).setCell (by simp; omega) _).setCell (by simp; omega) _).setCell (by simp; omega) _⟩
  have O7 := own_setCell (own_setCell (own_setCell (own_setCell O6'.out (p := ⟨w.heap.size + 1 + 1, 0, none⟩) (by simp) (.slice so5 secs.length sc5)) (p := ⟨w.heap.size + 1 + 1, 1, none⟩) (by simp) (.slice po5 pend2.length pc5)) (p := ⟨w.heap.size + 1 + 1, 2, none⟩) (by simp) (.bool true)) (p := ⟨w.heap.size + 1 + 1, 3, none⟩) (by simp) (.int .i64 0)
  exact OwnDisk.mono (d := ⟨secs2, pend2, true, 0⟩) ⟨O7.secs, O7.far⟩ (by omega)
set_option maxHeartbeats 800000 in
theorem work_pos (secs : List ByteArray) (pend : List (Int × ByteArray)) (fuse : Int) (v : Value) (w : World) (h : DiskV w v ⟨secs, pend, false, fuse⟩) (rf df cf : Nat) (ra da ca : Array Value) (hok : Hid (okB ⟨secs, pend, false, fuse⟩ = true)) (hcf : ∀ args W, (callFunc rf args).run Try.prog W = .ok (.enter rf args) W)
    (hrefuse : Hid (∀ W v, DiskV W v ⟨secs, pend, false, fuse⟩ → Calls Try.prog rf (ra ++ #[v]) W fun e W' => e = .returned (.int .i64 0) ∧ Below W.heap.size W W')) (secs2 : List ByteArray) (pend2 : List (Int × ByteArray)) (hdl : secs2.length = secs.length) (hccc : ∀ args W, (callFunc df args).run Try.prog W = .ok (.enter df args) W)
    (hdo : Hid (∀ W B db sv pv, db < B → B ≤ W.heap.size → Blk W db [sv, pv, .bool false, .int .i64 fuse] 25 → OwnDisk B W sv pv ⟨secs, pend, false, fuse⟩ → Calls Try.prog df (da ++ #[.pointer (some ⟨db, 0, none⟩)]) W (Did W B db ⟨secs2, pend2, false, fuse⟩))) (hf0 : 0 < fuse) (hf1 : fuse ≤ 9223372036854775807) (hf2 : (fuse == 0) = false) :
    Calls Try.prog 69 #[v, .agg #[.func (Fn.func rf) ra #[], .func (Fn.func df) da #[], .func (Fn.func cf) ca #[]]] w (Res w (⟨secs2, pend2, false, fuse - 1⟩, 0)) := by
  have hv := hid h
  obtain ⟨sv, pv, rfl, hs, hp⟩ := h
  obtain ⟨so, scap, rfl, _⟩ := hs.form
  obtain ⟨po, pcap, rfl, _⟩ := hp.form
  have hk := hid (chk_ok hok.out)
  have hn := hid (okB_secs hok.out)
  have hm := hid (okB_pend hok.out)
  clear hs hp
  go_enter Try.func69, Try.ntmps69
  go_wp2_with fail
  refine (check_any _ _ _ (hv.out.below (by go_grown))).mono ?_
  rintro e w1 ⟨rfl, hb1⟩
  have hb1w : Below w.heap.size w w1 := (show Below w.heap.size w _ from by go_grown).trans (hb1.mono (by simp; omega))
  have D1 : Blk w1 w.heap.size [.slice so secs.length scap, .slice po pend.length pcap, .bool false, .int .i64 fuse] 25 := (((Blk.new w _ _).alloc _).alloc _).below hb1 (by simp; omega)
  have J1 : Blk w1 (w.heap.size + 1) [.func (Fn.func rf) ra #[], .func (Fn.func df) da #[], .func (Fn.func cf) ca #[]] 112 := ((Blk.new' _ _ _ _ (by simp)).alloc _).below hb1 (by simp)
  have R1 : Blk w1 (w.heap.size + 2) [.slice none 0 0, .slice none 0 0, .bool false, .int .i64 0] 25 := (Blk.new' _ _ _ _ (by simp)).below hb1 (by simp)
  obtain ⟨d0, d1, d2, d3, df'⟩ := D1.four
  have D1' := hid D1
  have J1' := hid J1
  have R1' := hid R1
  have hb1' := hid hb1w
  clear D1 J1 R1 hb1 hb1w
  rw [hk.out]
  go_wp2_with fail
  refine (copied_any _ _ _ (hv.out.below hb1'.out) hn.out hm.out).mono ?_
  rintro e w2 ⟨sv2, pv2, rfl, hown, hb2⟩
  clear d0 d1 d2 d3 df'
  obtain ⟨so2, sc2, rfl, _⟩ := ownsRow_form hown.secs
  obtain ⟨po2, pc2, rfl, _⟩ := ownsRow_form hown.pend
  have D2 := D1'.out.below hb2 D1'.out.lt
  have J2 := J1'.out.below hb2 J1'.out.lt
  have R2 := R1'.out.below hb2 R1'.out.lt
  obtain ⟨d0, d1, d2, d3, df'⟩ := D2.four
  go_upto_region 5 with (fail)
  have D3 := (((D2.set 0 (.slice so2 secs.length sc2)).set 1 (.slice po2 pend.length pc2)).set 2 (.bool false)).set 3 (.int .i64 fuse)
  simp only [List.set_cons_zero, List.set_cons_succ] at D3
  have J3 := (((J2.other (p := ⟨w.heap.size, 0, none⟩) (by simp) (.slice so2 secs.length sc2)).other (p := ⟨w.heap.size, 1, none⟩) (by simp) (.slice po2 pend.length pc2)).other (p := ⟨w.heap.size, 2, none⟩) (by simp) (.bool false)).other (p := ⟨w.heap.size, 3, none⟩) (by simp) (.int .i64 fuse)
  have R3 := (((R2.other (p := ⟨w.heap.size, 0, none⟩) (by simp) (.slice so2 secs.length sc2)).other (p := ⟨w.heap.size, 1, none⟩) (by simp) (.slice po2 pend.length pc2)).other (p := ⟨w.heap.size, 2, none⟩) (by simp) (.bool false)).other (p := ⟨w.heap.size, 3, none⟩) (by simp) (.int .i64 fuse)
  have hb3 := ((((bt hb1'.out hb2).setCell (p := ⟨w.heap.size, 0, none⟩) (Nat.le_refl _) (.slice so2 secs.length sc2)).setCell (p := ⟨w.heap.size, 1, none⟩) (Nat.le_refl _) (.slice po2 pend.length pc2)).setCell (p := ⟨w.heap.size, 2, none⟩) (Nat.le_refl _) (.bool false)).setCell (p := ⟨w.heap.size, 3, none⟩) (Nat.le_refl _) (.int .i64 fuse)
  have hsz1 : w.heap.size + 3 ≤ w1.heap.size := by have := R1'.out.lt; omega
  have O3 := (((own_setCell (hown.mono hsz1) (p := ⟨w.heap.size, 0, none⟩) (by simp) (.slice so2 secs.length sc2)).setCell' (p := ⟨w.heap.size, 1, none⟩) (by simp) (.slice po2 pend.length pc2)).setCell' (p := ⟨w.heap.size, 2, none⟩) (by simp) (.bool false)).setCell' (p := ⟨w.heap.size, 3, none⟩) (by simp) (.int .i64 fuse)
  have hsz : Hid (w.heap.size + 3 ≤ ((((w2.setCell ⟨w.heap.size, 0, none⟩ (.slice so2 secs.length sc2)).setCell ⟨w.heap.size, 1, none⟩ (.slice po2 pend.length pc2)).setCell ⟨w.heap.size, 2, none⟩ (.bool false)).setCell ⟨w.heap.size, 3, none⟩ (.int .i64 fuse)).heap.size) := hid (by simp; have := hb2.size; omega)
  have D3' := hid D3
  have J3' := hid J3
  have R3' := hid R3
  have O3' := hid O3
  have hb3' := hid hb3
  clear hown hb2 D2 J2 R2 D3 J3 R3 O3 hb3 hsz1 d0 d1 d2 d3 df'
  generalize (((w2.setCell ⟨w.heap.size, 0, none⟩ (.slice so2 secs.length sc2)).setCell ⟨w.heap.size, 1, none⟩ (.slice po2 pend.length pc2)).setCell ⟨w.heap.size, 2, none⟩ (.bool false)).setCell ⟨w.heap.size, 3, none⟩ (.int .i64 fuse) = W at D3' J3' R3' O3' hb3' hsz ⊢
  obtain ⟨d0, d1, d2, d3, df'⟩ := D3'.out.four
  obtain ⟨j0, j1, j2, jf⟩ := J3'.out.three
  obtain ⟨r0, r1, r2, r3, rf'⟩ := R3'.out.four
  go_wp2_with fail
  refine (hrefuse.out _ _ O3'.out.v).mono ?_
  rintro e w4 ⟨rfl, hb4⟩
  have D4 := D3'.out.below hb4 D3'.out.lt
  have J4 := J3'.out.below hb4 J3'.out.lt
  have R4 := R3'.out.below hb4 R3'.out.lt
  have O4' := hid (O3'.out.below hb4)
  have hb4' := hid (bt hb3'.out hb4)
  have hsz4 := hid (Nat.le_trans hsz.out hb4.size)
  have D4' := hid D4
  have J4' := hid J4
  have R4' := hid R4
  clear d0 d1 d2 d3 df' j0 j1 j2 jf r0 r1 r2 r3 rf'
  obtain ⟨d0, d1, d2, d3, df'⟩ := D4.four
  obtain ⟨j0, j1, j2, jf⟩ := J4.three
  obtain ⟨r0, r1, r2, r3, rf'⟩ := R4.four
  clear D4 J4 R4 hb4
  go_wp2_with fail
  refine (hdo.out _ (w.heap.size + 3) w.heap.size _ _ (by omega) hsz4.out D4'.out O4'.out).mono ?_
  rintro e w5 ⟨sv5, pv5, rfl, D5, O5, hbut⟩
  have R5a := R4'.out.but hbut (by omega) (by omega)
  have hb5 : Below w.heap.size w w5 := hb4'.out.trans (hbut.below (Nat.le_refl _) (by omega))
  obtain ⟨so5, sc5, rfl, _⟩ := ownsRow_form O5.secs
  obtain ⟨po5, pc5, rfl, _⟩ := ownsRow_form O5.pend
  simp only [] at D5 O5
  rw [hdl] at D5 O5
  have O5' := hid O5
  have D5' := hid D5
  have R5' := hid R5a
  have hb5' := hid hb5
  clear d0 d1 d2 d3 df' j0 j1 j2 jf r0 r1 r2 r3 rf'
  obtain ⟨d0, d1, d2', d3, df'⟩ := D5.four
  obtain ⟨r0, r1, r2, r3, rf'⟩ := R5a.four
  clear D5 R5a O5 hb5 hbut
  go_wp2_with fail
  have O6' := hid (own_setCell O5'.out (p := ⟨w.heap.size, 3, none⟩) (by simp) (.int .i64 (fuse - 1)))
  have R6' := hid (R5'.out.other (p := ⟨w.heap.size, 3, none⟩) (by simp) (.int .i64 (fuse - 1)))
  have hb6' := hid (hb5'.out.setCell (p := ⟨w.heap.size, 3, none⟩) (Nat.le_refl _) (.int .i64 (fuse - 1)))
  have R5 := (((R6'.out.set 0 (.slice so5 secs.length sc5)).set 1 (.slice po5 pend2.length pc5)).set 2 (.bool false)).set 3 (.int .i64 (fuse - 1))
  simp only [List.set_cons_zero, List.set_cons_succ] at R5
  obtain ⟨q0, q1, q2, q3, qf⟩ := R5.four
  refine bodyPost_ret (v := .tuple #[.agg #[.slice so5 secs.length sc5, .slice po5 pend2.length pc5, .bool false, .int .i64 (fuse - 1)], .int .i64 0]) (by simp [results, Try.results69, go_sem, q0, q1, q2, q3]) rfl ?_
  refine ⟨_, _, rfl, ?_, (((hb6'.out.setCell (by simp; omega) _).setCell (by simp; omega) _).setCell (by simp; omega) _).setCell (by simp; omega) _⟩
  have O7 := own_setCell (own_setCell (own_setCell (own_setCell O6'.out (p := ⟨w.heap.size + 1 + 1, 0, none⟩) (by simp) (.slice so5 secs.length sc5)) (p := ⟨w.heap.size + 1 + 1, 1, none⟩) (by simp) (.slice po5 pend2.length pc5)) (p := ⟨w.heap.size + 1 + 1, 2, none⟩) (by simp) (.bool false)) (p := ⟨w.heap.size + 1 + 1, 3, none⟩) (by simp) (.int .i64 (fuse - 1))
  exact OwnDisk.mono (d := ⟨secs2, pend2, false, fuse - 1⟩) ⟨O7.secs, O7.far⟩ (by omega)
set_option maxHeartbeats 800000 in
theorem work_neg (secs : List ByteArray) (pend : List (Int × ByteArray)) (fuse : Int) (v : Value) (w : World) (h : DiskV w v ⟨secs, pend, false, fuse⟩) (rf df cf : Nat) (ra da ca : Array Value) (hok : Hid (okB ⟨secs, pend, false, fuse⟩ = true)) (hcf : ∀ args W, (callFunc rf args).run Try.prog W = .ok (.enter rf args) W)
    (hrefuse : Hid (∀ W v, DiskV W v ⟨secs, pend, false, fuse⟩ → Calls Try.prog rf (ra ++ #[v]) W fun e W' => e = .returned (.int .i64 0) ∧ Below W.heap.size W W')) (secs2 : List ByteArray) (pend2 : List (Int × ByteArray)) (hdl : secs2.length = secs.length) (hccc : ∀ args W, (callFunc df args).run Try.prog W = .ok (.enter df args) W)
    (hdo : Hid (∀ W B db sv pv, db < B → B ≤ W.heap.size → Blk W db [sv, pv, .bool false, .int .i64 fuse] 25 → OwnDisk B W sv pv ⟨secs, pend, false, fuse⟩ → Calls Try.prog df (da ++ #[.pointer (some ⟨db, 0, none⟩)]) W (Did W B db ⟨secs2, pend2, false, fuse⟩))) (hf0 : fuse < 0) (hf2 : (fuse == 0) = false) :
    Calls Try.prog 69 #[v, .agg #[.func (Fn.func rf) ra #[], .func (Fn.func df) da #[], .func (Fn.func cf) ca #[]]] w (Res w (⟨secs2, pend2, false, fuse⟩, 0)) := by
  have hv := hid h
  obtain ⟨sv, pv, rfl, hs, hp⟩ := h
  obtain ⟨so, scap, rfl, _⟩ := hs.form
  obtain ⟨po, pcap, rfl, _⟩ := hp.form
  have hk := hid (chk_ok hok.out)
  have hn := hid (okB_secs hok.out)
  have hm := hid (okB_pend hok.out)
  clear hs hp
  go_enter Try.func69, Try.ntmps69
  go_wp2_with fail
  refine (check_any _ _ _ (hv.out.below (by go_grown))).mono ?_
  rintro e w1 ⟨rfl, hb1⟩
  have hb1w : Below w.heap.size w w1 := (show Below w.heap.size w _ from by go_grown).trans (hb1.mono (by simp; omega))
  have D1 : Blk w1 w.heap.size [.slice so secs.length scap, .slice po pend.length pcap, .bool false, .int .i64 fuse] 25 := (((Blk.new w _ _).alloc _).alloc _).below hb1 (by simp; omega)
  have J1 : Blk w1 (w.heap.size + 1) [.func (Fn.func rf) ra #[], .func (Fn.func df) da #[], .func (Fn.func cf) ca #[]] 112 := ((Blk.new' _ _ _ _ (by simp)).alloc _).below hb1 (by simp)
  have R1 : Blk w1 (w.heap.size + 2) [.slice none 0 0, .slice none 0 0, .bool false, .int .i64 0] 25 := (Blk.new' _ _ _ _ (by simp)).below hb1 (by simp)
  obtain ⟨d0, d1, d2, d3, df'⟩ := D1.four
  have D1' := hid D1
  have J1' := hid J1
  have R1' := hid R1
  have hb1' := hid hb1w
  clear D1 J1 R1 hb1 hb1w
  rw [hk.out]
  go_wp2_with fail
  refine (copied_any _ _ _ (hv.out.below hb1'.out) hn.out hm.out).mono ?_
  rintro e w2 ⟨sv2, pv2, rfl, hown, hb2⟩
  clear d0 d1 d2 d3 df'
  obtain ⟨so2, sc2, rfl, _⟩ := ownsRow_form hown.secs
  obtain ⟨po2, pc2, rfl, _⟩ := ownsRow_form hown.pend
  have D2 := D1'.out.below hb2 D1'.out.lt
  have J2 := J1'.out.below hb2 J1'.out.lt
  have R2 := R1'.out.below hb2 R1'.out.lt
  obtain ⟨d0, d1, d2, d3, df'⟩ := D2.four
  go_upto_region 5 with (fail)
  have D3 := (((D2.set 0 (.slice so2 secs.length sc2)).set 1 (.slice po2 pend.length pc2)).set 2 (.bool false)).set 3 (.int .i64 fuse)
  simp only [List.set_cons_zero, List.set_cons_succ] at D3
  have J3 := (((J2.other (p := ⟨w.heap.size, 0, none⟩) (by simp) (.slice so2 secs.length sc2)).other (p := ⟨w.heap.size, 1, none⟩) (by simp) (.slice po2 pend.length pc2)).other (p := ⟨w.heap.size, 2, none⟩) (by simp) (.bool false)).other (p := ⟨w.heap.size, 3, none⟩) (by simp) (.int .i64 fuse)
  have R3 := (((R2.other (p := ⟨w.heap.size, 0, none⟩) (by simp) (.slice so2 secs.length sc2)).other (p := ⟨w.heap.size, 1, none⟩) (by simp) (.slice po2 pend.length pc2)).other (p := ⟨w.heap.size, 2, none⟩) (by simp) (.bool false)).other (p := ⟨w.heap.size, 3, none⟩) (by simp) (.int .i64 fuse)
  have hb3 := ((((bt hb1'.out hb2).setCell (p := ⟨w.heap.size, 0, none⟩) (Nat.le_refl _) (.slice so2 secs.length sc2)).setCell (p := ⟨w.heap.size, 1, none⟩) (Nat.le_refl _) (.slice po2 pend.length pc2)).setCell (p := ⟨w.heap.size, 2, none⟩) (Nat.le_refl _) (.bool false)).setCell (p := ⟨w.heap.size, 3, none⟩) (Nat.le_refl _) (.int .i64 fuse)
  have hsz1 : w.heap.size + 3 ≤ w1.heap.size := by have := R1'.out.lt; omega
  have O3 := (((own_setCell (hown.mono hsz1) (p := ⟨w.heap.size, 0, none⟩) (by simp) (.slice so2 secs.length sc2)).setCell' (p := ⟨w.heap.size, 1, none⟩) (by simp) (.slice po2 pend.length pc2)).setCell' (p := ⟨w.heap.size, 2, none⟩) (by simp) (.bool false)).setCell' (p := ⟨w.heap.size, 3, none⟩) (by simp) (.int .i64 fuse)
  have hsz : Hid (w.heap.size + 3 ≤ ((((w2.setCell ⟨w.heap.size, 0, none⟩ (.slice so2 secs.length sc2)).setCell ⟨w.heap.size, 1, none⟩ (.slice po2 pend.length pc2)).setCell ⟨w.heap.size, 2, none⟩ (.bool false)).setCell ⟨w.heap.size, 3, none⟩ (.int .i64 fuse)).heap.size) := hid (by simp; have := hb2.size; omega)
  have D3' := hid D3
  have J3' := hid J3
  have R3' := hid R3
  have O3' := hid O3
  have hb3' := hid hb3
  clear hown hb2 D2 J2 R2 D3 J3 R3 O3 hb3 hsz1 d0 d1 d2 d3 df'
  generalize (((w2.setCell ⟨w.heap.size, 0, none⟩ (.slice so2 secs.length sc2)).setCell ⟨w.heap.size, 1, none⟩ (.slice po2 pend.length pc2)).setCell ⟨w.heap.size, 2, none⟩ (.bool false)).setCell ⟨w.heap.size, 3, none⟩ (.int .i64 fuse) = W at D3' J3' R3' O3' hb3' hsz ⊢
  obtain ⟨d0, d1, d2, d3, df'⟩ := D3'.out.four
  obtain ⟨j0, j1, j2, jf⟩ := J3'.out.three
  obtain ⟨r0, r1, r2, r3, rf'⟩ := R3'.out.four
  go_wp2_with fail
  refine (hrefuse.out _ _ O3'.out.v).mono ?_
  rintro e w4 ⟨rfl, hb4⟩
  have D4 := D3'.out.below hb4 D3'.out.lt
  have J4 := J3'.out.below hb4 J3'.out.lt
  have R4 := R3'.out.below hb4 R3'.out.lt
  have O4' := hid (O3'.out.below hb4)
  have hb4' := hid (bt hb3'.out hb4)
  have hsz4 := hid (Nat.le_trans hsz.out hb4.size)
  have D4' := hid D4
  have J4' := hid J4
  have R4' := hid R4
  clear d0 d1 d2 d3 df' j0 j1 j2 jf r0 r1 r2 r3 rf'
  obtain ⟨d0, d1, d2, d3, df'⟩ := D4.four
  obtain ⟨j0, j1, j2, jf⟩ := J4.three
  obtain ⟨r0, r1, r2, r3, rf'⟩ := R4.four
  clear D4 J4 R4 hb4
  go_wp2_with fail
  refine (hdo.out _ (w.heap.size + 3) w.heap.size _ _ (by omega) hsz4.out D4'.out O4'.out).mono ?_
  rintro e w5 ⟨sv5, pv5, rfl, D5, O5, hbut⟩
  have R5a := R4'.out.but hbut (by omega) (by omega)
  have hb5 : Below w.heap.size w w5 := hb4'.out.trans (hbut.below (Nat.le_refl _) (by omega))
  obtain ⟨so5, sc5, rfl, _⟩ := ownsRow_form O5.secs
  obtain ⟨po5, pc5, rfl, _⟩ := ownsRow_form O5.pend
  simp only [] at D5 O5
  rw [hdl] at D5 O5
  have O5' := hid O5
  have D5' := hid D5
  have R5' := hid R5a
  have hb5' := hid hb5
  clear d0 d1 d2 d3 df' j0 j1 j2 jf r0 r1 r2 r3 rf'
  obtain ⟨d0, d1, d2', d3, df'⟩ := D5.four
  obtain ⟨r0, r1, r2, r3, rf'⟩ := R5a.four
  clear D5 R5a O5 hb5 hbut
  go_wp2_with fail
  have O6' := hid O5'.out
  have R6' := hid R5'.out
  have hb6' := hid hb5'.out
  have R5 := (((R6'.out.set 0 (.slice so5 secs.length sc5)).set 1 (.slice po5 pend2.length pc5)).set 2 (.bool false)).set 3 (.int .i64 fuse)
  simp only [List.set_cons_zero, List.set_cons_succ] at R5
  obtain ⟨q0, q1, q2, q3, qf⟩ := R5.four
  refine bodyPost_ret (v := .tuple #[.agg #[.slice so5 secs.length sc5, .slice po5 pend2.length pc5, .bool false, .int .i64 fuse], .int .i64 0]) (by simp [results, Try.results69, go_sem, q0, q1, q2, q3]) rfl ?_
  refine ⟨_, _, rfl, ?_, (((hb6'.out.setCell (by simp; omega) _).setCell (by simp; omega) _).setCell (by simp; omega) _).setCell (by simp; omega) _⟩
  have O7 := own_setCell (own_setCell (own_setCell (own_setCell O6'.out (p := ⟨w.heap.size + 1 + 1, 0, none⟩) (by simp) (.slice so5 secs.length sc5)) (p := ⟨w.heap.size + 1 + 1, 1, none⟩) (by simp) (.slice po5 pend2.length pc5)) (p := ⟨w.heap.size + 1 + 1, 2, none⟩) (by simp) (.bool false)) (p := ⟨w.heap.size + 1 + 1, 3, none⟩) (by simp) (.int .i64 fuse)
  exact OwnDisk.mono (d := ⟨secs2, pend2, false, fuse⟩) ⟨O7.secs, O7.far⟩ (by omega)
end Go.Proofs.Ytiegocbdgimimaa.Sector
