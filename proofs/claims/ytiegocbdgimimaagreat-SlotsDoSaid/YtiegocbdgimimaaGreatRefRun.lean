/-
  lictorref04.Lay.
-/
import Derived.Test.YtiegocbdgimimaaGreatSectorHolds
import Derived.Test.YtiegocbdgimimaaGreatSectorPend
import Derived.Test.YtiegocbdgimimaaGreatSectorCopyRef
import Derived.Test.YtiegocbdgimimaaGreatSectorLives
import Derived.Test.YtiegocbdgimimaaGreatSectorMath
import Derived.Test.YtiegocbdgimimaaGreatRefAll
import Derived.Deep.DrawnRows
namespace Go.Proofs.YtiegocbdgimimaaGreat.Sector
open Go.ChangeShapes Go.WideShapes Go.ChangeAt Go.RowKit
open Go.Proofs.YtiegocbdgimimaaGreat.Mem
set_option linter.unusedVariables false
theorem burnt_0 (so po : Option Addr) (n sc m pc : Nat) (off : Bool) (w : World) :
    Calls Tryz.prog 63 #[.agg #[.slice so n sc, .slice po m pc, .bool off, .int .i64 0]] w fun e w' => e = .returned (.tuple #[.agg #[.slice so n sc, .slice po m pc, .bool true, .int .i64 0], .bool false]) ∧ Below w.heap.size w w' := by
  go_enter Tryz.func63, Tryz.ntmps63
  go_wp2_with fail
  refine bodyPost_ret (v := .tuple #[.agg #[.slice so n sc, .slice po m pc, .bool true, .int .i64 0], .bool false]) (by simp [results, Tryz.results63, go_sem]) rfl ?_
  exact ⟨rfl, by go_grown⟩
def fuseE (f : Int) : Int := if 0 < f then f - 1 else f
theorem burnt_1 (so po : Option Addr) (n sc m pc : Nat) (off : Bool) (f : Int) (w : World) (h0 : f ≠ 0) (hw : (Lit.int .i64 f).wf = true) :
    Calls Tryz.prog 63 #[.agg #[.slice so n sc, .slice po m pc, .bool off, .int .i64 f]] w fun e w' => e = .returned (.tuple #[.agg #[.slice so n sc, .slice po m pc, .bool off, .int .i64 (fuseE f)], .bool true]) ∧ Below w.heap.size w w' := by
  have hf := bounds_i64 hw
  have h1 : (f == 0) = false := beq_eq_false_iff_ne.2 h0
  have hu := hf.2
  clear hw hf
  by_cases hp : 0 < f
  · have he : Hid (fuseE f = f - 1) := hid (by unfold fuseE; rw [if_pos hp])
    go_enter Tryz.func63, Tryz.ntmps63
    go_wp2_with fail
    refine bodyPost_ret (v := .tuple #[.agg #[.slice so n sc, .slice po m pc, .bool off, .int .i64 (f - 1)], .bool true]) (by simp [results, Tryz.results63, go_sem]) rfl ?_
    rw [he.out]
    exact ⟨rfl, by go_grown⟩
  · have he : Hid (fuseE f = f) := hid (by unfold fuseE; rw [if_neg hp])
    go_enter Tryz.func63, Tryz.ntmps63
    go_wp2_with fail
    refine bodyPost_ret (v := .tuple #[.agg #[.slice so n sc, .slice po m pc, .bool off, .int .i64 f], .bool true]) (by simp [results, Tryz.results63, go_sem]) rfl ?_
    rw [he.out]
    exact ⟨rfl, by go_grown⟩
theorem app_write (B : Nat) (w : World) (sv : Value) (po : Option Addr) (pc : Nat) (d : Disk) (n : Int) (s : ByteArray) (hB : B ≤ w.heap.size) (hown : OwnDisk B w sv (.slice po d.pend.length pc) d) (hlen : d.pend.length ≤ 4096) :
    ∃ ao cap w', (Builtin.append_ #[23, 23] 23 #[.slice po d.pend.length pc, .slice (some ⟨w.heap.size, 0, none⟩) 1 1]).run Tryz.prog (w.alloc (.cells #[.int .i64 n, .string s] 55)) = .ok (.slice ao (d.pend.length + 1) cap) w' ∧
      OwnDisk B w' sv (.slice ao (d.pend.length + 1) cap) { d with pend := d.pend ++ [(n, s)] } ∧ Below B w w' := by
  obtain ⟨i0, hi, hz0, hz1, hz2⟩ := info_parts info_write
  have hal : Below w.heap.size w (w.alloc (.cells #[.int .i64 n, .string s] 55)) := (Below.refl _ w).alloc (Nat.le_refl _) _
  obtain ⟨M, hBM, hMw, hsM, hpM⟩ := hown.far
  have hp2 := ownsRow_below hpM hal
  have hs2 := ownsRow_below hown.secs hal
  obtain ⟨v', w', hr, hv, hg, hnil⟩ := run_append_own (P := Tryz.prog) (w.alloc (.cells #[.int .i64 n, .string s] 55)) M 23 23 55 i0 (.agg #[.int .i64 0, .string ⟨#[]⟩]) 2 24 Tryz.underlying23 hi hz0 hz1 hz2 rfl (by decide)
    _ _ _ hp2 ⟨w.heap.size, 0, none⟩ 1 1 [.int .i64 n, .string s] rfl (by
      intro j u hu
      match j, hu with
      | 0, hu => simp at hu; subst hu; simp [go_sem]
      | 1, hu => simp at hu; subst hu; simp [go_sem, Addr.add]) (by simp [Value.oneCell']) (by unfold maxLen; omega) (by omega) (by simp; omega)
  obtain ⟨ao, cap, rfl, _, _⟩ := ownsRow_form hv
  refine ⟨ao, cap, w', hr, ⟨?_, M, hBM, ?_, hsM, ?_⟩, (hal.mono hB).grown hg (by simp; omega) (fun k hk => Nat.le_trans hBM (hp2.lt k hk).1)⟩
  · exact ownsRow_kept hs2 hg (by
      cases hk : sv.ownBlock with
      | none => exact .inl rfl
      | some k => exact .inr (fun e => hown.apart k hk (by rw [← e])))
  · have hb := (hal.mono hB).grown hg (by simp; omega) (fun k hk => Nat.le_trans hBM (hp2.lt k hk).1)
    exact Nat.le_trans hMw hb.size
  · simp only [prC_append, List.length_append, List.length_cons, List.length_nil]
    exact hv
end Go.Proofs.YtiegocbdgimimaaGreat.Sector
namespace Go.Proofs.YtiegocbdgimimaaGreat.Sector
open Go.ChangeShapes Go.WideShapes Go.ChangeAt Go.RowKit
open Go.Proofs.YtiegocbdgimimaaGreat.Mem
set_option linter.unusedVariables false
theorem rput_bad (d : Disk) (v : Value) (n : Int) (s : ByteArray) (w : World) (h : DiskV w v d) (hok : Hid (okB d = false)) :
    Calls Tryz.prog 39 #[v, .int .i64 n, .string s] w (Res w (zeroDisk, 13)) := by
  have hv := hid h
  obtain ⟨sv, pv, rfl, hs, hp⟩ := h
  obtain ⟨so, scap, rfl, _⟩ := hs.form
  obtain ⟨po, pcap, rfl, _⟩ := hp.form
  have hk := hid (chk_bad hok.out)
  clear hs hp
  go_enter Tryz.func39, Tryz.ntmps39
  go_wp2_with fail
  refine (rcheck_any d _ _ (hv.out.below (by go_grown))).mono ?_
  rintro e w1 ⟨rfl, hb1⟩
  have hb1w : Below w.heap.size w w1 := (show Below w.heap.size w _ from by go_grown).trans (hb1.mono (by simp; omega))
  have R1 : Blk w1 (w.heap.size + 1) [.slice none 0 0, .slice none 0 0, .bool false, .int .i64 0] 25 := (Blk.new' _ _ _ _ (by simp)).below hb1 (by simp)
  have R5 := (((R1.set 0 (.slice none 0 0)).set 1 (.slice none 0 0)).set 2 (.bool false)).set 3 (.int .i64 0)
  simp only [List.set_cons_zero, List.set_cons_succ] at R5
  have R5' := hid R5
  obtain ⟨q0, q1, q2, q3, qf⟩ := R1.four
  have hb1' := hid hb1w
  clear R5 R1 hb1 hb1w hv
  rw [hk.out]
  go_wp2_with fail
  obtain ⟨q0, q1, q2, q3, qf⟩ := R5'.out.four
  refine bodyPost_ret (v := .tuple #[.agg #[.slice none 0 0, .slice none 0 0, .bool false, .int .i64 0], .int .i64 13]) (by simp [results, Tryz.results39, go_sem, q0, q1, q2, q3]) rfl ?_
  exact ⟨_, _, rfl, zero_own (by simp; have := hb1'.out.size; omega), (((hb1'.out.setCell (by simp) _).setCell (by simp) _).setCell (by simp) _).setCell (by simp) _⟩
set_option maxHeartbeats 4000000 in
theorem rput_ok (secs : List ByteArray) (pend : List (Int × ByteArray)) (off : Bool) (fuse : Int) (v : Value) (n : Int) (s : ByteArray) (w : World) (h : DiskV w v ⟨secs, pend, off, fuse⟩) (hok : Hid (okB ⟨secs, pend, off, fuse⟩ = true)) (hfu : Hid ((Lit.int .i64 fuse).wf = true)) :
    Calls Tryz.prog 39 #[v, .int .i64 n, .string s] w (Res w (putE ⟨secs, pend, off, fuse⟩ n s)) := by
  have hsl : (secs.length : Int) ≤ 1024 := by have := (okp hok.out).2.1; dsimp only at this; omega
  have hpl : (pend.length : Int) ≤ 4096 := by have := (okp hok.out).2.2.1; dsimp only at this; omega
  have hv := hid h
  obtain ⟨sv, pv, rfl, hs, hp⟩ := h
  obtain ⟨so, scap, rfl, _⟩ := hs.form
  obtain ⟨po, pcap, rfl, _⟩ := hp.form
  have hk := hid (chk_ok hok.out)
  have hn := hid (okB_secs hok.out)
  have hm := hid (okB_pend hok.out)
  clear hs hp
  go_enter Tryz.func39, Tryz.ntmps39
  go_wp2_with fail
  refine (rcheck_any _ _ _ (hv.out.below (by go_grown))).mono ?_
  rintro e w1 ⟨rfl, hb1⟩
  have hb1w : Below w.heap.size w w1 := (show Below w.heap.size w _ from by go_grown).trans (hb1.mono (by simp; omega))
  have D1 : Blk w1 w.heap.size [.slice so secs.length scap, .slice po pend.length pcap, .bool off, .int .i64 fuse] 25 := ((Blk.new w _ _).alloc _).below hb1 (by simp; omega)
  have R1 : Blk w1 (w.heap.size + 1) [.slice none 0 0, .slice none 0 0, .bool false, .int .i64 0] 25 := (Blk.new' _ _ _ _ (by simp)).below hb1 (by simp)
  obtain ⟨d0, d1, d2, d3, df⟩ := D1.four
  have D1' := hid D1
  have R1' := hid R1
  have hb1' := hid hb1w
  clear D1 R1 hb1 hb1w
  rw [hk.out]
  go_wp2_with fail
  refine (rcopy_any _ _ _ (hv.out.below hb1'.out) hn.out hm.out).mono ?_
  rintro e w2 ⟨sv2, pv2, rfl, hown, hb2⟩
  clear d0 d1 d2 d3 df
  obtain ⟨so2, sc2, rfl, _⟩ := ownsRow_form hown.secs
  obtain ⟨po2, pc2, rfl, _⟩ := ownsRow_form hown.pend
  have D2 := D1'.out.below hb2 D1'.out.lt
  have R2 := R1'.out.below hb2 R1'.out.lt
  obtain ⟨d0, d1, d2, d3, df⟩ := D2.four
  dsimp only at hown
  go_upto_region 4 with (fail)
  have hsz1 : w.heap.size + 2 ≤ w1.heap.size := by have := R1'.out.lt; omega
  obtain ⟨D3, O3, hb3⟩ := box4 D2 (hown.mono hsz1) (by omega : w.heap.size < w.heap.size + 2) (bt hb1'.out hb2) (Nat.le_refl _) (.slice so2 secs.length sc2) (.slice po2 pend.length pc2) (.bool off) (.int .i64 fuse)
  have R3 := hid ((((R2.other (p := ⟨w.heap.size, 0, none⟩) (by simp) (.slice so2 secs.length sc2)).other (p := ⟨w.heap.size, 1, none⟩) (by simp) (.slice po2 pend.length pc2)).other (p := ⟨w.heap.size, 2, none⟩) (by simp) (.bool off)).other (p := ⟨w.heap.size, 3, none⟩) (by simp) (.int .i64 fuse))
  clear hown hb2 D2 R2 hsz1 d0 d1 d2 d3 df D1' R1' hb1' hv
  generalize (((w2.setCell ⟨w.heap.size, 0, none⟩ (.slice so2 secs.length sc2)).setCell ⟨w.heap.size, 1, none⟩ (.slice po2 pend.length pc2)).setCell ⟨w.heap.size, 2, none⟩ (.bool off)).setCell ⟨w.heap.size, 3, none⟩ (.int .i64 fuse) = W at D3 R3 O3 hb3 ⊢
  obtain ⟨d0, d1, d2, d3, df⟩ := D3.out.four
  obtain ⟨r0, r1, r2, r3, rf⟩ := R3.out.four
  cases off with
  | true =>
    have hE : Hid (putE ⟨secs, pend, true, fuse⟩ n s = (⟨secs, pend, true, fuse⟩, 15)) := hid (by unfold putE workE; rw [hok.out]; rfl)
    go_wp2_with fail
    obtain ⟨F5, O5, b5⟩ := box4 R3.out O3.out (by omega : w.heap.size + 1 < w.heap.size + 2) hb3.out (by omega : w.heap.size ≤ w.heap.size + 1) (.slice so2 secs.length sc2) (.slice po2 pend.length pc2) (.bool true) (.int .i64 fuse)
    obtain ⟨q0, q1, q2, q3, qf⟩ := F5.out.four
    refine bodyPost_ret (v := .tuple #[.agg #[.slice so2 secs.length sc2, .slice po2 pend.length pc2, .bool true, .int .i64 fuse], .int .i64 (15)]) (by simp [results, Tryz.results39, go_sem, q0, q1, q2, q3]) rfl ?_
    rw [hE.out]
    exact ⟨_, _, rfl, OwnDisk.mono (B := w.heap.size + 2) (B' := w.heap.size) (d := ⟨secs, pend, true, fuse⟩) ⟨O5.out.secs, O5.out.far⟩ (by omega), b5.out⟩
  | false =>
    have hR : ∀ r, refuseE ⟨secs, pend, false, fuse⟩ n s = r → r ≠ 0 → Hid (putE ⟨secs, pend, false, fuse⟩ n s = (⟨secs, pend, false, fuse⟩, r)) := fun r hr h0 => hid (by unfold putE workE; rw [hok.out, hr]; simp [h0])
    by_cases n0 : n < 0
    · have hE := hR 1 (by unfold refuseE missB; simp [n0]) (by decide)
      clear hR
      go_wp2_with fail
      obtain ⟨F5, O5, b5⟩ := box4 R3.out O3.out (by omega : w.heap.size + 1 < w.heap.size + 2) hb3.out (by omega : w.heap.size ≤ w.heap.size + 1) (.slice so2 secs.length sc2) (.slice po2 pend.length pc2) (.bool false) (.int .i64 fuse)
      obtain ⟨q0, q1, q2, q3, qf⟩ := F5.out.four
      refine bodyPost_ret (v := .tuple #[.agg #[.slice so2 secs.length sc2, .slice po2 pend.length pc2, .bool false, .int .i64 fuse], .int .i64 (1)]) (by simp [results, Tryz.results39, go_sem, q0, q1, q2, q3]) rfl ?_
      rw [hE.out]
      exact ⟨_, _, rfl, OwnDisk.mono (B := w.heap.size + 2) (B' := w.heap.size) (d := ⟨secs, pend, false, fuse⟩) ⟨O5.out.secs, O5.out.far⟩ (by omega), b5.out⟩
    by_cases n1 : (secs.length : Int) ≤ n
    · have hE := hR 1 (by unfold refuseE missB; simp [n1]) (by decide)
      clear hR
      go_wp2_with fail
      obtain ⟨F5, O5, b5⟩ := box4 R3.out O3.out (by omega : w.heap.size + 1 < w.heap.size + 2) hb3.out (by omega : w.heap.size ≤ w.heap.size + 1) (.slice so2 secs.length sc2) (.slice po2 pend.length pc2) (.bool false) (.int .i64 fuse)
      obtain ⟨q0, q1, q2, q3, qf⟩ := F5.out.four
      refine bodyPost_ret (v := .tuple #[.agg #[.slice so2 secs.length sc2, .slice po2 pend.length pc2, .bool false, .int .i64 fuse], .int .i64 (1)]) (by simp [results, Tryz.results39, go_sem, q0, q1, q2, q3]) rfl ?_
      rw [hE.out]
      exact ⟨_, _, rfl, OwnDisk.mono (B := w.heap.size + 2) (B' := w.heap.size) (d := ⟨secs, pend, false, fuse⟩) ⟨O5.out.secs, O5.out.far⟩ (by omega), b5.out⟩
    have hmi : missB secs.length n = false := by unfold missB; simp [n0]; omega
    by_cases s1 : s.size = 64
    · have hod : oddB s = false := by unfold oddB; simp [s1]
      have hs1 : ((s.size : Int) != 64) = false := by rw [s1]; rfl
      clear s1
      by_cases p1 : 4096 ≤ pend.length
      · have hE := hR 2 (by unfold refuseE; simp [hmi, hod, p1]) (by decide)
        have p2 : (4096 : Int) ≤ (pend.length : Int) := by omega
        clear hR hmi hod p1
        go_wp2_with fail
        obtain ⟨F5, O5, b5⟩ := box4 R3.out O3.out (by omega : w.heap.size + 1 < w.heap.size + 2) hb3.out (by omega : w.heap.size ≤ w.heap.size + 1) (.slice so2 secs.length sc2) (.slice po2 pend.length pc2) (.bool false) (.int .i64 fuse)
        obtain ⟨q0, q1, q2, q3, qf⟩ := F5.out.four
        refine bodyPost_ret (v := .tuple #[.agg #[.slice so2 secs.length sc2, .slice po2 pend.length pc2, .bool false, .int .i64 fuse], .int .i64 (2)]) (by simp [results, Tryz.results39, go_sem, q0, q1, q2, q3]) rfl ?_
        rw [hE.out]
        exact ⟨_, _, rfl, OwnDisk.mono (B := w.heap.size + 2) (B' := w.heap.size) (d := ⟨secs, pend, false, fuse⟩) ⟨O5.out.secs, O5.out.far⟩ (by omega), b5.out⟩
      · have hr0 : refuseE ⟨secs, pend, false, fuse⟩ n s = 0 := by unfold refuseE; simp [hmi, hod, p1]
        have p2 : ¬ (4096 : Int) ≤ (pend.length : Int) := by omega
        have hE : Hid (putE ⟨secs, pend, false, fuse⟩ n s = if fuse = 0 then (⟨secs, pend ++ [(n, s)], true, fuse⟩, 15) else (⟨secs, pend ++ [(n, s)], false, fuseE fuse⟩, 0)) := hid (by unfold putE workE fuseE; rw [hok.out, hr0]; simp [pendD])
        have hsz2 : w.heap.size + 2 ≤ W.heap.size := by have := R3.out.lt; omega
        obtain ⟨ao, cap, w4, hrun, O4, hb4⟩ := app_write (w.heap.size + 2) W (.slice so2 secs.length sc2) po2 pc2 ⟨secs, pend, false, fuse⟩ n s hsz2 O3.out (by dsimp only; omega)
        dsimp only at hrun O4
        have hrun' := hid hrun
        have D4 := hid ((D3.out.below hb4 (by omega)).set 1 (.slice ao (pend.length + 1) cap))
        have R4 := hid ((R3.out.below hb4 (by omega)).other (p := ⟨w.heap.size, 1, none⟩) (by simp) (.slice ao (pend.length + 1) cap))
        have O4' := hid (own_setCell O4 (p := ⟨w.heap.size, 1, none⟩) (by simp) (.slice ao (pend.length + 1) cap))
        have hb4' := hid (hb3.out.trans (hb4.mono (by omega)) |>.setCell (p := ⟨w.heap.size, 1, none⟩) (Nat.le_refl _) (.slice ao (pend.length + 1) cap))
        clear hrun O4 hr0 hmi hod p1 hR hsz2
        go_upto_region 12 with fail
        obtain ⟨x0, x1, x2, x3, xf⟩ := (D3.out.below hb4 (by omega)).four
        have y1 := (D3.out.alloc (.cells #[.int .i64 n, .string s] 55)).four.2.1
        clear hb4
        go_upto_region 13 with (at_builtin; refine wpList_app rfl (.tmp 42) (.tmp 46) _ _ rfl _ _ _ _ rfl rfl hrun'.out ?_)
        clear d0 d1 d2 d3 df r0 r1 r2 r3 rf x0 x1 x2 x3 xf y1 D3 R3 O3 hb3
        generalize w4.setCell ⟨w.heap.size, 1, none⟩ (.slice ao (pend.length + 1) cap) = W4 at D4 R4 O4' hb4' ⊢
        obtain ⟨d0, d1, d2, d3, df⟩ := D4.out.four
        obtain ⟨r0, r1, r2, r3, rf⟩ := R4.out.four
        by_cases hz : fuse = 0
        · subst hz
          replace hE := hid hE.out
          go_wp2_with fail
          refine (burnt_0 _ _ _ _ _ _ _ _).mono ?_
          rintro e w5 ⟨rfl, b5⟩
          have D5 := D4.out.below b5 D4.out.lt
          have R5 := R4.out.below b5 R4.out.lt
          obtain ⟨D6, O6, h6⟩ := box4 D5 (O4'.out.below b5) (by omega : w.heap.size < w.heap.size + 2) (bt hb4'.out b5) (Nat.le_refl _) (.slice so2 secs.length sc2) (.slice ao (pend.length + 1) cap) (.bool true) (.int .i64 0)
          have R6 := hid ((((R5.other (p := ⟨w.heap.size, 0, none⟩) (by simp) (.slice so2 secs.length sc2)).other (p := ⟨w.heap.size, 1, none⟩) (by simp) (.slice ao (pend.length + 1) cap)).other (p := ⟨w.heap.size, 2, none⟩) (by simp) (.bool true)).other (p := ⟨w.heap.size, 3, none⟩) (by simp) (.int .i64 0))
          clear d0 d1 d2 d3 df r0 r1 r2 r3 rf
          obtain ⟨d0, d1, d2, d3, df⟩ := D5.four
          obtain ⟨r0, r1, r2, r3, rf⟩ := R5.four
          clear D5 R5 b5
          go_upto_region 14 with fail
          clear d0 d1 d2 d3 df r0 r1 r2 r3 rf D4 R4 O4' hb4'
          generalize (((w5.setCell ⟨w.heap.size, 0, none⟩ (.slice so2 secs.length sc2)).setCell ⟨w.heap.size, 1, none⟩ (.slice ao (pend.length + 1) cap)).setCell ⟨w.heap.size, 2, none⟩ (.bool true)).setCell ⟨w.heap.size, 3, none⟩ (.int .i64 0) = W6 at D6 O6 h6 R6 ⊢
          obtain ⟨d0, d1, d2, d3, df⟩ := D6.out.four
          obtain ⟨r0, r1, r2, r3, rf⟩ := R6.out.four
          go_wp2_with fail
          obtain ⟨F5, O5, b5⟩ := box4 R6.out O6.out (by omega : w.heap.size + 1 < w.heap.size + 2) h6.out (by omega : w.heap.size ≤ w.heap.size + 1) (.slice so2 secs.length sc2) (.slice ao (pend.length + 1) cap) (.bool true) (.int .i64 0)
          obtain ⟨q0, q1, q2, q3, qf⟩ := F5.out.four
          refine bodyPost_ret (v := .tuple #[.agg #[.slice so2 secs.length sc2, .slice ao (pend.length + 1) cap, .bool true, .int .i64 0], .int .i64 (15)]) (by simp [results, Tryz.results39, go_sem, q0, q1, q2, q3]) rfl ?_
          rw [hE.out]; first | rw [if_pos rfl] | rw [if_pos trivial]
          exact ⟨_, _, rfl, OwnDisk.mono (B := w.heap.size + 2) (B' := w.heap.size) (d := ⟨secs, pend ++ [(n, s)], true, 0⟩) ⟨O5.out.secs, O5.out.far⟩ (by omega), b5.out⟩
        · have hz' := hid hz
          clear hz
          go_wp2_with fail
          refine (burnt_1 _ _ _ _ _ _ _ _ _ hz'.out hfu.out).mono ?_
          rintro e w5 ⟨rfl, b5⟩
          have D5 := D4.out.below b5 D4.out.lt
          have R5 := R4.out.below b5 R4.out.lt
          generalize hff : fuseE fuse = ff at *
          obtain ⟨D6, O6, h6⟩ := box4 D5 (O4'.out.below b5) (by omega : w.heap.size < w.heap.size + 2) (bt hb4'.out b5) (Nat.le_refl _) (.slice so2 secs.length sc2) (.slice ao (pend.length + 1) cap) (.bool false) (.int .i64 ff)
          have R6 := hid ((((R5.other (p := ⟨w.heap.size, 0, none⟩) (by simp) (.slice so2 secs.length sc2)).other (p := ⟨w.heap.size, 1, none⟩) (by simp) (.slice ao (pend.length + 1) cap)).other (p := ⟨w.heap.size, 2, none⟩) (by simp) (.bool false)).other (p := ⟨w.heap.size, 3, none⟩) (by simp) (.int .i64 ff))
          clear d0 d1 d2 d3 df r0 r1 r2 r3 rf hff
          obtain ⟨d0, d1, d2, d3, df⟩ := D5.four
          obtain ⟨r0, r1, r2, r3, rf⟩ := R5.four
          clear D5 R5 b5
          go_upto_region 14 with fail
          clear d0 d1 d2 d3 df r0 r1 r2 r3 rf D4 R4 O4' hb4'
          generalize (((w5.setCell ⟨w.heap.size, 0, none⟩ (.slice so2 secs.length sc2)).setCell ⟨w.heap.size, 1, none⟩ (.slice ao (pend.length + 1) cap)).setCell ⟨w.heap.size, 2, none⟩ (.bool false)).setCell ⟨w.heap.size, 3, none⟩ (.int .i64 ff) = W6 at D6 O6 h6 R6 ⊢
          obtain ⟨d0, d1, d2, d3, df⟩ := D6.out.four
          obtain ⟨r0, r1, r2, r3, rf⟩ := R6.out.four
          go_wp2_with fail
          obtain ⟨F5, O5, b5⟩ := box4 R6.out O6.out (by omega : w.heap.size + 1 < w.heap.size + 2) h6.out (by omega : w.heap.size ≤ w.heap.size + 1) (.slice so2 secs.length sc2) (.slice ao (pend.length + 1) cap) (.bool false) (.int .i64 ff)
          obtain ⟨q0, q1, q2, q3, qf⟩ := F5.out.four
          refine bodyPost_ret (v := .tuple #[.agg #[.slice so2 secs.length sc2, .slice ao (pend.length + 1) cap, .bool false, .int .i64 ff], .int .i64 (0)]) (by simp [results, Tryz.results39, go_sem, q0, q1, q2, q3]) rfl ?_
          rw [hE.out]; first | rw [if_neg hz'.out] | skip
          exact ⟨_, _, rfl, OwnDisk.mono (B := w.heap.size + 2) (B' := w.heap.size) (d := ⟨secs, pend ++ [(n, s)], false, ff⟩) ⟨O5.out.secs, O5.out.far⟩ (by omega), b5.out⟩
    · have hod : oddB s = true := by unfold oddB; simp [s1]
      have hs1 : ((s.size : Int) != 64) = true := by rw [bne_iff_ne]; omega
      have hE := hR 3 (by unfold refuseE; simp [hmi, hod]) (by decide)
      clear s1 hR hmi hod
      go_wp2_with fail
      obtain ⟨F5, O5, b5⟩ := box4 R3.out O3.out (by omega : w.heap.size + 1 < w.heap.size + 2) hb3.out (by omega : w.heap.size ≤ w.heap.size + 1) (.slice so2 secs.length sc2) (.slice po2 pend.length pc2) (.bool false) (.int .i64 fuse)
      obtain ⟨q0, q1, q2, q3, qf⟩ := F5.out.four
      refine bodyPost_ret (v := .tuple #[.agg #[.slice so2 secs.length sc2, .slice po2 pend.length pc2, .bool false, .int .i64 fuse], .int .i64 (3)]) (by simp [results, Tryz.results39, go_sem, q0, q1, q2, q3]) rfl ?_
      rw [hE.out]
      exact ⟨_, _, rfl, OwnDisk.mono (B := w.heap.size + 2) (B' := w.heap.size) (d := ⟨secs, pend, false, fuse⟩) ⟨O5.out.secs, O5.out.far⟩ (by omega), b5.out⟩
theorem rput_any (d : Disk) (v : Value) (n : Int) (s : ByteArray) (w : World) (h : DiskV w v d) (hfu : (Lit.int .i64 d.fuse).wf = true) :
    Calls Tryz.prog 39 #[v, .int .i64 n, .string s] w (Res w (putE d n s)) := by
  cases hok : okB d with
  | false =>
    have e : putE d n s = (zeroDisk, 13) := by unfold putE workE; rw [hok]; rfl
    rw [e]; exact rput_bad d v n s w h (hid hok)
  | true =>
    obtain ⟨secs, pend, off, fuse⟩ := d
    exact rput_ok secs pend off fuse v n s w h (hid hok) (hid hfu)
end Go.Proofs.YtiegocbdgimimaaGreat.Sector
namespace Go.Proofs.YtiegocbdgimimaaGreat.Sector
open Go.ChangeShapes Go.WideShapes Go.ChangeAt Go.RowKit
open Go.Proofs.YtiegocbdgimimaaGreat.Mem
set_option linter.unusedVariables false
theorem settle_step2 {B g : Nat} {w wr W W2 : World} {scap pg pcap : Nat} {secs : List ByteArray} {pend : List (Int × ByteArray)} {kp : Nat → Bool} {k : Nat} (hk : k < pend.length) (hW : W = wr.alloc (.cells #[.int .i64 pend[k].1, .string pend[k].2] 55))
    (hW2 : W2 = (wr.setCell ⟨g, pend[k].1.toNat, none⟩ (.string pend[k].2)).alloc (.cells #[.int .i64 pend[k].1, .string pend[k].2] 55)) (hg : B ≤ g) (hne : g ≠ pg)
    (hB : B ≤ wr.heap.size) {C : Nat} (hCB : C ≤ B) (hbr : Below C w wr) (hs : wr.ownsRow B 9 1 (.slice (some ⟨g, 0, none⟩) secs.length scap) secs.length (strC (sett kp pend secs k)))
    (hp : wr.ownsRow B 55 2 (.slice (some ⟨pg, 0, none⟩) pend.length pcap) pend.length (prC pend)) :
    (kp k = false → W.ownsRow B 9 1 (.slice (some ⟨g, 0, none⟩) secs.length scap) secs.length (strC (sett kp pend secs (k + 1))) ∧ W.ownsRow B 55 2 (.slice (some ⟨pg, 0, none⟩) pend.length pcap) pend.length (prC pend) ∧ Below C w W) ∧
    (kp k = true → W2.ownsRow B 9 1 (.slice (some ⟨g, 0, none⟩) secs.length scap) secs.length (strC (sett kp pend secs (k + 1))) ∧
      W2.ownsRow B 55 2 (.slice (some ⟨pg, 0, none⟩) pend.length pcap) pend.length (prC pend) ∧ Below C w W2) := by
  refine ⟨fun h => ⟨?_, ?_, ?_⟩, fun h => ⟨?_, ?_, ?_⟩⟩
  · rw [hW]; simp only [sett, h]; exact hs.alloc _
  · rw [hW]; exact hp.alloc _
  · rw [hW]; exact hbr.alloc (by omega) _
  · have := (hs.stored pend[k].1.toNat (.string pend[k].2)).1
    rw [hW2]
    simp only [sett, h, if_true, strC_set, List.getD, List.getElem?_eq_getElem hk, Option.getD_some]
    exact this.alloc _
  · rw [hW2]; exact (ownsRow_setCell_other hp (by simp [Value.ownBlock]; omega) _).alloc (.cells #[.int .i64 pend[k].1, .string pend[k].2] 55)
  · rw [hW2]; exact (hbr.setCell (p := ⟨g, pend[k].1.toNat, none⟩) (by simp; omega) _).alloc (by simp; omega) _
theorem own_nil {B : Nat} {w : World} {sv : Value} {S : List ByteArray} {n : Nat} (off : Bool) (f : Int) (hn : n = S.length) (h : w.ownsRow B 9 1 sv n (strC S)) (hB : B ≤ w.heap.size) : OwnDisk B w sv (.slice none 0 0) ⟨S, [], off, f⟩ := by
  subst hn
  exact ⟨h, w.heap.size, hB, Nat.le_refl _, fun k hk => (ownBlock_lt h hk).2, World.ownsRow_nil _ _ _ _⟩
theorem rsync_bad (d : Disk) (v : Value) (w : World) (h : DiskV w v d) (hok : Hid (okB d = false)) :
    Calls Tryz.prog 40 #[v] w (Res w (zeroDisk, 13)) := by
  have hv := hid h
  obtain ⟨sv, pv, rfl, hs, hp⟩ := h
  obtain ⟨so, scap, rfl, _⟩ := hs.form
  obtain ⟨po, pcap, rfl, _⟩ := hp.form
  have hk := hid (chk_bad hok.out)
  clear hs hp
  go_enter Tryz.func40, Tryz.ntmps40
  go_wp2_with fail
  refine (rcheck_any d _ _ (hv.out.below (by go_grown))).mono ?_
  rintro e w1 ⟨rfl, hb1⟩
  have hb1w : Below w.heap.size w w1 := (show Below w.heap.size w _ from by go_grown).trans (hb1.mono (by simp; omega))
  have R1 : Blk w1 (w.heap.size + 1) [.slice none 0 0, .slice none 0 0, .bool false, .int .i64 0] 25 := (Blk.new' _ _ _ _ (by simp)).below hb1 (by simp)
  have R5 := (((R1.set 0 (.slice none 0 0)).set 1 (.slice none 0 0)).set 2 (.bool false)).set 3 (.int .i64 0)
  simp only [List.set_cons_zero, List.set_cons_succ] at R5
  have R5' := hid R5
  obtain ⟨q0, q1, q2, q3, qf⟩ := R1.four
  have hb1' := hid hb1w
  clear R5 R1 hb1 hb1w hv
  rw [hk.out]
  go_wp2_with fail
  obtain ⟨q0, q1, q2, q3, qf⟩ := R5'.out.four
  refine bodyPost_ret (v := .tuple #[.agg #[.slice none 0 0, .slice none 0 0, .bool false, .int .i64 0], .int .i64 13]) (by simp [results, Tryz.results40, go_sem, q0, q1, q2, q3]) rfl ?_
  exact ⟨_, _, rfl, zero_own (by simp; have := hb1'.out.size; omega), (((hb1'.out.setCell (by simp) _).setCell (by simp) _).setCell (by simp) _).setCell (by simp) _⟩
set_option maxHeartbeats 4000000 in
theorem rsync_ok (secs : List ByteArray) (pend : List (Int × ByteArray)) (off : Bool) (fuse : Int) (v : Value) (w : World) (h : DiskV w v ⟨secs, pend, off, fuse⟩) (hok : Hid (okB ⟨secs, pend, off, fuse⟩ = true)) (hfu : Hid ((Lit.int .i64 fuse).wf = true)) :
    Calls Tryz.prog 40 #[v] w (Res w (syncE ⟨secs, pend, off, fuse⟩)) := by
  have hsl : (secs.length : Int) ≤ 1024 := by have := (okp hok.out).2.1; dsimp only at this; omega
  have hpl : (pend.length : Int) ≤ 4096 := by have := (okp hok.out).2.2.1; dsimp only at this; omega
  have hin : Hid (∀ p ∈ pend, 0 ≤ p.1 ∧ p.1 < secs.length) := hid (okB_in hok.out)
  have hv := hid h
  obtain ⟨sv, pv, rfl, hs, hp⟩ := h
  obtain ⟨so, scap, rfl, _⟩ := hs.form
  obtain ⟨po, pcap, rfl, _⟩ := hp.form
  have hk := hid (chk_ok hok.out)
  have hn := hid (okB_secs hok.out)
  have hm := hid (okB_pend hok.out)
  clear hs hp
  go_enter Tryz.func40, Tryz.ntmps40
  go_wp2_with fail
  refine (rcheck_any _ _ _ (hv.out.below (by go_grown))).mono ?_
  rintro e w1 ⟨rfl, hb1⟩
  have hb1w : Below w.heap.size w w1 := (show Below w.heap.size w _ from by go_grown).trans (hb1.mono (by simp; omega))
  have D1 : Blk w1 w.heap.size [.slice so secs.length scap, .slice po pend.length pcap, .bool off, .int .i64 fuse] 25 := ((Blk.new w _ _).alloc _).below hb1 (by simp; omega)
  have R1 : Blk w1 (w.heap.size + 1) [.slice none 0 0, .slice none 0 0, .bool false, .int .i64 0] 25 := (Blk.new' _ _ _ _ (by simp)).below hb1 (by simp)
  obtain ⟨d0, d1, d2, d3, df⟩ := D1.four
  have D1' := hid D1
  have R1' := hid R1
  have hb1' := hid hb1w
  clear D1 R1 hb1 hb1w
  rw [hk.out]
  go_wp2_with fail
  refine (rcopy_any _ _ _ (hv.out.below hb1'.out) hn.out hm.out).mono ?_
  rintro e w2 ⟨sv2, pv2, rfl, hown, hb2⟩
  clear d0 d1 d2 d3 df
  obtain ⟨so2, sc2, rfl, _⟩ := ownsRow_form hown.secs
  obtain ⟨po2, pc2, rfl, _⟩ := ownsRow_form hown.pend
  have D2 := D1'.out.below hb2 D1'.out.lt
  have R2 := R1'.out.below hb2 R1'.out.lt
  obtain ⟨d0, d1, d2, d3, df⟩ := D2.four
  dsimp only at hown
  go_upto_region 4 with (fail)
  have hsz1 : w.heap.size + 2 ≤ w1.heap.size := by have := R1'.out.lt; omega
  obtain ⟨D3, O3, hb3⟩ := box4 D2 (hown.mono hsz1) (by omega : w.heap.size < w.heap.size + 2) (bt hb1'.out hb2) (Nat.le_refl _) (.slice so2 secs.length sc2) (.slice po2 pend.length pc2) (.bool off) (.int .i64 fuse)
  have R3 := hid ((((R2.other (p := ⟨w.heap.size, 0, none⟩) (by simp) (.slice so2 secs.length sc2)).other (p := ⟨w.heap.size, 1, none⟩) (by simp) (.slice po2 pend.length pc2)).other (p := ⟨w.heap.size, 2, none⟩) (by simp) (.bool off)).other (p := ⟨w.heap.size, 3, none⟩) (by simp) (.int .i64 fuse))
  clear hown hb2 D2 R2 hsz1 d0 d1 d2 d3 df D1' R1' hb1' hv
  generalize (((w2.setCell ⟨w.heap.size, 0, none⟩ (.slice so2 secs.length sc2)).setCell ⟨w.heap.size, 1, none⟩ (.slice po2 pend.length pc2)).setCell ⟨w.heap.size, 2, none⟩ (.bool off)).setCell ⟨w.heap.size, 3, none⟩ (.int .i64 fuse) = W at D3 R3 O3 hb3 ⊢
  obtain ⟨d0, d1, d2, d3, df⟩ := D3.out.four
  obtain ⟨r0, r1, r2, r3, rf⟩ := R3.out.four
  cases off with
  | true =>
    have hE : Hid (syncE ⟨secs, pend, true, fuse⟩ = (⟨secs, pend, true, fuse⟩, 15)) := hid (by unfold syncE workE; rw [hok.out]; rfl)
    go_wp2_with fail
    obtain ⟨F5, O5, b5⟩ := box4 R3.out O3.out (by omega : w.heap.size + 1 < w.heap.size + 2) hb3.out (by omega : w.heap.size ≤ w.heap.size + 1) (.slice so2 secs.length sc2) (.slice po2 pend.length pc2) (.bool true) (.int .i64 fuse)
    obtain ⟨q0, q1, q2, q3, qf⟩ := F5.out.four
    refine bodyPost_ret (v := .tuple #[.agg #[.slice so2 secs.length sc2, .slice po2 pend.length pc2, .bool true, .int .i64 fuse], .int .i64 (15)]) (by simp [results, Tryz.results40, go_sem, q0, q1, q2, q3]) rfl ?_
    rw [hE.out]
    exact ⟨_, _, rfl, OwnDisk.mono (B := w.heap.size + 2) (B' := w.heap.size) (d := ⟨secs, pend, true, fuse⟩) ⟨O5.out.secs, O5.out.far⟩ (by omega), b5.out⟩
  | false =>
    have hE : Hid (syncE ⟨secs, pend, false, fuse⟩ = if fuse = 0 then (⟨secs, pend, true, fuse⟩, 15) else (⟨sett yes pend secs pend.length, [], false, fuseE fuse⟩, 0)) := hid (by unfold syncE workE fuseE; rw [hok.out]; simp [syncD])
    by_cases hz : fuse = 0
    · subst hz
      go_wp2_with fail
      refine (burnt_0 _ _ _ _ _ _ _ _).mono ?_
      rintro e w5 ⟨rfl, b5⟩
      have D5 := D3.out.below b5 D3.out.lt
      have R5 := R3.out.below b5 R3.out.lt
      obtain ⟨D6, O6, h6⟩ := box4 D5 (O3.out.below b5) (by omega : w.heap.size < w.heap.size + 2) (bt hb3.out b5) (Nat.le_refl _) (.slice so2 secs.length sc2) (.slice po2 pend.length pc2) (.bool true) (.int .i64 0)
      have R6 := hid ((((R5.other (p := ⟨w.heap.size, 0, none⟩) (by simp) (.slice so2 secs.length sc2)).other (p := ⟨w.heap.size, 1, none⟩) (by simp) (.slice po2 pend.length pc2)).other (p := ⟨w.heap.size, 2, none⟩) (by simp) (.bool true)).other (p := ⟨w.heap.size, 3, none⟩) (by simp) (.int .i64 0))
      clear d0 d1 d2 d3 df r0 r1 r2 r3 rf
      obtain ⟨d0, d1, d2, d3, df⟩ := D5.four
      obtain ⟨r0, r1, r2, r3, rf⟩ := R5.four
      clear D5 R5 b5
      go_upto_region 7 with fail
      clear d0 d1 d2 d3 df r0 r1 r2 r3 rf D3 R3 O3 hb3
      generalize (((w5.setCell ⟨w.heap.size, 0, none⟩ (.slice so2 secs.length sc2)).setCell ⟨w.heap.size, 1, none⟩ (.slice po2 pend.length pc2)).setCell ⟨w.heap.size, 2, none⟩ (.bool true)).setCell ⟨w.heap.size, 3, none⟩ (.int .i64 0) = W6 at D6 O6 h6 R6 ⊢
      obtain ⟨d0, d1, d2, d3, df⟩ := D6.out.four
      obtain ⟨r0, r1, r2, r3, rf⟩ := R6.out.four
      go_wp2_with fail
      obtain ⟨F5, O5, b5⟩ := box4 R6.out O6.out (by omega : w.heap.size + 1 < w.heap.size + 2) h6.out (by omega : w.heap.size ≤ w.heap.size + 1) (.slice so2 secs.length sc2) (.slice po2 pend.length pc2) (.bool true) (.int .i64 0)
      obtain ⟨q0, q1, q2, q3, qf⟩ := F5.out.four
      refine bodyPost_ret (v := .tuple #[.agg #[.slice so2 secs.length sc2, .slice po2 pend.length pc2, .bool true, .int .i64 0], .int .i64 (15)]) (by simp [results, Tryz.results40, go_sem, q0, q1, q2, q3]) rfl ?_
      rw [hE.out]; first | rw [if_pos rfl] | rw [if_pos trivial]
      exact ⟨_, _, rfl, OwnDisk.mono (B := w.heap.size + 2) (B' := w.heap.size) (d := ⟨secs, pend, true, 0⟩) ⟨O5.out.secs, O5.out.far⟩ (by omega), b5.out⟩
    · have hz' := hid hz
      clear hz
      go_wp2_with fail
      refine (burnt_1 _ _ _ _ _ _ _ _ _ hz'.out hfu.out).mono ?_
      rintro e w5 ⟨rfl, b5⟩
      have D5 := D3.out.below b5 D3.out.lt
      have R5 := R3.out.below b5 R3.out.lt
      generalize hff : fuseE fuse = ff at *
      obtain ⟨D6, O6, h6⟩ := box4 D5 (O3.out.below b5) (by omega : w.heap.size < w.heap.size + 2) (bt hb3.out b5) (Nat.le_refl _) (.slice so2 secs.length sc2) (.slice po2 pend.length pc2) (.bool false) (.int .i64 ff)
      have R6 := hid ((((R5.other (p := ⟨w.heap.size, 0, none⟩) (by simp) (.slice so2 secs.length sc2)).other (p := ⟨w.heap.size, 1, none⟩) (by simp) (.slice po2 pend.length pc2)).other (p := ⟨w.heap.size, 2, none⟩) (by simp) (.bool false)).other (p := ⟨w.heap.size, 3, none⟩) (by simp) (.int .i64 ff))
      clear d0 d1 d2 d3 df r0 r1 r2 r3 rf hff
      obtain ⟨d0, d1, d2, d3, df⟩ := D5.four
      obtain ⟨r0, r1, r2, r3, rf⟩ := R5.four
      clear D5 R5 b5
      go_upto_region 7 with fail
      clear d0 d1 d2 d3 df r0 r1 r2 r3 rf D3 R3 O3 hb3
      generalize (((w5.setCell ⟨w.heap.size, 0, none⟩ (.slice so2 secs.length sc2)).setCell ⟨w.heap.size, 1, none⟩ (.slice po2 pend.length pc2)).setCell ⟨w.heap.size, 2, none⟩ (.bool false)).setCell ⟨w.heap.size, 3, none⟩ (.int .i64 ff) = W6 at D6 O6 h6 R6 ⊢
      obtain ⟨d0, d1, d2, d3, df⟩ := D6.out.four
      have hap := hid O6.out.apart
      go_wp2_with fail
      go_loopw [27] (fun i wr => ∃ k : Nat, k ≤ pend.length ∧ i = .int .i64 k ∧ Blk wr w.heap.size [.slice so2 secs.length sc2, .slice po2 pend.length pc2, .bool false, .int .i64 ff] 25 ∧ Blk wr (w.heap.size + 1) [.slice none 0 0, .slice none 0 0, .bool false, .int .i64 0] 25 ∧
        wr.ownsRow (w.heap.size + 2) 9 1 (.slice so2 secs.length sc2) secs.length (strC (sett yes pend secs k)) ∧ wr.ownsRow (w.heap.size + 2) 55 2 (.slice po2 pend.length pc2) pend.length (prC pend) ∧ Below w.heap.size w wr) (fun i _ => pend.length - (intOf i).toNat)
      case atStart => exact ⟨0, by omega, rfl, D6.out, R6.out, O6.out.secs, O6.out.pend, h6.out⟩
      case round =>
        clear d0 d1 d2 d3 df D6 R6 O6 h6
        obtain ⟨k, hk, rfl, hD, hR, hs, hp, hbr⟩ := hrel
        obtain ⟨c0, c1, c2, c3, cf⟩ := hD.four
        have hBr : w.heap.size + 2 ≤ wr.heap.size := hR.lt
        by_cases hlt : k < pend.length
        · obtain ⟨pg, pcap', hv, hpg, hpgs⟩ := ownsRow_some hp (by omega)
          simp only [Value.slice.injEq] at hv
          obtain ⟨rfl, -, rfl⟩ := hv
          obtain ⟨g, scap', hv, hg, hgs⟩ := ownsRow_some hs (by have := hin.out pend[k] (List.getElem_mem hlt); omega)
          simp only [Value.slice.injEq] at hv
          obtain ⟨rfl, -, rfl⟩ := hv
          have hne : g ≠ pg := fun e => hap.out g rfl (by simp [Value.ownBlock, e])
          have p0 := hp.cellAt (k * 2) (by omega)
          have p1 := hp.cellAt (k * 2 + 1) (by omega)
          rw [prC_get0 pend k hlt] at p0
          rw [prC_get1 pend k hlt] at p1
          have hstep := hid (settle_step2 (kp := yes) hlt rfl rfl hg hne hBr (by omega : w.heap.size ≤ w.heap.size + 2) hbr hs hp)
          obtain ⟨hio1, hio2⟩ := hin.out pend[k] (List.getElem_mem hlt)
          have hq0 := hs.cellAt pend[k].1.toNat (by omega)
          have hq1 := hs.frozenAt pend[k].1.toNat
          rw [List.getElem?_eq_getElem (by rw [strC_len, sett_len]; omega)] at hq0
          generalize (strC (sett yes pend secs k))[pend[k].1.toNat]'_ = old at hq0
          have hDa := hid (hD.alloc (.cells #[.int .i64 pend[k].1, .string pend[k].2] 55))
          have hRa := hid (hR.alloc (.cells #[.int .i64 pend[k].1, .string pend[k].2] 55))
          have hDs := hid ((hD.other (p := ⟨g, pend[k].1.toNat, none⟩) (by simp; omega) (.string pend[k].2)).alloc (.cells #[.int .i64 pend[k].1, .string pend[k].2] 55))
          have hRs := hid ((hR.other (p := ⟨g, pend[k].1.toNat, none⟩) (by simp; omega) (.string pend[k].2)).alloc (.cells #[.int .i64 pend[k].1, .string pend[k].2] 55))
          have hal : Below wr.heap.size wr (wr.alloc (.cells #[.int .i64 pend[k].1, .string pend[k].2] 55)) := (Below.refl _ wr).alloc (Nat.le_refl _) _
          have c0a := cell_below hal _ _ c0
          have q0a := cell_below hal _ _ hq0
          have q1a := (hal.frozen (p := ⟨g, pend[k].1.toNat, none⟩) hgs).trans hq1
          clear hs hp hD hR hal hq0 hq1
          obtain ⟨n1, n2, n3⟩ := hstep.out.2 rfl
          clear hstep
          go_wp2_with fail
          go_roundw
          case rel => exact ⟨k + 1, by omega, by go_num, hDs.out, hRs.out, n1, n2, n3⟩
          case measure => simp [intOf]; omega
        · obtain rfl : k = pend.length := by omega
          have hs' := hid hs
          have hD' := hid hD
          have hR' := hid hR
          have hb' := hid hbr
          have O7 := hid (own_setCell (own_nil false ff (sett_len yes pend secs pend.length).symm hs hBr) (p := ⟨w.heap.size, 1, none⟩) (by simp) (.slice none 0 0))
          have R7 := hid (hR.other (p := ⟨w.heap.size, 1, none⟩) (by simp) (.slice none 0 0))
          have h7 := hid (hbr.setCell (p := ⟨w.heap.size, 1, none⟩) (Nat.le_refl _) (.slice none 0 0))
          have D7 := hid (hD.set 1 (.slice none 0 0))
          clear hs hp hD hbr hBr
          go_upto_region 15 with fail
          clear c0 c1 c2 c3 cf hD' hb' hR'
          generalize wr.setCell ⟨w.heap.size, 1, none⟩ (.slice none 0 0) = W7 at O7 R7 h7 D7 ⊢
          obtain ⟨d0, d1, d2, d3, df⟩ := D7.out.four
          obtain ⟨r0, r1, r2, r3, rf⟩ := R7.out.four
          clear hR
          go_wp2_with fail
          obtain ⟨F5, O5, b5⟩ := box4 R7.out O7.out (by omega : w.heap.size + 1 < w.heap.size + 2) h7.out (by omega : w.heap.size ≤ w.heap.size + 1) (.slice so2 secs.length sc2) (.slice none 0 0) (.bool false) (.int .i64 ff)
          obtain ⟨q0, q1, q2, q3, qf⟩ := F5.out.four
          refine bodyPost_ret (v := .tuple #[.agg #[.slice so2 secs.length sc2, .slice none 0 0, .bool false, .int .i64 ff], .int .i64 (0)]) (by simp [results, Tryz.results40, go_sem, q0, q1, q2, q3]) rfl ?_
          rw [hE.out]; first | rw [if_neg hz'.out] | skip
          exact ⟨_, _, rfl, OwnDisk.mono (B := w.heap.size + 2) (B' := w.heap.size) (d := ⟨sett yes pend secs pend.length, [], false, ff⟩) ⟨O5.out.secs, O5.out.far⟩ (by omega), b5.out⟩
theorem rsync_any (d : Disk) (v : Value) (w : World) (h : DiskV w v d) (hfu : (Lit.int .i64 d.fuse).wf = true) :
    Calls Tryz.prog 40 #[v] w (Res w (syncE d)) := by
  cases hok : okB d with
  | false =>
    have e : syncE d = (zeroDisk, 13) := by unfold syncE workE; rw [hok]; rfl
    rw [e]; exact rsync_bad d v w h (hid hok)
  | true =>
    obtain ⟨secs, pend, off, fuse⟩ := d
    exact rsync_ok secs pend off fuse v w h (hid hok) (hid hfu)
end Go.Proofs.YtiegocbdgimimaaGreat.Sector
namespace Go.Proofs.YtiegocbdgimimaaGreat.Wal
open Go.ChangeShapes Go.WideShapes Go.ChangeAt Go.RowKit
open Go.Proofs.YtiegocbdgimimaaGreat.Mem Go.Proofs.YtiegocbdgimimaaGreat.Rec Go.Proofs.YtiegocbdgimimaaGreat.Sector
set_option linter.unusedVariables false
set_option linter.unusedSimpArgs false
set_option maxRecDepth 100000
theorem lay_stop {d dk x : Disk} {n : Int} {hd : ByteArray} {t : List ByteArray} {k : Nat} {c : Int} (hk : k < t.length) (h1 : runE d (puts (n + 1) (t.take k)) = (dk, 0)) (h2 : stpE dk (.put (n + 1 + (k : Int)) t[k]) = (x, c)) (hc : c ≠ 0) : runE d (layE n hd t) = (x, c) := by
  have key : ∀ (m : Int) (u : List ByteArray), puts m (t.take k ++ u) = puts m (t.take k) ++ puts (m + k) u := by
    intro m u
    have : ∀ (a : List ByteArray) (m : Int), puts m (a ++ u) = puts m a ++ puts (m + a.length) u := by
      intro a
      induction a with
      | nil => intro m; simp [puts]
      | cons y a ih => intro m; simp only [List.cons_append, puts, ih, List.length_cons]; rw [show m + 1 + (a.length : Int) = m + ((a.length + 1 : Nat) : Int) by omega]
    rw [this, List.length_take, Nat.min_eq_left (by omega)]
  have ht : t = t.take k ++ t[k] :: t.drop (k + 1) := by rw [List.getElem_cons_drop, List.take_append_drop]
  unfold layE
  rw [ht, key, List.append_assoc, runE_app, h1, if_pos rfl]
  show runE dk (.put (n + 1 + (k : Int)) t[k] :: _) = _
  rw [runE_eq, h2, if_neg hc]
set_option maxHeartbeats 8000000 in
theorem rlay_any (d : Disk) (v : Value) (n : Nat) (hd : ByteArray) (t : List ByteArray) (lv : Value) (w : World) (h : DiskV w v d) (g : StrsV w lv (hd :: t)) (hfu : (Lit.int .i64 d.fuse).wf = true) (hn : n ≤ 100000) (ht : t.length ≤ 4000) :
    Calls Tryz.prog 19 #[v, .int .i64 (n : Nat), lv] w (Res w (runE d (layE n hd t))) := by
  obtain ⟨lo, lcap, rfl, hg2, hg3⟩ := SlV.form g
  obtain ⟨b, off, lcap', hv9, _, _, hb, hgc⟩ := g.open (by simp)
  simp only [Value.slice.injEq] at hv9
  obtain ⟨rfl, -, rfl⟩ := hv9
  replace hb := hid hb
  have gcell := hid hgc
  have hln : (((hd :: t).length : Nat) : Int) = (t.length : Int) + 1 := by simp
  obtain ⟨N, hN⟩ : ∃ N, (hd :: t).length = N := ⟨_, rfl⟩
  rw [hN]
  have hNi : (N : Int) ≤ 4001 := by rw [← hN, List.length_cons]; omega
  have hN' := hid (show N = t.length + 1 by rw [← hN, List.length_cons])
  have hN0 : (0 : Int) < (N : Int) := by rw [← hN, List.length_cons]; omega
  have hv := hid h
  obtain ⟨sv, pv, rfl, hs, hp⟩ := h
  obtain ⟨so, sc, rfl, _⟩ := hs.form
  obtain ⟨po, pc, rfl, _⟩ := hp.form
  have hfu' := hid hfu
  have hni : (n : Int) ≤ 100000 := by omega
  clear hs hp hfu g hgc hln hN hg2 hg3
  go_enter Tryz.func19, Tryz.ntmps19
  go_upto_region 1 with fail
  have M := hid (((Bag.nil w).push [.slice so d.secs.length sc, .slice po d.pend.length pc, .bool d.off, .int .i64 d.fuse] 25 w.heap.size rfl).push [.slice none 0 0, .slice none 0 0, .bool false, .int .i64 0] 25 (w.heap.size + 1) (by simp))
  generalize (w.alloc (.cells #[.slice so d.secs.length sc, .slice po d.pend.length pc, .bool d.off, .int .i64 d.fuse] 25)).alloc (.cells #[.slice none 0 0, .slice none 0 0, .bool false, .int .i64 0] 25) = X0 at M ⊢
  have hdv := hid (hv.out.below M.out.bel)
  go_wp2_with fail
  go_loopw [8, 9] (fun why i wr => ∃ (k : Nat) (dk : Disk) (so : Option Addr) (sc : Nat) (po : Option Addr) (pc : Nat) (O : List Dk), k ≤ t.length ∧ i = .int .i64 ((k : Int) + 1) ∧ why = .int .i64 0 ∧ Hid (runE d (puts ((n : Int) + 1) (t.take k)) = (dk, 0)) ∧ Hid ((Lit.int .i64 dk.fuse).wf = true) ∧ Hid (Bag w wr [⟨w.heap.size, [.slice so dk.secs.length sc, .slice po dk.pend.length pc, .bool dk.off, .int .i64 dk.fuse], 25⟩, ⟨w.heap.size + 1, [.slice none 0 0, .slice none 0 0, .bool false, .int .i64 0], 25⟩] O) ∧ Hid (DiskV wr (.agg #[.slice so dk.secs.length sc, .slice po dk.pend.length pc, .bool dk.off, .int .i64 dk.fuse]) dk)) (fun _ i _ => t.length + 2 - (intOf i).toNat)
  case atStart => exact ⟨0, d, so, sc, po, pc, [], by omega, rfl, rfl, hid rfl, hfu', M, hdv⟩
  case round =>
    clear M hdv hv
    obtain ⟨k, dk, so, sc, po, pc, O, hk, rfl, rfl, hrun, hfk, M, hdv⟩ := hrel
    have hki : (k : Int) ≤ 4000 := by omega
    have hk0 : (0 : Int) ≤ (k : Int) := by omega
    have hk1 : (0 : Int) ≤ (k : Int) + 1 := by omega
    by_cases hlt : k < t.length
    · have hlti : (k : Int) + 1 < (N : Int) := by have := hN'.out; omega
      have hput := hid (fun v W (h : DiskV W v dk) => rput_any dk v ((n : Int) + ((k : Int) + 1)) t[k] W h hfk.out)
      have hwp : IntKind.i64.wrap ((n : Int) + ((k : Int) + 1)) = (n : Int) + ((k : Int) + 1) := by rw [IntWalk.i64_in _ (by omega)]
      obtain ⟨Y, hY⟩ : ∃ Y, putE dk ((n : Int) + ((k : Int) + 1)) t[k] = Y := ⟨_, rfl⟩
      have hstep := hid (show stpE dk (.put ((n : Int) + 1 + (k : Int)) t[k]) = Y from by rw [← hY]; show putE _ _ _ = putE _ _ _; congr 1; omega)
      rw [hY] at hput
      have hfx := hid (show (Lit.int .i64 Y.1.fuse).wf = true from by rw [← hstep.out]; exact stpE_wf _ hfk.out)
      clear hY
      obtain ⟨x, c⟩ := Y
      dsimp only at hfx
      go_upto_region 5 with fail
      have hmix : Tryz.prog.follows .mixedOrders = true := by kernel_rfl
      refine wp_region_any hmix ?_
      clear hmix
      rw [show ({ heap := wr.heap, tape := wr.tape, drawn := wr.drawn + 1, os := wr.os, output := wr.output } : World) = wr.drew from rfl]
      replace M := hid M.out.drew
      replace hdv := hid (hdv.out.below (Below.refl wr.heap.size wr).drew)
      generalize wr.drew = X5 at M hdv ⊢
      refine wpAny_take (i := 1) (v := ?_) rfl (by kernel_rfl) (by kernel_rfl) (by kernel_rfl) (fun _ _ _ h => h) (Or.inl ⟨by rfl, ?_⟩) ?_
      rotate_left 1
      (intro w; go_simp; try with_reducible rfl)
      (try simp only [Act.put, List.getElem_toArray, List.getElem_cons_zero, List.getElem_cons_succ, List.setIfInBounds_toArray, List.set_cons_zero, List.set_cons_succ])
      refine wpAny_take (i := 2) (v := ?_) rfl (by kernel_rfl) (by kernel_rfl) (by kernel_rfl) (fun _ _ _ h => h) (Or.inl ⟨by rfl, ?_⟩) ?_
      rotate_left 1
      (intro w; go_simp; try with_reducible rfl)
      (try simp only [Act.put, List.getElem_toArray, List.getElem_cons_zero, List.getElem_cons_succ, List.setIfInBounds_toArray, List.set_cons_zero, List.set_cons_succ])
      refine wpAny_take (i := 3) (v := ?_) rfl (by kernel_rfl) (by kernel_rfl) (by kernel_rfl) (fun _ _ _ h => h) (Or.inl ⟨by rfl, ?_⟩) ?_
      rotate_left 1
      (intro w; go_simp; try with_reducible rfl)
      (try simp only [Act.put, List.getElem_toArray, List.getElem_cons_zero, List.getElem_cons_succ, List.setIfInBounds_toArray, List.set_cons_zero, List.set_cons_succ])
      refine wpAny_take (i := 4) (v := ?_) rfl (by kernel_rfl) (by kernel_rfl) (by kernel_rfl) (fun _ _ _ h => h) (Or.inl ⟨by rfl, ?_⟩) ?_
      rotate_left 1
      (intro w; go_simp; try with_reducible rfl)
      (try simp only [Act.put, List.getElem_toArray, List.getElem_cons_zero, List.getElem_cons_succ, List.setIfInBounds_toArray, List.set_cons_zero, List.set_cons_succ])
      refine wpAny_take (i := 5) (v := ?_) rfl (by kernel_rfl) (by kernel_rfl) (by kernel_rfl) (fun _ _ _ h => h) (Or.inl ⟨by rfl, ?_⟩) ?_
      rotate_left 1
      (intro w; go_simp; try with_reducible rfl)
      (try simp only [Act.put, List.getElem_toArray, List.getElem_cons_zero, List.getElem_cons_succ, List.setIfInBounds_toArray, List.set_cons_zero, List.set_cons_succ])
      refine wpAny_take (i := 6) (v := ?_) rfl (by kernel_rfl) (by kernel_rfl) (by kernel_rfl) (fun _ _ _ h => h) (Or.inl ⟨by rfl, ?_⟩) ?_
      rotate_left 1
      (intro w; go_simp; try with_reducible rfl)
      (try simp only [Act.put, List.getElem_toArray, List.getElem_cons_zero, List.getElem_cons_succ, List.setIfInBounds_toArray, List.set_cons_zero, List.set_cons_succ])
      refine wpAny_ready (rs := [0, 7]) (by kernel_rfl) (by simp) ?_
      refine AllReady.cons rfl (fun K hK => ?_) ?_
      · skip
        obtain ⟨d0, d1, d2, d3, df⟩ := (M.out.get 0 rfl).four
        go_simp
        clear d0 d1 d2 d3 df
        refine hK _ _ ?_
        clear hK K
        (try simp only [Act.put, List.getElem_toArray, List.getElem_cons_zero, List.getElem_cons_succ, List.setIfInBounds_toArray, List.set_cons_zero, List.set_cons_succ])
        refine wpAny_ready (rs := [7]) (by kernel_rfl) (by simp) ?_
        refine AllReady.cons rfl (fun K hK => ?_) AllReady.nil
        have tc := M.out.bel.cell (p := ⟨b, off + (k + 1), none⟩) hb.out |>.trans (gcell.out (k + 1) (by simp; omega))
        go_simp
        clear tc
        refine hK _ _ ?_
        clear hK K
        (try simp only [Act.put, List.getElem_toArray, List.getElem_cons_zero, List.getElem_cons_succ, List.setIfInBounds_toArray, List.set_cons_zero, List.set_cons_succ])
        refine wpAny_ready (rs := [8]) (by kernel_rfl) (by simp) ?_
        refine AllReady.cons rfl (fun K hK => ?_) AllReady.nil
        go_simp
        (with_reducible refine (hput.out _ _ hdv.out).mono ?_)
        rintro e5 w5 hr5
        obtain ⟨so5, sc5, po5, pc5, rfl, o5, b5⟩ := hr5.open
        dsimp only at o5
        replace M := hid (M.out.res o5 b5)
        clear hr5 o5 b5
        refine hK _ _ ?_
        clear hK K
        (try simp only [Act.put, List.getElem_toArray, List.getElem_cons_zero, List.getElem_cons_succ, List.setIfInBounds_toArray, List.set_cons_zero, List.set_cons_succ])
        refine wpAny_take (i := 9) (v := ?_) rfl (by kernel_rfl) (by kernel_rfl) (by kernel_rfl) (fun _ _ _ h => h) (Or.inl ⟨by rfl, ?_⟩) ?_
        rotate_left 1
        (intro w; go_simp; try with_reducible rfl)
        (try simp only [Act.put, List.getElem_toArray, List.getElem_cons_zero, List.getElem_cons_succ, List.setIfInBounds_toArray, List.set_cons_zero, List.set_cons_succ])
        refine wpAny_take (i := 10) (v := ?_) rfl (by kernel_rfl) (by kernel_rfl) (by kernel_rfl) (fun _ _ _ h => h) (Or.inl ⟨by rfl, ?_⟩) ?_
        rotate_left 1
        (intro w; go_simp; try with_reducible rfl)
        (try simp only [Act.put, List.getElem_toArray, List.getElem_cons_zero, List.getElem_cons_succ, List.setIfInBounds_toArray, List.set_cons_zero, List.set_cons_succ])
        refine wpAny_take (i := 11) (v := ?_) rfl (by kernel_rfl) (by kernel_rfl) (by kernel_rfl) (fun _ _ _ h => h) (Or.inl ⟨by rfl, ?_⟩) ?_
        rotate_left 1
        (intro w; go_simp; try with_reducible rfl)
        (try simp only [Act.put, List.getElem_toArray, List.getElem_cons_zero, List.getElem_cons_succ, List.setIfInBounds_toArray, List.set_cons_zero, List.set_cons_succ])
        refine wpAny_ready (rs := [12]) (by kernel_rfl) (by simp) ?_
        refine AllReady.cons rfl (fun K hK => ?_) AllReady.nil
        obtain ⟨d0, d1, d2, d3, df⟩ := (M.out.get 0 rfl).four
        go_simp
        clear d0 d1 d2 d3 df
        replace M := hid ((((M.out.put 0 rfl (by decide) (by decide) 0 (.slice so5 x.secs.length sc5)).put 0 rfl (by decide) (by decide) 1 (.slice po5 x.pend.length pc5)).put 0 rfl (by decide) (by decide) 2 (.bool x.off)).put 0 rfl (by decide) (by decide) 3 (.int .i64 x.fuse))
        refine hK _ _ ?_
        clear hK K
        (try simp only [Act.put, List.getElem_toArray, List.getElem_cons_zero, List.getElem_cons_succ, List.setIfInBounds_toArray, List.set_cons_zero, List.set_cons_succ])
        refine wpAny_take (i := 13) (v := ?_) rfl (by kernel_rfl) (by kernel_rfl) (by kernel_rfl) (fun _ _ _ h => h) (Or.inl ⟨by rfl, ?_⟩) ?_
        rotate_left 1
        (intro w; go_simp; try with_reducible rfl)
        (try simp only [Act.put, List.getElem_toArray, List.getElem_cons_zero, List.getElem_cons_succ, List.setIfInBounds_toArray, List.set_cons_zero, List.set_cons_succ])
        refine wpAny_done (by kernel_rfl) ?_ _
        generalize (((w5.setCell ⟨w.heap.size, 0, none⟩ (.slice so5 x.secs.length sc5)).setCell ⟨w.heap.size, 1, none⟩ (.slice po5 x.pend.length pc5)).setCell ⟨w.heap.size, 2, none⟩ (.bool x.off)).setCell ⟨w.heap.size, 3, none⟩ (.int .i64 x.fuse) = X6 at M ⊢
        clear hput hwp
        have hdx := hid ((M.out.own ⟨.slice so5 x.secs.length sc5, .slice po5 x.pend.length pc5, x⟩ (by simp)).v)
        by_cases hc : c = 0
        · subst hc
          have hrun2 := hid (show runE d (puts ((n : Int) + 1) (t.take (k + 1))) = (x, 0) from by
            rw [puts_take _ _ _ hlt, runE_app, hrun.out, if_pos rfl]
            show runE dk [.put ((n : Int) + 1 + (k : Int)) t[k]] = _
            unfold runE
            rw [hstep.out, if_pos rfl]
            rfl)
          clear hstep hrun
          go_wp2_with fail
          go_roundw
          case rel => exact ⟨k + 1, x, so5, sc5, po5, pc5, _, by omega, by go_num, rfl, hrun2, hfx, M, hdx⟩
          case measure => simp [intOf]; omega
        · have hfin := hid (show runE d (layE n hd t) = (x, c) from lay_stop hlt hrun.out hstep.out hc)
          have e0 : (c != 0) = true := by simpa using hc
          clear hc hstep hrun
          obtain ⟨d0, d1, d2, d3, df⟩ := (M.out.get 0 rfl).four
          obtain ⟨z0, z1, z2, z3, zf⟩ := (M.out.get 1 rfl).four
          have M9 := hid ((((M.out.put 1 rfl (by decide) (by decide) 0 (.slice so5 x.secs.length sc5)).put 1 rfl (by decide) (by decide) 1 (.slice po5 x.pend.length pc5)).put 1 rfl (by decide) (by decide) 2 (.bool x.off)).put 1 rfl (by decide) (by decide) 3 (.int .i64 x.fuse))
          go_wp2_with fail
          clear d0 d1 d2 d3 df z0 z1 z2 z3 zf
          obtain ⟨q0, q1, q2, q3, qf⟩ := (M9.out.get 1 rfl).four
          have hown9 := M9.out.own ⟨.slice so5 x.secs.length sc5, .slice po5 x.pend.length pc5, x⟩ (by simp)
          exact bodyPost_ret (v := .tuple #[.agg #[.slice so5 x.secs.length sc5, .slice po5 x.pend.length pc5, .bool x.off, .int .i64 x.fuse], .int .i64 c]) (by simp [results, Tryz.results19, go_sem, q0, q1, q2, q3]) rfl ⟨.slice so5 x.secs.length sc5, .slice po5 x.pend.length pc5, by rw [hfin.out], by rw [hfin.out]; exact hown9, M9.out.bel⟩
      refine AllReady.cons rfl (fun K hK => ?_) AllReady.nil
      have tc := M.out.bel.cell (p := ⟨b, off + (k + 1), none⟩) hb.out |>.trans (gcell.out (k + 1) (by simp; omega))
      go_simp
      clear tc
      refine hK _ _ ?_
      clear hK K
      (try simp only [Act.put, List.getElem_toArray, List.getElem_cons_zero, List.getElem_cons_succ, List.setIfInBounds_toArray, List.set_cons_zero, List.set_cons_succ])
      refine wpAny_ready (rs := [0]) (by kernel_rfl) (by simp) ?_
      refine AllReady.cons rfl (fun K hK => ?_) AllReady.nil
      obtain ⟨d0, d1, d2, d3, df⟩ := (M.out.get 0 rfl).four
      go_simp
      clear d0 d1 d2 d3 df
      refine hK _ _ ?_
      clear hK K
      (try simp only [Act.put, List.getElem_toArray, List.getElem_cons_zero, List.getElem_cons_succ, List.setIfInBounds_toArray, List.set_cons_zero, List.set_cons_succ])
      refine wpAny_ready (rs := [8]) (by kernel_rfl) (by simp) ?_
      refine AllReady.cons rfl (fun K hK => ?_) AllReady.nil
      go_simp
      (with_reducible refine (hput.out _ _ hdv.out).mono ?_)
      rintro e5 w5 hr5
      obtain ⟨so5, sc5, po5, pc5, rfl, o5, b5⟩ := hr5.open
      dsimp only at o5
      replace M := hid (M.out.res o5 b5)
      clear hr5 o5 b5
      refine hK _ _ ?_
      clear hK K
      (try simp only [Act.put, List.getElem_toArray, List.getElem_cons_zero, List.getElem_cons_succ, List.setIfInBounds_toArray, List.set_cons_zero, List.set_cons_succ])
      refine wpAny_take (i := 9) (v := ?_) rfl (by kernel_rfl) (by kernel_rfl) (by kernel_rfl) (fun _ _ _ h => h) (Or.inl ⟨by rfl, ?_⟩) ?_
      rotate_left 1
      (intro w; go_simp; try with_reducible rfl)
      (try simp only [Act.put, List.getElem_toArray, List.getElem_cons_zero, List.getElem_cons_succ, List.setIfInBounds_toArray, List.set_cons_zero, List.set_cons_succ])
      refine wpAny_take (i := 10) (v := ?_) rfl (by kernel_rfl) (by kernel_rfl) (by kernel_rfl) (fun _ _ _ h => h) (Or.inl ⟨by rfl, ?_⟩) ?_
      rotate_left 1
      (intro w; go_simp; try with_reducible rfl)
      (try simp only [Act.put, List.getElem_toArray, List.getElem_cons_zero, List.getElem_cons_succ, List.setIfInBounds_toArray, List.set_cons_zero, List.set_cons_succ])
      refine wpAny_take (i := 11) (v := ?_) rfl (by kernel_rfl) (by kernel_rfl) (by kernel_rfl) (fun _ _ _ h => h) (Or.inl ⟨by rfl, ?_⟩) ?_
      rotate_left 1
      (intro w; go_simp; try with_reducible rfl)
      (try simp only [Act.put, List.getElem_toArray, List.getElem_cons_zero, List.getElem_cons_succ, List.setIfInBounds_toArray, List.set_cons_zero, List.set_cons_succ])
      refine wpAny_ready (rs := [12]) (by kernel_rfl) (by simp) ?_
      refine AllReady.cons rfl (fun K hK => ?_) AllReady.nil
      obtain ⟨d0, d1, d2, d3, df⟩ := (M.out.get 0 rfl).four
      go_simp
      clear d0 d1 d2 d3 df
      replace M := hid ((((M.out.put 0 rfl (by decide) (by decide) 0 (.slice so5 x.secs.length sc5)).put 0 rfl (by decide) (by decide) 1 (.slice po5 x.pend.length pc5)).put 0 rfl (by decide) (by decide) 2 (.bool x.off)).put 0 rfl (by decide) (by decide) 3 (.int .i64 x.fuse))
      refine hK _ _ ?_
      clear hK K
      (try simp only [Act.put, List.getElem_toArray, List.getElem_cons_zero, List.getElem_cons_succ, List.setIfInBounds_toArray, List.set_cons_zero, List.set_cons_succ])
      refine wpAny_take (i := 13) (v := ?_) rfl (by kernel_rfl) (by kernel_rfl) (by kernel_rfl) (fun _ _ _ h => h) (Or.inl ⟨by rfl, ?_⟩) ?_
      rotate_left 1
      (intro w; go_simp; try with_reducible rfl)
      (try simp only [Act.put, List.getElem_toArray, List.getElem_cons_zero, List.getElem_cons_succ, List.setIfInBounds_toArray, List.set_cons_zero, List.set_cons_succ])
      refine wpAny_done (by kernel_rfl) ?_ _
      generalize (((w5.setCell ⟨w.heap.size, 0, none⟩ (.slice so5 x.secs.length sc5)).setCell ⟨w.heap.size, 1, none⟩ (.slice po5 x.pend.length pc5)).setCell ⟨w.heap.size, 2, none⟩ (.bool x.off)).setCell ⟨w.heap.size, 3, none⟩ (.int .i64 x.fuse) = X6 at M ⊢
      clear hput hwp
      have hdx := hid ((M.out.own ⟨.slice so5 x.secs.length sc5, .slice po5 x.pend.length pc5, x⟩ (by simp)).v)
      by_cases hc : c = 0
      · subst hc
        have hrun2 := hid (show runE d (puts ((n : Int) + 1) (t.take (k + 1))) = (x, 0) from by
          rw [puts_take _ _ _ hlt, runE_app, hrun.out, if_pos rfl]
          show runE dk [.put ((n : Int) + 1 + (k : Int)) t[k]] = _
          unfold runE
          rw [hstep.out, if_pos rfl]
          rfl)
        clear hstep hrun
        go_wp2_with fail
        go_roundw
        case rel => exact ⟨k + 1, x, so5, sc5, po5, pc5, _, by omega, by go_num, rfl, hrun2, hfx, M, hdx⟩
        case measure => simp [intOf]; omega
      · have hfin := hid (show runE d (layE n hd t) = (x, c) from lay_stop hlt hrun.out hstep.out hc)
        have e0 : (c != 0) = true := by simpa using hc
        clear hc hstep hrun
        obtain ⟨d0, d1, d2, d3, df⟩ := (M.out.get 0 rfl).four
        obtain ⟨z0, z1, z2, z3, zf⟩ := (M.out.get 1 rfl).four
        have M9 := hid ((((M.out.put 1 rfl (by decide) (by decide) 0 (.slice so5 x.secs.length sc5)).put 1 rfl (by decide) (by decide) 1 (.slice po5 x.pend.length pc5)).put 1 rfl (by decide) (by decide) 2 (.bool x.off)).put 1 rfl (by decide) (by decide) 3 (.int .i64 x.fuse))
        go_wp2_with fail
        clear d0 d1 d2 d3 df z0 z1 z2 z3 zf
        obtain ⟨q0, q1, q2, q3, qf⟩ := (M9.out.get 1 rfl).four
        have hown9 := M9.out.own ⟨.slice so5 x.secs.length sc5, .slice po5 x.pend.length pc5, x⟩ (by simp)
        exact bodyPost_ret (v := .tuple #[.agg #[.slice so5 x.secs.length sc5, .slice po5 x.pend.length pc5, .bool x.off, .int .i64 x.fuse], .int .i64 c]) (by simp [results, Tryz.results19, go_sem, q0, q1, q2, q3]) rfl ⟨.slice so5 x.secs.length sc5, .slice po5 x.pend.length pc5, by rw [hfin.out], by rw [hfin.out]; exact hown9, M9.out.bel⟩
    · obtain rfl : k = t.length := by omega
      have hA := hid (show runE d (layE n hd t) = runE dk [.syn, .put n hd, .syn] from by
        have := hrun.out
        rw [List.take_of_length_le (Nat.le_refl _)] at this
        unfold layE
        rw [runE_app, this, if_pos rfl])
      have hlti : ¬ (t.length : Int) + 1 < (N : Int) := by have := hN'.out; omega
      have hN1 : 0 < N := by have := hN'.out; omega
      clear hrun hlt
      have hsy := hid (fun v W (h : DiskV W v dk) => rsync_any dk v W h hfk.out)
      obtain ⟨Y, hY⟩ : ∃ Y, syncE dk = Y := ⟨_, rfl⟩
      have hstx1 := hid (show stpE dk .syn = Y from hY)
      rw [hY] at hsy
      have hfk2 := hid (show (Lit.int .i64 Y.1.fuse).wf = true from by rw [← hstx1.out]; exact stpE_wf _ hfk.out)
      clear hY
      obtain ⟨x1, c1⟩ := Y
      dsimp only at hfk2
      obtain ⟨d0, d1, d2, d3, df⟩ := (M.out.get 0 rfl).four
      go_wp2_with fail
      (with_reducible refine (hsy.out _ _ hdv.out).mono ?_)
      rintro e5 w5 hr5
      obtain ⟨so5, sc5, po5, pc5, rfl, o5, b5⟩ := hr5.open
      dsimp only at o5
      replace M := hid (M.out.res o5 b5)
      clear hr5 o5 b5 hdv hsy hfk
      clear d0 d1 d2 d3 df
      obtain ⟨d0, d1, d2, d3, df⟩ := (M.out.get 0 rfl).four
      dsimp only
      go_upto_region 9 with fail
      clear d0 d1 d2 d3 df
      replace M := hid ((((M.out.put 0 rfl (by decide) (by decide) 0 (.slice so5 x1.secs.length sc5)).put 0 rfl (by decide) (by decide) 1 (.slice po5 x1.pend.length pc5)).put 0 rfl (by decide) (by decide) 2 (.bool x1.off)).put 0 rfl (by decide) (by decide) 3 (.int .i64 x1.fuse))
      generalize (((w5.setCell ⟨w.heap.size, 0, none⟩ (.slice so5 x1.secs.length sc5)).setCell ⟨w.heap.size, 1, none⟩ (.slice po5 x1.pend.length pc5)).setCell ⟨w.heap.size, 2, none⟩ (.bool x1.off)).setCell ⟨w.heap.size, 3, none⟩ (.int .i64 x1.fuse) = X1 at M ⊢
      have hdv := hid ((M.out.own ⟨.slice so5 x1.secs.length sc5, .slice po5 x1.pend.length pc5, x1⟩ (by simp)).v)
      have hfk := hfk2
      clear hfk2
      by_cases hc1 : c1 = 0
      · subst hc1
        have hput := hid (fun v W (h : DiskV W v x1) => rput_any x1 v (n : Int) hd W h hfk.out)
        obtain ⟨Y, hY⟩ : ∃ Y, putE x1 (n : Int) hd = Y := ⟨_, rfl⟩
        have hst2 := hid (show stpE x1 (.put n hd) = Y from hY)
        rw [hY] at hput
        have hfk2 := hid (show (Lit.int .i64 Y.1.fuse).wf = true from by rw [← hst2.out]; exact stpE_wf _ hfk.out)
        clear hY hfk
        obtain ⟨x2, c2⟩ := Y
        dsimp only at hfk2
        go_upto_region 10 with fail
        have hmix : Tryz.prog.follows .mixedOrders = true := by kernel_rfl
        refine wp_region_any hmix ?_
        clear hmix
        rw [show ({ heap := X1.heap, tape := X1.tape, drawn := X1.drawn + 1, os := X1.os, output := X1.output } : World) = X1.drew from rfl]
        replace M := hid M.out.drew
        replace hdv := hid (hdv.out.below (Below.refl X1.heap.size X1).drew)
        generalize X1.drew = X5 at M hdv ⊢
        refine wpAny_take (i := 1) (v := ?_) rfl (by kernel_rfl) (by kernel_rfl) (by kernel_rfl) (fun _ _ _ h => h) (Or.inl ⟨by rfl, ?_⟩) ?_
        rotate_left 1
        (intro w; go_simp; try with_reducible rfl)
        (try simp only [Act.put, List.getElem_toArray, List.getElem_cons_zero, List.getElem_cons_succ, List.setIfInBounds_toArray, List.set_cons_zero, List.set_cons_succ])
        refine wpAny_take (i := 2) (v := ?_) rfl (by kernel_rfl) (by kernel_rfl) (by kernel_rfl) (fun _ _ _ h => h) (Or.inl ⟨by rfl, ?_⟩) ?_
        rotate_left 1
        (intro w; go_simp; try with_reducible rfl)
        (try simp only [Act.put, List.getElem_toArray, List.getElem_cons_zero, List.getElem_cons_succ, List.setIfInBounds_toArray, List.set_cons_zero, List.set_cons_succ])
        refine wpAny_take (i := 3) (v := ?_) rfl (by kernel_rfl) (by kernel_rfl) (by kernel_rfl) (fun _ _ _ h => h) (Or.inl ⟨by rfl, ?_⟩) ?_
        rotate_left 1
        (intro w; go_simp; try with_reducible rfl)
        (try simp only [Act.put, List.getElem_toArray, List.getElem_cons_zero, List.getElem_cons_succ, List.setIfInBounds_toArray, List.set_cons_zero, List.set_cons_succ])
        refine wpAny_ready (rs := [0, 4]) (by kernel_rfl) (by simp) ?_
        refine AllReady.cons rfl (fun K hK => ?_) ?_
        · skip
          obtain ⟨d0, d1, d2, d3, df⟩ := (M.out.get 0 rfl).four
          go_simp
          clear d0 d1 d2 d3 df
          refine hK _ _ ?_
          clear hK K
          (try simp only [Act.put, List.getElem_toArray, List.getElem_cons_zero, List.getElem_cons_succ, List.setIfInBounds_toArray, List.set_cons_zero, List.set_cons_succ])
          refine wpAny_ready (rs := [4]) (by kernel_rfl) (by simp) ?_
          refine AllReady.cons rfl (fun K hK => ?_) AllReady.nil
          have tc := (M.out.bel.cell (p := ⟨b, off, none⟩) hb.out).trans (show w.cell? ⟨b, off, none⟩ = some (.string hd) from by have := gcell.out 0 (by simp); simpa using this)
          go_simp
          clear tc
          refine hK _ _ ?_
          clear hK K
          (try simp only [Act.put, List.getElem_toArray, List.getElem_cons_zero, List.getElem_cons_succ, List.setIfInBounds_toArray, List.set_cons_zero, List.set_cons_succ])
          refine wpAny_ready (rs := [5]) (by kernel_rfl) (by simp) ?_
          refine AllReady.cons rfl (fun K hK => ?_) AllReady.nil
          go_simp
          (with_reducible refine (hput.out _ _ hdv.out).mono ?_)
          rintro e5 w5 hr5
          obtain ⟨so5, sc5, po5, pc5, rfl, o5, b5⟩ := hr5.open
          dsimp only at o5
          replace M := hid (M.out.res o5 b5)
          clear hr5 o5 b5
          refine hK _ _ ?_
          clear hK K
          (try simp only [Act.put, List.getElem_toArray, List.getElem_cons_zero, List.getElem_cons_succ, List.setIfInBounds_toArray, List.set_cons_zero, List.set_cons_succ])
          refine wpAny_take (i := 6) (v := ?_) rfl (by kernel_rfl) (by kernel_rfl) (by kernel_rfl) (fun _ _ _ h => h) (Or.inl ⟨by rfl, ?_⟩) ?_
          rotate_left 1
          (intro w; go_simp; try with_reducible rfl)
          (try simp only [Act.put, List.getElem_toArray, List.getElem_cons_zero, List.getElem_cons_succ, List.setIfInBounds_toArray, List.set_cons_zero, List.set_cons_succ])
          refine wpAny_take (i := 7) (v := ?_) rfl (by kernel_rfl) (by kernel_rfl) (by kernel_rfl) (fun _ _ _ h => h) (Or.inl ⟨by rfl, ?_⟩) ?_
          rotate_left 1
          (intro w; go_simp; try with_reducible rfl)
          (try simp only [Act.put, List.getElem_toArray, List.getElem_cons_zero, List.getElem_cons_succ, List.setIfInBounds_toArray, List.set_cons_zero, List.set_cons_succ])
          refine wpAny_take (i := 8) (v := ?_) rfl (by kernel_rfl) (by kernel_rfl) (by kernel_rfl) (fun _ _ _ h => h) (Or.inl ⟨by rfl, ?_⟩) ?_
          rotate_left 1
          (intro w; go_simp; try with_reducible rfl)
          (try simp only [Act.put, List.getElem_toArray, List.getElem_cons_zero, List.getElem_cons_succ, List.setIfInBounds_toArray, List.set_cons_zero, List.set_cons_succ])
          refine wpAny_ready (rs := [9]) (by kernel_rfl) (by simp) ?_
          refine AllReady.cons rfl (fun K hK => ?_) AllReady.nil
          obtain ⟨d0, d1, d2, d3, df⟩ := (M.out.get 0 rfl).four
          go_simp
          clear d0 d1 d2 d3 df
          replace M := hid ((((M.out.put 0 rfl (by decide) (by decide) 0 (.slice so5 x2.secs.length sc5)).put 0 rfl (by decide) (by decide) 1 (.slice po5 x2.pend.length pc5)).put 0 rfl (by decide) (by decide) 2 (.bool x2.off)).put 0 rfl (by decide) (by decide) 3 (.int .i64 x2.fuse))
          refine hK _ _ ?_
          clear hK K
          (try simp only [Act.put, List.getElem_toArray, List.getElem_cons_zero, List.getElem_cons_succ, List.setIfInBounds_toArray, List.set_cons_zero, List.set_cons_succ])
          refine wpAny_take (i := 10) (v := ?_) rfl (by kernel_rfl) (by kernel_rfl) (by kernel_rfl) (fun _ _ _ h => h) (Or.inl ⟨by rfl, ?_⟩) ?_
          rotate_left 1
          (intro w; go_simp; try with_reducible rfl)
          (try simp only [Act.put, List.getElem_toArray, List.getElem_cons_zero, List.getElem_cons_succ, List.setIfInBounds_toArray, List.set_cons_zero, List.set_cons_succ])
          refine wpAny_done (by kernel_rfl) ?_ _
          generalize (((w5.setCell ⟨w.heap.size, 0, none⟩ (.slice so5 x2.secs.length sc5)).setCell ⟨w.heap.size, 1, none⟩ (.slice po5 x2.pend.length pc5)).setCell ⟨w.heap.size, 2, none⟩ (.bool x2.off)).setCell ⟨w.heap.size, 3, none⟩ (.int .i64 x2.fuse) = X6 at M ⊢
          clear hput hdv
          have hdv := hid ((M.out.own ⟨.slice so5 x2.secs.length sc5, .slice po5 x2.pend.length pc5, x2⟩ (by simp)).v)
          have hfk := hfk2
          clear hfk2
          by_cases hc2 : c2 = 0
          · subst hc2
            have hsy := hid (fun v W (h : DiskV W v x2) => rsync_any x2 v W h hfk.out)
            obtain ⟨Y, hY⟩ : ∃ Y, syncE x2 = Y := ⟨_, rfl⟩
            have hstx3 := hid (show stpE x2 .syn = Y from hY)
            rw [hY] at hsy
            have hfk2 := hid (show (Lit.int .i64 Y.1.fuse).wf = true from by rw [← hstx3.out]; exact stpE_wf _ hfk.out)
            clear hY
            obtain ⟨x3, c3⟩ := Y
            dsimp only at hfk2
            obtain ⟨d0, d1, d2, d3, df⟩ := (M.out.get 0 rfl).four
            go_wp2_with fail
            (with_reducible refine (hsy.out _ _ hdv.out).mono ?_)
            rintro e5 w6 hr5
            obtain ⟨so5, sc5, po5, pc5, rfl, o5, b5⟩ := hr5.open
            dsimp only at o5
            replace M := hid (M.out.res o5 b5)
            clear hr5 o5 b5 hdv hsy hfk
            clear d0 d1 d2 d3 df
            obtain ⟨d0, d1, d2, d3, df⟩ := (M.out.get 0 rfl).four
            dsimp only
            go_upto_region 13 with fail
            clear d0 d1 d2 d3 df
            replace M := hid ((((M.out.put 0 rfl (by decide) (by decide) 0 (.slice so5 x3.secs.length sc5)).put 0 rfl (by decide) (by decide) 1 (.slice po5 x3.pend.length pc5)).put 0 rfl (by decide) (by decide) 2 (.bool x3.off)).put 0 rfl (by decide) (by decide) 3 (.int .i64 x3.fuse))
            generalize (((w6.setCell ⟨w.heap.size, 0, none⟩ (.slice so5 x3.secs.length sc5)).setCell ⟨w.heap.size, 1, none⟩ (.slice po5 x3.pend.length pc5)).setCell ⟨w.heap.size, 2, none⟩ (.bool x3.off)).setCell ⟨w.heap.size, 3, none⟩ (.int .i64 x3.fuse) = X7 at M ⊢
            have hfin := hid (show runE d (layE n hd t) = (x3, c3) from by
              rw [hA.out, runE_eq, hstx1.out, if_pos rfl, runE_eq, hst2.out, if_pos rfl, runE_eq, hstx3.out]
              by_cases h : c3 = 0
              · subst h; rfl
              · rw [if_neg h])
            clear hstx1 hst2 hstx3 hA
            obtain ⟨d0, d1, d2, d3, df⟩ := (M.out.get 0 rfl).four
            obtain ⟨z0, z1, z2, z3, zf⟩ := (M.out.get 1 rfl).four
            have M9 := hid ((((M.out.put 1 rfl (by decide) (by decide) 0 (.slice so5 x3.secs.length sc5)).put 1 rfl (by decide) (by decide) 1 (.slice po5 x3.pend.length pc5)).put 1 rfl (by decide) (by decide) 2 (.bool x3.off)).put 1 rfl (by decide) (by decide) 3 (.int .i64 x3.fuse))
            go_wp2_with fail
            clear d0 d1 d2 d3 df z0 z1 z2 z3 zf
            obtain ⟨q0, q1, q2, q3, qf⟩ := (M9.out.get 1 rfl).four
            have hown9 := M9.out.own ⟨.slice so5 x3.secs.length sc5, .slice po5 x3.pend.length pc5, x3⟩ (by simp)
            exact bodyPost_ret (v := .tuple #[.agg #[.slice so5 x3.secs.length sc5, .slice po5 x3.pend.length pc5, .bool x3.off, .int .i64 x3.fuse], .int .i64 c3]) (by simp [results, Tryz.results19, go_sem, q0, q1, q2, q3]) rfl ⟨.slice so5 x3.secs.length sc5, .slice po5 x3.pend.length pc5, by rw [hfin.out], by rw [hfin.out]; exact hown9, M9.out.bel⟩
          · have e2 : (c2 == 0) = false := by simpa using hc2
            have hfin := hid (show runE d (layE n hd t) = (x2, c2) from by
              rw [hA.out, runE_eq, hstx1.out, if_pos rfl, runE_eq, hst2.out, if_neg hc2])
            clear hstx1 hst2 hA hc2
            obtain ⟨d0, d1, d2, d3, df⟩ := (M.out.get 0 rfl).four
            obtain ⟨z0, z1, z2, z3, zf⟩ := (M.out.get 1 rfl).four
            have M9 := hid ((((M.out.put 1 rfl (by decide) (by decide) 0 (.slice so5 x2.secs.length sc5)).put 1 rfl (by decide) (by decide) 1 (.slice po5 x2.pend.length pc5)).put 1 rfl (by decide) (by decide) 2 (.bool x2.off)).put 1 rfl (by decide) (by decide) 3 (.int .i64 x2.fuse))
            go_wp2_with fail
            clear d0 d1 d2 d3 df z0 z1 z2 z3 zf
            obtain ⟨q0, q1, q2, q3, qf⟩ := (M9.out.get 1 rfl).four
            have hown9 := M9.out.own ⟨.slice so5 x2.secs.length sc5, .slice po5 x2.pend.length pc5, x2⟩ (by simp)
            exact bodyPost_ret (v := .tuple #[.agg #[.slice so5 x2.secs.length sc5, .slice po5 x2.pend.length pc5, .bool x2.off, .int .i64 x2.fuse], .int .i64 c2]) (by simp [results, Tryz.results19, go_sem, q0, q1, q2, q3]) rfl ⟨.slice so5 x2.secs.length sc5, .slice po5 x2.pend.length pc5, by rw [hfin.out], by rw [hfin.out]; exact hown9, M9.out.bel⟩
        refine AllReady.cons rfl (fun K hK => ?_) AllReady.nil
        have tc := (M.out.bel.cell (p := ⟨b, off, none⟩) hb.out).trans (show w.cell? ⟨b, off, none⟩ = some (.string hd) from by have := gcell.out 0 (by simp); simpa using this)
        go_simp
        clear tc
        refine hK _ _ ?_
        clear hK K
        (try simp only [Act.put, List.getElem_toArray, List.getElem_cons_zero, List.getElem_cons_succ, List.setIfInBounds_toArray, List.set_cons_zero, List.set_cons_succ])
        refine wpAny_ready (rs := [0]) (by kernel_rfl) (by simp) ?_
        refine AllReady.cons rfl (fun K hK => ?_) AllReady.nil
        obtain ⟨d0, d1, d2, d3, df⟩ := (M.out.get 0 rfl).four
        go_simp
        clear d0 d1 d2 d3 df
        refine hK _ _ ?_
        clear hK K
        (try simp only [Act.put, List.getElem_toArray, List.getElem_cons_zero, List.getElem_cons_succ, List.setIfInBounds_toArray, List.set_cons_zero, List.set_cons_succ])
        refine wpAny_ready (rs := [5]) (by kernel_rfl) (by simp) ?_
        refine AllReady.cons rfl (fun K hK => ?_) AllReady.nil
        go_simp
        (with_reducible refine (hput.out _ _ hdv.out).mono ?_)
        rintro e5 w5 hr5
        obtain ⟨so5, sc5, po5, pc5, rfl, o5, b5⟩ := hr5.open
        dsimp only at o5
        replace M := hid (M.out.res o5 b5)
        clear hr5 o5 b5
        refine hK _ _ ?_
        clear hK K
        (try simp only [Act.put, List.getElem_toArray, List.getElem_cons_zero, List.getElem_cons_succ, List.setIfInBounds_toArray, List.set_cons_zero, List.set_cons_succ])
        refine wpAny_take (i := 6) (v := ?_) rfl (by kernel_rfl) (by kernel_rfl) (by kernel_rfl) (fun _ _ _ h => h) (Or.inl ⟨by rfl, ?_⟩) ?_
        rotate_left 1
        (intro w; go_simp; try with_reducible rfl)
        (try simp only [Act.put, List.getElem_toArray, List.getElem_cons_zero, List.getElem_cons_succ, List.setIfInBounds_toArray, List.set_cons_zero, List.set_cons_succ])
        refine wpAny_take (i := 7) (v := ?_) rfl (by kernel_rfl) (by kernel_rfl) (by kernel_rfl) (fun _ _ _ h => h) (Or.inl ⟨by rfl, ?_⟩) ?_
        rotate_left 1
        (intro w; go_simp; try with_reducible rfl)
        (try simp only [Act.put, List.getElem_toArray, List.getElem_cons_zero, List.getElem_cons_succ, List.setIfInBounds_toArray, List.set_cons_zero, List.set_cons_succ])
        refine wpAny_take (i := 8) (v := ?_) rfl (by kernel_rfl) (by kernel_rfl) (by kernel_rfl) (fun _ _ _ h => h) (Or.inl ⟨by rfl, ?_⟩) ?_
        rotate_left 1
        (intro w; go_simp; try with_reducible rfl)
        (try simp only [Act.put, List.getElem_toArray, List.getElem_cons_zero, List.getElem_cons_succ, List.setIfInBounds_toArray, List.set_cons_zero, List.set_cons_succ])
        refine wpAny_ready (rs := [9]) (by kernel_rfl) (by simp) ?_
        refine AllReady.cons rfl (fun K hK => ?_) AllReady.nil
        obtain ⟨d0, d1, d2, d3, df⟩ := (M.out.get 0 rfl).four
        go_simp
        clear d0 d1 d2 d3 df
        replace M := hid ((((M.out.put 0 rfl (by decide) (by decide) 0 (.slice so5 x2.secs.length sc5)).put 0 rfl (by decide) (by decide) 1 (.slice po5 x2.pend.length pc5)).put 0 rfl (by decide) (by decide) 2 (.bool x2.off)).put 0 rfl (by decide) (by decide) 3 (.int .i64 x2.fuse))
        refine hK _ _ ?_
        clear hK K
        (try simp only [Act.put, List.getElem_toArray, List.getElem_cons_zero, List.getElem_cons_succ, List.setIfInBounds_toArray, List.set_cons_zero, List.set_cons_succ])
        refine wpAny_take (i := 10) (v := ?_) rfl (by kernel_rfl) (by kernel_rfl) (by kernel_rfl) (fun _ _ _ h => h) (Or.inl ⟨by rfl, ?_⟩) ?_
        rotate_left 1
        (intro w; go_simp; try with_reducible rfl)
        (try simp only [Act.put, List.getElem_toArray, List.getElem_cons_zero, List.getElem_cons_succ, List.setIfInBounds_toArray, List.set_cons_zero, List.set_cons_succ])
        refine wpAny_done (by kernel_rfl) ?_ _
        generalize (((w5.setCell ⟨w.heap.size, 0, none⟩ (.slice so5 x2.secs.length sc5)).setCell ⟨w.heap.size, 1, none⟩ (.slice po5 x2.pend.length pc5)).setCell ⟨w.heap.size, 2, none⟩ (.bool x2.off)).setCell ⟨w.heap.size, 3, none⟩ (.int .i64 x2.fuse) = X6 at M ⊢
        clear hput hdv
        have hdv := hid ((M.out.own ⟨.slice so5 x2.secs.length sc5, .slice po5 x2.pend.length pc5, x2⟩ (by simp)).v)
        have hfk := hfk2
        clear hfk2
        by_cases hc2 : c2 = 0
        · subst hc2
          have hsy := hid (fun v W (h : DiskV W v x2) => rsync_any x2 v W h hfk.out)
          obtain ⟨Y, hY⟩ : ∃ Y, syncE x2 = Y := ⟨_, rfl⟩
          have hstx3 := hid (show stpE x2 .syn = Y from hY)
          rw [hY] at hsy
          have hfk2 := hid (show (Lit.int .i64 Y.1.fuse).wf = true from by rw [← hstx3.out]; exact stpE_wf _ hfk.out)
          clear hY
          obtain ⟨x3, c3⟩ := Y
          dsimp only at hfk2
          obtain ⟨d0, d1, d2, d3, df⟩ := (M.out.get 0 rfl).four
          go_wp2_with fail
          (with_reducible refine (hsy.out _ _ hdv.out).mono ?_)
          rintro e5 w6 hr5
          obtain ⟨so5, sc5, po5, pc5, rfl, o5, b5⟩ := hr5.open
          dsimp only at o5
          replace M := hid (M.out.res o5 b5)
          clear hr5 o5 b5 hdv hsy hfk
          clear d0 d1 d2 d3 df
          obtain ⟨d0, d1, d2, d3, df⟩ := (M.out.get 0 rfl).four
          dsimp only
          go_upto_region 13 with fail
          clear d0 d1 d2 d3 df
          replace M := hid ((((M.out.put 0 rfl (by decide) (by decide) 0 (.slice so5 x3.secs.length sc5)).put 0 rfl (by decide) (by decide) 1 (.slice po5 x3.pend.length pc5)).put 0 rfl (by decide) (by decide) 2 (.bool x3.off)).put 0 rfl (by decide) (by decide) 3 (.int .i64 x3.fuse))
          generalize (((w6.setCell ⟨w.heap.size, 0, none⟩ (.slice so5 x3.secs.length sc5)).setCell ⟨w.heap.size, 1, none⟩ (.slice po5 x3.pend.length pc5)).setCell ⟨w.heap.size, 2, none⟩ (.bool x3.off)).setCell ⟨w.heap.size, 3, none⟩ (.int .i64 x3.fuse) = X7 at M ⊢
          have hfin := hid (show runE d (layE n hd t) = (x3, c3) from by
            rw [hA.out, runE_eq, hstx1.out, if_pos rfl, runE_eq, hst2.out, if_pos rfl, runE_eq, hstx3.out]
            by_cases h : c3 = 0
            · subst h; rfl
            · rw [if_neg h])
          clear hstx1 hst2 hstx3 hA
          obtain ⟨d0, d1, d2, d3, df⟩ := (M.out.get 0 rfl).four
          obtain ⟨z0, z1, z2, z3, zf⟩ := (M.out.get 1 rfl).four
          have M9 := hid ((((M.out.put 1 rfl (by decide) (by decide) 0 (.slice so5 x3.secs.length sc5)).put 1 rfl (by decide) (by decide) 1 (.slice po5 x3.pend.length pc5)).put 1 rfl (by decide) (by decide) 2 (.bool x3.off)).put 1 rfl (by decide) (by decide) 3 (.int .i64 x3.fuse))
          go_wp2_with fail
          clear d0 d1 d2 d3 df z0 z1 z2 z3 zf
          obtain ⟨q0, q1, q2, q3, qf⟩ := (M9.out.get 1 rfl).four
          have hown9 := M9.out.own ⟨.slice so5 x3.secs.length sc5, .slice po5 x3.pend.length pc5, x3⟩ (by simp)
          exact bodyPost_ret (v := .tuple #[.agg #[.slice so5 x3.secs.length sc5, .slice po5 x3.pend.length pc5, .bool x3.off, .int .i64 x3.fuse], .int .i64 c3]) (by simp [results, Tryz.results19, go_sem, q0, q1, q2, q3]) rfl ⟨.slice so5 x3.secs.length sc5, .slice po5 x3.pend.length pc5, by rw [hfin.out], by rw [hfin.out]; exact hown9, M9.out.bel⟩
        · have e2 : (c2 == 0) = false := by simpa using hc2
          have hfin := hid (show runE d (layE n hd t) = (x2, c2) from by
            rw [hA.out, runE_eq, hstx1.out, if_pos rfl, runE_eq, hst2.out, if_neg hc2])
          clear hstx1 hst2 hA hc2
          obtain ⟨d0, d1, d2, d3, df⟩ := (M.out.get 0 rfl).four
          obtain ⟨z0, z1, z2, z3, zf⟩ := (M.out.get 1 rfl).four
          have M9 := hid ((((M.out.put 1 rfl (by decide) (by decide) 0 (.slice so5 x2.secs.length sc5)).put 1 rfl (by decide) (by decide) 1 (.slice po5 x2.pend.length pc5)).put 1 rfl (by decide) (by decide) 2 (.bool x2.off)).put 1 rfl (by decide) (by decide) 3 (.int .i64 x2.fuse))
          go_wp2_with fail
          clear d0 d1 d2 d3 df z0 z1 z2 z3 zf
          obtain ⟨q0, q1, q2, q3, qf⟩ := (M9.out.get 1 rfl).four
          have hown9 := M9.out.own ⟨.slice so5 x2.secs.length sc5, .slice po5 x2.pend.length pc5, x2⟩ (by simp)
          exact bodyPost_ret (v := .tuple #[.agg #[.slice so5 x2.secs.length sc5, .slice po5 x2.pend.length pc5, .bool x2.off, .int .i64 x2.fuse], .int .i64 c2]) (by simp [results, Tryz.results19, go_sem, q0, q1, q2, q3]) rfl ⟨.slice so5 x2.secs.length sc5, .slice po5 x2.pend.length pc5, by rw [hfin.out], by rw [hfin.out]; exact hown9, M9.out.bel⟩
      · have e1 : (c1 == 0) = false := by simpa using hc1
        have hfin := hid (show runE d (layE n hd t) = (x1, c1) from by
          rw [hA.out, runE_eq, hstx1.out, if_neg hc1])
        clear hstx1 hA hc1
        obtain ⟨d0, d1, d2, d3, df⟩ := (M.out.get 0 rfl).four
        obtain ⟨z0, z1, z2, z3, zf⟩ := (M.out.get 1 rfl).four
        have M9 := hid ((((M.out.put 1 rfl (by decide) (by decide) 0 (.slice so5 x1.secs.length sc5)).put 1 rfl (by decide) (by decide) 1 (.slice po5 x1.pend.length pc5)).put 1 rfl (by decide) (by decide) 2 (.bool x1.off)).put 1 rfl (by decide) (by decide) 3 (.int .i64 x1.fuse))
        go_wp2_with fail
        clear d0 d1 d2 d3 df z0 z1 z2 z3 zf
        obtain ⟨q0, q1, q2, q3, qf⟩ := (M9.out.get 1 rfl).four
        have hown9 := M9.out.own ⟨.slice so5 x1.secs.length sc5, .slice po5 x1.pend.length pc5, x1⟩ (by simp)
        exact bodyPost_ret (v := .tuple #[.agg #[.slice so5 x1.secs.length sc5, .slice po5 x1.pend.length pc5, .bool x1.off, .int .i64 x1.fuse], .int .i64 c1]) (by simp [results, Tryz.results19, go_sem, q0, q1, q2, q3]) rfl ⟨.slice so5 x1.secs.length sc5, .slice po5 x1.pend.length pc5, by rw [hfin.out], by rw [hfin.out]; exact hown9, M9.out.bel⟩
end Go.Proofs.YtiegocbdgimimaaGreat.Wal
