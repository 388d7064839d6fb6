/-
  The document's Put.
-/
import Derived.Test.YtgplioocnbjhaaaSectorBurnt
import Derived.Test.YtgplioocnbjhaaaSectorLives
import Derived.Test.YtgplioocnbjhaaaSectorMath
namespace Go.Proofs.Ytgplioocnbjhaaa.Sector
open Go.ChangeShapes Go.WideShapes Go.ChangeAt Go.RowKit
open Go.Proofs.Ytgplioocnbjhaaa.Mem
set_option linter.unusedVariables false
theorem rput_bad (d : Disk) (v : Value) (n : Int) (s : ByteArray) (w : World) (h : DiskV w v d) (hok : Hid (okB d = false)) :
    Calls Try.prog 21 #[v, .int .i64 n, .string s] w (Res w (zeroDisk, 13)) := by
  have hv := hid h
  obtain ⟨sv, pv, rfl, hs, hp⟩ := h
  obtain ⟨so, scap, rfl, _⟩ := hs.form
  obtain ⟨po, pcap, rfl, _⟩ := hp.form
  have hk := hid (chk_bad hok.out)
  clear hs hp
  go_enter Try.func21, Try.ntmps21
  go_wp2_with fail
  refine (rcheck_any d _ _ (hv.out.below (by go_grown))).mono ?_
  rintro e w1 ⟨rfl, hb1⟩
  have hb1w : Below w.heap.size w w1 := (show Below w.heap.size w _ from by go_grown).trans (hb1.mono (by simp; omega))
  have R1 : Blk w1 (w.heap.size + 1) [.slice none 0 0, .slice none 0 0, .bool false, .int .i64 0] 25 := (Blk.new' _ _ _ _ (by simp)).below hb1 (by simp)
  have R5 := (((R1.set 0 (.slice none 0 0)).set 1 (.slice none 0 0)).set 2 (.bool false)).set 3 (.int .i64 0)
  simp only [List.set_cons_zero, List.set_cons_succ] at R5
  have R5' := hid R5
  obtain ⟨q0, q1, q2, q3, qf⟩ := R1.four
  have hb1' := hid hb1w
  clear R5 R1 hb1 hb1w hv
  rw [hk.out]
  go_wp2_with fail
  obtain ⟨q0, q1, q2, q3, qf⟩ := R5'.out.four
  refine bodyPost_ret (v := .tuple #[.agg #[.slice none 0 0, .slice none 0 0, .bool false, .int .i64 0], .int .i64 13]) (by simp [results, Try.results21, go_sem, q0, q1, q2, q3]) rfl ?_
  exact ⟨_, _, rfl, zero_own (by simp; have := hb1'.out.size; omega), (((hb1'.out.setCell (by simp) _).setCell (by simp) _).setCell (by simp) _).setCell (by simp) _⟩
set_option maxHeartbeats 4000000 in
theorem rput_ok (secs : List ByteArray) (pend : List (Int × ByteArray)) (off : Bool) (fuse : Int) (v : Value) (n : Int) (s : ByteArray) (w : World) (h : DiskV w v ⟨secs, pend, off, fuse⟩) (hok : Hid (okB ⟨secs, pend, off, fuse⟩ = true)) (hfu : Hid ((Lit.int .i64 fuse).wf = true)) :
    Calls Try.prog 21 #[v, .int .i64 n, .string s] w (Res w (putE ⟨secs, pend, off, fuse⟩ n s)) := by
  have hsl : (secs.length : Int) ≤ 1024 := by have := (okp hok.out).2.1; dsimp only at this; omega
  have hpl : (pend.length : Int) ≤ 4096 := by have := (okp hok.out).2.2.1; dsimp only at this; omega
  have hv := hid h
  obtain ⟨sv, pv, rfl, hs, hp⟩ := h
  obtain ⟨so, scap, rfl, _⟩ := hs.form
  obtain ⟨po, pcap, rfl, _⟩ := hp.form
  have hk := hid (chk_ok hok.out)
  have hn := hid (okB_secs hok.out)
  have hm := hid (okB_pend hok.out)
  clear hs hp
  go_enter Try.func21, Try.ntmps21
  go_wp2_with fail
  refine (rcheck_any _ _ _ (hv.out.below (by go_grown))).mono ?_
  rintro e w1 ⟨rfl, hb1⟩
  have hb1w : Below w.heap.size w w1 := (show Below w.heap.size w _ from by go_grown).trans (hb1.mono (by simp; omega))
  have D1 : Blk w1 w.heap.size [.slice so secs.length scap, .slice po pend.length pcap, .bool off, .int .i64 fuse] 25 := ((Blk.new w _ _).alloc _).below hb1 (by simp; omega)
  have R1 : Blk w1 (w.heap.size + 1) [.slice none 0 0, .slice none 0 0, .bool false, .int .i64 0] 25 := (Blk.new' _ _ _ _ (by simp)).below hb1 (by simp)
  obtain ⟨d0, d1, d2, d3, df⟩ := D1.four
  have D1' := hid D1
  have R1' := hid R1
  have hb1' := hid hb1w
  clear D1 R1 hb1 hb1w
  rw [hk.out]
  go_wp2_with fail
  refine (rcopy_any _ _ _ (hv.out.below hb1'.out) hn.out hm.out).mono ?_
  rintro e w2 ⟨sv2, pv2, rfl, hown, hb2⟩
  clear d0 d1 d2 d3 df
  obtain ⟨so2, sc2, rfl, _⟩ := ownsRow_form hown.secs
  obtain ⟨po2, pc2, rfl, _⟩ := ownsRow_form hown.pend
  have D2 := D1'.out.below hb2 D1'.out.lt
  have R2 := R1'.out.below hb2 R1'.out.lt
  obtain ⟨d0, d1, d2, d3, df⟩ := D2.four
  dsimp only at hown
  go_upto_region 4 with (fail)
  have hsz1 : w.heap.size + 2 ≤ w1.heap.size := by have := R1'.out.lt; omega
  obtain ⟨D3, O3, hb3⟩ := box4 D2 (hown.mono hsz1) (by omega : w.heap.size < w.heap.size + 2) (bt hb1'.out hb2) (Nat.le_refl _) (.slice so2 secs.length sc2) (.slice po2 pend.length pc2) (.bool off) (.int .i64 fuse)
  have R3 := hid ((((R2.other (p := ⟨w.heap.size, 0, none⟩) (by simp) (.slice so2 secs.length sc2)).other (p := ⟨w.heap.size, 1, none⟩) (by simp) (.slice po2 pend.length pc2)).other (p := ⟨w.heap.size, 2, none⟩) (by simp) (.bool off)).other (p := ⟨w.heap.size, 3, none⟩) (by simp) (.int .i64 fuse))
  clear hown hb2 D2 R2 hsz1 d0 d1 d2 d3 df D1' R1' hb1' hv
  generalize (((w2.setCell ⟨w.heap.size, 0, none⟩ (.slice so2 secs.length sc2)).setCell ⟨w.heap.size, 1, none⟩ (.slice po2 pend.length pc2)).setCell ⟨w.heap.size, 2, none⟩ (.bool off)).setCell ⟨w.heap.size, 3, none⟩ (.int .i64 fuse) = W at D3 R3 O3 hb3 ⊢
  obtain ⟨d0, d1, d2, d3, df⟩ := D3.out.four
  obtain ⟨r0, r1, r2, r3, rf⟩ := R3.out.four
  cases off with
  | true =>
    have hE : Hid (putE ⟨secs, pend, true, fuse⟩ n s = (⟨secs, pend, true, fuse⟩, 15)) := hid (by unfold putE workE; rw [hok.out]; rfl)
    go_wp2_with fail
    obtain ⟨F5, O5, b5⟩ := box4 R3.out O3.out (by omega : w.heap.size + 1 < w.heap.size + 2) hb3.out (by omega : w.heap.size ≤ w.heap.size + 1) (.slice so2 secs.length sc2) (.slice po2 pend.length pc2) (.bool true) (.int .i64 fuse)
    obtain ⟨q0, q1, q2, q3, qf⟩ := F5.out.four
    refine bodyPost_ret (v := .tuple #[.agg #[.slice so2 secs.length sc2, .slice po2 pend.length pc2, .bool true, .int .i64 fuse], .int .i64 (15)]) (by simp [results, Try.results21, go_sem, q0, q1, q2, q3]) rfl ?_
    rw [hE.out]
    exact ⟨_, _, rfl, OwnDisk.mono (B := w.heap.size + 2) (B' := w.heap.size) (d := ⟨secs, pend, true, fuse⟩) ⟨O5.out.secs, O5.out.far⟩ (by omega), b5.out⟩
  | false =>
    have hR : ∀ r, refuseE ⟨secs, pend, false, fuse⟩ n s = r → r ≠ 0 → Hid (putE ⟨secs, pend, false, fuse⟩ n s = (⟨secs, pend, false, fuse⟩, r)) := fun r hr h0 => hid (by unfold putE workE; rw [hok.out, hr]; simp [h0])
    by_cases n0 : n < 0
    · have hE := hR 1 (by unfold refuseE missB; simp [n0]) (by decide)
      clear hR
      go_wp2_with fail
      obtain ⟨F5, O5, b5⟩ := box4 R3.out O3.out (by omega : w.heap.size + 1 < w.heap.size + 2) hb3.out (by omega : w.heap.size ≤ w.heap.size + 1) (.slice so2 secs.length sc2) (.slice po2 pend.length pc2) (.bool false) (.int .i64 fuse)
      obtain ⟨q0, q1, q2, q3, qf⟩ := F5.out.four
      refine bodyPost_ret (v := .tuple #[.agg #[.slice so2 secs.length sc2, .slice po2 pend.length pc2, .bool false, .int .i64 fuse], .int .i64 (1)]) (by simp [results, Try.results21, go_sem, q0, q1, q2, q3]) rfl ?_
      rw [hE.out]
      exact ⟨_, _, rfl, OwnDisk.mono (B := w.heap.size + 2) (B' := w.heap.size) (d := ⟨secs, pend, false, fuse⟩) ⟨O5.out.secs, O5.out.far⟩ (by omega), b5.out⟩
    by_cases n1 : (secs.length : Int) ≤ n
    · have hE := hR 1 (by unfold refuseE missB; simp [n1]) (by decide)
      clear hR
      go_wp2_with fail
      obtain ⟨F5, O5, b5⟩ := box4 R3.out O3.out (by omega : w.heap.size + 1 < w.heap.size + 2) hb3.out (by omega : w.heap.size ≤ w.heap.size + 1) (.slice so2 secs.length sc2) (.slice po2 pend.length pc2) (.bool false) (.int .i64 fuse)
      obtain ⟨q0, q1, q2, q3, qf⟩ := F5.out.four
      refine bodyPost_ret (v := .tuple #[.agg #[.slice so2 secs.length sc2, .slice po2 pend.length pc2, .bool false, .int .i64 fuse], .int .i64 (1)]) (by simp [results, Try.results21, go_sem, q0, q1, q2, q3]) rfl ?_
      rw [hE.out]
      exact ⟨_, _, rfl, OwnDisk.mono (B := w.heap.size + 2) (B' := w.heap.size) (d := ⟨secs, pend, false, fuse⟩) ⟨O5.out.secs, O5.out.far⟩ (by omega), b5.out⟩
    have hmi : missB secs.length n = false := by unfold missB; simp [n0]; omega
    by_cases s1 : s.size = 64
    · have hod : oddB s = false := by unfold oddB; simp [s1]
      have hs1 : ((s.size : Int) != 64) = false := by rw [s1]; rfl
      clear s1
      by_cases p1 : 4096 ≤ pend.length
      · have hE := hR 2 (by unfold refuseE; simp [hmi, hod, p1]) (by decide)
        have p2 : (4096 : Int) ≤ (pend.length : Int) := by omega
        clear hR hmi hod p1
        go_wp2_with fail
        obtain ⟨F5, O5, b5⟩ := box4 R3.out O3.out (by omega : w.heap.size + 1 < w.heap.size + 2) hb3.out (by omega : w.heap.size ≤ w.heap.size + 1) (.slice so2 secs.length sc2) (.slice po2 pend.length pc2) (.bool false) (.int .i64 fuse)
        obtain ⟨q0, q1, q2, q3, qf⟩ := F5.out.four
        refine bodyPost_ret (v := .tuple #[.agg #[.slice so2 secs.length sc2, .slice po2 pend.length pc2, .bool false, .int .i64 fuse], .int .i64 (2)]) (by simp [results, Try.results21, go_sem, q0, q1, q2, q3]) rfl ?_
        rw [hE.out]
        exact ⟨_, _, rfl, OwnDisk.mono (B := w.heap.size + 2) (B' := w.heap.size) (d := ⟨secs, pend, false, fuse⟩) ⟨O5.out.secs, O5.out.far⟩ (by omega), b5.out⟩
      · have hr0 : refuseE ⟨secs, pend, false, fuse⟩ n s = 0 := by unfold refuseE; simp [hmi, hod, p1]
        have p2 : ¬ (4096 : Int) ≤ (pend.length : Int) := by omega
        have hE : Hid (putE ⟨secs, pend, false, fuse⟩ n s = if fuse = 0 then (⟨secs, pend ++ [(n, s)], true, fuse⟩, 15) else (⟨secs, pend ++ [(n, s)], false, fuseE fuse⟩, 0)) := hid (by unfold putE workE fuseE; rw [hok.out, hr0]; simp [pendD])
        have hsz2 : w.heap.size + 2 ≤ W.heap.size := by have := R3.out.lt; omega
        obtain ⟨ao, cap, w4, hrun, O4, hb4⟩ := app_write (w.heap.size + 2) W (.slice so2 secs.length sc2) po2 pc2 ⟨secs, pend, false, fuse⟩ n s hsz2 O3.out (by dsimp only; omega)
        dsimp only at hrun O4
        have hrun' := hid hrun
        have D4 := hid ((D3.out.below hb4 (by omega)).set 1 (.slice ao (pend.length + 1) cap))
        have R4 := hid ((R3.out.below hb4 (by omega)).other (p := ⟨w.heap.size, 1, none⟩) (by simp) (.slice ao (pend.length + 1) cap))
        have O4' := hid (own_setCell O4 (p := ⟨w.heap.size, 1, none⟩) (by simp) (.slice ao (pend.length + 1) cap))
        have hb4' := hid (hb3.out.trans (hb4.mono (by omega)) |>.setCell (p := ⟨w.heap.size, 1, none⟩) (Nat.le_refl _) (.slice ao (pend.length + 1) cap))
        clear hrun O4 hr0 hmi hod p1 hR hsz2
        go_upto_region 12 with fail
        obtain ⟨x0, x1, x2, x3, xf⟩ := (D3.out.below hb4 (by omega)).four
        have y1 := (D3.out.alloc (.cells #[.int .i64 n, .string s] 96)).four.2.1
        clear hb4
        go_upto_region 13 with (at_builtin; refine wpList_app rfl (.tmp 42) (.tmp 46) _ _ rfl _ _ _ _ rfl rfl hrun'.out ?_)
        clear d0 d1 d2 d3 df r0 r1 r2 r3 rf x0 x1 x2 x3 xf y1 D3 R3 O3 hb3
        generalize w4.setCell ⟨w.heap.size, 1, none⟩ (.slice ao (pend.length + 1) cap) = W4 at D4 R4 O4' hb4' ⊢
        obtain ⟨d0, d1, d2, d3, df⟩ := D4.out.four
        obtain ⟨r0, r1, r2, r3, rf⟩ := R4.out.four
        by_cases hz : fuse = 0
        · subst hz
          replace hE := hid hE.out
          go_wp2_with fail
          refine (burnt_0 _ _ _ _ _ _ _ _).mono ?_
          rintro e w5 ⟨rfl, b5⟩
          have D5 := D4.out.below b5 D4.out.lt
          have R5 := R4.out.below b5 R4.out.lt
          obtain ⟨D6, O6, h6⟩ := box4 D5 (O4'.out.below b5) (by omega : w.heap.size < w.heap.size + 2) (bt hb4'.out b5) (Nat.le_refl _) (.slice so2 secs.length sc2) (.slice ao (pend.length + 1) cap) (.bool true) (.int .i64 0)
          have R6 := hid ((((R5.other (p := ⟨w.heap.size, 0, none⟩) (by simp) (.slice so2 secs.length sc2)).other (p := ⟨w.heap.size, 1, none⟩) (by simp) (.slice ao (pend.length + 1) cap)).other (p := ⟨w.heap.size, 2, none⟩) (by simp) (.bool true)).other (p := ⟨w.heap.size, 3, none⟩) (by simp) (.int .i64 0))
          clear d0 d1 d2 d3 df r0 r1 r2 r3 rf
          obtain ⟨d0, d1, d2, d3, df⟩ := D5.four
          obtain ⟨r0, r1, r2, r3, rf⟩ := R5.four
          clear D5 R5 b5
          go_upto_region 14 with fail
          clear d0 d1 d2 d3 df r0 r1 r2 r3 rf D4 R4 O4' hb4'
          generalize (((w5.setCell ⟨w.heap.size, 0, none⟩ (.slice so2 secs.length sc2)).setCell ⟨w.heap.size, 1, none⟩ (.slice ao (pend.length + 1) cap)).setCell ⟨w.heap.size, 2, none⟩ (.bool true)).setCell ⟨w.heap.size, 3, none⟩ (.int .i64 0) = W6 at D6 O6 h6 R6 ⊢
          obtain ⟨d0, d1, d2, d3, df⟩ := D6.out.four
          obtain ⟨r0, r1, r2, r3, rf⟩ := R6.out.four
          go_wp2_with fail
          obtain ⟨F5, O5, b5⟩ := box4 R6.out O6.out (by omega : w.heap.size + 1 < w.heap.size + 2) h6.out (by omega : w.heap.size ≤ w.heap.size + 1) (.slice so2 secs.length sc2) (.slice ao (pend.length + 1) cap) (.bool true) (.int .i64 0)
          obtain ⟨q0, q1, q2, q3, qf⟩ := F5.out.four
          refine bodyPost_ret (v := .tuple #[.agg #[.slice so2 secs.length sc2, .slice ao (pend.length + 1) cap, .bool true, .int .i64 0], .int .i64 (15)]) (by simp [results, Try.results21, go_sem, q0, q1, q2, q3]) rfl ?_
          rw [hE.out]; first | rw [if_pos rfl] | rw [if_pos trivial]
          exact ⟨_, _, rfl, OwnDisk.mono (B := w.heap.size + 2) (B' := w.heap.size) (d := ⟨secs, pend ++ [(n, s)], true, 0⟩) ⟨O5.out.secs, O5.out.far⟩ (by omega), b5.out⟩
        · have hz' := hid hz
          clear hz
          go_wp2_with fail
          refine (burnt_1 _ _ _ _ _ _ _ _ _ hz'.out hfu.out).mono ?_
          rintro e w5 ⟨rfl, b5⟩
          have D5 := D4.out.below b5 D4.out.lt
          have R5 := R4.out.below b5 R4.out.lt
          generalize hff : fuseE fuse = ff at *
          obtain ⟨D6, O6, h6⟩ := box4 D5 (O4'.out.below b5) (by omega : w.heap.size < w.heap.size + 2) (bt hb4'.out b5) (Nat.le_refl _) (.slice so2 secs.length sc2) (.slice ao (pend.length + 1) cap) (.bool false) (.int .i64 ff)
          have R6 := hid ((((R5.other (p := ⟨w.heap.size, 0, none⟩) (by simp) (.slice so2 secs.length sc2)).other (p := ⟨w.heap.size, 1, none⟩) (by simp) (.slice ao (pend.length + 1) cap)).other (p := ⟨w.heap.size, 2, none⟩) (by simp) (.bool false)).other (p := ⟨w.heap.size, 3, none⟩) (by simp) (.int .i64 ff))
          clear d0 d1 d2 d3 df r0 r1 r2 r3 rf hff
          obtain ⟨d0, d1, d2, d3, df⟩ := D5.four
          obtain ⟨r0, r1, r2, r3, rf⟩ := R5.four
          clear D5 R5 b5
          go_upto_region 14 with fail
          clear d0 d1 d2 d3 df r0 r1 r2 r3 rf D4 R4 O4' hb4'
          generalize (((w5.setCell ⟨w.heap.size, 0, none⟩ (.slice so2 secs.length sc2)).setCell ⟨w.heap.size, 1, none⟩ (.slice ao (pend.length + 1) cap)).setCell ⟨w.heap.size, 2, none⟩ (.bool false)).setCell ⟨w.heap.size, 3, none⟩ (.int .i64 ff) = W6 at D6 O6 h6 R6 ⊢
          obtain ⟨d0, d1, d2, d3, df⟩ := D6.out.four
          obtain ⟨r0, r1, r2, r3, rf⟩ := R6.out.four
          go_wp2_with fail
          obtain ⟨F5, O5, b5⟩ := box4 R6.out O6.out (by omega : w.heap.size + 1 < w.heap.size + 2) h6.out (by omega : w.heap.size ≤ w.heap.size + 1) (.slice so2 secs.length sc2) (.slice ao (pend.length + 1) cap) (.bool false) (.int .i64 ff)
          obtain ⟨q0, q1, q2, q3, qf⟩ := F5.out.four
          refine bodyPost_ret (v := .tuple #[.agg #[.slice so2 secs.length sc2, .slice ao (pend.length + 1) cap, .bool false, .int .i64 ff], .int .i64 (0)]) (by simp [results, Try.results21, go_sem, q0, q1, q2, q3]) rfl ?_
          rw [hE.out]; first | rw [if_neg hz'.out] | skip
          exact ⟨_, _, rfl, OwnDisk.mono (B := w.heap.size + 2) (B' := w.heap.size) (d := ⟨secs, pend ++ [(n, s)], false, ff⟩) ⟨O5.out.secs, O5.out.far⟩ (by omega), b5.out⟩
    · have hod : oddB s = true := by unfold oddB; simp [s1]
      have hs1 : ((s.size : Int) != 64) = true := by rw [bne_iff_ne]; omega
      have hE := hR 3 (by unfold refuseE; simp [hmi, hod]) (by decide)
      clear s1 hR hmi hod
      go_wp2_with fail
      obtain ⟨F5, O5, b5⟩ := box4 R3.out O3.out (by omega : w.heap.size + 1 < w.heap.size + 2) hb3.out (by omega : w.heap.size ≤ w.heap.size + 1) (.slice so2 secs.length sc2) (.slice po2 pend.length pc2) (.bool false) (.int .i64 fuse)
      obtain ⟨q0, q1, q2, q3, qf⟩ := F5.out.four
      refine bodyPost_ret (v := .tuple #[.agg #[.slice so2 secs.length sc2, .slice po2 pend.length pc2, .bool false, .int .i64 fuse], .int .i64 (3)]) (by simp [results, Try.results21, go_sem, q0, q1, q2, q3]) rfl ?_
      rw [hE.out]
      exact ⟨_, _, rfl, OwnDisk.mono (B := w.heap.size + 2) (B' := w.heap.size) (d := ⟨secs, pend, false, fuse⟩) ⟨O5.out.secs, O5.out.far⟩ (by omega), b5.out⟩
theorem rput_any (d : Disk) (v : Value) (n : Int) (s : ByteArray) (w : World) (h : DiskV w v d) (hfu : (Lit.int .i64 d.fuse).wf = true) :
    Calls Try.prog 21 #[v, .int .i64 n, .string s] w (Res w (putE d n s)) := by
  cases hok : okB d with
  | false =>
    have e : putE d n s = (zeroDisk, 13) := by unfold putE workE; rw [hok]; rfl
    rw [e]; exact rput_bad d v n s w h (hid hok)
  | true =>
    obtain ⟨secs, pend, off, fuse⟩ := d
    exact rput_ok secs pend off fuse v n s w h (hid hok) (hid hfu)
end Go.Proofs.Ytgplioocnbjhaaa.Sector
