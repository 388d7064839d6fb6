/-
  The document's Sync.
-/
import Derived.Test.YtgplioocnbjhaaaSectorBurnt
import Derived.Test.YtgplioocnbjhaaaSectorLives
import Derived.Test.YtgplioocnbjhaaaSectorMath
namespace Go.Proofs.Ytgplioocnbjhaaa.Sector
open Go.ChangeShapes Go.WideShapes Go.ChangeAt Go.RowKit
open Go.Proofs.Ytgplioocnbjhaaa.Mem
set_option linter.unusedVariables false
theorem settle_step2 {B g : Nat} {w wr W W2 : World} {scap pg pcap : Nat} {secs : List ByteArray} {pend : List (Int × ByteArray)} {kp : Nat → Bool} {k : Nat} (hk : k < pend.length) (hW : W = wr.alloc (.cells #[.int .i64 pend[k].1, .string pend[k].2] 96))
    (hW2 : W2 = (wr.setCell ⟨g, pend[k].1.toNat, none⟩ (.string pend[k].2)).alloc (.cells #[.int .i64 pend[k].1, .string pend[k].2] 96)) (hg : B ≤ g) (hne : g ≠ pg)
    (hB : B ≤ wr.heap.size) {C : Nat} (hCB : C ≤ B) (hbr : Below C w wr) (hs : wr.ownsRow B 9 1 (.slice (some ⟨g, 0, none⟩) secs.length scap) secs.length (strC (sett kp pend secs k)))
    (hp : wr.ownsRow B 96 2 (.slice (some ⟨pg, 0, none⟩) pend.length pcap) pend.length (prC pend)) :
    (kp k = false → W.ownsRow B 9 1 (.slice (some ⟨g, 0, none⟩) secs.length scap) secs.length (strC (sett kp pend secs (k + 1))) ∧ W.ownsRow B 96 2 (.slice (some ⟨pg, 0, none⟩) pend.length pcap) pend.length (prC pend) ∧ Below C w W) ∧
    (kp k = true → W2.ownsRow B 9 1 (.slice (some ⟨g, 0, none⟩) secs.length scap) secs.length (strC (sett kp pend secs (k + 1))) ∧
      W2.ownsRow B 96 2 (.slice (some ⟨pg, 0, none⟩) pend.length pcap) pend.length (prC pend) ∧ Below C w W2) := by
  refine ⟨fun h => ⟨?_, ?_, ?_⟩, fun h => ⟨?_, ?_, ?_⟩⟩
  · rw [hW]; simp only [sett, h]; exact hs.alloc _
  · rw [hW]; exact hp.alloc _
  · rw [hW]; exact hbr.alloc (by omega) _
  · have := (hs.stored pend[k].1.toNat (.string pend[k].2)).1
    rw [hW2]
    simp only [sett, h, if_true, strC_set, List.getD, List.getElem?_eq_getElem hk, Option.getD_some]
    exact this.alloc _
  · rw [hW2]; exact (ownsRow_setCell_other hp (by simp [Value.ownBlock]; omega) _).alloc (.cells #[.int .i64 pend[k].1, .string pend[k].2] 96)
  · rw [hW2]; exact (hbr.setCell (p := ⟨g, pend[k].1.toNat, none⟩) (by simp; omega) _).alloc (by simp; omega) _
theorem own_nil {B : Nat} {w : World} {sv : Value} {S : List ByteArray} {n : Nat} (off : Bool) (f : Int) (hn : n = S.length) (h : w.ownsRow B 9 1 sv n (strC S)) (hB : B ≤ w.heap.size) : OwnDisk B w sv (.slice none 0 0) ⟨S, [], off, f⟩ := by
  subst hn
  exact ⟨h, w.heap.size, hB, Nat.le_refl _, fun k hk => (ownBlock_lt h hk).2, World.ownsRow_nil _ _ _ _⟩
theorem rsync_bad (d : Disk) (v : Value) (w : World) (h : DiskV w v d) (hok : Hid (okB d = false)) :
    Calls Try.prog 23 #[v] w (Res w (zeroDisk, 13)) := by
  have hv := hid h
  obtain ⟨sv, pv, rfl, hs, hp⟩ := h
  obtain ⟨so, scap, rfl, _⟩ := hs.form
  obtain ⟨po, pcap, rfl, _⟩ := hp.form
  have hk := hid (chk_bad hok.out)
  clear hs hp
  go_enter Try.func23, Try.ntmps23
  go_wp2_with fail
  refine (rcheck_any d _ _ (hv.out.below (by go_grown))).mono ?_
  rintro e w1 ⟨rfl, hb1⟩
  have hb1w : Below w.heap.size w w1 := (show Below w.heap.size w _ from by go_grown).trans (hb1.mono (by simp; omega))
  have R1 : Blk w1 (w.heap.size + 1) [.slice none 0 0, .slice none 0 0, .bool false, .int .i64 0] 25 := (Blk.new' _ _ _ _ (by simp)).below hb1 (by simp)
  have R5 := (((R1.set 0 (.slice none 0 0)).set 1 (.slice none 0 0)).set 2 (.bool false)).set 3 (.int .i64 0)
  simp only [List.set_cons_zero, List.set_cons_succ] at R5
  have R5' := hid R5
  obtain ⟨q0, q1, q2, q3, qf⟩ := R1.four
  have hb1' := hid hb1w
  clear R5 R1 hb1 hb1w hv
  rw [hk.out]
  go_wp2_with fail
  obtain ⟨q0, q1, q2, q3, qf⟩ := R5'.out.four
  refine bodyPost_ret (v := .tuple #[.agg #[.slice none 0 0, .slice none 0 0, .bool false, .int .i64 0], .int .i64 13]) (by simp [results, Try.results23, go_sem, q0, q1, q2, q3]) rfl ?_
  exact ⟨_, _, rfl, zero_own (by simp; have := hb1'.out.size; omega), (((hb1'.out.setCell (by simp) _).setCell (by simp) _).setCell (by simp) _).setCell (by simp) _⟩
set_option maxHeartbeats 4000000 in
theorem rsync_ok (secs : List ByteArray) (pend : List (Int × ByteArray)) (off : Bool) (fuse : Int) (v : Value) (w : World) (h : DiskV w v ⟨secs, pend, off, fuse⟩) (hok : Hid (okB ⟨secs, pend, off, fuse⟩ = true)) (hfu : Hid ((Lit.int .i64 fuse).wf = true)) :
    Calls Try.prog 23 #[v] w (Res w (syncE ⟨secs, pend, off, fuse⟩)) := by
  have hsl : (secs.length : Int) ≤ 1024 := by have := (okp hok.out).2.1; dsimp only at this; omega
  have hpl : (pend.length : Int) ≤ 4096 := by have := (okp hok.out).2.2.1; dsimp only at this; omega
  have hin : Hid (∀ p ∈ pend, 0 ≤ p.1 ∧ p.1 < secs.length) := hid (okB_in hok.out)
  have hv := hid h
  obtain ⟨sv, pv, rfl, hs, hp⟩ := h
  obtain ⟨so, scap, rfl, _⟩ := hs.form
  obtain ⟨po, pcap, rfl, _⟩ := hp.form
  have hk := hid (chk_ok hok.out)
  have hn := hid (okB_secs hok.out)
  have hm := hid (okB_pend hok.out)
  clear hs hp
  go_enter Try.func23, Try.ntmps23
  go_wp2_with fail
  refine (rcheck_any _ _ _ (hv.out.below (by go_grown))).mono ?_
  rintro e w1 ⟨rfl, hb1⟩
  have hb1w : Below w.heap.size w w1 := (show Below w.heap.size w _ from by go_grown).trans (hb1.mono (by simp; omega))
  have D1 : Blk w1 w.heap.size [.slice so secs.length scap, .slice po pend.length pcap, .bool off, .int .i64 fuse] 25 := ((Blk.new w _ _).alloc _).below hb1 (by simp; omega)
  have R1 : Blk w1 (w.heap.size + 1) [.slice none 0 0, .slice none 0 0, .bool false, .int .i64 0] 25 := (Blk.new' _ _ _ _ (by simp)).below hb1 (by simp)
  obtain ⟨d0, d1, d2, d3, df⟩ := D1.four
  have D1' := hid D1
  have R1' := hid R1
  have hb1' := hid hb1w
  clear D1 R1 hb1 hb1w
  rw [hk.out]
  go_wp2_with fail
  refine (rcopy_any _ _ _ (hv.out.below hb1'.out) hn.out hm.out).mono ?_
  rintro e w2 ⟨sv2, pv2, rfl, hown, hb2⟩
  clear d0 d1 d2 d3 df
  obtain ⟨so2, sc2, rfl, _⟩ := ownsRow_form hown.secs
  obtain ⟨po2, pc2, rfl, _⟩ := ownsRow_form hown.pend
  have D2 := D1'.out.below hb2 D1'.out.lt
  have R2 := R1'.out.below hb2 R1'.out.lt
  obtain ⟨d0, d1, d2, d3, df⟩ := D2.four
  dsimp only at hown
  go_upto_region 4 with (fail)
  have hsz1 : w.heap.size + 2 ≤ w1.heap.size := by have := R1'.out.lt; omega
  obtain ⟨D3, O3, hb3⟩ := box4 D2 (hown.mono hsz1) (by omega : w.heap.size < w.heap.size + 2) (bt hb1'.out hb2) (Nat.le_refl _) (.slice so2 secs.length sc2) (.slice po2 pend.length pc2) (.bool off) (.int .i64 fuse)
  have R3 := hid ((((R2.other (p := ⟨w.heap.size, 0, none⟩) (by simp) (.slice so2 secs.length sc2)).other (p := ⟨w.heap.size, 1, none⟩) (by simp) (.slice po2 pend.length pc2)).other (p := ⟨w.heap.size, 2, none⟩) (by simp) (.bool off)).other (p := ⟨w.heap.size, 3, none⟩) (by simp) (.int .i64 fuse))
  clear hown hb2 D2 R2 hsz1 d0 d1 d2 d3 df D1' R1' hb1' hv
  generalize (((w2.setCell ⟨w.heap.size, 0, none⟩ (.slice so2 secs.length sc2)).setCell ⟨w.heap.size, 1, none⟩ (.slice po2 pend.length pc2)).setCell ⟨w.heap.size, 2, none⟩ (.bool off)).setCell ⟨w.heap.size, 3, none⟩ (.int .i64 fuse) = W at D3 R3 O3 hb3 ⊢
  obtain ⟨d0, d1, d2, d3, df⟩ := D3.out.four
  obtain ⟨r0, r1, r2, r3, rf⟩ := R3.out.four
  cases off with
  | true =>
    have hE : Hid (syncE ⟨secs, pend, true, fuse⟩ = (⟨secs, pend, true, fuse⟩, 15)) := hid (by unfold syncE workE; rw [hok.out]; rfl)
    go_wp2_with fail
    obtain ⟨F5, O5, b5⟩ := box4 R3.out O3.out (by omega : w.heap.size + 1 < w.heap.size + 2) hb3.out (by omega : w.heap.size ≤ w.heap.size + 1) (.slice so2 secs.length sc2) (.slice po2 pend.length pc2) (.bool true) (.int .i64 fuse)
    obtain ⟨q0, q1, q2, q3, qf⟩ := F5.out.four
    refine bodyPost_ret (v := .tuple #[.agg #[.slice so2 secs.length sc2, .slice po2 pend.length pc2, .bool true, .int .i64 fuse], .int .i64 (15)]) (by simp [results, Try.results23, go_sem, q0, q1, q2, q3]) rfl ?_
    rw [hE.out]
    exact ⟨_, _, rfl, OwnDisk.mono (B := w.heap.size + 2) (B' := w.heap.size) (d := ⟨secs, pend, true, fuse⟩) ⟨O5.out.secs, O5.out.far⟩ (by omega), b5.out⟩
  | false =>
    have hE : Hid (syncE ⟨secs, pend, false, fuse⟩ = if fuse = 0 then (⟨secs, pend, true, fuse⟩, 15) else (⟨sett yes pend secs pend.length, [], false, fuseE fuse⟩, 0)) := hid (by unfold syncE workE fuseE; rw [hok.out]; simp [syncD])
    by_cases hz : fuse = 0
    · subst hz
      go_wp2_with fail
      refine (burnt_0 _ _ _ _ _ _ _ _).mono ?_
      rintro e w5 ⟨rfl, b5⟩
      have D5 := D3.out.below b5 D3.out.lt
      have R5 := R3.out.below b5 R3.out.lt
      obtain ⟨D6, O6, h6⟩ := box4 D5 (O3.out.below b5) (by omega : w.heap.size < w.heap.size + 2) (bt hb3.out b5) (Nat.le_refl _) (.slice so2 secs.length sc2) (.slice po2 pend.length pc2) (.bool true) (.int .i64 0)
      have R6 := hid ((((R5.other (p := ⟨w.heap.size, 0, none⟩) (by simp) (.slice so2 secs.length sc2)).other (p := ⟨w.heap.size, 1, none⟩) (by simp) (.slice po2 pend.length pc2)).other (p := ⟨w.heap.size, 2, none⟩) (by simp) (.bool true)).other (p := ⟨w.heap.size, 3, none⟩) (by simp) (.int .i64 0))
      clear d0 d1 d2 d3 df r0 r1 r2 r3 rf
      obtain ⟨d0, d1, d2, d3, df⟩ := D5.four
      obtain ⟨r0, r1, r2, r3, rf⟩ := R5.four
      clear D5 R5 b5
      go_upto_region 7 with fail
      clear d0 d1 d2 d3 df r0 r1 r2 r3 rf D3 R3 O3 hb3
      generalize (((w5.setCell ⟨w.heap.size, 0, none⟩ (.slice so2 secs.length sc2)).setCell ⟨w.heap.size, 1, none⟩ (.slice po2 pend.length pc2)).setCell ⟨w.heap.size, 2, none⟩ (.bool true)).setCell ⟨w.heap.size, 3, none⟩ (.int .i64 0) = W6 at D6 O6 h6 R6 ⊢
      obtain ⟨d0, d1, d2, d3, df⟩ := D6.out.four
      obtain ⟨r0, r1, r2, r3, rf⟩ := R6.out.four
      go_wp2_with fail
      obtain ⟨F5, O5, b5⟩ := box4 R6.out O6.out (by omega : w.heap.size + 1 < w.heap.size + 2) h6.out (by omega : w.heap.size ≤ w.heap.size + 1) (.slice so2 secs.length sc2) (.slice po2 pend.length pc2) (.bool true) (.int .i64 0)
      obtain ⟨q0, q1, q2, q3, qf⟩ := F5.out.four
      refine bodyPost_ret (v := .tuple #[.agg #[.slice so2 secs.length sc2, .slice po2 pend.length pc2, .bool true, .int .i64 0], .int .i64 (15)]) (by simp [results, Try.results23, go_sem, q0, q1, q2, q3]) rfl ?_
      rw [hE.out]; first | rw [if_pos rfl] | rw [if_pos trivial]
      exact ⟨_, _, rfl, OwnDisk.mono (B := w.heap.size + 2) (B' := w.heap.size) (d := ⟨secs, pend, true, 0⟩) ⟨O5.out.secs, O5.out.far⟩ (by omega), b5.out⟩
    · have hz' := hid hz
      clear hz
      go_wp2_with fail
      refine (burnt_1 _ _ _ _ _ _ _ _ _ hz'.out hfu.out).mono ?_
      rintro e w5 ⟨rfl, b5⟩
      have D5 := D3.out.below b5 D3.out.lt
      have R5 := R3.out.below b5 R3.out.lt
      generalize hff : fuseE fuse = ff at *
      obtain ⟨D6, O6, h6⟩ := box4 D5 (O3.out.below b5) (by omega : w.heap.size < w.heap.size + 2) (bt hb3.out b5) (Nat.le_refl _) (.slice so2 secs.length sc2) (.slice po2 pend.length pc2) (.bool false) (.int .i64 ff)
      have R6 := hid ((((R5.other (p := ⟨w.heap.size, 0, none⟩) (by simp) (.slice so2 secs.length sc2)).other (p := ⟨w.heap.size, 1, none⟩) (by simp) (.slice po2 pend.length pc2)).other (p := ⟨w.heap.size, 2, none⟩) (by simp) (.bool false)).other (p := ⟨w.heap.size, 3, none⟩) (by simp) (.int .i64 ff))
      clear d0 d1 d2 d3 df r0 r1 r2 r3 rf hff
      obtain ⟨d0, d1, d2, d3, df⟩ := D5.four
      obtain ⟨r0, r1, r2, r3, rf⟩ := R5.four
      clear D5 R5 b5
      go_upto_region 7 with fail
      clear d0 d1 d2 d3 df r0 r1 r2 r3 rf D3 R3 O3 hb3
      generalize (((w5.setCell ⟨w.heap.size, 0, none⟩ (.slice so2 secs.length sc2)).setCell ⟨w.heap.size, 1, none⟩ (.slice po2 pend.length pc2)).setCell ⟨w.heap.size, 2, none⟩ (.bool false)).setCell ⟨w.heap.size, 3, none⟩ (.int .i64 ff) = W6 at D6 O6 h6 R6 ⊢
      obtain ⟨d0, d1, d2, d3, df⟩ := D6.out.four
      have hap := hid O6.out.apart
      go_wp2_with fail
      go_loopw [27] (fun i wr => ∃ k : Nat, k ≤ pend.length ∧ i = .int .i64 k ∧ Blk wr w.heap.size [.slice so2 secs.length sc2, .slice po2 pend.length pc2, .bool false, .int .i64 ff] 25 ∧ Blk wr (w.heap.size + 1) [.slice none 0 0, .slice none 0 0, .bool false, .int .i64 0] 25 ∧
        wr.ownsRow (w.heap.size + 2) 9 1 (.slice so2 secs.length sc2) secs.length (strC (sett yes pend secs k)) ∧ wr.ownsRow (w.heap.size + 2) 96 2 (.slice po2 pend.length pc2) pend.length (prC pend) ∧ Below w.heap.size w wr) (fun i _ => pend.length - (intOf i).toNat)
      case atStart => exact ⟨0, by omega, rfl, D6.out, R6.out, O6.out.secs, O6.out.pend, h6.out⟩
      case round =>
        clear d0 d1 d2 d3 df D6 R6 O6 h6
        obtain ⟨k, hk, rfl, hD, hR, hs, hp, hbr⟩ := hrel
        obtain ⟨c0, c1, c2, c3, cf⟩ := hD.four
        have hBr : w.heap.size + 2 ≤ wr.heap.size := hR.lt
        by_cases hlt : k < pend.length
        · obtain ⟨pg, pcap', hv, hpg, hpgs⟩ := ownsRow_some hp (by omega)
          simp only [Value.slice.injEq] at hv
          obtain ⟨rfl, -, rfl⟩ := hv
          obtain ⟨g, scap', hv, hg, hgs⟩ := ownsRow_some hs (by have := hin.out pend[k] (List.getElem_mem hlt); omega)
          simp only [Value.slice.injEq] at hv
          obtain ⟨rfl, -, rfl⟩ := hv
          have hne : g ≠ pg := fun e => hap.out g rfl (by simp [Value.ownBlock, e])
          have p0 := hp.cellAt (k * 2) (by omega)
          have p1 := hp.cellAt (k * 2 + 1) (by omega)
          rw [prC_get0 pend k hlt] at p0
          rw [prC_get1 pend k hlt] at p1
          have hstep := hid (settle_step2 (kp := yes) hlt rfl rfl hg hne hBr (by omega : w.heap.size ≤ w.heap.size + 2) hbr hs hp)
          obtain ⟨hio1, hio2⟩ := hin.out pend[k] (List.getElem_mem hlt)
          have hq0 := hs.cellAt pend[k].1.toNat (by omega)
          have hq1 := hs.frozenAt pend[k].1.toNat
          rw [List.getElem?_eq_getElem (by rw [strC_len, sett_len]; omega)] at hq0
          generalize (strC (sett yes pend secs k))[pend[k].1.toNat]'_ = old at hq0
          have hDa := hid (hD.alloc (.cells #[.int .i64 pend[k].1, .string pend[k].2] 96))
          have hRa := hid (hR.alloc (.cells #[.int .i64 pend[k].1, .string pend[k].2] 96))
          have hDs := hid ((hD.other (p := ⟨g, pend[k].1.toNat, none⟩) (by simp; omega) (.string pend[k].2)).alloc (.cells #[.int .i64 pend[k].1, .string pend[k].2] 96))
          have hRs := hid ((hR.other (p := ⟨g, pend[k].1.toNat, none⟩) (by simp; omega) (.string pend[k].2)).alloc (.cells #[.int .i64 pend[k].1, .string pend[k].2] 96))
          have hal : Below wr.heap.size wr (wr.alloc (.cells #[.int .i64 pend[k].1, .string pend[k].2] 96)) := (Below.refl _ wr).alloc (Nat.le_refl _) _
          have c0a := cell_below hal _ _ c0
          have q0a := cell_below hal _ _ hq0
          have q1a := (hal.frozen (p := ⟨g, pend[k].1.toNat, none⟩) hgs).trans hq1
          clear hs hp hD hR hal hq0 hq1
          obtain ⟨n1, n2, n3⟩ := hstep.out.2 rfl
          clear hstep
          go_wp2_with fail
          go_roundw
          case rel => exact ⟨k + 1, by omega, by go_num, hDs.out, hRs.out, n1, n2, n3⟩
          case measure => simp [intOf]; omega
        · obtain rfl : k = pend.length := by omega
          have hs' := hid hs
          have hD' := hid hD
          have hR' := hid hR
          have hb' := hid hbr
          have O7 := hid (own_setCell (own_nil false ff (sett_len yes pend secs pend.length).symm hs hBr) (p := ⟨w.heap.size, 1, none⟩) (by simp) (.slice none 0 0))
          have R7 := hid (hR.other (p := ⟨w.heap.size, 1, none⟩) (by simp) (.slice none 0 0))
          have h7 := hid (hbr.setCell (p := ⟨w.heap.size, 1, none⟩) (Nat.le_refl _) (.slice none 0 0))
          have D7 := hid (hD.set 1 (.slice none 0 0))
          clear hs hp hD hbr hBr
          go_upto_region 15 with fail
          clear c0 c1 c2 c3 cf hD' hb' hR'
          generalize wr.setCell ⟨w.heap.size, 1, none⟩ (.slice none 0 0) = W7 at O7 R7 h7 D7 ⊢
          obtain ⟨d0, d1, d2, d3, df⟩ := D7.out.four
          obtain ⟨r0, r1, r2, r3, rf⟩ := R7.out.four
          clear hR
          go_wp2_with fail
          obtain ⟨F5, O5, b5⟩ := box4 R7.out O7.out (by omega : w.heap.size + 1 < w.heap.size + 2) h7.out (by omega : w.heap.size ≤ w.heap.size + 1) (.slice so2 secs.length sc2) (.slice none 0 0) (.bool false) (.int .i64 ff)
          obtain ⟨q0, q1, q2, q3, qf⟩ := F5.out.four
          refine bodyPost_ret (v := .tuple #[.agg #[.slice so2 secs.length sc2, .slice none 0 0, .bool false, .int .i64 ff], .int .i64 (0)]) (by simp [results, Try.results23, go_sem, q0, q1, q2, q3]) rfl ?_
          rw [hE.out]; first | rw [if_neg hz'.out] | skip
          exact ⟨_, _, rfl, OwnDisk.mono (B := w.heap.size + 2) (B' := w.heap.size) (d := ⟨sett yes pend secs pend.length, [], false, ff⟩) ⟨O5.out.secs, O5.out.far⟩ (by omega), b5.out⟩
theorem rsync_any (d : Disk) (v : Value) (w : World) (h : DiskV w v d) (hfu : (Lit.int .i64 d.fuse).wf = true) :
    Calls Try.prog 23 #[v] w (Res w (syncE d)) := by
  cases hok : okB d with
  | false =>
    have e : syncE d = (zeroDisk, 13) := by unfold syncE workE; rw [hok]; rfl
    rw [e]; exact rsync_bad d v w h (hid hok)
  | true =>
    obtain ⟨secs, pend, off, fuse⟩ := d
    exact rsync_ok secs pend off fuse v w h (hid hok) (hid hfu)
end Go.Proofs.Ytgplioocnbjhaaa.Sector
