/-
  The document's Crash.
-/
import Derived.Test.YtgplioocnbjhaaaSectorRefSync
namespace Go.Proofs.Ytgplioocnbjhaaa.Sector
open Go.ChangeShapes Go.WideShapes Go.ChangeAt Go.RowKit
open Go.Proofs.Ytgplioocnbjhaaa.Mem
set_option linter.unusedVariables false
theorem rcrash_bad (d : Disk) (v kv : Value) (w : World) (h : DiskV w v d) (hok : Hid (okB d = false)) :
    Calls Try.prog 27 #[v, kv] w (Res w (zeroDisk, 13)) := by
  have hv := hid h
  obtain ⟨sv, pv, rfl, hs, hp⟩ := h
  obtain ⟨so, scap, rfl, _⟩ := hs.form
  obtain ⟨po, pcap, rfl, _⟩ := hp.form
  have hk := hid (chk_bad hok.out)
  clear hs hp
  go_enter Try.func27, Try.ntmps27
  go_wp2_with fail
  refine (rcheck_any d _ _ (hv.out.below (by go_grown))).mono ?_
  rintro e w1 ⟨rfl, hb1⟩
  have hb1w : Below w.heap.size w w1 := (show Below w.heap.size w _ from by go_grown).trans (hb1.mono (by simp; omega))
  have R1 : Blk w1 (w.heap.size + 1) [.slice none 0 0, .slice none 0 0, .bool false, .int .i64 0] 25 := (Blk.new' _ _ _ _ (by simp)).below hb1 (by simp)
  have R5 := (((R1.set 0 (.slice none 0 0)).set 1 (.slice none 0 0)).set 2 (.bool false)).set 3 (.int .i64 0)
  simp only [List.set_cons_zero, List.set_cons_succ] at R5
  have R5' := hid R5
  obtain ⟨q0, q1, q2, q3, qf⟩ := R1.four
  have hb1' := hid hb1w
  clear R5 R1 hb1 hb1w hv
  rw [hk.out]
  go_wp2_with fail
  obtain ⟨q0, q1, q2, q3, qf⟩ := R5'.out.four
  refine bodyPost_ret (v := .tuple #[.agg #[.slice none 0 0, .slice none 0 0, .bool false, .int .i64 0], .int .i64 13]) (by simp [results, Try.results27, go_sem, q0, q1, q2, q3]) rfl ?_
  exact ⟨_, _, rfl, zero_own (by simp; have := hb1'.out.size; omega), (((hb1'.out.setCell (by simp) _).setCell (by simp) _).setCell (by simp) _).setCell (by simp) _⟩
set_option maxHeartbeats 4000000 in
theorem rcrash_ok (secs : List ByteArray) (pend : List (Int × ByteArray)) (off : Bool) (fuse : Int) (v kv : Value) (l : List Bool) (w : World) (h : DiskV w v ⟨secs, pend, off, fuse⟩) (hkv : BoolsV w kv l) (hok : Hid (okB ⟨secs, pend, off, fuse⟩ = true)) :
    Calls Try.prog 27 #[v, kv] w (Res w (crashD ⟨secs, pend, off, fuse⟩ l, 0)) := by
  have hsl : (secs.length : Int) ≤ 1024 := by have := (okp hok.out).2.1; dsimp only at this; omega
  have hpl : (pend.length : Int) ≤ 4096 := by have := (okp hok.out).2.2.1; dsimp only at this; omega
  have hin : Hid (∀ p ∈ pend, 0 ≤ p.1 ∧ p.1 < secs.length) := hid (okB_in hok.out)
  have hkl := hkv.len
  unfold maxLen at hkl
  obtain ⟨ko, kcap, rfl, _⟩ := hkv.form
  have hkv' := hid hkv
  clear hkv
  have hv := hid h
  obtain ⟨sv, pv, rfl, hs, hp⟩ := h
  obtain ⟨so, scap, rfl, _⟩ := hs.form
  obtain ⟨po, pcap, rfl, _⟩ := hp.form
  have hk := hid (chk_ok hok.out)
  have hn := hid (okB_secs hok.out)
  have hm := hid (okB_pend hok.out)
  clear hs hp
  go_enter Try.func27, Try.ntmps27
  go_wp2_with fail
  refine (rcheck_any _ _ _ (hv.out.below (by go_grown))).mono ?_
  rintro e w1 ⟨rfl, hb1⟩
  have hb1w : Below w.heap.size w w1 := (show Below w.heap.size w _ from by go_grown).trans (hb1.mono (by simp; omega))
  have D1 : Blk w1 w.heap.size [.slice so secs.length scap, .slice po pend.length pcap, .bool off, .int .i64 fuse] 25 := ((Blk.new w _ _).alloc _).below hb1 (by simp; omega)
  have R1 : Blk w1 (w.heap.size + 1) [.slice none 0 0, .slice none 0 0, .bool false, .int .i64 0] 25 := (Blk.new' _ _ _ _ (by simp)).below hb1 (by simp)
  obtain ⟨d0, d1, d2, d3, df⟩ := D1.four
  have D1' := hid D1
  have R1' := hid R1
  have hb1' := hid hb1w
  clear D1 R1 hb1 hb1w
  rw [hk.out]
  go_wp2_with fail
  refine (rcopy_any _ _ _ (hv.out.below hb1'.out) hn.out hm.out).mono ?_
  rintro e w2 ⟨sv2, pv2, rfl, hown, hb2⟩
  clear d0 d1 d2 d3 df
  obtain ⟨so2, sc2, rfl, _⟩ := ownsRow_form hown.secs
  obtain ⟨po2, pc2, rfl, _⟩ := ownsRow_form hown.pend
  have D2 := D1'.out.below hb2 D1'.out.lt
  have R2 := R1'.out.below hb2 R1'.out.lt
  obtain ⟨d0, d1, d2, d3, df⟩ := D2.four
  dsimp only at hown
  go_upto_region 4 with (fail)
  have hsz1 : w.heap.size + 2 ≤ w1.heap.size := by have := R1'.out.lt; omega
  obtain ⟨D3, O3, hb3⟩ := box4 D2 (hown.mono hsz1) (by omega : w.heap.size < w.heap.size + 2) (bt hb1'.out hb2) (Nat.le_refl _) (.slice so2 secs.length sc2) (.slice po2 pend.length pc2) (.bool off) (.int .i64 fuse)
  have R3 := hid ((((R2.other (p := ⟨w.heap.size, 0, none⟩) (by simp) (.slice so2 secs.length sc2)).other (p := ⟨w.heap.size, 1, none⟩) (by simp) (.slice po2 pend.length pc2)).other (p := ⟨w.heap.size, 2, none⟩) (by simp) (.bool off)).other (p := ⟨w.heap.size, 3, none⟩) (by simp) (.int .i64 fuse))
  clear hown hb2 D2 R2 hsz1 d0 d1 d2 d3 df D1' R1' hb1' hv
  generalize (((w2.setCell ⟨w.heap.size, 0, none⟩ (.slice so2 secs.length sc2)).setCell ⟨w.heap.size, 1, none⟩ (.slice po2 pend.length pc2)).setCell ⟨w.heap.size, 2, none⟩ (.bool off)).setCell ⟨w.heap.size, 3, none⟩ (.int .i64 fuse) = W at D3 R3 O3 hb3 ⊢
  obtain ⟨d0, d1, d2, d3, df⟩ := D3.out.four
  obtain ⟨r0, r1, r2, r3, rf⟩ := R3.out.four
  have hap := hid O3.out.apart
  go_wp2_with fail
  go_loopw [17] (fun i wr => ∃ k : Nat, k ≤ pend.length ∧ i = .int .i64 k ∧ Blk wr w.heap.size [.slice so2 secs.length sc2, .slice po2 pend.length pc2, .bool off, .int .i64 fuse] 25 ∧ Blk wr (w.heap.size + 1) [.slice none 0 0, .slice none 0 0, .bool false, .int .i64 0] 25 ∧
    wr.ownsRow (w.heap.size + 2) 9 1 (.slice so2 secs.length sc2) secs.length (strC (sett (kept l) pend secs k)) ∧ wr.ownsRow (w.heap.size + 2) 96 2 (.slice po2 pend.length pc2) pend.length (prC pend) ∧ Below w.heap.size w wr) (fun i _ => pend.length - (intOf i).toNat)
  case atStart => exact ⟨0, by omega, rfl, D3.out, R3.out, O3.out.secs, O3.out.pend, hb3.out⟩
  case round =>
    clear d0 d1 d2 d3 df r0 r1 r2 r3 rf D3 R3 O3 hb3
    obtain ⟨k, hk, rfl, hD, hR, hs, hp, hbr⟩ := hrel
    obtain ⟨c0, c1, c2, c3, cf⟩ := hD.four
    have hBr : w.heap.size + 2 ≤ wr.heap.size := hR.lt
    by_cases hlt : k < pend.length
    · obtain ⟨pg, pcap', hv, hpg, hpgs⟩ := ownsRow_some hp (by omega)
      simp only [Value.slice.injEq] at hv
      obtain ⟨rfl, -, rfl⟩ := hv
      obtain ⟨g, scap', hv, hg, hgs⟩ := ownsRow_some hs (by have := hin.out pend[k] (List.getElem_mem hlt); omega)
      simp only [Value.slice.injEq] at hv
      obtain ⟨rfl, -, rfl⟩ := hv
      have hne : g ≠ pg := fun e => hap.out g rfl (by simp [Value.ownBlock, e])
      have p0 := hp.cellAt (k * 2) (by omega)
      have p1 := hp.cellAt (k * 2 + 1) (by omega)
      rw [prC_get0 pend k hlt] at p0
      rw [prC_get1 pend k hlt] at p1
      have hstep := hid (settle_step2 (kp := (kept l)) hlt rfl rfl hg hne hBr (by omega : w.heap.size ≤ w.heap.size + 2) hbr hs hp)
      obtain ⟨hio1, hio2⟩ := hin.out pend[k] (List.getElem_mem hlt)
      have hq0 := hs.cellAt pend[k].1.toNat (by omega)
      have hq1 := hs.frozenAt pend[k].1.toNat
      rw [List.getElem?_eq_getElem (by rw [strC_len, sett_len]; omega)] at hq0
      generalize (strC (sett (kept l) pend secs k))[pend[k].1.toNat]'_ = old at hq0
      have hDa := hid (hD.alloc (.cells #[.int .i64 pend[k].1, .string pend[k].2] 96))
      have hRa := hid (hR.alloc (.cells #[.int .i64 pend[k].1, .string pend[k].2] 96))
      have hDs := hid ((hD.other (p := ⟨g, pend[k].1.toNat, none⟩) (by simp; omega) (.string pend[k].2)).alloc (.cells #[.int .i64 pend[k].1, .string pend[k].2] 96))
      have hRs := hid ((hR.other (p := ⟨g, pend[k].1.toNat, none⟩) (by simp; omega) (.string pend[k].2)).alloc (.cells #[.int .i64 pend[k].1, .string pend[k].2] 96))
      have hal : Below wr.heap.size wr (wr.alloc (.cells #[.int .i64 pend[k].1, .string pend[k].2] 96)) := (Below.refl _ wr).alloc (Nat.le_refl _) _
      have c0a := cell_below hal _ _ c0
      have q0a := cell_below hal _ _ hq0
      have q1a := (hal.frozen (p := ⟨g, pend[k].1.toNat, none⟩) hgs).trans hq1
      clear hs hp hD hR hal hq0 hq1
      by_cases hkk : k < l.length
      · obtain ⟨kb, koff, kcap', hv, _, _, hkb, hkc⟩ := BoolsV.open hkv'.out (by omega)
        simp only [Value.slice.injEq] at hv
        obtain ⟨rfl, -, rfl⟩ := hv
        have kc' := (hbr.cell (p := ⟨kb, koff + k, none⟩) hkb).trans (hkc k hkk)
        have kc := cell_below ((Below.refl _ wr).alloc (Nat.le_refl _) (.cells #[.int .i64 pend[k].1, .string pend[k].2] 96)) _ _ kc'
        clear kc'
        have hkd : Hid (kept l k = l[k]) := hid (by simp [kept, List.getD, hkk])
        clear hkc hkb hbr hBr
        have hkz : (k : Int) < (l.length : Int) := by omega
        cases hb : l[k] with
        | true =>
          rw [hb] at kc hkd
          clear hb
          obtain ⟨n1, n2, n3⟩ := hstep.out.2 hkd.out
          clear hstep
          go_wp2_with fail
          go_roundw
          case rel => exact ⟨k + 1, by omega, by go_num, hDs.out, hRs.out, n1, n2, n3⟩
          case measure => simp [intOf]; omega
        | false =>
          rw [hb] at kc hkd
          clear hb
          obtain ⟨n1, n2, n3⟩ := hstep.out.1 hkd.out
          clear hstep c0a q0a q1a
          go_wp2_with fail
          go_roundw
          case rel => exact ⟨k + 1, by omega, by go_num, hDa.out, hRa.out, n1, n2, n3⟩
          case measure => simp [intOf]; omega
      · have hkd : Hid (kept l k = false) := hid (by simp [kept, List.getD, hkk])
        have hkz : ¬ (k : Int) < (l.length : Int) := by omega
        clear hbr hBr hkk
        obtain ⟨n1, n2, n3⟩ := hstep.out.1 hkd.out
        clear hstep c0a q0a q1a
        go_wp2_with fail
        go_roundw
        case rel => exact ⟨k + 1, by omega, by go_num, hDa.out, hRa.out, n1, n2, n3⟩
        case measure => simp [intOf]; omega
    · obtain rfl : k = pend.length := by omega
      have O7 := hid (own_nil false (-1) (sett_len (kept l) pend secs pend.length).symm hs hBr)
      have R7 := hid hR
      have h7 := hid hbr
      obtain ⟨r0, r1, r2, r3, rf⟩ := hR.four
      clear hs hp hD hbr hBr hR
      go_wp2_with fail
      obtain ⟨F5, O5, b5⟩ := box4 R7.out O7.out (by omega : w.heap.size + 1 < w.heap.size + 2) h7.out (by omega : w.heap.size ≤ w.heap.size + 1) (.slice so2 secs.length sc2) (.slice none 0 0) (.bool false) (.int .i64 (-1))
      obtain ⟨q0, q1, q2, q3, qf⟩ := F5.out.four
      refine bodyPost_ret (v := .tuple #[.agg #[.slice so2 secs.length sc2, .slice none 0 0, .bool false, .int .i64 (-1)], .int .i64 (0)]) (by simp [results, Try.results27, go_sem, q0, q1, q2, q3]) rfl ?_
      skip
      exact ⟨_, _, rfl, OwnDisk.mono (B := w.heap.size + 2) (B' := w.heap.size) (d := crashD ⟨secs, pend, off, fuse⟩ l) ⟨O5.out.secs, O5.out.far⟩ (by omega), b5.out⟩
theorem rcrash_any (d : Disk) (v kv : Value) (l : List Bool) (w : World) (h : DiskV w v d) (hk : BoolsV w kv l) :
    Calls Try.prog 27 #[v, kv] w (Res w (crashE d l)) := by
  unfold crashE
  cases hok : okB d with
  | false => rw [if_neg (by simp)]; exact rcrash_bad d v kv w h (hid hok)
  | true =>
    rw [if_pos rfl]
    obtain ⟨secs, pend, off, fuse⟩ := d
    exact rcrash_ok secs pend off fuse v kv l w h hk (hid hok)
end Go.Proofs.Ytgplioocnbjhaaa.Sector
