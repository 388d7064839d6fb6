/-
  TopSums: the walk (written by wip/topwalk.py).
-/
import Derived.Test.YtgplioocnbjhaaaTopMath
import Derived.Test.YtgplioocnbjhaaaCrcFlp
import Derived.Test.YtgplioocnbjhaaaSectorLives
namespace Go.Proofs.Ytgplioocnbjhaaa.topSums
open Go.ChangeShapes Go.WideShapes Go.ChangeAt Go.RowKit
open Go.Proofs.Ytgplioocnbjhaaa.Mem Go.Proofs.Ytgplioocnbjhaaa.Sector Go.Proofs.Ytgplioocnbjhaaa.Top
set_option linter.unusedVariables false
set_option maxRecDepth 100000
/-- A disk in a box. -/
def DB (D : Nat) (W : World) (d : Disk) : Prop := ∃ so sc po pc, Blk W D [.slice so d.secs.length sc, .slice po d.pend.length pc, .bool d.off, .int .i64 d.fuse] 25 ∧ DiskV W (.agg #[.slice so d.secs.length sc, .slice po d.pend.length pc, .bool d.off, .int .i64 d.fuse]) d
theorem Okd.more {d : Disk} {k m : Nat} (h : Okd d k) (hm : k ≤ m) : Okd d m := ⟨h.ok, h.off, h.fuse, h.four, Nat.le_trans h.pl hm, h.gs, h.gp⟩
theorem bs_toList (l : List UInt8) : (Rec.bs l).data.toList = l := by simp [Rec.bs]
set_option maxHeartbeats 4000000 in
theorem walk (v0 : Value) (a0 : List ByteArray) (v1 : Value) (a1 : List Bool) (v2 : Value) (a2 : List Bool) (bit : Int) (w : World) (w0 : StrsV w v0 a0) (w1 : BoolsV w v1 a1) (w2 : BoolsV w v2 a2) (w3 : (Lit.int .i64 bit).wf = true) :
    Calls Try.prog 16 #[v0, v1, v2, .int .i64 bit] w fun e w' => e = .returned (.bool true) ∧ Below w.heap.size w w' := by
  have w0' := hid w0
  have w1' := hid w1
  have w2' := hid w2
  have hbit := bounds_i64 w3
  have hbit' := hid hbit
  have hl1 : a1.length ≤ 9223372036854775807 := by have := w1.len; unfold maxLen at this; omega
  obtain ⟨tto, tcap, rfl, _⟩ := w0.form
  obtain ⟨yo, ycap, rfl, _⟩ := w1.form
  obtain ⟨ko, kcap, rfl, _⟩ := w2.form
  clear w0 w1 w2 w3 hbit
  go_enter Try.func16, Try.ntmps16
  go_wp2_with fail
  refine (begins_any _).mono ?_
  rintro e w1 ⟨rfl, b1⟩
  have hB1 := hid b1
  clear b1
  go_wp2_with fail
  refine (new_any 4 _).mono ?_
  rw [new_four]
  rintro e w2 hr
  obtain ⟨so2, sc2, po2, pc2, rfl, o2, b2⟩ := hr.open
  clear hr
  dsimp only at o2
  have hC : Hid (w.heap.size ≤ w2.heap.size) := hid (bt hB1.out b2).size
  have D3 := hid (Blk.new w2 [.slice so2 (preD 0).secs.length sc2, .slice po2 (preD 0).pend.length pc2, .bool (preD 0).off, .int .i64 (preD 0).fuse] 25)
  have V3 := hid (o2.v.below ((Below.refl _ w2).alloc (Nat.le_refl _) (.cells #[.slice so2 (preD 0).secs.length sc2, .slice po2 (preD 0).pend.length pc2, .bool (preD 0).off, .int .i64 (preD 0).fuse] 25)))
  have hB3 := hid ((bt hB1.out b2).alloc hC.out (.cells #[.slice so2 (preD 0).secs.length sc2, .slice po2 (preD 0).pend.length pc2, .bool (preD 0).off, .int .i64 (preD 0).fuse] 25))
  clear o2 b2 hB1
  by_cases hlong : 1000 < a0.length
  · have hli : 1000 < (a0.length : Int) := by omega
    clear hlong D3 V3
    go_wp2_with fail
    go_ret
    exact ⟨rfl, hB3.out⟩
  have hli : ¬ 1000 < (a0.length : Int) := by omega
  obtain ⟨d0, d1, d2, d3, df⟩ := D3.out.four
  go_upto_region 6 with fail
  generalize hX : w2.alloc (.cells #[.slice so2 (preD 0).secs.length sc2, .slice po2 (preD 0).pend.length pc2, .bool (preD 0).off, .int .i64 (preD 0).fuse] 25) = X at D3 V3 hB3 ⊢
  clear hX d0 d1 d2 d3 df
  go_wp2_with fail
  go_loopw [11] (fun i wr => ∃ k : Nat, k ≤ 4 ∧ i = .int .i64 k ∧ DB w2.heap.size wr (preD k) ∧ Below w.heap.size w wr) (fun i _ => 4 - (intOf i).toNat)
  case atStart => exact ⟨0, by omega, rfl, ⟨_, _, _, _, D3.out, V3.out⟩, hB3.out⟩
  case round =>
    clear D3 V3 hB3
    obtain ⟨k, hk, rfl, ⟨so, sc, po, pc, hD, hV⟩, hbr⟩ := hrel
    have hbr' := hid hbr
    clear hbr
    by_cases hlt : k < 4
    · have hki : (k : Int) < 4 := by omega
      go_wp2_with fail
      refine (summed_short ⟨#[]⟩ _ (by decide)).mono ?_
      rintro e w4 ⟨rfl, b4⟩
      have D4 := hid (hD.below b4 hD.lt)
      have V4 := hid (hV.below b4)
      have hB4 := hid (bt hbr'.out b4)
      have hS : Rec.bs (summedL (⟨#[]⟩ : ByteArray).data.toList) = S0 := rfl
      rw [hS]
      clear hD hV hbr' b4 hS
      obtain ⟨d0, d1, d2, d3, df⟩ := D4.out.four
      go_wp2_with fail
      refine (put_any (preD k) _ k S0 _ V4.out rfl).mono ?_
      rw [pre_put k hlt]
      rintro e x5 hr
      obtain ⟨so5, sc5, po5, pc5, rfl, o5, b5⟩ := hr.open
      clear hr
      dsimp only at o5
      have D5 := D4.out.below b5 D4.out.lt
      obtain ⟨E5, O5, h5⟩ := box4 D5 (OwnDisk.mono (B' := w2.heap.size + 1) o5 (D4.out.lt)) (Nat.lt_succ_self _) (bt hB4.out b5) hC.out (.slice so5 (preD (k + 1)).secs.length sc5) (.slice po5 (preD (k + 1)).pend.length pc5) (.bool (preD (k + 1)).off) (.int .i64 (preD (k + 1)).fuse)
      clear d0 d1 d2 d3 df o5 b5
      obtain ⟨d0, d1, d2, d3, df⟩ := D5.four
      clear D5
      go_wp2_with fail
      go_roundw
      case rel => exact ⟨k + 1, by omega, by go_num, ⟨_, _, _, _, E5.out, O5.out.v⟩, h5.out⟩
      case measure => simp [intOf]; omega
    · obtain rfl : k = 4 := by omega
      obtain ⟨q, hq, hq2⟩ := pre_sync
      have hq' := hid hq2
      have D4 := hid hD
      have V4 := hid hV
      clear hD hV hq2
      obtain ⟨d0, d1, d2, d3, df⟩ := D4.out.four
      go_wp2_with fail
      refine (sync_any (preD 4) _ _ V4.out rfl).mono ?_
      rw [hq]
      rintro e x6 hr
      obtain ⟨so6, sc6, po6, pc6, rfl, o6, b6⟩ := hr.open
      clear hr
      dsimp only at o6
      have D6 := D4.out.below b6 D4.out.lt
      obtain ⟨E6, O6, h6⟩ := box4 D6 (OwnDisk.mono (B' := w2.heap.size + 1) o6 (D4.out.lt)) (Nat.lt_succ_self _) (bt hbr'.out b6) hC.out (.slice so6 (q).secs.length sc6) (.slice po6 (q).pend.length pc6) (.bool (q).off) (.int .i64 (q).fuse)
      clear d0 d1 d2 d3 df o6 b6
      obtain ⟨d0, d1, d2, d3, df⟩ := D6.four
      clear D6
      clear hq
      go_upto_region 12 with fail
      clear d0 d1 d2 d3 df
      generalize (((x6.setCell ⟨w2.heap.size, 0, none⟩ (.slice so6 q.secs.length sc6)).setCell ⟨w2.heap.size, 1, none⟩ (.slice po6 q.pend.length pc6)).setCell ⟨w2.heap.size, 2, none⟩ (.bool q.off)).setCell ⟨w2.heap.size, 3, none⟩ (.int .i64 q.fuse) = Y at E6 O6 h6 ⊢
      clear hbr' D4 V4
      go_wp2_with fail
      go_loopw [60] (fun i wr => ∃ (k : Nat) (d : Disk), k ≤ a0.length ∧ i = .int .i64 k ∧ Okd d k ∧ DB w2.heap.size wr d ∧ Below w.heap.size w wr) (fun i _ => a0.length - (intOf i).toNat)
      case atStart => exact ⟨0, q, by omega, rfl, hq'.out, ⟨_, _, _, _, E6.out, O6.out.v⟩, h6.out⟩
      case round =>
        clear E6 O6 h6 hq'
        obtain ⟨k, d, hk, rfl, hok, ⟨so, sc, po, pc, hD, hV⟩, hbr⟩ := hrel
        have ok := hid hok
        have D7 := hid hD
        have V7 := hid hV
        have hB7 := hid hbr
        clear hok hD hV hbr
        by_cases hlt : k < a0.length
        · obtain ⟨tb, toff, tcap', hv, _, _, htb, htc⟩ := StrsV.open w0'.out (by omega)
          simp only [Value.slice.injEq] at hv
          obtain ⟨rfl, -, rfl⟩ := hv
          have tc := (hB7.out.cell (p := ⟨tb, toff + k, none⟩) htb).trans (htc k hlt)
          have hki : (k : Int) < (a0.length : Int) := by omega
          clear htc
          generalize a0[k] = t at tc
          by_cases hts : t.size ≤ 60
          · have hm4 : (k % 4 : Nat) < 4 := Nat.mod_lt _ (by omega)
            have hgt : Hid (goodB (Rec.bs (summedL t.data.toList)).data.toList = true) := hid (by rw [bs_toList]; exact good_summed _ hts)
            have hput := hid (ok.out.put (n := (k : Int) % 4) (by omega) (by omega) (by omega) hgt.out)
            have hfz := hid (ok.out.fuse)
            go_wp2_with fail
            refine (summed_short t _ hts).mono ?_
            rintro e w8 ⟨rfl, b8⟩
            have D8 := hid (D7.out.below b8 D7.out.lt)
            have V8 := hid (V7.out.below b8)
            have hB8 := hid (bt hB7.out b8)
            generalize Rec.bs (summedL t.data.toList) = s at hput hgt ⊢
            clear D7 V7 hB7 b8 tc
            obtain ⟨d0, d1, d2, d3, df⟩ := D8.out.four
            go_wp2_with fail
            refine (put_any d _ _ s _ V8.out (by rw [hfz.out]; rfl)).mono ?_
            rw [hput.out.1]
            rintro e x10 hr
            obtain ⟨so10, sc10, po10, pc10, rfl, o10, b10⟩ := hr.open
            clear hr
            dsimp only at o10
            have D10 := D8.out.below b10 D8.out.lt
            obtain ⟨E10, O10, h10⟩ := box4 D10 (OwnDisk.mono (B' := w2.heap.size + 1) o10 (D8.out.lt)) (Nat.lt_succ_self _) (bt hB8.out b10) hC.out (.slice so10 (putD d ((k : Int) % 4) s).secs.length sc10) (.slice po10 (putD d ((k : Int) % 4) s).pend.length pc10) (.bool (putD d ((k : Int) % 4) s).off) (.int .i64 (putD d ((k : Int) % 4) s).fuse)
            clear d0 d1 d2 d3 df o10 b10
            obtain ⟨d0, d1, d2, d3, df⟩ := D10.four
            clear D10
            have hok2 := hid hput.out.2
            clear hput hgt hfz D8 V8 ok
            generalize putD d ((k : Int) % 4) s = g2 at *
            go_upto_region 18 with fail
            clear d0 d1 d2 d3 df
            have V10 := hid O10.out.v
            generalize (((x10.setCell ⟨w2.heap.size, 0, none⟩ (.slice so10 g2.secs.length sc10)).setCell ⟨w2.heap.size, 1, none⟩ (.slice po10 g2.pend.length pc10)).setCell ⟨w2.heap.size, 2, none⟩ (.bool g2.off)).setCell ⟨w2.heap.size, 3, none⟩ (.int .i64 g2.fuse) = Z at E10 V10 h10 O10 ⊢
            clear O10
            obtain ⟨d0, d1, d2, d3, df⟩ := E10.out.four
            by_cases hk1 : k < a1.length
            · obtain ⟨sb, soff, scap', hv, _, _, hsb, hsc⟩ := BoolsV.open w1'.out (by omega)
              simp only [Value.slice.injEq] at hv
              obtain ⟨rfl, -, rfl⟩ := hv
              have sc' := (h10.out.cell (p := ⟨sb, soff + k, none⟩) hsb).trans (hsc k hk1)
              have hk1i : (k : Int) < (a1.length : Int) := by omega
              clear hsc
              cases hbk : a1[k] with
              | true =>
                rw [hbk] at sc'
                clear hbk
                have hsy := hid hok2.out.sync
                go_wp2_with fail
                clear sc'
                refine (sync_any g2 _ _ V10.out (by rw [hok2.out.fuse]; rfl)).mono ?_
                rw [hsy.out.1]
                rintro e x9 hr
                obtain ⟨so9, sc9, po9, pc9, rfl, o9, b9⟩ := hr.open
                clear hr
                dsimp only at o9
                have D9 := E10.out.below b9 E10.out.lt
                obtain ⟨E9, O9, h9⟩ := box4 D9 (OwnDisk.mono (B' := w2.heap.size + 1) o9 (E10.out.lt)) (Nat.lt_succ_self _) (bt h10.out b9) hC.out (.slice so9 (synD g2).secs.length sc9) (.slice po9 (synD g2).pend.length pc9) (.bool (synD g2).off) (.int .i64 (synD g2).fuse)
                clear d0 d1 d2 d3 df o9 b9
                obtain ⟨d0, d1, d2, d3, df⟩ := D9.four
                clear D9
                go_wp2_with fail
                go_roundw
                case rel => exact ⟨k + 1, synD g2, by omega, by go_num, hsy.out.2, ⟨_, _, _, _, E9.out, O9.out.v⟩, h9.out⟩
                case measure => simp [intOf]; omega
              | false =>
                rw [hbk] at sc'
                clear hbk
                go_wp2_with fail
                go_roundw
                case rel => exact ⟨k + 1, g2, by omega, by go_num, hok2.out, ⟨_, _, _, _, E10.out, V10.out⟩, h10.out⟩
                case measure => simp [intOf]; omega
            · have hk1i : ¬ (k : Int) < (a1.length : Int) := by omega
              go_wp2_with fail
              go_roundw
              case rel => exact ⟨k + 1, g2, by omega, by go_num, hok2.out, ⟨_, _, _, _, E10.out, V10.out⟩, h10.out⟩
              case measure => simp [intOf]; omega
          · have hts' : 60 < t.size := by omega
            go_wp2_with fail
            refine (summed_long t _ hts').mono ?_
            rintro e w8 ⟨rfl, rfl⟩
            clear tc
            have okm := hid (Okd.more ok.out (Nat.le_succ k))
            clear ok
            obtain ⟨d0, d1, d2, d3, df⟩ := D7.out.four
            go_upto_region 18 with fail
            by_cases hk1 : k < a1.length
            · obtain ⟨sb, soff, scap', hv, _, _, hsb, hsc⟩ := BoolsV.open w1'.out (by omega)
              simp only [Value.slice.injEq] at hv
              obtain ⟨rfl, -, rfl⟩ := hv
              have sc' := (hB7.out.cell (p := ⟨sb, soff + k, none⟩) hsb).trans (hsc k hk1)
              have hk1i : (k : Int) < (a1.length : Int) := by omega
              clear hsc
              cases hbk : a1[k] with
              | true =>
                rw [hbk] at sc'
                clear hbk
                have hsy := hid okm.out.sync
                go_wp2_with fail
                clear sc'
                refine (sync_any d _ _ V7.out (by rw [okm.out.fuse]; rfl)).mono ?_
                rw [hsy.out.1]
                rintro e x9 hr
                obtain ⟨so9, sc9, po9, pc9, rfl, o9, b9⟩ := hr.open
                clear hr
                dsimp only at o9
                have D9 := D7.out.below b9 D7.out.lt
                obtain ⟨E9, O9, h9⟩ := box4 D9 (OwnDisk.mono (B' := w2.heap.size + 1) o9 (D7.out.lt)) (Nat.lt_succ_self _) (bt hB7.out b9) hC.out (.slice so9 (synD d).secs.length sc9) (.slice po9 (synD d).pend.length pc9) (.bool (synD d).off) (.int .i64 (synD d).fuse)
                clear d0 d1 d2 d3 df o9 b9
                obtain ⟨d0, d1, d2, d3, df⟩ := D9.four
                clear D9
                go_wp2_with fail
                go_roundw
                case rel => exact ⟨k + 1, synD d, by omega, by go_num, hsy.out.2, ⟨_, _, _, _, E9.out, O9.out.v⟩, h9.out⟩
                case measure => simp [intOf]; omega
              | false =>
                rw [hbk] at sc'
                clear hbk
                go_wp2_with fail
                go_roundw
                case rel => exact ⟨k + 1, d, by omega, by go_num, okm.out, ⟨_, _, _, _, D7.out, V7.out⟩, hB7.out⟩
                case measure => simp [intOf]; omega
            · have hk1i : ¬ (k : Int) < (a1.length : Int) := by omega
              go_wp2_with fail
              go_roundw
              case rel => exact ⟨k + 1, d, by omega, by go_num, okm.out, ⟨_, _, _, _, D7.out, V7.out⟩, hB7.out⟩
              case measure => simp [intOf]; omega
        · obtain rfl : k = a0.length := by omega
          have hki : ¬ (a0.length : Int) < (a0.length : Int) := by omega
          obtain ⟨hcr, ok0⟩ := ok.out.crash a2
          have ok0' := hid ok0
          have w2'' := hid (BoolsV.below w2'.out hB7.out)
          clear ok0 ok
          obtain ⟨d0, d1, d2, d3, df⟩ := D7.out.four
          go_wp2_with fail
          refine (crash_any d _ _ a2 _ V7.out w2''.out).mono ?_
          rw [hcr]
          rintro e x11 hr
          obtain ⟨so11, sc11, po11, pc11, rfl, o11, b11⟩ := hr.open
          clear hr
          dsimp only at o11
          have D11 := D7.out.below b11 D7.out.lt
          obtain ⟨E11, O11, h11⟩ := box4 D11 (OwnDisk.mono (B' := w2.heap.size + 1) o11 (D7.out.lt)) (Nat.lt_succ_self _) (bt hB7.out b11) hC.out (.slice so11 (crashD d a2).secs.length sc11) (.slice po11 (crashD d a2).pend.length pc11) (.bool (crashD d a2).off) (.int .i64 (crashD d a2).fuse)
          clear d0 d1 d2 d3 df o11 b11
          obtain ⟨d0, d1, d2, d3, df⟩ := D11.four
          clear D11
          clear hcr D7 V7 w2''
          generalize crashD d a2 = g at *
          go_upto_region 22 with fail
          clear d0 d1 d2 d3 df
          have V11 := hid O11.out.v
          generalize (((x11.setCell ⟨w2.heap.size, 0, none⟩ (.slice so11 g.secs.length sc11)).setCell ⟨w2.heap.size, 1, none⟩ (.slice po11 g.pend.length pc11)).setCell ⟨w2.heap.size, 2, none⟩ (.bool g.off)).setCell ⟨w2.heap.size, 3, none⟩ (.int .i64 g.fuse) = Z at E11 V11 h11 O11 ⊢
          clear O11
          go_wp2_with fail
          go_loopw [18] (fun i wr => ∃ k : Nat, k ≤ 4 ∧ i = .int .i64 k ∧ DB w2.heap.size wr g ∧ Below w.heap.size w wr) (fun i _ => 4 - (intOf i).toNat)
          case atStart => exact ⟨0, by omega, rfl, ⟨_, _, _, _, E11.out, V11.out⟩, h11.out⟩
          case round =>
            clear E11 V11 h11
            obtain ⟨j, hj, rfl, ⟨so, sc, po, pc, hD, hV⟩, hbr⟩ := hrel
            have hbr' := hid hbr
            clear hbr
            by_cases hlt : j < 4
            · have hji : (j : Int) < 4 := by omega
              obtain ⟨s, hrd, hgs, hss⟩ := ok0'.out.read j hlt
              obtain ⟨d0, d1, d2, d3, df⟩ := hD.four
              have hgs' := hid hgs
              clear hgs
              go_wp2_with fail
              refine (read_any g _ j _ hV).mono ?_
              rw [hrd]
              rintro e w12 ⟨rfl, b12⟩
              have D12 := hid (hD.below b12 hD.lt)
              have V12 := hid (hV.below b12)
              have hB12 := hid (bt hbr'.out b12)
              clear hD hV hbr' b12 hrd d0 d1 d2 d3 df
              dsimp only
              go_wp2_with fail
              refine (good_any s _).mono ?_
              rw [hgs'.out]
              rintro e w13 ⟨rfl, b13⟩
              have D13 := hid (D12.out.below b13 D12.out.lt)
              have V13 := hid (V12.out.below b13)
              have hB13 := hid (bt hB12.out b13)
              clear D12 V12 hB12 b13
              go_wp2_with fail
              by_cases hbi : bit < 0 ∨ (s.size : Int) ≤ bit / 8
              · refine (Crc.flip_no s bit _ (by omega) hbi hbit'.out.2).mono ?_
                rintro e w14 ⟨rfl, rfl⟩
                go_wp2_with fail
                go_roundw
                case rel => exact ⟨j + 1, by omega, by go_num, ⟨_, _, _, _, D13.out, V13.out⟩, hB13.out⟩
                case measure => simp [intOf]; omega
              · obtain ⟨p, rfl⟩ : ∃ p : Nat, bit = p := ⟨bit.toNat, by omega⟩
                have hp8 : p / 8 < s.size := by omega
                have hgt : Hid (goodB (⟨(CrcMath.flip s.data.toList p).toArray⟩ : ByteArray).data.toList = false) := hid (good_turned s.data.toList p hgs'.out (by omega))
                refine (Crc.flip_yes s p _ (by omega) hp8).mono ?_
                rintro e w14 ⟨rfl, b14⟩
                have D14 := hid (D13.out.below b14 D13.out.lt)
                have V14 := hid (V13.out.below b14)
                have hB14 := hid (bt hB13.out b14)
                clear D13 V13 hB13 b14
                generalize (⟨(CrcMath.flip s.data.toList p).toArray⟩ : ByteArray) = t at hgt ⊢
                go_wp2_with fail
                refine (good_any t _).mono ?_
                rw [hgt.out]
                rintro e w15 ⟨rfl, b15⟩
                have D15 := hid (D14.out.below b15 D14.out.lt)
                have V15 := hid (V14.out.below b15)
                have hB15 := hid (bt hB14.out b15)
                clear D14 V14 hB14 b15 hgt
                go_wp2_with fail
                go_roundw
                case rel => exact ⟨j + 1, by omega, by go_num, ⟨_, _, _, _, D15.out, V15.out⟩, hB15.out⟩
                case measure => simp [intOf]; omega
            · obtain rfl : j = 4 := by omega
              go_wp2_with fail
              go_ret
              exact ⟨rfl, hbr'.out⟩
end Go.Proofs.Ytgplioocnbjhaaa.topSums
