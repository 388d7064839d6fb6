/-
  lictortop.TopLogs: for every input that can be read the function returns true, and its arguments read as before. No condition.
-/
import Derived.Test.YtiagjjbcngchpaaSectorLives
import Derived.Test.YtiagjjbcngchpaaCrcCore
import Derived.Test.YtiagjjbcngchpaaRecHd
import Derived.Test.YtiagjjbcngchpaaBagRow
import Derived.BigQuiet
import Derived.Deep.QuietTactic
import Derived.Test.YtiagjjbcngchpaaRows
import Derived.Test.YtiagjjbcngchpaaSectorOpen
import Derived.Test.YtiagjjbcngchpaaSlotAll
import Derived.WalkKit
import Derived.ProofKit
import Derived.OpenShut
import Derived.ShutString
import Derived.ChangeOld
import Derived.Below
import Derived.SizedLaws
namespace Go.Proofs.Ytiagjjbcngchpaa.Top
open Go.ChangeShapes Go.WideShapes Go.ChangeAt Go.RowKit
open Go.Proofs.Ytiagjjbcngchpaa.Mem Go.Proofs.Ytiagjjbcngchpaa.Sector
set_option linter.unusedVariables false
set_option maxRecDepth 100000
set_option maxHeartbeats 1000000 in
theorem begins_any (w : World) : Calls Try.prog 28 #[] w fun e w' => e = .returned (.bool true) ∧ Below w.heap.size w w' := by
  go_enter Try.func28, Try.ntmps28
  go_wp2_with fail
  refine (new_any 1 _).mono ?_
  rintro e w1 hr
  unfold newE at hr
  rw [if_neg (by decide)] at hr
  obtain ⟨s2, sc2, p2, pc2, rfl, o2, b2⟩ := hr.open
  dsimp only at o2
  have h2 := hid b2
  have hl1 : (List.replicate (Int.toNat 1) Sector.blank).length = 1 := by simp
  dsimp only
  rw [hl1]
  have B2 := Blk.new w1 [.slice s2 1 sc2, .slice p2 0 pc2, .bool false, .int .i64 (-1)] 25
  have B2' := hid B2
  clear hr o2 b2 hl1 B2
  obtain ⟨d0, d1, d2, d3, df⟩ := B2'.out.four
  have hk : ((CrcMath.more 0 [49, 50, 51, 52, 53, 54, 55, 56, 57] : Nat) : Int) = 3421780262 := by rw [CrcMath.sum_check]; rfl
  have hk' := hid hk
  clear hk
  go_wp2_with fail
  refine (Crc.sum_any _ _ (by decide)).mono ?_
  rintro e w3 ⟨rfl, b3⟩
  have B3 := (show Blk _ w1.heap.size _ _ from B2'.out).below b3 (by simp)
  have h3 := hid (bt (h2.out.alloc h2.out.size _) b3)
  clear d0 d1 d2 d3 df b3
  obtain ⟨d0, d1, d2, d3, df⟩ := B3.four
  clear B3
  have hk2 := hk'.out
  rw [show (⟨#[49, 50, 51, 52, 53, 54, 55, 56, 57]⟩ : ByteArray).data.toList = [49, 50, 51, 52, 53, 54, 55, 56, 57] from rfl, hk2]
  clear hk2
  go_wp2_with fail
  go_ret
  exact ⟨rfl, h3.out⟩
def IntsV (w : World) (v : Value) (l : List Int) : Prop := SlV w v l.length (l.map (Value.int .i64))
theorem IntsV.below {w w' : World} {v : Value} {l : List Int} (h : IntsV w v l) (hb : Below w.heap.size w w') : IntsV w' v l := SlV.below h hb
theorem IntsV.open {w : World} {v : Value} {l : List Int} (h : IntsV w v l) (hc : 0 < l.length) :
    ∃ b off cap, v = .slice (some ⟨b, off, none⟩) l.length cap ∧ l.length ≤ cap ∧ cap ≤ maxLen ∧ b < w.heap.size ∧ ∀ j (h : j < l.length), w.cell? ⟨b, off + j, none⟩ = some (.int .i64 l[j]) := by
  obtain ⟨b, off, cap, h1, h2, h3, h4, h5⟩ := SlV.open h (by simpa using hc)
  exact ⟨b, off, cap, h1, h2, h3, h4, fun j hj => by rw [h5 j (by simpa using hj)]; simp⟩
theorem open_ints' {H : Type} {enc : TypeId × Value → H} {W : World} {n : Nat} {v : Value} {x : DataW H × List MemPlace} (h : DataW.trod enc Try.prog W 0 (fun _ => true) true n 64 [v] = some x) : ∃ l, IntsV W v l ∧ ∀ n ∈ l, (Lit.int .i64 n).wf = true := by
  rcases open_ints Try.underlying64 Try.underlying3 (by kernel_rfl) h with ⟨hcs, _⟩ | ⟨a, len, cap, zs, hcs, _, hl, hm, hzs, _, hc, hz⟩
  · obtain rfl : v = .slice none 0 0 := by simpa using hcs
    exact ⟨[], SlV.nil W, by simp⟩
  · obtain rfl : v = .slice (some a) len cap := by simpa using hcs
    simp only [if_true] at hzs
    have hlen : (zs.take len).length = len := by rw [List.length_take]; omega
    refine ⟨zs.take len, ⟨some a, cap, by rw [hlen], by rw [hlen]; exact hl, hm, by simp, fun h => ?_, fun b hb j hj => ?_⟩, fun s hs => hz s (List.mem_of_mem_take hs)⟩
    · rw [hlen] at h; subst h; simp
    · cases hb
      have hj' : j < len := by rw [List.length_map, hlen] at hj; exact hj
      rw [hc j (by omega)]
      simp [List.getD, show j < zs.length by omega]
end Go.Proofs.Ytiagjjbcngchpaa.Top
namespace Go.Proofs.Ytiagjjbcngchpaa.topLogs
open Go.ChangeShapes Go.WideShapes Go.ChangeAt Go.RowKit
open Go.Proofs.Ytiagjjbcngchpaa.Mem Go.Proofs.Ytiagjjbcngchpaa.Rec Go.Proofs.Ytiagjjbcngchpaa.Sector Go.Proofs.Ytiagjjbcngchpaa.Wal Go.Proofs.Ytiagjjbcngchpaa.Slot
set_option linter.unusedVariables false
set_option linter.unusedSimpArgs false
set_option maxRecDepth 100000
set_option maxHeartbeats 16000000 in
theorem walk (a0 : Int) (v1 : Value) (pl : List ByteArray) (v2 : Value) (fz : List Int) (v3 : Value) (kp : List Bool) (w : World) (w0 : (Lit.int .i64 a0).wf = true) (w1 : StrsV w v1 pl) (s1 : ∀ s ∈ pl, s.size ≤ maxLen) (w2 : Top.IntsV w v2 fz) (s2 : ∀ n ∈ fz, (Lit.int .i64 n).wf = true) (w3 : BoolsV w v3 kp) :
    Calls Try.prog 8 #[.int .i64 a0, v1, v2, v3] w fun e w' => e = .returned (.bool true) ∧ Below w.heap.size w w' := by
  obtain ⟨ko, kcap, rfl, _⟩ := SlV.form w3
  obtain ⟨vo, vcap, rfl, hv2, hv3⟩ := SlV.form w1
  obtain ⟨fo, fcap, rfl, hf2, hf3⟩ := SlV.form w2
  have hkp := hid w3
  have hvs := hid w1
  have hss := hid s1
  have hfz := hid w2
  have hfzw := hid s2
  have hb0 := bounds_i64 w0
  unfold maxLen at hv3 hf3
  have hnl : (pl.length : Int) ≤ 9223372036854775807 := by omega
  have hnf : (fz.length : Int) ≤ 9223372036854775807 := by omega
  clear w0 w1 s1 hv2 hv3 w3 w2 s2 hf2 hf3
  go_enter Try.func8, Try.ntmps8
  go_wp2_with fail
  refine (Top.begins_any _).mono ?_
  rintro e w1 ⟨rfl, b1⟩
  have hb := hid b1
  clear b1
  go_wp2_with fail
  refine (new_any a0 _).mono ?_
  unfold newE
  by_cases hsz : a0 < 1 ∨ 1024 < a0
  · rw [if_pos hsz]
    rintro e w2 hr
    obtain ⟨so2, sc2, po2, pc2, rfl, o2, b2⟩ := hr.open
    have hb2 := hid (bt hb.out b2)
    clear hr o2 b2
    dsimp only
    go_wp2_with fail
    go_ret
    exact ⟨rfl, hb2.out.alloc hb2.out.size _⟩
  · rw [if_neg hsz]
    obtain ⟨S, rfl⟩ : ∃ S : Nat, a0 = S := ⟨a0.toNat, by omega⟩
    have hS1 : 1 ≤ S := by omega
    have hS2 : S ≤ 1024 := by omega
    rw [Int.toNat_natCast]
    have hL0 := hid (Written.start (ep := 3) hS1 hS2).lg
    generalize (⟨List.replicate S Sector.blank, [], false, -1⟩ : Disk) = dd at hL0 ⊢
    rintro e w2 hr
    obtain ⟨so, sc, po, pc, rfl, o2, b9⟩ := hr.open
    dsimp only at o2
    have M := hid ((Bag.of hb.out).res o2 b9)
    clear hr o2 b9 hsz hb0 hb
    have hrS := hid (show Rg.has ⟨0, S⟩ from ⟨by simp, by simp, by show (-9223372036854775808 : Int) ≤ (S : Int); omega, by show (S : Int) ≤ 9223372036854775807; omega⟩)
    have hSi : (S : Int) ≤ 1024 := by omega
    dsimp only
    go_upto_region 4 with fail
    replace M := hid (M.out.push [.slice so dd.secs.length sc, .slice po dd.pend.length pc, .bool dd.off, .int .i64 dd.fuse] 25 w2.heap.size rfl)
    generalize w2.alloc (.cells #[.slice so dd.secs.length sc, .slice po dd.pend.length pc, .bool dd.off, .int .i64 dd.fuse] 25) = X2 at M ⊢
    generalize w2.heap.size = n0 at M ⊢
    by_cases h40 : 40 < pl.length
    · have h41 : (pl.length : Int) > 40 := by omega
      go_wp2_with fail
      go_ret
      exact ⟨rfl, M.out.bel⟩
    · have h41 : ¬ (pl.length : Int) > 40 := by omega
      go_upto_region 9 with fail
      replace M := hid (M.out.push [.int .i64 0, .int .i64 (S : Nat)] 27 X2.heap.size rfl)
      generalize X2.alloc (.cells #[.int .i64 0, .int .i64 (S : Nat)] 27) = X3 at M ⊢
      generalize X2.heap.size = n1 at M ⊢
      replace M := hid (show BagR w X3 _ _ (.slice none 0 0) [] from ⟨M.out, World.ownsRow_nil _ _ _ _⟩)
      go_wp2_with fail
      go_loopw [12, 13, 52] (fun want a i wr => ∃ (k : Nat) (d : Disk) (l : List Fr) (at1 : Nat) (so : Option Addr) (sc : Nat) (po : Option Addr) (pc : Nat) (lo : Option Addr) (lc : Nat), k ≤ pl.length ∧ i = .int .i64 k ∧ want = .slice lo l.length lc ∧ a = .int .i64 at1 ∧ l.length ≤ k ∧ Hid (Lg d S 3 at1 l) ∧ Hid (BagR w wr [⟨n0, [.slice so d.secs.length sc, .slice po d.pend.length pc, .bool d.off, .int .i64 d.fuse], 25⟩, ⟨n1, [.int .i64 0, .int .i64 (S : Nat)], 27⟩] [⟨.slice so d.secs.length sc, .slice po d.pend.length pc, d⟩] (.slice lo l.length lc) l)) (fun _ _ i _ => pl.length - (intOf i).toNat)
      case atStart => exact ⟨0, dd, [], 0, so, sc, po, pc, none, 0, by omega, rfl, rfl, rfl, by simp, hL0, M⟩
      case round =>
        clear M hL0
        obtain ⟨k, d, l, at1, so, sc, po, pc, lo, lc, hk, rfl, rfl, rfl, hlk, hL, M⟩ := hrel
        by_cases hlt : k < pl.length
        · obtain ⟨tb, toff, tcap', hv, _, _, htb, htc⟩ := StrsV.open hvs.out (by omega)
          simp only [Value.slice.injEq] at hv
          obtain ⟨rfl, -, rfl⟩ := hv
          have tc := (M.out.bel.cell (p := ⟨tb, toff + k, none⟩) htb).trans (htc k hlt)
          have hki : (k : Int) < (pl.length : Int) := by omega
          have hk6 : (k : Int) ≤ 40 := by omega
          have hk0 : (0 : Int) ≤ (k : Int) := by omega
          have hli : (l.length : Int) ≤ 40 := by omega
          have hati : at1 ≤ S := hL.out.le
          have hps := hss.out pl[k] (List.getElem_mem hlt)
          clear htc
          generalize pl[k] = p at tc hps
          have hps' := hid (show p.size ≤ 9223372036854775807 by unfold maxLen at hps; omega)
          clear hps
          obtain ⟨secs, pend, off, fu⟩ := d
          dsimp only at M
          go_upto_region 13 with fail
          clear tc
          replace M := hid (M.out.push [.int .u8 1, .int .u64 3, .int .u64 (l.length : Nat), .string p] 38 wr.heap.size rfl)
          generalize wr.alloc (.cells #[.int .u8 1, .int .u64 3, .int .u64 (l.length : Nat), .string p] 38) = X1 at M ⊢
          generalize wr.heap.size = n4 at M ⊢
          obtain ⟨d0, d1, d2, d3, df⟩ := (M.out.get 0 rfl).four
          go_upto_region 14 with fail
          clear d0 d1 d2 d3 df
          replace M := hid (M.out.put 0 rfl (by decide) (by decide) (by decide) 3 (.int .i64 (-1)))
          generalize X1.setCell ⟨n0, 3, none⟩ (.int .i64 (-1)) = X2 at M ⊢
          by_cases hkf : k < fz.length
          · obtain ⟨fb, foff, fcap', hv, _, _, hfb, hfc⟩ := Top.IntsV.open hfz.out (by omega)
            simp only [Value.slice.injEq] at hv
            obtain ⟨rfl, -, rfl⟩ := hv
            have tc := (M.out.bel.cell (p := ⟨fb, foff + k, none⟩) hfb).trans (hfc k hkf)
            have hkfi : (k : Int) < (fz.length : Int) := by omega
            have hfw := hfzw.out fz[k] (List.getElem_mem hkf)
            clear hfc
            generalize fz[k] = q at tc hfw
            replace hfw := hid hfw
            obtain ⟨d0, d1, d2, d3, df⟩ := (M.out.get 0 rfl).four
            go_upto_region 16 with fail
            have hff := hid (show (Lit.int .i64 (max q (-1))).wf = true from WalkArith.wf_i64 (by have := bounds_i64 hfw.out; omega))
            clear d0 d1 d2 d3 df
            replace M := hid (M.out.put 0 rfl (by decide) (by decide) (by decide) 3 (.int .i64 (max q (-1))))
            generalize X2.setCell ⟨n0, 3, none⟩ (.int .i64 (max q (-1))) = X3 at M ⊢
            generalize max q (-1) = fv at M hff ⊢
            clear tc hfw
            replace M := hid (M.out.refuse2 0 rfl fv)
            dsimp only at M
            have hap := hid (fun v W (h : DiskV W v ⟨secs, pend, off, fv⟩) => append_any ⟨secs, pend, off, fv⟩ v ⟨0, S⟩ at1 ⟨1, 3, l.length, p⟩ W h hff.out hrS.out (WalkArith.wf_i64 ⟨by omega, by omega⟩) ⟨by simp, by show (3 : Nat) < _; decide, by dsimp only; omega, hps'.out⟩)
            rw [show rgV ⟨0, S⟩ = .agg #[.int .i64 0, .int .i64 (S : Nat)] from rfl, show frV ⟨1, 3, l.length, p⟩ = .agg #[.int .u8 1, .int .u64 3, .int .u64 (l.length : Nat), .string p] from rfl] at hap
            have hcase := hid (Lg.app (hL.out.fuse fv) (f := ⟨1, 3, l.length, p⟩) rfl rfl (by decide) rfl (by omega) kp)
            dsimp only at hcase
            obtain ⟨Y, hY⟩ : ∃ Y, appE ⟨secs, pend, off, fv⟩ ⟨0, S⟩ at1 ⟨1, 3, l.length, p⟩ = Y := ⟨_, rfl⟩
            rw [hY] at hap hcase
            replace hY := hid hY
            obtain ⟨x, te, c⟩ := Y
            obtain ⟨l', hl'⟩ : ∃ l' : List Fr, l' = l ++ [⟨1, 3, l.length, p⟩] := ⟨_, rfl⟩
            rw [← hl'] at hcase
            have hl1 := hid (show l'.length = l.length + 1 by rw [hl']; simp)
            replace hl' := hid hl'
            obtain ⟨a0, a1, af⟩ := (M.out.get 1 rfl).two
            obtain ⟨d0, d1, d2, d3, df⟩ := (M.out.get 0 rfl).four
            obtain ⟨m0, m1, m2, m3, mf⟩ := (M.out.get 2 rfl).four
            go_wp2_with fail
            clear a0 a1 af d0 d1 d2 d3 df m0 m1 m2 m3 mf
            (with_reducible refine (hap.out _ _ (M.out.view 0 rfl)).mono ?_)
            rintro e3 w3 hr
            obtain ⟨so4, sc4, po4, pc4, rfl, o4, b4⟩ := hr.open
            dsimp only at o4
            replace M := hid (M.out.res o4 b4)
            clear hr hap o4 b4
            dsimp only
            go_upto_region 17 with fail
            replace M := hid (M.out.push [.slice so4 x.secs.length sc4, .slice po4 x.pend.length pc4, .bool x.off, .int .i64 x.fuse] 25 w3.heap.size rfl)
            generalize w3.alloc (.cells #[.slice so4 x.secs.length sc4, .slice po4 x.pend.length pc4, .bool x.off, .int .i64 x.fuse] 25) = X4 at M ⊢
            generalize w3.heap.size = n5 at M ⊢
            rcases hcase.out with ⟨h1, h2⟩ | ⟨h1, hok, h2⟩
            · have hs := hid (show Lg x S 3 at1 l by rw [show x = ⟨secs, pend, off, fv⟩ from h1]; exact hL.out.fuse fv)
              clear hcase h1 hY hL
              rcases (show c = 3 ∨ c = 16 from h2) with rfl | rfl
              all_goals
                go_upto_region 32 with fail
                obtain ⟨e0, e1, e2, e3, ef⟩ := (M.out.get 3 rfl).four
                obtain ⟨d0, d1, d2, d3, df⟩ := (M.out.get 0 rfl).four
                go_upto_region 33 with fail
                clear e0 e1 e2 e3 ef d0 d1 d2 d3 df
                replace M := hid ((((M.out.put 0 rfl (by decide) (by decide) (by decide) 0 (.slice so4 x.secs.length sc4)).put 0 rfl (by decide) (by decide) (by decide) 1 (.slice po4 x.pend.length pc4)).put 0 rfl (by decide) (by decide) (by decide) 2 (.bool x.off)).put 0 rfl (by decide) (by decide) (by decide) 3 (.int .i64 x.fuse))
                generalize (((X4.setCell ⟨n0, 0, none⟩ (.slice so4 x.secs.length sc4)).setCell ⟨n0, 1, none⟩ (.slice po4 x.pend.length pc4)).setCell ⟨n0, 2, none⟩ (.bool x.off)).setCell ⟨n0, 3, none⟩ (.int .i64 x.fuse) = T1 at M ⊢
                have hsc := hid hs.out.scan
                have hld := hid (fun v W (h : DiskV W v x) => hsc.out ▸ scan_any x v ⟨0, S⟩ 3 W h hrS.out)
                clear hsc
                rw [show rgV ⟨0, S⟩ = .agg #[.int .i64 0, .int .i64 (S : Nat)] from rfl] at hld
                rw [show (((3 : Nat)) : Int) = 3 from rfl] at hld
                obtain ⟨a0, a1, af⟩ := (M.out.get 1 rfl).two
                obtain ⟨d0, d1, d2, d3, df⟩ := (M.out.get 0 rfl).four
                go_wp2_with fail
                clear a0 a1 af d0 d1 d2 d3 df
                (with_reducible refine (hld.out _ _ (M.out.view 1 rfl)).mono ?_)
                rintro e8 w8 ⟨ao8, cap8, rfl, o8, b8⟩
                replace M := hid (M.out.below b8)
                have g1 := hid (FrsV.own (l := l) o8 rfl)
                have g2 := hid (FrsV.own M.out.row rfl)
                obtain ⟨_, _, hcp8⟩ := SlV.form g1.out
                have hln : ((l).length : Int) ≤ 45 := by omega
                clear b8 hld o8 hcp8
                dsimp only
                go_wp2_with fail
                go_loopw [154] (fun i wr => ∃ k2 : Nat, k2 ≤ (l).length ∧ i = .int .i64 k2 ∧ Hid (Below w8.heap.size w8 wr)) (fun i _ => (l).length - (intOf i).toNat)
                case atStart => exact ⟨0, by omega, rfl, hid (Below.refl _ _)⟩
                case round =>
                  obtain ⟨k2, hk2, rfl, hbr⟩ := hrel
                  by_cases hlt2 : k2 < (l).length
                  · obtain ⟨b, off2, cap', hv, hb, hc⟩ := g1.out.open (by omega)
                    simp only [Value.slice.injEq] at hv
                    obtain ⟨rfl, _, rfl⟩ := hv
                    obtain ⟨c2, coff, cap2, hv, hcb, hcc⟩ := g2.out.open (by omega)
                    simp only [Value.slice.injEq] at hv
                    obtain ⟨rfl, _, rfl⟩ := hv
                    obtain ⟨a0, a1, a2, a3⟩ := hc k2 hlt2
                    obtain ⟨c0, c1, c2', c3⟩ := hcc k2 hlt2
                    generalize (l)[k2] = f2 at a0 a1 a2 a3 c0 c1 c2' c3
                    have x0 := (hbr.out.cell (p := ⟨b, off2 + k2 * 4, none⟩) hb).trans a0
                    have x1 := (hbr.out.cell (p := ⟨b, off2 + k2 * 4 + 1, none⟩) hb).trans a1
                    have x2 := (hbr.out.cell (p := ⟨b, off2 + k2 * 4 + 2, none⟩) hb).trans a2
                    have x3 := (hbr.out.cell (p := ⟨b, off2 + k2 * 4 + 3, none⟩) hb).trans a3
                    have y0 := (hbr.out.cell (p := ⟨c2, coff + k2 * 4, none⟩) hcb).trans c0
                    have y1 := (hbr.out.cell (p := ⟨c2, coff + k2 * 4 + 1, none⟩) hcb).trans c1
                    have y2 := (hbr.out.cell (p := ⟨c2, coff + k2 * 4 + 2, none⟩) hcb).trans c2'
                    have y3 := (hbr.out.cell (p := ⟨c2, coff + k2 * 4 + 3, none⟩) hcb).trans c3
                    have hkl : (k2 : Int) < ((l).length : Int) := by omega
                    have hk20 : (0 : Int) ≤ (k2 : Int) := by omega
                    clear hc hcc a0 a1 a2 a3 c0 c1 c2' c3
                    go_wp2_with fail
                    go_quiet (fail)
                    go_wp2_with fail
                    go_roundw
                    case rel => exact ⟨k2 + 1, by omega, by go_num, hid (below_drewN hbr.out _)⟩
                    case measure => simp [intOf]; omega
                  · obtain rfl : k2 = (l).length := by omega
                    clear hlt2 g1 g2
                    go_wp2_with fail
                    go_roundw
                    case rel => exact ⟨k + 1, x, l, at1, so4, sc4, po4, pc4, lo, lc, by omega, by go_num, rfl, rfl, by omega, hs, hid ((M.out.below hbr.out).cut 2 1 1)⟩
                    case measure => simp [intOf]; omega
            · rcases h1 with ⟨h0, hte⟩ | h15
              · obtain rfl : c = 0 := h0
                obtain rfl : te = ((at1 + (pcs p.size + 1) : Nat) : Int) := hte
                rcases h2 with hs | ⟨hcc, hs⟩
                · replace hs := hid (Lg.kept hY.out kp hs)
                  clear hcase hY hL
                  obtain ⟨m0, m1, m2, m3, mf⟩ := (M.out.get 2 rfl).four
                  go_upto_region 20 with fail
                  replace M := hid (M.out.erase 2)
                  obtain ⟨so6, cp6, X5, hrun, M6⟩ := M.out.app (l' := l') ⟨1, 3, l.length, p⟩ hl'.out (by omega) (by simp)
                  have hrun' := hid hrun
                  clear hrun
                  go_upto_region 21 with (at_builtin; refine Sector.wpList_app rfl (.tmp 85) (.tmp 87) _ _ rfl _ _ _ _ rfl rfl hrun'.out ?_)
                  replace M := hid M6
                  clear M6 hrun'
                  clear m0 m1 m2 m3 mf
                  go_upto_region 32 with fail
                  obtain ⟨e0, e1, e2, e3, ef⟩ := (M.out.get 2 rfl).four
                  obtain ⟨d0, d1, d2, d3, df⟩ := (M.out.get 0 rfl).four
                  go_upto_region 33 with fail
                  clear e0 e1 e2 e3 ef d0 d1 d2 d3 df
                  replace M := hid ((((M.out.put 0 rfl (by decide) (by decide) (by decide) 0 (.slice so4 x.secs.length sc4)).put 0 rfl (by decide) (by decide) (by decide) 1 (.slice po4 x.pend.length pc4)).put 0 rfl (by decide) (by decide) (by decide) 2 (.bool x.off)).put 0 rfl (by decide) (by decide) (by decide) 3 (.int .i64 x.fuse))
                  generalize (((X5.setCell ⟨n0, 0, none⟩ (.slice so4 x.secs.length sc4)).setCell ⟨n0, 1, none⟩ (.slice po4 x.pend.length pc4)).setCell ⟨n0, 2, none⟩ (.bool x.off)).setCell ⟨n0, 3, none⟩ (.int .i64 x.fuse) = T1 at M ⊢
                  have hsc := hid hs.out.scan
                  have hld := hid (fun v W (h : DiskV W v x) => hsc.out ▸ scan_any x v ⟨0, S⟩ 3 W h hrS.out)
                  clear hsc
                  rw [show rgV ⟨0, S⟩ = .agg #[.int .i64 0, .int .i64 (S : Nat)] from rfl] at hld
                  rw [show (((3 : Nat)) : Int) = 3 from rfl] at hld
                  obtain ⟨a0, a1, af⟩ := (M.out.get 1 rfl).two
                  obtain ⟨d0, d1, d2, d3, df⟩ := (M.out.get 0 rfl).four
                  go_wp2_with fail
                  clear a0 a1 af d0 d1 d2 d3 df
                  (with_reducible refine (hld.out _ _ (M.out.view 1 rfl)).mono ?_)
                  rintro e8 w8 ⟨ao8, cap8, rfl, o8, b8⟩
                  replace M := hid (M.out.below b8)
                  have g1 := hid (FrsV.own (l := l') o8 rfl)
                  have g2 := hid (FrsV.own M.out.row rfl)
                  obtain ⟨_, _, hcp8⟩ := SlV.form g1.out
                  have hln : ((l').length : Int) ≤ 45 := by have := hl1.out; omega
                  clear b8 hld o8 hcp8
                  dsimp only
                  go_wp2_with fail
                  go_loopw [154] (fun i wr => ∃ k2 : Nat, k2 ≤ (l').length ∧ i = .int .i64 k2 ∧ Hid (Below w8.heap.size w8 wr)) (fun i _ => (l').length - (intOf i).toNat)
                  case atStart => exact ⟨0, by omega, rfl, hid (Below.refl _ _)⟩
                  case round =>
                    obtain ⟨k2, hk2, rfl, hbr⟩ := hrel
                    by_cases hlt2 : k2 < (l').length
                    · obtain ⟨b, off2, cap', hv, hb, hc⟩ := g1.out.open (by omega)
                      simp only [Value.slice.injEq] at hv
                      obtain ⟨rfl, _, rfl⟩ := hv
                      obtain ⟨c2, coff, cap2, hv, hcb, hcc⟩ := g2.out.open (by omega)
                      simp only [Value.slice.injEq] at hv
                      obtain ⟨rfl, _, rfl⟩ := hv
                      obtain ⟨a0, a1, a2, a3⟩ := hc k2 hlt2
                      obtain ⟨c0, c1, c2', c3⟩ := hcc k2 hlt2
                      generalize (l')[k2] = f2 at a0 a1 a2 a3 c0 c1 c2' c3
                      have x0 := (hbr.out.cell (p := ⟨b, off2 + k2 * 4, none⟩) hb).trans a0
                      have x1 := (hbr.out.cell (p := ⟨b, off2 + k2 * 4 + 1, none⟩) hb).trans a1
                      have x2 := (hbr.out.cell (p := ⟨b, off2 + k2 * 4 + 2, none⟩) hb).trans a2
                      have x3 := (hbr.out.cell (p := ⟨b, off2 + k2 * 4 + 3, none⟩) hb).trans a3
                      have y0 := (hbr.out.cell (p := ⟨c2, coff + k2 * 4, none⟩) hcb).trans c0
                      have y1 := (hbr.out.cell (p := ⟨c2, coff + k2 * 4 + 1, none⟩) hcb).trans c1
                      have y2 := (hbr.out.cell (p := ⟨c2, coff + k2 * 4 + 2, none⟩) hcb).trans c2'
                      have y3 := (hbr.out.cell (p := ⟨c2, coff + k2 * 4 + 3, none⟩) hcb).trans c3
                      have hkl : (k2 : Int) < ((l').length : Int) := by omega
                      have hk20 : (0 : Int) ≤ (k2 : Int) := by omega
                      clear hc hcc a0 a1 a2 a3 c0 c1 c2' c3
                      go_wp2_with fail
                      go_quiet (fail)
                      go_wp2_with fail
                      go_roundw
                      case rel => exact ⟨k2 + 1, by omega, by go_num, hid (below_drewN hbr.out _)⟩
                      case measure => simp [intOf]; omega
                    · obtain rfl : k2 = (l').length := by omega
                      clear hlt2 g1 g2
                      go_wp2_with fail
                      go_roundw
                      case rel => exact ⟨k + 1, x, l', (at1 + (pcs p.size + 1)), so4, sc4, po4, pc4, so6, cp6, by omega, by go_num, rfl, rfl, by have := hl1.out; omega, hs, hid ((M.out.below hbr.out).cut 2 1 1)⟩
                      case measure => simp [intOf]; omega
                · exact absurd (show (0 : Int) = 15 from hcc) (by decide)
              · obtain rfl : c = 15 := h15
                obtain ⟨y, hy⟩ : ∃ y, crashD x kp = y := ⟨_, rfl⟩
                have hcr := hid (fun v u W (h : DiskV W v x) (g : BoolsV W u kp) => (show crashE x kp = (y, 0) by unfold crashE; rw [if_pos hok, hy]) ▸ crash_any x v u kp W h g)
                rw [hy] at h2
                clear hcase hy hok hY hL
                obtain ⟨e0, e1, e2, e3, ef⟩ := (M.out.get 3 rfl).four
                go_wp2_with fail
                (with_reducible refine (hcr.out _ _ _ (M.out.view 1 rfl) (hkp.out.below M.out.bel)).mono ?_)
                rintro e5 w5 hr
                obtain ⟨so5, sc5, po5, pc5, rfl, o5, b5⟩ := hr.open
                dsimp only at o5
                replace M := hid (M.out.res o5 b5)
                clear hr hcr o5 b5
                clear e0 e1 e2 e3 ef
                obtain ⟨e0, e1, e2, e3, ef⟩ := (M.out.get 3 rfl).four
                dsimp only
                go_upto_region 24 with fail
                clear e0 e1 e2 e3 ef
                replace M := hid ((((M.out.put 3 rfl (by decide) (by decide) (by decide) 0 (.slice so5 y.secs.length sc5)).put 3 rfl (by decide) (by decide) (by decide) 1 (.slice po5 y.pend.length pc5)).put 3 rfl (by decide) (by decide) (by decide) 2 (.bool y.off)).put 3 rfl (by decide) (by decide) (by decide) 3 (.int .i64 y.fuse))
                generalize (((w5.setCell ⟨n5, 0, none⟩ (.slice so5 y.secs.length sc5)).setCell ⟨n5, 1, none⟩ (.slice po5 y.pend.length pc5)).setCell ⟨n5, 2, none⟩ (.bool y.off)).setCell ⟨n5, 3, none⟩ (.int .i64 y.fuse) = X5 at M ⊢
                obtain ⟨e0, e1, e2, e3, ef⟩ := (M.out.get 3 rfl).four
                obtain ⟨a0, a1, af⟩ := (M.out.get 1 rfl).two
                go_wp2_with fail
                rcases h2 with hs | ⟨hcc, hs⟩
                · have hsc := hid hs.scan
                  have hld := hid (fun v W (h : DiskV W v y) => hsc.out ▸ scan_any y v ⟨0, S⟩ 3 W h hrS.out)
                  clear hsc
                  rw [show rgV ⟨0, S⟩ = .agg #[.int .i64 0, .int .i64 (S : Nat)] from rfl] at hld
                  rw [show (((3 : Nat)) : Int) = 3 from rfl] at hld
                  (with_reducible refine (hld.out _ _ (M.out.view 2 rfl)).mono ?_)
                  rintro e6 w6 ⟨ao6, cap6, rfl, o6, b6⟩
                  replace M := hid (M.out.below b6)
                  replace hs := hid hs
                  clear e0 e1 e2 e3 ef a0 a1 af
                  clear b6 hld o6
                  dsimp only
                  have d1 : decide (l'.length < l.length) = false := by rw [decide_eq_false_iff_not]; have := hl1.out; omega
                  have d2 : decide ((l.length : Int) + 1 < (l'.length : Int)) = false := by rw [decide_eq_false_iff_not]; have := hl1.out; omega
                  have d3 : decide (l.length < l'.length) = true := by rw [decide_eq_true_iff]; have := hl1.out; omega
                  have d4 : IntKind.i64.wrap ((l.length : Int) + 1) = (l.length : Int) + 1 := by rw [IntWalk.i64_in _ (by omega)]
                  obtain ⟨m0, m1, m2, m3, mf⟩ := (M.out.get 2 rfl).four
                  go_upto_region 28 with fail
                  clear d1 d2 d3 d4
                  replace M := hid (M.out.erase 2)
                  obtain ⟨so6, cp6, X6, hrun, M6⟩ := M.out.app (l' := l') ⟨1, 3, l.length, p⟩ hl'.out (by omega) (by simp)
                  have hrun' := hid hrun
                  clear hrun
                  go_upto_region 29 with (at_builtin; refine Sector.wpList_app rfl (.tmp 127) (.tmp 129) _ _ rfl _ _ _ _ rfl rfl hrun'.out ?_)
                  replace M := hid M6
                  clear M6 hrun'
                  clear m0 m1 m2 m3 mf
                  go_upto_region 32 with fail
                  obtain ⟨e0, e1, e2, e3, ef⟩ := (M.out.get 2 rfl).four
                  obtain ⟨d0, d1, d2, d3, df⟩ := (M.out.get 0 rfl).four
                  go_upto_region 33 with fail
                  clear e0 e1 e2 e3 ef d0 d1 d2 d3 df
                  replace M := hid ((((M.out.put 0 rfl (by decide) (by decide) (by decide) 0 (.slice so5 y.secs.length sc5)).put 0 rfl (by decide) (by decide) (by decide) 1 (.slice po5 y.pend.length pc5)).put 0 rfl (by decide) (by decide) (by decide) 2 (.bool y.off)).put 0 rfl (by decide) (by decide) (by decide) 3 (.int .i64 y.fuse))
                  generalize (((X6.setCell ⟨n0, 0, none⟩ (.slice so5 y.secs.length sc5)).setCell ⟨n0, 1, none⟩ (.slice po5 y.pend.length pc5)).setCell ⟨n0, 2, none⟩ (.bool y.off)).setCell ⟨n0, 3, none⟩ (.int .i64 y.fuse) = T1 at M ⊢
                  have hsc := hid hs.out.scan
                  have hld := hid (fun v W (h : DiskV W v y) => hsc.out ▸ scan_any y v ⟨0, S⟩ 3 W h hrS.out)
                  clear hsc
                  rw [show rgV ⟨0, S⟩ = .agg #[.int .i64 0, .int .i64 (S : Nat)] from rfl] at hld
                  rw [show (((3 : Nat)) : Int) = 3 from rfl] at hld
                  obtain ⟨a0, a1, af⟩ := (M.out.get 1 rfl).two
                  obtain ⟨d0, d1, d2, d3, df⟩ := (M.out.get 0 rfl).four
                  go_wp2_with fail
                  clear a0 a1 af d0 d1 d2 d3 df
                  (with_reducible refine (hld.out _ _ (M.out.view 2 rfl)).mono ?_)
                  rintro e8 w8 ⟨ao8, cap8, rfl, o8, b8⟩
                  replace M := hid (M.out.below b8)
                  have g1 := hid (FrsV.own (l := l') o8 rfl)
                  have g2 := hid (FrsV.own M.out.row rfl)
                  obtain ⟨_, _, hcp8⟩ := SlV.form g1.out
                  have hln : ((l').length : Int) ≤ 45 := by have := hl1.out; omega
                  clear b8 hld o8 hcp8
                  dsimp only
                  go_wp2_with fail
                  go_loopw [154] (fun i wr => ∃ k2 : Nat, k2 ≤ (l').length ∧ i = .int .i64 k2 ∧ Hid (Below w8.heap.size w8 wr)) (fun i _ => (l').length - (intOf i).toNat)
                  case atStart => exact ⟨0, by omega, rfl, hid (Below.refl _ _)⟩
                  case round =>
                    obtain ⟨k2, hk2, rfl, hbr⟩ := hrel
                    by_cases hlt2 : k2 < (l').length
                    · obtain ⟨b, off2, cap', hv, hb, hc⟩ := g1.out.open (by omega)
                      simp only [Value.slice.injEq] at hv
                      obtain ⟨rfl, _, rfl⟩ := hv
                      obtain ⟨c2, coff, cap2, hv, hcb, hcc⟩ := g2.out.open (by omega)
                      simp only [Value.slice.injEq] at hv
                      obtain ⟨rfl, _, rfl⟩ := hv
                      obtain ⟨a0, a1, a2, a3⟩ := hc k2 hlt2
                      obtain ⟨c0, c1, c2', c3⟩ := hcc k2 hlt2
                      generalize (l')[k2] = f2 at a0 a1 a2 a3 c0 c1 c2' c3
                      have x0 := (hbr.out.cell (p := ⟨b, off2 + k2 * 4, none⟩) hb).trans a0
                      have x1 := (hbr.out.cell (p := ⟨b, off2 + k2 * 4 + 1, none⟩) hb).trans a1
                      have x2 := (hbr.out.cell (p := ⟨b, off2 + k2 * 4 + 2, none⟩) hb).trans a2
                      have x3 := (hbr.out.cell (p := ⟨b, off2 + k2 * 4 + 3, none⟩) hb).trans a3
                      have y0 := (hbr.out.cell (p := ⟨c2, coff + k2 * 4, none⟩) hcb).trans c0
                      have y1 := (hbr.out.cell (p := ⟨c2, coff + k2 * 4 + 1, none⟩) hcb).trans c1
                      have y2 := (hbr.out.cell (p := ⟨c2, coff + k2 * 4 + 2, none⟩) hcb).trans c2'
                      have y3 := (hbr.out.cell (p := ⟨c2, coff + k2 * 4 + 3, none⟩) hcb).trans c3
                      have hkl : (k2 : Int) < ((l').length : Int) := by omega
                      have hk20 : (0 : Int) ≤ (k2 : Int) := by omega
                      clear hc hcc a0 a1 a2 a3 c0 c1 c2' c3
                      go_wp2_with fail
                      go_quiet (fail)
                      go_wp2_with fail
                      go_roundw
                      case rel => exact ⟨k2 + 1, by omega, by go_num, hid (below_drewN hbr.out _)⟩
                      case measure => simp [intOf]; omega
                    · obtain rfl : k2 = (l').length := by omega
                      clear hlt2 g1 g2
                      go_wp2_with fail
                      go_roundw
                      case rel => exact ⟨k + 1, y, l', (at1 + (pcs p.size + 1)), so5, sc5, po5, pc5, so6, cp6, by omega, by go_num, rfl, rfl, by have := hl1.out; omega, hs, hid ((M.out.below hbr.out).cut 2 2 1)⟩
                      case measure => simp [intOf]; omega
                · have hsc := hid hs.scan
                  have hld := hid (fun v W (h : DiskV W v y) => hsc.out ▸ scan_any y v ⟨0, S⟩ 3 W h hrS.out)
                  clear hsc
                  rw [show rgV ⟨0, S⟩ = .agg #[.int .i64 0, .int .i64 (S : Nat)] from rfl] at hld
                  rw [show (((3 : Nat)) : Int) = 3 from rfl] at hld
                  (with_reducible refine (hld.out _ _ (M.out.view 2 rfl)).mono ?_)
                  rintro e6 w6 ⟨ao6, cap6, rfl, o6, b6⟩
                  replace M := hid (M.out.below b6)
                  replace hs := hid hs
                  clear e0 e1 e2 e3 ef a0 a1 af
                  clear b6 hld o6
                  dsimp only
                  have d4 : IntKind.i64.wrap ((l.length : Int) + 1) = (l.length : Int) + 1 := by rw [IntWalk.i64_in _ (by omega)]
                  have d2 : decide ((l.length : Int) + 1 < (l.length : Int)) = false := by rw [decide_eq_false_iff_not]; omega
                  go_upto_region 32 with fail
                  obtain ⟨e0, e1, e2, e3, ef⟩ := (M.out.get 3 rfl).four
                  obtain ⟨d0, d1, d2, d3, df⟩ := (M.out.get 0 rfl).four
                  go_upto_region 33 with fail
                  clear e0 e1 e2 e3 ef d0 d1 d2 d3 df
                  replace M := hid ((((M.out.put 0 rfl (by decide) (by decide) (by decide) 0 (.slice so5 y.secs.length sc5)).put 0 rfl (by decide) (by decide) (by decide) 1 (.slice po5 y.pend.length pc5)).put 0 rfl (by decide) (by decide) (by decide) 2 (.bool y.off)).put 0 rfl (by decide) (by decide) (by decide) 3 (.int .i64 y.fuse))
                  generalize (((w6.setCell ⟨n0, 0, none⟩ (.slice so5 y.secs.length sc5)).setCell ⟨n0, 1, none⟩ (.slice po5 y.pend.length pc5)).setCell ⟨n0, 2, none⟩ (.bool y.off)).setCell ⟨n0, 3, none⟩ (.int .i64 y.fuse) = T1 at M ⊢
                  have hsc := hid hs.out.scan
                  have hld := hid (fun v W (h : DiskV W v y) => hsc.out ▸ scan_any y v ⟨0, S⟩ 3 W h hrS.out)
                  clear hsc
                  rw [show rgV ⟨0, S⟩ = .agg #[.int .i64 0, .int .i64 (S : Nat)] from rfl] at hld
                  rw [show (((3 : Nat)) : Int) = 3 from rfl] at hld
                  obtain ⟨a0, a1, af⟩ := (M.out.get 1 rfl).two
                  obtain ⟨d0, d1, d2, d3, df⟩ := (M.out.get 0 rfl).four
                  go_wp2_with fail
                  clear a0 a1 af d0 d1 d2 d3 df
                  (with_reducible refine (hld.out _ _ (M.out.view 2 rfl)).mono ?_)
                  rintro e8 w8 ⟨ao8, cap8, rfl, o8, b8⟩
                  replace M := hid (M.out.below b8)
                  have g1 := hid (FrsV.own (l := l) o8 rfl)
                  have g2 := hid (FrsV.own M.out.row rfl)
                  obtain ⟨_, _, hcp8⟩ := SlV.form g1.out
                  have hln : ((l).length : Int) ≤ 45 := by omega
                  clear b8 hld o8 hcp8
                  dsimp only
                  go_wp2_with fail
                  go_loopw [154] (fun i wr => ∃ k2 : Nat, k2 ≤ (l).length ∧ i = .int .i64 k2 ∧ Hid (Below w8.heap.size w8 wr)) (fun i _ => (l).length - (intOf i).toNat)
                  case atStart => exact ⟨0, by omega, rfl, hid (Below.refl _ _)⟩
                  case round =>
                    obtain ⟨k2, hk2, rfl, hbr⟩ := hrel
                    by_cases hlt2 : k2 < (l).length
                    · obtain ⟨b, off2, cap', hv, hb, hc⟩ := g1.out.open (by omega)
                      simp only [Value.slice.injEq] at hv
                      obtain ⟨rfl, _, rfl⟩ := hv
                      obtain ⟨c2, coff, cap2, hv, hcb, hcc⟩ := g2.out.open (by omega)
                      simp only [Value.slice.injEq] at hv
                      obtain ⟨rfl, _, rfl⟩ := hv
                      obtain ⟨a0, a1, a2, a3⟩ := hc k2 hlt2
                      obtain ⟨c0, c1, c2', c3⟩ := hcc k2 hlt2
                      generalize (l)[k2] = f2 at a0 a1 a2 a3 c0 c1 c2' c3
                      have x0 := (hbr.out.cell (p := ⟨b, off2 + k2 * 4, none⟩) hb).trans a0
                      have x1 := (hbr.out.cell (p := ⟨b, off2 + k2 * 4 + 1, none⟩) hb).trans a1
                      have x2 := (hbr.out.cell (p := ⟨b, off2 + k2 * 4 + 2, none⟩) hb).trans a2
                      have x3 := (hbr.out.cell (p := ⟨b, off2 + k2 * 4 + 3, none⟩) hb).trans a3
                      have y0 := (hbr.out.cell (p := ⟨c2, coff + k2 * 4, none⟩) hcb).trans c0
                      have y1 := (hbr.out.cell (p := ⟨c2, coff + k2 * 4 + 1, none⟩) hcb).trans c1
                      have y2 := (hbr.out.cell (p := ⟨c2, coff + k2 * 4 + 2, none⟩) hcb).trans c2'
                      have y3 := (hbr.out.cell (p := ⟨c2, coff + k2 * 4 + 3, none⟩) hcb).trans c3
                      have hkl : (k2 : Int) < ((l).length : Int) := by omega
                      have hk20 : (0 : Int) ≤ (k2 : Int) := by omega
                      clear hc hcc a0 a1 a2 a3 c0 c1 c2' c3
                      go_wp2_with fail
                      go_quiet (fail)
                      go_wp2_with fail
                      go_roundw
                      case rel => exact ⟨k2 + 1, by omega, by go_num, hid (below_drewN hbr.out _)⟩
                      case measure => simp [intOf]; omega
                    · obtain rfl : k2 = (l).length := by omega
                      clear hlt2 g1 g2
                      go_wp2_with fail
                      go_roundw
                      case rel => exact ⟨k + 1, y, l, at1, so5, sc5, po5, pc5, lo, lc, by omega, by go_num, rfl, rfl, by omega, hs, hid ((M.out.below hbr.out).cut 2 2 1)⟩
                      case measure => simp [intOf]; omega
          · have hkfi : ¬ (k : Int) < (fz.length : Int) := by omega
            go_upto_region 16 with fail
            have hff := hid (show (Lit.int .i64 (-1)).wf = true by decide)
            obtain ⟨X3, rfl⟩ : ∃ X3 : World, X3 = X2 := ⟨_, rfl⟩
            obtain ⟨fv, hf⟩ : ∃ f : Int, f = -1 := ⟨_, rfl⟩
            rw [← hf] at M hff
            clear hf
            replace M := hid (M.out.refuse2 0 rfl fv)
            dsimp only at M
            have hap := hid (fun v W (h : DiskV W v ⟨secs, pend, off, fv⟩) => append_any ⟨secs, pend, off, fv⟩ v ⟨0, S⟩ at1 ⟨1, 3, l.length, p⟩ W h hff.out hrS.out (WalkArith.wf_i64 ⟨by omega, by omega⟩) ⟨by simp, by show (3 : Nat) < _; decide, by dsimp only; omega, hps'.out⟩)
            rw [show rgV ⟨0, S⟩ = .agg #[.int .i64 0, .int .i64 (S : Nat)] from rfl, show frV ⟨1, 3, l.length, p⟩ = .agg #[.int .u8 1, .int .u64 3, .int .u64 (l.length : Nat), .string p] from rfl] at hap
            have hcase := hid (Lg.app (hL.out.fuse fv) (f := ⟨1, 3, l.length, p⟩) rfl rfl (by decide) rfl (by omega) kp)
            dsimp only at hcase
            obtain ⟨Y, hY⟩ : ∃ Y, appE ⟨secs, pend, off, fv⟩ ⟨0, S⟩ at1 ⟨1, 3, l.length, p⟩ = Y := ⟨_, rfl⟩
            rw [hY] at hap hcase
            replace hY := hid hY
            obtain ⟨x, te, c⟩ := Y
            obtain ⟨l', hl'⟩ : ∃ l' : List Fr, l' = l ++ [⟨1, 3, l.length, p⟩] := ⟨_, rfl⟩
            rw [← hl'] at hcase
            have hl1 := hid (show l'.length = l.length + 1 by rw [hl']; simp)
            replace hl' := hid hl'
            obtain ⟨a0, a1, af⟩ := (M.out.get 1 rfl).two
            obtain ⟨d0, d1, d2, d3, df⟩ := (M.out.get 0 rfl).four
            obtain ⟨m0, m1, m2, m3, mf⟩ := (M.out.get 2 rfl).four
            go_wp2_with fail
            clear a0 a1 af d0 d1 d2 d3 df m0 m1 m2 m3 mf
            (with_reducible refine (hap.out _ _ (M.out.view 0 rfl)).mono ?_)
            rintro e3 w3 hr
            obtain ⟨so4, sc4, po4, pc4, rfl, o4, b4⟩ := hr.open
            dsimp only at o4
            replace M := hid (M.out.res o4 b4)
            clear hr hap o4 b4
            dsimp only
            go_upto_region 17 with fail
            replace M := hid (M.out.push [.slice so4 x.secs.length sc4, .slice po4 x.pend.length pc4, .bool x.off, .int .i64 x.fuse] 25 w3.heap.size rfl)
            generalize w3.alloc (.cells #[.slice so4 x.secs.length sc4, .slice po4 x.pend.length pc4, .bool x.off, .int .i64 x.fuse] 25) = X4 at M ⊢
            generalize w3.heap.size = n5 at M ⊢
            rcases hcase.out with ⟨h1, h2⟩ | ⟨h1, hok, h2⟩
            · have hs := hid (show Lg x S 3 at1 l by rw [show x = ⟨secs, pend, off, fv⟩ from h1]; exact hL.out.fuse fv)
              clear hcase h1 hY hL
              rcases (show c = 3 ∨ c = 16 from h2) with rfl | rfl
              all_goals
                go_upto_region 32 with fail
                obtain ⟨e0, e1, e2, e3, ef⟩ := (M.out.get 3 rfl).four
                obtain ⟨d0, d1, d2, d3, df⟩ := (M.out.get 0 rfl).four
                go_upto_region 33 with fail
                clear e0 e1 e2 e3 ef d0 d1 d2 d3 df
                replace M := hid ((((M.out.put 0 rfl (by decide) (by decide) (by decide) 0 (.slice so4 x.secs.length sc4)).put 0 rfl (by decide) (by decide) (by decide) 1 (.slice po4 x.pend.length pc4)).put 0 rfl (by decide) (by decide) (by decide) 2 (.bool x.off)).put 0 rfl (by decide) (by decide) (by decide) 3 (.int .i64 x.fuse))
                generalize (((X4.setCell ⟨n0, 0, none⟩ (.slice so4 x.secs.length sc4)).setCell ⟨n0, 1, none⟩ (.slice po4 x.pend.length pc4)).setCell ⟨n0, 2, none⟩ (.bool x.off)).setCell ⟨n0, 3, none⟩ (.int .i64 x.fuse) = T1 at M ⊢
                have hsc := hid hs.out.scan
                have hld := hid (fun v W (h : DiskV W v x) => hsc.out ▸ scan_any x v ⟨0, S⟩ 3 W h hrS.out)
                clear hsc
                rw [show rgV ⟨0, S⟩ = .agg #[.int .i64 0, .int .i64 (S : Nat)] from rfl] at hld
                rw [show (((3 : Nat)) : Int) = 3 from rfl] at hld
                obtain ⟨a0, a1, af⟩ := (M.out.get 1 rfl).two
                obtain ⟨d0, d1, d2, d3, df⟩ := (M.out.get 0 rfl).four
                go_wp2_with fail
                clear a0 a1 af d0 d1 d2 d3 df
                (with_reducible refine (hld.out _ _ (M.out.view 1 rfl)).mono ?_)
                rintro e8 w8 ⟨ao8, cap8, rfl, o8, b8⟩
                replace M := hid (M.out.below b8)
                have g1 := hid (FrsV.own (l := l) o8 rfl)
                have g2 := hid (FrsV.own M.out.row rfl)
                obtain ⟨_, _, hcp8⟩ := SlV.form g1.out
                have hln : ((l).length : Int) ≤ 45 := by omega
                clear b8 hld o8 hcp8
                dsimp only
                go_wp2_with fail
                go_loopw [154] (fun i wr => ∃ k2 : Nat, k2 ≤ (l).length ∧ i = .int .i64 k2 ∧ Hid (Below w8.heap.size w8 wr)) (fun i _ => (l).length - (intOf i).toNat)
                case atStart => exact ⟨0, by omega, rfl, hid (Below.refl _ _)⟩
                case round =>
                  obtain ⟨k2, hk2, rfl, hbr⟩ := hrel
                  by_cases hlt2 : k2 < (l).length
                  · obtain ⟨b, off2, cap', hv, hb, hc⟩ := g1.out.open (by omega)
                    simp only [Value.slice.injEq] at hv
                    obtain ⟨rfl, _, rfl⟩ := hv
                    obtain ⟨c2, coff, cap2, hv, hcb, hcc⟩ := g2.out.open (by omega)
                    simp only [Value.slice.injEq] at hv
                    obtain ⟨rfl, _, rfl⟩ := hv
                    obtain ⟨a0, a1, a2, a3⟩ := hc k2 hlt2
                    obtain ⟨c0, c1, c2', c3⟩ := hcc k2 hlt2
                    generalize (l)[k2] = f2 at a0 a1 a2 a3 c0 c1 c2' c3
                    have x0 := (hbr.out.cell (p := ⟨b, off2 + k2 * 4, none⟩) hb).trans a0
                    have x1 := (hbr.out.cell (p := ⟨b, off2 + k2 * 4 + 1, none⟩) hb).trans a1
                    have x2 := (hbr.out.cell (p := ⟨b, off2 + k2 * 4 + 2, none⟩) hb).trans a2
                    have x3 := (hbr.out.cell (p := ⟨b, off2 + k2 * 4 + 3, none⟩) hb).trans a3
                    have y0 := (hbr.out.cell (p := ⟨c2, coff + k2 * 4, none⟩) hcb).trans c0
                    have y1 := (hbr.out.cell (p := ⟨c2, coff + k2 * 4 + 1, none⟩) hcb).trans c1
                    have y2 := (hbr.out.cell (p := ⟨c2, coff + k2 * 4 + 2, none⟩) hcb).trans c2'
                    have y3 := (hbr.out.cell (p := ⟨c2, coff + k2 * 4 + 3, none⟩) hcb).trans c3
                    have hkl : (k2 : Int) < ((l).length : Int) := by omega
                    have hk20 : (0 : Int) ≤ (k2 : Int) := by omega
                    clear hc hcc a0 a1 a2 a3 c0 c1 c2' c3
                    go_wp2_with fail
                    go_quiet (fail)
                    go_wp2_with fail
                    go_roundw
                    case rel => exact ⟨k2 + 1, by omega, by go_num, hid (below_drewN hbr.out _)⟩
                    case measure => simp [intOf]; omega
                  · obtain rfl : k2 = (l).length := by omega
                    clear hlt2 g1 g2
                    go_wp2_with fail
                    go_roundw
                    case rel => exact ⟨k + 1, x, l, at1, so4, sc4, po4, pc4, lo, lc, by omega, by go_num, rfl, rfl, by omega, hs, hid ((M.out.below hbr.out).cut 2 1 1)⟩
                    case measure => simp [intOf]; omega
            · rcases h1 with ⟨h0, hte⟩ | h15
              · obtain rfl : c = 0 := h0
                obtain rfl : te = ((at1 + (pcs p.size + 1) : Nat) : Int) := hte
                rcases h2 with hs | ⟨hcc, hs⟩
                · replace hs := hid (Lg.kept hY.out kp hs)
                  clear hcase hY hL
                  obtain ⟨m0, m1, m2, m3, mf⟩ := (M.out.get 2 rfl).four
                  go_upto_region 20 with fail
                  replace M := hid (M.out.erase 2)
                  obtain ⟨so6, cp6, X5, hrun, M6⟩ := M.out.app (l' := l') ⟨1, 3, l.length, p⟩ hl'.out (by omega) (by simp)
                  have hrun' := hid hrun
                  clear hrun
                  go_upto_region 21 with (at_builtin; refine Sector.wpList_app rfl (.tmp 85) (.tmp 87) _ _ rfl _ _ _ _ rfl rfl hrun'.out ?_)
                  replace M := hid M6
                  clear M6 hrun'
                  clear m0 m1 m2 m3 mf
                  go_upto_region 32 with fail
                  obtain ⟨e0, e1, e2, e3, ef⟩ := (M.out.get 2 rfl).four
                  obtain ⟨d0, d1, d2, d3, df⟩ := (M.out.get 0 rfl).four
                  go_upto_region 33 with fail
                  clear e0 e1 e2 e3 ef d0 d1 d2 d3 df
                  replace M := hid ((((M.out.put 0 rfl (by decide) (by decide) (by decide) 0 (.slice so4 x.secs.length sc4)).put 0 rfl (by decide) (by decide) (by decide) 1 (.slice po4 x.pend.length pc4)).put 0 rfl (by decide) (by decide) (by decide) 2 (.bool x.off)).put 0 rfl (by decide) (by decide) (by decide) 3 (.int .i64 x.fuse))
                  generalize (((X5.setCell ⟨n0, 0, none⟩ (.slice so4 x.secs.length sc4)).setCell ⟨n0, 1, none⟩ (.slice po4 x.pend.length pc4)).setCell ⟨n0, 2, none⟩ (.bool x.off)).setCell ⟨n0, 3, none⟩ (.int .i64 x.fuse) = T1 at M ⊢
                  have hsc := hid hs.out.scan
                  have hld := hid (fun v W (h : DiskV W v x) => hsc.out ▸ scan_any x v ⟨0, S⟩ 3 W h hrS.out)
                  clear hsc
                  rw [show rgV ⟨0, S⟩ = .agg #[.int .i64 0, .int .i64 (S : Nat)] from rfl] at hld
                  rw [show (((3 : Nat)) : Int) = 3 from rfl] at hld
                  obtain ⟨a0, a1, af⟩ := (M.out.get 1 rfl).two
                  obtain ⟨d0, d1, d2, d3, df⟩ := (M.out.get 0 rfl).four
                  go_wp2_with fail
                  clear a0 a1 af d0 d1 d2 d3 df
                  (with_reducible refine (hld.out _ _ (M.out.view 1 rfl)).mono ?_)
                  rintro e8 w8 ⟨ao8, cap8, rfl, o8, b8⟩
                  replace M := hid (M.out.below b8)
                  have g1 := hid (FrsV.own (l := l') o8 rfl)
                  have g2 := hid (FrsV.own M.out.row rfl)
                  obtain ⟨_, _, hcp8⟩ := SlV.form g1.out
                  have hln : ((l').length : Int) ≤ 45 := by have := hl1.out; omega
                  clear b8 hld o8 hcp8
                  dsimp only
                  go_wp2_with fail
                  go_loopw [154] (fun i wr => ∃ k2 : Nat, k2 ≤ (l').length ∧ i = .int .i64 k2 ∧ Hid (Below w8.heap.size w8 wr)) (fun i _ => (l').length - (intOf i).toNat)
                  case atStart => exact ⟨0, by omega, rfl, hid (Below.refl _ _)⟩
                  case round =>
                    obtain ⟨k2, hk2, rfl, hbr⟩ := hrel
                    by_cases hlt2 : k2 < (l').length
                    · obtain ⟨b, off2, cap', hv, hb, hc⟩ := g1.out.open (by omega)
                      simp only [Value.slice.injEq] at hv
                      obtain ⟨rfl, _, rfl⟩ := hv
                      obtain ⟨c2, coff, cap2, hv, hcb, hcc⟩ := g2.out.open (by omega)
                      simp only [Value.slice.injEq] at hv
                      obtain ⟨rfl, _, rfl⟩ := hv
                      obtain ⟨a0, a1, a2, a3⟩ := hc k2 hlt2
                      obtain ⟨c0, c1, c2', c3⟩ := hcc k2 hlt2
                      generalize (l')[k2] = f2 at a0 a1 a2 a3 c0 c1 c2' c3
                      have x0 := (hbr.out.cell (p := ⟨b, off2 + k2 * 4, none⟩) hb).trans a0
                      have x1 := (hbr.out.cell (p := ⟨b, off2 + k2 * 4 + 1, none⟩) hb).trans a1
                      have x2 := (hbr.out.cell (p := ⟨b, off2 + k2 * 4 + 2, none⟩) hb).trans a2
                      have x3 := (hbr.out.cell (p := ⟨b, off2 + k2 * 4 + 3, none⟩) hb).trans a3
                      have y0 := (hbr.out.cell (p := ⟨c2, coff + k2 * 4, none⟩) hcb).trans c0
                      have y1 := (hbr.out.cell (p := ⟨c2, coff + k2 * 4 + 1, none⟩) hcb).trans c1
                      have y2 := (hbr.out.cell (p := ⟨c2, coff + k2 * 4 + 2, none⟩) hcb).trans c2'
                      have y3 := (hbr.out.cell (p := ⟨c2, coff + k2 * 4 + 3, none⟩) hcb).trans c3
                      have hkl : (k2 : Int) < ((l').length : Int) := by omega
                      have hk20 : (0 : Int) ≤ (k2 : Int) := by omega
                      clear hc hcc a0 a1 a2 a3 c0 c1 c2' c3
                      go_wp2_with fail
                      go_quiet (fail)
                      go_wp2_with fail
                      go_roundw
                      case rel => exact ⟨k2 + 1, by omega, by go_num, hid (below_drewN hbr.out _)⟩
                      case measure => simp [intOf]; omega
                    · obtain rfl : k2 = (l').length := by omega
                      clear hlt2 g1 g2
                      go_wp2_with fail
                      go_roundw
                      case rel => exact ⟨k + 1, x, l', (at1 + (pcs p.size + 1)), so4, sc4, po4, pc4, so6, cp6, by omega, by go_num, rfl, rfl, by have := hl1.out; omega, hs, hid ((M.out.below hbr.out).cut 2 1 1)⟩
                      case measure => simp [intOf]; omega
                · exact absurd (show (0 : Int) = 15 from hcc) (by decide)
              · obtain rfl : c = 15 := h15
                obtain ⟨y, hy⟩ : ∃ y, crashD x kp = y := ⟨_, rfl⟩
                have hcr := hid (fun v u W (h : DiskV W v x) (g : BoolsV W u kp) => (show crashE x kp = (y, 0) by unfold crashE; rw [if_pos hok, hy]) ▸ crash_any x v u kp W h g)
                rw [hy] at h2
                clear hcase hy hok hY hL
                obtain ⟨e0, e1, e2, e3, ef⟩ := (M.out.get 3 rfl).four
                go_wp2_with fail
                (with_reducible refine (hcr.out _ _ _ (M.out.view 1 rfl) (hkp.out.below M.out.bel)).mono ?_)
                rintro e5 w5 hr
                obtain ⟨so5, sc5, po5, pc5, rfl, o5, b5⟩ := hr.open
                dsimp only at o5
                replace M := hid (M.out.res o5 b5)
                clear hr hcr o5 b5
                clear e0 e1 e2 e3 ef
                obtain ⟨e0, e1, e2, e3, ef⟩ := (M.out.get 3 rfl).four
                dsimp only
                go_upto_region 24 with fail
                clear e0 e1 e2 e3 ef
                replace M := hid ((((M.out.put 3 rfl (by decide) (by decide) (by decide) 0 (.slice so5 y.secs.length sc5)).put 3 rfl (by decide) (by decide) (by decide) 1 (.slice po5 y.pend.length pc5)).put 3 rfl (by decide) (by decide) (by decide) 2 (.bool y.off)).put 3 rfl (by decide) (by decide) (by decide) 3 (.int .i64 y.fuse))
                generalize (((w5.setCell ⟨n5, 0, none⟩ (.slice so5 y.secs.length sc5)).setCell ⟨n5, 1, none⟩ (.slice po5 y.pend.length pc5)).setCell ⟨n5, 2, none⟩ (.bool y.off)).setCell ⟨n5, 3, none⟩ (.int .i64 y.fuse) = X5 at M ⊢
                obtain ⟨e0, e1, e2, e3, ef⟩ := (M.out.get 3 rfl).four
                obtain ⟨a0, a1, af⟩ := (M.out.get 1 rfl).two
                go_wp2_with fail
                rcases h2 with hs | ⟨hcc, hs⟩
                · have hsc := hid hs.scan
                  have hld := hid (fun v W (h : DiskV W v y) => hsc.out ▸ scan_any y v ⟨0, S⟩ 3 W h hrS.out)
                  clear hsc
                  rw [show rgV ⟨0, S⟩ = .agg #[.int .i64 0, .int .i64 (S : Nat)] from rfl] at hld
                  rw [show (((3 : Nat)) : Int) = 3 from rfl] at hld
                  (with_reducible refine (hld.out _ _ (M.out.view 2 rfl)).mono ?_)
                  rintro e6 w6 ⟨ao6, cap6, rfl, o6, b6⟩
                  replace M := hid (M.out.below b6)
                  replace hs := hid hs
                  clear e0 e1 e2 e3 ef a0 a1 af
                  clear b6 hld o6
                  dsimp only
                  have d1 : decide (l'.length < l.length) = false := by rw [decide_eq_false_iff_not]; have := hl1.out; omega
                  have d2 : decide ((l.length : Int) + 1 < (l'.length : Int)) = false := by rw [decide_eq_false_iff_not]; have := hl1.out; omega
                  have d3 : decide (l.length < l'.length) = true := by rw [decide_eq_true_iff]; have := hl1.out; omega
                  have d4 : IntKind.i64.wrap ((l.length : Int) + 1) = (l.length : Int) + 1 := by rw [IntWalk.i64_in _ (by omega)]
                  obtain ⟨m0, m1, m2, m3, mf⟩ := (M.out.get 2 rfl).four
                  go_upto_region 28 with fail
                  clear d1 d2 d3 d4
                  replace M := hid (M.out.erase 2)
                  obtain ⟨so6, cp6, X6, hrun, M6⟩ := M.out.app (l' := l') ⟨1, 3, l.length, p⟩ hl'.out (by omega) (by simp)
                  have hrun' := hid hrun
                  clear hrun
                  go_upto_region 29 with (at_builtin; refine Sector.wpList_app rfl (.tmp 127) (.tmp 129) _ _ rfl _ _ _ _ rfl rfl hrun'.out ?_)
                  replace M := hid M6
                  clear M6 hrun'
                  clear m0 m1 m2 m3 mf
                  go_upto_region 32 with fail
                  obtain ⟨e0, e1, e2, e3, ef⟩ := (M.out.get 2 rfl).four
                  obtain ⟨d0, d1, d2, d3, df⟩ := (M.out.get 0 rfl).four
                  go_upto_region 33 with fail
                  clear e0 e1 e2 e3 ef d0 d1 d2 d3 df
                  replace M := hid ((((M.out.put 0 rfl (by decide) (by decide) (by decide) 0 (.slice so5 y.secs.length sc5)).put 0 rfl (by decide) (by decide) (by decide) 1 (.slice po5 y.pend.length pc5)).put 0 rfl (by decide) (by decide) (by decide) 2 (.bool y.off)).put 0 rfl (by decide) (by decide) (by decide) 3 (.int .i64 y.fuse))
                  generalize (((X6.setCell ⟨n0, 0, none⟩ (.slice so5 y.secs.length sc5)).setCell ⟨n0, 1, none⟩ (.slice po5 y.pend.length pc5)).setCell ⟨n0, 2, none⟩ (.bool y.off)).setCell ⟨n0, 3, none⟩ (.int .i64 y.fuse) = T1 at M ⊢
                  have hsc := hid hs.out.scan
                  have hld := hid (fun v W (h : DiskV W v y) => hsc.out ▸ scan_any y v ⟨0, S⟩ 3 W h hrS.out)
                  clear hsc
                  rw [show rgV ⟨0, S⟩ = .agg #[.int .i64 0, .int .i64 (S : Nat)] from rfl] at hld
                  rw [show (((3 : Nat)) : Int) = 3 from rfl] at hld
                  obtain ⟨a0, a1, af⟩ := (M.out.get 1 rfl).two
                  obtain ⟨d0, d1, d2, d3, df⟩ := (M.out.get 0 rfl).four
                  go_wp2_with fail
                  clear a0 a1 af d0 d1 d2 d3 df
                  (with_reducible refine (hld.out _ _ (M.out.view 2 rfl)).mono ?_)
                  rintro e8 w8 ⟨ao8, cap8, rfl, o8, b8⟩
                  replace M := hid (M.out.below b8)
                  have g1 := hid (FrsV.own (l := l') o8 rfl)
                  have g2 := hid (FrsV.own M.out.row rfl)
                  obtain ⟨_, _, hcp8⟩ := SlV.form g1.out
                  have hln : ((l').length : Int) ≤ 45 := by have := hl1.out; omega
                  clear b8 hld o8 hcp8
                  dsimp only
                  go_wp2_with fail
                  go_loopw [154] (fun i wr => ∃ k2 : Nat, k2 ≤ (l').length ∧ i = .int .i64 k2 ∧ Hid (Below w8.heap.size w8 wr)) (fun i _ => (l').length - (intOf i).toNat)
                  case atStart => exact ⟨0, by omega, rfl, hid (Below.refl _ _)⟩
                  case round =>
                    obtain ⟨k2, hk2, rfl, hbr⟩ := hrel
                    by_cases hlt2 : k2 < (l').length
                    · obtain ⟨b, off2, cap', hv, hb, hc⟩ := g1.out.open (by omega)
                      simp only [Value.slice.injEq] at hv
                      obtain ⟨rfl, _, rfl⟩ := hv
                      obtain ⟨c2, coff, cap2, hv, hcb, hcc⟩ := g2.out.open (by omega)
                      simp only [Value.slice.injEq] at hv
                      obtain ⟨rfl, _, rfl⟩ := hv
                      obtain ⟨a0, a1, a2, a3⟩ := hc k2 hlt2
                      obtain ⟨c0, c1, c2', c3⟩ := hcc k2 hlt2
                      generalize (l')[k2] = f2 at a0 a1 a2 a3 c0 c1 c2' c3
                      have x0 := (hbr.out.cell (p := ⟨b, off2 + k2 * 4, none⟩) hb).trans a0
                      have x1 := (hbr.out.cell (p := ⟨b, off2 + k2 * 4 + 1, none⟩) hb).trans a1
                      have x2 := (hbr.out.cell (p := ⟨b, off2 + k2 * 4 + 2, none⟩) hb).trans a2
                      have x3 := (hbr.out.cell (p := ⟨b, off2 + k2 * 4 + 3, none⟩) hb).trans a3
                      have y0 := (hbr.out.cell (p := ⟨c2, coff + k2 * 4, none⟩) hcb).trans c0
                      have y1 := (hbr.out.cell (p := ⟨c2, coff + k2 * 4 + 1, none⟩) hcb).trans c1
                      have y2 := (hbr.out.cell (p := ⟨c2, coff + k2 * 4 + 2, none⟩) hcb).trans c2'
                      have y3 := (hbr.out.cell (p := ⟨c2, coff + k2 * 4 + 3, none⟩) hcb).trans c3
                      have hkl : (k2 : Int) < ((l').length : Int) := by omega
                      have hk20 : (0 : Int) ≤ (k2 : Int) := by omega
                      clear hc hcc a0 a1 a2 a3 c0 c1 c2' c3
                      go_wp2_with fail
                      go_quiet (fail)
                      go_wp2_with fail
                      go_roundw
                      case rel => exact ⟨k2 + 1, by omega, by go_num, hid (below_drewN hbr.out _)⟩
                      case measure => simp [intOf]; omega
                    · obtain rfl : k2 = (l').length := by omega
                      clear hlt2 g1 g2
                      go_wp2_with fail
                      go_roundw
                      case rel => exact ⟨k + 1, y, l', (at1 + (pcs p.size + 1)), so5, sc5, po5, pc5, so6, cp6, by omega, by go_num, rfl, rfl, by have := hl1.out; omega, hs, hid ((M.out.below hbr.out).cut 2 2 1)⟩
                      case measure => simp [intOf]; omega
                · have hsc := hid hs.scan
                  have hld := hid (fun v W (h : DiskV W v y) => hsc.out ▸ scan_any y v ⟨0, S⟩ 3 W h hrS.out)
                  clear hsc
                  rw [show rgV ⟨0, S⟩ = .agg #[.int .i64 0, .int .i64 (S : Nat)] from rfl] at hld
                  rw [show (((3 : Nat)) : Int) = 3 from rfl] at hld
                  (with_reducible refine (hld.out _ _ (M.out.view 2 rfl)).mono ?_)
                  rintro e6 w6 ⟨ao6, cap6, rfl, o6, b6⟩
                  replace M := hid (M.out.below b6)
                  replace hs := hid hs
                  clear e0 e1 e2 e3 ef a0 a1 af
                  clear b6 hld o6
                  dsimp only
                  have d4 : IntKind.i64.wrap ((l.length : Int) + 1) = (l.length : Int) + 1 := by rw [IntWalk.i64_in _ (by omega)]
                  have d2 : decide ((l.length : Int) + 1 < (l.length : Int)) = false := by rw [decide_eq_false_iff_not]; omega
                  go_upto_region 32 with fail
                  obtain ⟨e0, e1, e2, e3, ef⟩ := (M.out.get 3 rfl).four
                  obtain ⟨d0, d1, d2, d3, df⟩ := (M.out.get 0 rfl).four
                  go_upto_region 33 with fail
                  clear e0 e1 e2 e3 ef d0 d1 d2 d3 df
                  replace M := hid ((((M.out.put 0 rfl (by decide) (by decide) (by decide) 0 (.slice so5 y.secs.length sc5)).put 0 rfl (by decide) (by decide) (by decide) 1 (.slice po5 y.pend.length pc5)).put 0 rfl (by decide) (by decide) (by decide) 2 (.bool y.off)).put 0 rfl (by decide) (by decide) (by decide) 3 (.int .i64 y.fuse))
                  generalize (((w6.setCell ⟨n0, 0, none⟩ (.slice so5 y.secs.length sc5)).setCell ⟨n0, 1, none⟩ (.slice po5 y.pend.length pc5)).setCell ⟨n0, 2, none⟩ (.bool y.off)).setCell ⟨n0, 3, none⟩ (.int .i64 y.fuse) = T1 at M ⊢
                  have hsc := hid hs.out.scan
                  have hld := hid (fun v W (h : DiskV W v y) => hsc.out ▸ scan_any y v ⟨0, S⟩ 3 W h hrS.out)
                  clear hsc
                  rw [show rgV ⟨0, S⟩ = .agg #[.int .i64 0, .int .i64 (S : Nat)] from rfl] at hld
                  rw [show (((3 : Nat)) : Int) = 3 from rfl] at hld
                  obtain ⟨a0, a1, af⟩ := (M.out.get 1 rfl).two
                  obtain ⟨d0, d1, d2, d3, df⟩ := (M.out.get 0 rfl).four
                  go_wp2_with fail
                  clear a0 a1 af d0 d1 d2 d3 df
                  (with_reducible refine (hld.out _ _ (M.out.view 2 rfl)).mono ?_)
                  rintro e8 w8 ⟨ao8, cap8, rfl, o8, b8⟩
                  replace M := hid (M.out.below b8)
                  have g1 := hid (FrsV.own (l := l) o8 rfl)
                  have g2 := hid (FrsV.own M.out.row rfl)
                  obtain ⟨_, _, hcp8⟩ := SlV.form g1.out
                  have hln : ((l).length : Int) ≤ 45 := by omega
                  clear b8 hld o8 hcp8
                  dsimp only
                  go_wp2_with fail
                  go_loopw [154] (fun i wr => ∃ k2 : Nat, k2 ≤ (l).length ∧ i = .int .i64 k2 ∧ Hid (Below w8.heap.size w8 wr)) (fun i _ => (l).length - (intOf i).toNat)
                  case atStart => exact ⟨0, by omega, rfl, hid (Below.refl _ _)⟩
                  case round =>
                    obtain ⟨k2, hk2, rfl, hbr⟩ := hrel
                    by_cases hlt2 : k2 < (l).length
                    · obtain ⟨b, off2, cap', hv, hb, hc⟩ := g1.out.open (by omega)
                      simp only [Value.slice.injEq] at hv
                      obtain ⟨rfl, _, rfl⟩ := hv
                      obtain ⟨c2, coff, cap2, hv, hcb, hcc⟩ := g2.out.open (by omega)
                      simp only [Value.slice.injEq] at hv
                      obtain ⟨rfl, _, rfl⟩ := hv
                      obtain ⟨a0, a1, a2, a3⟩ := hc k2 hlt2
                      obtain ⟨c0, c1, c2', c3⟩ := hcc k2 hlt2
                      generalize (l)[k2] = f2 at a0 a1 a2 a3 c0 c1 c2' c3
                      have x0 := (hbr.out.cell (p := ⟨b, off2 + k2 * 4, none⟩) hb).trans a0
                      have x1 := (hbr.out.cell (p := ⟨b, off2 + k2 * 4 + 1, none⟩) hb).trans a1
                      have x2 := (hbr.out.cell (p := ⟨b, off2 + k2 * 4 + 2, none⟩) hb).trans a2
                      have x3 := (hbr.out.cell (p := ⟨b, off2 + k2 * 4 + 3, none⟩) hb).trans a3
                      have y0 := (hbr.out.cell (p := ⟨c2, coff + k2 * 4, none⟩) hcb).trans c0
                      have y1 := (hbr.out.cell (p := ⟨c2, coff + k2 * 4 + 1, none⟩) hcb).trans c1
                      have y2 := (hbr.out.cell (p := ⟨c2, coff + k2 * 4 + 2, none⟩) hcb).trans c2'
                      have y3 := (hbr.out.cell (p := ⟨c2, coff + k2 * 4 + 3, none⟩) hcb).trans c3
                      have hkl : (k2 : Int) < ((l).length : Int) := by omega
                      have hk20 : (0 : Int) ≤ (k2 : Int) := by omega
                      clear hc hcc a0 a1 a2 a3 c0 c1 c2' c3
                      go_wp2_with fail
                      go_quiet (fail)
                      go_wp2_with fail
                      go_roundw
                      case rel => exact ⟨k2 + 1, by omega, by go_num, hid (below_drewN hbr.out _)⟩
                      case measure => simp [intOf]; omega
                    · obtain rfl : k2 = (l).length := by omega
                      clear hlt2 g1 g2
                      go_wp2_with fail
                      go_roundw
                      case rel => exact ⟨k + 1, y, l, at1, so5, sc5, po5, pc5, lo, lc, by omega, by go_num, rfl, rfl, by omega, hs, hid ((M.out.below hbr.out).cut 2 2 1)⟩
                      case measure => simp [intOf]; omega
        · clear hvs hss hfz hfzw hkp
          go_wp2_with fail
          go_ret
          exact ⟨rfl, M.out.bel⟩
end Go.Proofs.Ytiagjjbcngchpaa.topLogs
namespace Go.Proofs.Ytiagjjbcngchpaa.topLogs
open Go.ChangeShapes Go.WideShapes Go.ChangeAt Go.RowKit
open Go.ChangeMaps (open_string shut_string)
set_option linter.unusedVariables false
theorem own : ownKnob Try.prog.godebug = none := by kernel_rfl
theorem laidOut : laidOutB Try.prog = true := by kernel_rfl
set_option maxRecDepth 100000 in
theorem lifted (os : Os) (started : os.Started) (H : Type) (enc : TypeId × Value → H) :
    ReturnsInHanded {} Try.checked os 8 .any (Rows.topLogsSpec.pre6 enc Try.prog Try.f8 Rows.topLogsRow.domain false) (Rows.topLogsSpec.post enc Try.prog Try.f8 false true false false) := by
  refine returnsInHanded_of_change_sized (C := Try.checked) own started (by kernel_rfl) Try.func8
    (ChangeSpec.witness6 (enc := enc) (C := Try.checked) false ⟨#[], #[.int .i64 0, .slice none 0 0, .slice none 0 0, .slice none 0 0], []⟩ 8 (by kernel_rfl) (by kernel_rfl) (by kernel_rfl) (by kernel_rfl)) ?_
  intro W base args ds gs before hval0 hW hcnd hsz0 _
  have hsz : (DataW.weightsEach Try.prog (Try.f8.params.toList ++ Rows.topLogsSpec.plain.varTypes Try.prog) (ds ++ gs)).all (· ≤ reachBytes) = true := hsz0
  have hval : ∀ (j : Nat) t v, Try.f8.params[j]? = some t → args[j]? = some v → Value.okWide Try.prog W .any base t v := hval0
  have hW' := hW
  obtain ⟨p, q, hA0, hV, rfl, hfz, hnd⟩ := hW
  have hA : DataW.TrodAll enc Try.prog W 0 (fun _ => true) true Try.f8.params.toList args.toList ds p := hA0
  rw [Try.params8] at hA hval
  obtain ⟨v0, vs0, d0, ds0, p0, q0, hargs, rfl, rfl, h0, r0⟩ := trodAll_cons hA
  obtain ⟨v1, vs1, d1, ds1, p1, q1, rfl, rfl, rfl, h1, r1⟩ := trodAll_cons r0
  obtain ⟨v2, vs2, d2, ds2, p2, q2, rfl, rfl, rfl, h2, r2⟩ := trodAll_cons r1
  obtain ⟨v3, vs3, d3, ds3, p3, q3, rfl, rfl, rfl, h3, r3⟩ := trodAll_cons r2
  obtain ⟨rfl, rfl, rfl⟩ := trodAll_nil r3
  obtain rfl : args = #[v0, v1, v2, v3] := by cases args; simp_all
  obtain ⟨rfl, rfl⟩ := trodVars_none hV
  obtain ⟨a0, rfl, rfl, rfl, w0⟩ := open_int Try.underlying3 (hval 0 3 v0 rfl rfl) h0
  have lt1 : ∀ x ∈ p1, x.block < W.heap.size := by obtain ⟨m, hm⟩ := h1; exact DataW.trod_lt m _ _ _ hm
  obtain ⟨a1, w1, s1⟩ : ∃ l, Mem.StrsV W v1 l ∧ ∀ s ∈ l, s.size ≤ maxLen := by
    obtain ⟨ao, ln, cp, rfl⟩ := okWide_slice Try.underlying22 (hval 1 22 v1 rfl rfl)
    obtain ⟨m, hm⟩ := h1
    exact Wal.open_textz hm
  have lt2 : ∀ x ∈ p2, x.block < W.heap.size := by obtain ⟨m, hm⟩ := h2; exact DataW.trod_lt m _ _ _ hm
  obtain ⟨a2, w2, s2⟩ : ∃ l, Top.IntsV W v2 l ∧ ∀ n ∈ l, (Lit.int .i64 n).wf = true := by
    obtain ⟨ao, ln, cp, rfl⟩ := okWide_slice Try.underlying64 (hval 2 64 v2 rfl rfl)
    obtain ⟨m, hm⟩ := h2
    exact Top.open_ints' hm
  have lt3 : ∀ x ∈ p3, x.block < W.heap.size := by obtain ⟨m, hm⟩ := h3; exact DataW.trod_lt m _ _ _ hm
  obtain ⟨a3, w3⟩ : ∃ l, Sector.BoolsV W v3 l := by
    obtain ⟨ao, ln, cp, rfl⟩ := okWide_slice Try.underlying44 (hval 3 44 v3 rfl rfl)
    obtain ⟨m, hm⟩ := h3
    exact Sector.open_bools' hm
  clear hA0 hval0
  refine (walk a0 v1 a1 v2 a2 v3 a3 W w0 w1 s1 w2 s2 w3).mono fun e W' ⟨he, bel⟩ => ?_
  subst he
  exact ⟨_, rfl, _, _, _, [], _, [], hW', trodAll_mk1 (shut_bool Try.underlying4 _), (trodAll_cons_mk (shut_int Try.underlying3 w0) (trodAll_cons_mk (Below.trod laidOut (by kernel_rfl) (of_decide_eq_true (by kernel_rfl)) h1 bel lt1) (trodAll_cons_mk (Below.trod laidOut (by kernel_rfl) (of_decide_eq_true (by kernel_rfl)) h2 bel lt2) (trodAll_cons_mk (Below.trod laidOut (by kernel_rfl) (of_decide_eq_true (by kernel_rfl)) h3 bel lt3) trodAll_mk0)))), rfl, bel.frame _, fun h => by cases h⟩
theorem over : Rows.topLogsRow.holds Try.pinned (OpenSpec.ofChange Rows.topLogsSpec) :=
  OpenClaim.holds_of_wide 8 Try.f8 rfl rfl rfl rfl rfl rfl rfl ⟨rfl, rfl, rfl, rfl, rfl⟩ rfl rfl rfl rfl rfl (by kernel_rfl) Try.func8 (by kernel_rfl)
    (of_decide_eq_true (by kernel_rfl)) (by unfold Func.isWrapper; first | (rw [if_pos (by decide +kernel)]; kernel_rfl) | (rw [if_neg (by decide +kernel)]; exact ⟨rfl, rfl⟩))
    (fun os started H enc _ => lifted os started H enc)
theorem proved : Rows.TopLogsSaid := over
end Go.Proofs.Ytiagjjbcngchpaa.topLogs
