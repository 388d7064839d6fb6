/-
  lictorlaw04.WalAppends: for every input that can be read the function returns true, and its arguments read as before. No condition.
-/
import Derived.Test.YtiegocbdgimimaaRefRun
import Derived.Test.YtiegocbdgimimaaSectorCopyRef
import Derived.Test.YtiegocbdgimimaaSectorOpen
import Derived.SizedLaws
import Derived.Deep.RegionHeld3
import Derived.Test.YtiegocbdgimimaaRows
import Derived.Test.YtiegocbdgimimaaRecArgs
import Derived.Test.YtiegocbdgimimaaSlotAll
import Derived.WalkKit
import Derived.ProofKit
import Derived.OpenShut
import Derived.ShutString
import Derived.ChangeOld
import Derived.Below
namespace Go.Proofs.Ytiegocbdgimimaa.Wal
open Go.ChangeShapes Go.WideShapes Go.ChangeAt Go.RowKit
open Go.Proofs.Ytiegocbdgimimaa.Mem Go.Proofs.Ytiegocbdgimimaa.Rec Go.Proofs.Ytiegocbdgimimaa.Sector
set_option linter.unusedVariables false
set_option linter.unusedSimpArgs false
set_option maxRecDepth 100000
set_option maxHeartbeats 8000000 in
theorem rappend_any (d : Disk) (v : Value) (r : Rg) (a : Int) (f : Fr) (w : World) (h : DiskV w v d) (hfu : (Lit.int .i64 d.fuse).wf = true) (hr : r.has) (ha : (Lit.int .i64 a).wf = true) (hf : f.has) :
    Calls Try.prog 7 #[v, rgV r, .int .i64 a, frV f] w (Apd w (appE d r a f)) := by
  have hv := hid h
  obtain ⟨rf, rs⟩ := r
  have hck := hid (fun v W (h : DiskV W v d) => rwcheck_any d v ⟨rf, rs⟩ W h hr)
  have hse := hid (fun W => rsecs_any f W hf)
  obtain ⟨sv, pv, rfl, hs, hp⟩ := h
  obtain ⟨so, scap, rfl, _⟩ := hs.form
  obtain ⟨po, pcap, rfl, _⟩ := hp.form
  have ha' := hid (bounds_i64 ha)
  have hfu' := hid hfu
  have hfh := hid hf
  obtain ⟨r0, r1, r2, r3⟩ := hr
  dsimp only at r0 r1 r2 r3
  clear hs hp hfu ha
  rw [show rgV ⟨rf, rs⟩ = .agg #[.int .i64 rf, .int .i64 rs] from rfl] at hck ⊢
  rw [show frV f = .agg #[.int .u8 f.kind, .int .u64 f.epoch, .int .u64 f.seq, .string f.pay] from rfl] at hse ⊢
  go_enter Try.func7, Try.ntmps7
  go_upto_region 1 with fail
  have M := hid (((((Bag.nil w).push [.slice so d.secs.length scap, .slice po d.pend.length pcap, .bool d.off, .int .i64 d.fuse] 25 w.heap.size rfl).push [.int .i64 rf, .int .i64 rs] 27 (w.heap.size + 1) (by simp)).push [.int .u8 f.kind, .int .u64 f.epoch, .int .u64 f.seq, .string f.pay] 30 (w.heap.size + 2) (by simp)).push [.slice none 0 0, .slice none 0 0, .bool false, .int .i64 0] 25 (w.heap.size + 3) (by simp))
  generalize (((w.alloc (.cells #[.slice so d.secs.length scap, .slice po d.pend.length pcap, .bool d.off, .int .i64 d.fuse] 25)).alloc (.cells #[.int .i64 rf, .int .i64 rs] 27)).alloc (.cells #[.int .u8 f.kind, .int .u64 f.epoch, .int .u64 f.seq, .string f.pay] 30)).alloc (.cells #[.slice none 0 0, .slice none 0 0, .bool false, .int .i64 0] 25) = X0 at M ⊢
  obtain ⟨d0, d1, d2, d3, df⟩ := (M.out.get 0 rfl).four
  obtain ⟨q0, q1, qf⟩ := (M.out.get 1 rfl).two
  go_wp2_with fail
  (with_reducible refine (hck.out _ _ (hv.out.below M.out.bel)).mono ?_)
  rintro e w1 ⟨rfl, bw⟩
  replace M := hid (M.out.below bw)
  clear bw hck d0 d1 d2 d3 df q0 q1 qf
  by_cases hwc : walChk d ⟨rf, rs⟩ = 0
  · have hE : Hid (appE d ⟨rf, rs⟩ a f = if (sectorsE f).2 ≠ 0 then ⟨d, 0, (sectorsE f).2⟩ else if a < 0 ∨ rs < a then ⟨d, 0, 1⟩ else if rs - a < ((sectorsE f).1.length : Int) then ⟨d, 0, 16⟩ else if (runE d (layE (rf + a) ((sectorsE f).1.headD ⟨#[]⟩) (sectorsE f).1.tail)).2 ≠ 0 then ⟨(runE d (layE (rf + a) ((sectorsE f).1.headD ⟨#[]⟩) (sectorsE f).1.tail)).1, 0, (runE d (layE (rf + a) ((sectorsE f).1.headD ⟨#[]⟩) (sectorsE f).1.tail)).2⟩ else ⟨(runE d (layE (rf + a) ((sectorsE f).1.headD ⟨#[]⟩) (sectorsE f).1.tail)).1, a + ((sectorsE f).1.length : Int), 0⟩) := hid (by unfold appE; rw [if_neg (by simpa using hwc)])
    obtain ⟨k1, k2, k3, k4, k5⟩ := walChk_zero hwc
    dsimp only at k2 k3 k4
    have hcopy := hid (fun v W (h : DiskV W v d) => rcopy_any d v W h (by omega) (by have := okB_pend' k1; omega))
    rw [hwc]
    have hck0 := hid hwc
    clear hwc k1
    obtain ⟨f0, f1, f2, f3, ff⟩ := (M.out.get 2 rfl).four
    go_wp2_with fail
    refine (hse.out _).mono ?_
    rintro e w2 ⟨lo, n, lcap, hn, rfl, hown, b2⟩
    have hsv := hid (SecTold.strs hown hn)
    replace M := hid (M.out.below b2)
    clear b2 hown hse f0 f1 f2 f3 ff
    by_cases hk : (sectorsE f).2 = 0
    · have hse : sectorsE f = (secsL f, 0) := by
        unfold sectorsE at hk ⊢
        split
        · rfl
        · rename_i h0; rw [if_neg h0] at hk; exact absurd hk h0
      have hpc : pcs f.pay.size ≤ 269 := by
        unfold sectorsE at hk
        split at hk
        · have := (fchk_zero (by assumption)).2; unfold pcs; omega
        · exact absurd hk (by assumption)
      rw [hse] at hE hsv hn ⊢
      obtain ⟨t, hL, htq⟩ := secsL_head f
      rw [hL] at hE hsv hn hse
      have hse2 := hid hse
      clear hse hk
      generalize bs (headL (hdOf f)) = hd at hE hsv hn hL hse2
      dsimp only at hn hsv
      clear hL
      have hnl : n = t.length + 1 := by rw [hn, List.length_cons]
      clear hn
      have htl := hid (show t.length ≤ 4000 by omega)
      have htl2 : (t.length : Int) ≤ 269 := by omega
      clear hpc htq
      subst hnl
      by_cases h1 : a < 0
      · replace hE := hid (show appE d ⟨rf, rs⟩ a f = ⟨d, 0, 1⟩ from by rw [hE.out]; rw [if_neg (by simp), if_pos (.inl h1)])
        have hfin := hE
        clear hE
        obtain ⟨d0, d1, d2, d3, df⟩ := (M.out.get 0 rfl).four
        obtain ⟨q0, q1, qf⟩ := (M.out.get 1 rfl).two
        go_wp2_with fail
        (with_reducible refine (hcopy.out _ _ (hv.out.below M.out.bel)).mono ?_)
        rintro e5 w5 ⟨sv5, pv5, rfl, o5, b5⟩
        obtain ⟨so5, sc5, rfl, _⟩ := ownsRow_form o5.secs
        obtain ⟨po5, pc5, rfl, _⟩ := ownsRow_form o5.pend
        replace M := hid (M.out.res o5 b5)
        clear o5 b5 hcopy d0 d1 d2 d3 df q0 q1 qf
        obtain ⟨z0, z1, z2, z3, zf⟩ := (M.out.get 3 rfl).four
        have M9 := hid ((((M.out.put 3 rfl (by decide) (by decide) 0 (.slice so5 d.secs.length sc5)).put 3 rfl (by decide) (by decide) 1 (.slice po5 d.pend.length pc5)).put 3 rfl (by decide) (by decide) 2 (.bool d.off)).put 3 rfl (by decide) (by decide) 3 (.int .i64 d.fuse))
        go_wp2_with fail
        clear z0 z1 z2 z3 zf
        obtain ⟨q0, q1, q2, q3, qf⟩ := (M9.out.get 3 rfl).four
        have hown9 := M9.out.own ⟨.slice so5 d.secs.length sc5, .slice po5 d.pend.length pc5, d⟩ (by simp)
        exact bodyPost_ret (v := .tuple #[.agg #[.slice so5 d.secs.length sc5, .slice po5 d.pend.length pc5, .bool d.off, .int .i64 d.fuse], .int .i64 0, .int .i64 1]) (by simp [results, Try.results7, go_sem, q0, q1, q2, q3]) rfl ⟨.slice so5 d.secs.length sc5, .slice po5 d.pend.length pc5, by rw [hfin.out], by rw [hfin.out]; exact hown9, M9.out.bel⟩
      · by_cases h2 : rs < a
        · replace hE := hid (show appE d ⟨rf, rs⟩ a f = ⟨d, 0, 1⟩ from by rw [hE.out]; rw [if_neg (by simp), if_pos (.inr h2)])
          have hfin := hE
          clear hE
          obtain ⟨d0, d1, d2, d3, df⟩ := (M.out.get 0 rfl).four
          obtain ⟨q0, q1, qf⟩ := (M.out.get 1 rfl).two
          go_wp2_with fail
          (with_reducible refine (hcopy.out _ _ (hv.out.below M.out.bel)).mono ?_)
          rintro e5 w5 ⟨sv5, pv5, rfl, o5, b5⟩
          obtain ⟨so5, sc5, rfl, _⟩ := ownsRow_form o5.secs
          obtain ⟨po5, pc5, rfl, _⟩ := ownsRow_form o5.pend
          replace M := hid (M.out.res o5 b5)
          clear o5 b5 hcopy d0 d1 d2 d3 df q0 q1 qf
          obtain ⟨z0, z1, z2, z3, zf⟩ := (M.out.get 3 rfl).four
          have M9 := hid ((((M.out.put 3 rfl (by decide) (by decide) 0 (.slice so5 d.secs.length sc5)).put 3 rfl (by decide) (by decide) 1 (.slice po5 d.pend.length pc5)).put 3 rfl (by decide) (by decide) 2 (.bool d.off)).put 3 rfl (by decide) (by decide) 3 (.int .i64 d.fuse))
          go_wp2_with fail
          clear z0 z1 z2 z3 zf
          obtain ⟨q0, q1, q2, q3, qf⟩ := (M9.out.get 3 rfl).four
          have hown9 := M9.out.own ⟨.slice so5 d.secs.length sc5, .slice po5 d.pend.length pc5, d⟩ (by simp)
          exact bodyPost_ret (v := .tuple #[.agg #[.slice so5 d.secs.length sc5, .slice po5 d.pend.length pc5, .bool d.off, .int .i64 d.fuse], .int .i64 0, .int .i64 1]) (by simp [results, Try.results7, go_sem, q0, q1, q2, q3]) rfl ⟨.slice so5 d.secs.length sc5, .slice po5 d.pend.length pc5, by rw [hfin.out], by rw [hfin.out]; exact hown9, M9.out.bel⟩
        · by_cases h3 : rs - a < (t.length : Int) + 1
          · replace hE := hid (show appE d ⟨rf, rs⟩ a f = ⟨d, 0, 16⟩ from by rw [hE.out]; rw [if_neg (by simp), if_neg (by omega), if_pos (by dsimp only; rw [List.length_cons]; push_cast; exact h3)])
            have hfin := hE
            clear hE
            obtain ⟨d0, d1, d2, d3, df⟩ := (M.out.get 0 rfl).four
            obtain ⟨q0, q1, qf⟩ := (M.out.get 1 rfl).two
            go_wp2_with fail
            (with_reducible refine (hcopy.out _ _ (hv.out.below M.out.bel)).mono ?_)
            rintro e5 w5 ⟨sv5, pv5, rfl, o5, b5⟩
            obtain ⟨so5, sc5, rfl, _⟩ := ownsRow_form o5.secs
            obtain ⟨po5, pc5, rfl, _⟩ := ownsRow_form o5.pend
            replace M := hid (M.out.res o5 b5)
            clear o5 b5 hcopy d0 d1 d2 d3 df q0 q1 qf
            obtain ⟨z0, z1, z2, z3, zf⟩ := (M.out.get 3 rfl).four
            have M9 := hid ((((M.out.put 3 rfl (by decide) (by decide) 0 (.slice so5 d.secs.length sc5)).put 3 rfl (by decide) (by decide) 1 (.slice po5 d.pend.length pc5)).put 3 rfl (by decide) (by decide) 2 (.bool d.off)).put 3 rfl (by decide) (by decide) 3 (.int .i64 d.fuse))
            go_wp2_with fail
            clear z0 z1 z2 z3 zf
            obtain ⟨q0, q1, q2, q3, qf⟩ := (M9.out.get 3 rfl).four
            have hown9 := M9.out.own ⟨.slice so5 d.secs.length sc5, .slice po5 d.pend.length pc5, d⟩ (by simp)
            exact bodyPost_ret (v := .tuple #[.agg #[.slice so5 d.secs.length sc5, .slice po5 d.pend.length pc5, .bool d.off, .int .i64 d.fuse], .int .i64 0, .int .i64 16]) (by simp [results, Try.results7, go_sem, q0, q1, q2, q3]) rfl ⟨.slice so5 d.secs.length sc5, .slice po5 d.pend.length pc5, by rw [hfin.out], by rw [hfin.out]; exact hown9, M9.out.bel⟩
          · obtain ⟨x, hx⟩ : ∃ x, runE d (layE (rf + a) hd t) = x := ⟨_, rfl⟩
            replace hE : Hid (appE d ⟨rf, rs⟩ a f = if x.2 ≠ 0 then ⟨x.1, 0, x.2⟩ else ⟨x.1, a + ((t.length : Int) + 1), 0⟩) := hid (by rw [← hx]; exact appE_run hck0.out hse2.out h1 h2 h3)
            obtain ⟨n, hn⟩ : ∃ n : Nat, rf + a = n := ⟨(rf + a).toNat, by omega⟩
            have hlay := hid (fun v W lv (h : DiskV W v d) (g : StrsV W lv (hd :: t)) => (show Calls Try.prog 23 #[v, .int .i64 (n : Nat), lv] W (Res W x) from by
              have := rlay_any d v n hd t lv W h g hfu'.out (by omega) htl.out
              rw [show runE d (layE (n : Int) hd t) = x from hn ▸ hx] at this
              exact this))
            have hwr : IntKind.i64.wrap (rf + a) = rf + a := by rw [IntWalk.i64_in _ (by omega)]
            clear hx
            obtain ⟨x, c⟩ := x
            dsimp only at hE
            obtain ⟨d0, d1, d2, d3, df⟩ := (M.out.get 0 rfl).four
            obtain ⟨q0, q1, qf⟩ := (M.out.get 1 rfl).two
            go_wp2_with fail
            (with_reducible refine (hlay.out _ _ _ (hv.out.below M.out.bel) hsv.out).mono ?_)
            rintro e5 w5 hr5
            obtain ⟨so5, sc5, po5, pc5, rfl, o5, b5⟩ := hr5.open
            dsimp only at o5
            replace M := hid (M.out.res o5 b5)
            clear hr5 o5 b5 hlay d0 d1 d2 d3 df q0 q1 qf
            dsimp only
            go_upto_region 13 with fail
            replace M := hid (M.out.push [.slice so5 x.secs.length sc5, .slice po5 x.pend.length pc5, .bool x.off, .int .i64 x.fuse] 25 w5.heap.size rfl)
            generalize w5.alloc (.cells #[.slice so5 x.secs.length sc5, .slice po5 x.pend.length pc5, .bool x.off, .int .i64 x.fuse] 25) = X6 at M ⊢
            generalize w5.heap.size = n6 at M ⊢
            by_cases hz : c = 0
            · subst hz
              have hfin := hid (show appE d ⟨rf, rs⟩ a f = ⟨x, a + ((t.length : Int) + 1), 0⟩ from by rw [hE.out, if_neg (by simp)])
              clear hE
              obtain ⟨e0, e1, e2, e3, ef⟩ := (M.out.get 4 rfl).four
              obtain ⟨z0, z1, z2, z3, zf⟩ := (M.out.get 3 rfl).four
              have M9 := hid ((((M.out.put 3 rfl (by decide) (by decide) 0 (.slice so5 x.secs.length sc5)).put 3 rfl (by decide) (by decide) 1 (.slice po5 x.pend.length pc5)).put 3 rfl (by decide) (by decide) 2 (.bool x.off)).put 3 rfl (by decide) (by decide) 3 (.int .i64 x.fuse))
              go_wp2_with fail
              clear e0 e1 e2 e3 ef
              clear z0 z1 z2 z3 zf
              obtain ⟨q0, q1, q2, q3, qf⟩ := (M9.out.get 3 rfl).four
              have hown9 := M9.out.own ⟨.slice so5 x.secs.length sc5, .slice po5 x.pend.length pc5, x⟩ (by simp)
              exact bodyPost_ret (v := .tuple #[.agg #[.slice so5 x.secs.length sc5, .slice po5 x.pend.length pc5, .bool x.off, .int .i64 x.fuse], .int .i64 (a + ((t.length : Int) + 1)), .int .i64 0]) (by simp [results, Try.results7, go_sem, q0, q1, q2, q3]) rfl ⟨.slice so5 x.secs.length sc5, .slice po5 x.pend.length pc5, by rw [hfin.out], by rw [hfin.out]; exact hown9, M9.out.bel⟩
            · have hz1 : (c != 0) = true := by simpa using hz
              have hfin := hid (show appE d ⟨rf, rs⟩ a f = ⟨x, 0, c⟩ from by rw [hE.out, if_pos hz])
              clear hE hz
              obtain ⟨e0, e1, e2, e3, ef⟩ := (M.out.get 4 rfl).four
              obtain ⟨z0, z1, z2, z3, zf⟩ := (M.out.get 3 rfl).four
              have M9 := hid ((((M.out.put 3 rfl (by decide) (by decide) 0 (.slice so5 x.secs.length sc5)).put 3 rfl (by decide) (by decide) 1 (.slice po5 x.pend.length pc5)).put 3 rfl (by decide) (by decide) 2 (.bool x.off)).put 3 rfl (by decide) (by decide) 3 (.int .i64 x.fuse))
              go_wp2_with fail
              clear e0 e1 e2 e3 ef
              clear z0 z1 z2 z3 zf
              obtain ⟨q0, q1, q2, q3, qf⟩ := (M9.out.get 3 rfl).four
              have hown9 := M9.out.own ⟨.slice so5 x.secs.length sc5, .slice po5 x.pend.length pc5, x⟩ (by simp)
              exact bodyPost_ret (v := .tuple #[.agg #[.slice so5 x.secs.length sc5, .slice po5 x.pend.length pc5, .bool x.off, .int .i64 x.fuse], .int .i64 0, .int .i64 c]) (by simp [results, Try.results7, go_sem, q0, q1, q2, q3]) rfl ⟨.slice so5 x.secs.length sc5, .slice po5 x.pend.length pc5, by rw [hfin.out], by rw [hfin.out]; exact hown9, M9.out.bel⟩
    · have hse : sectorsE f = ([], (sectorsE f).2) := by
        unfold sectorsE at hk ⊢
        split
        · rename_i h0; rw [if_pos h0] at hk; exact absurd rfl hk
        · rfl
      obtain ⟨c, hc⟩ : ∃ c, (sectorsE f).2 = c := ⟨_, rfl⟩
      rw [hc] at hk hse
      have e1 : (c != 0) = true := by simpa using hk
      have e2 : (c == 0) = false := by simpa using hk
      rw [hc]
      rw [hse] at hE hn
      obtain rfl : n = 0 := by rw [hn]; rfl
      clear hsv hn hse hc
      replace hE := hid (show appE d ⟨rf, rs⟩ a f = ⟨d, 0, c⟩ from by rw [hE.out]; rw [if_pos hk])
      have hfin := hE
      clear hE
      obtain ⟨d0, d1, d2, d3, df⟩ := (M.out.get 0 rfl).four
      obtain ⟨q0, q1, qf⟩ := (M.out.get 1 rfl).two
      go_wp2_with fail
      (with_reducible refine (hcopy.out _ _ (hv.out.below M.out.bel)).mono ?_)
      rintro e5 w5 ⟨sv5, pv5, rfl, o5, b5⟩
      obtain ⟨so5, sc5, rfl, _⟩ := ownsRow_form o5.secs
      obtain ⟨po5, pc5, rfl, _⟩ := ownsRow_form o5.pend
      replace M := hid (M.out.res o5 b5)
      clear o5 b5 hcopy d0 d1 d2 d3 df q0 q1 qf
      obtain ⟨z0, z1, z2, z3, zf⟩ := (M.out.get 3 rfl).four
      have M9 := hid ((((M.out.put 3 rfl (by decide) (by decide) 0 (.slice so5 d.secs.length sc5)).put 3 rfl (by decide) (by decide) 1 (.slice po5 d.pend.length pc5)).put 3 rfl (by decide) (by decide) 2 (.bool d.off)).put 3 rfl (by decide) (by decide) 3 (.int .i64 d.fuse))
      go_wp2_with fail
      clear z0 z1 z2 z3 zf
      obtain ⟨q0, q1, q2, q3, qf⟩ := (M9.out.get 3 rfl).four
      have hown9 := M9.out.own ⟨.slice so5 d.secs.length sc5, .slice po5 d.pend.length pc5, d⟩ (by simp)
      exact bodyPost_ret (v := .tuple #[.agg #[.slice so5 d.secs.length sc5, .slice po5 d.pend.length pc5, .bool d.off, .int .i64 d.fuse], .int .i64 0, .int .i64 c]) (by simp [results, Try.results7, go_sem, q0, q1, q2, q3]) rfl ⟨.slice so5 d.secs.length sc5, .slice po5 d.pend.length pc5, by rw [hfin.out], by rw [hfin.out]; exact hown9, M9.out.bel⟩
  · have hfin := hid (show appE d ⟨rf, rs⟩ a f = ⟨zeroDisk, 0, walChk d ⟨rf, rs⟩⟩ by unfold appE; rw [if_pos hwc])
    have e1 : (walChk d ⟨rf, rs⟩ != 0) = true := by simpa using hwc
    clear hwc hse
    generalize walChk d ⟨rf, rs⟩ = c at e1 hfin ⊢
    obtain ⟨z0, z1, z2, z3, zf⟩ := (M.out.get 3 rfl).four
    have M9 := hid ((((M.out.put 3 rfl (by decide) (by decide) 0 (.slice none 0 0)).put 3 rfl (by decide) (by decide) 1 (.slice none 0 0)).put 3 rfl (by decide) (by decide) 2 (.bool false)).put 3 rfl (by decide) (by decide) 3 (.int .i64 0))
    go_wp2_with fail
    clear z0 z1 z2 z3 zf
    obtain ⟨q0, q1, q2, q3, qf⟩ := (M9.out.get 3 rfl).four
    have hown9 := zero_own (w := _) M9.out.bel.size
    exact bodyPost_ret (v := .tuple #[.agg #[.slice none 0 0, .slice none 0 0, .bool false, .int .i64 0], .int .i64 0, .int .i64 c]) (by simp [results, Try.results7, go_sem, q0, q1, q2, q3]) rfl ⟨.slice none 0 0, .slice none 0 0, by rw [hfin.out]; rfl, by rw [hfin.out]; exact hown9, M9.out.bel⟩
end Go.Proofs.Ytiegocbdgimimaa.Wal
namespace Go.Proofs.Ytiegocbdgimimaa.Sector
open Go.Joins Go.ChangeShapes Go.WideShapes Go.ChangeAt Go.RowKit Go.Deep
open Go.Proofs.Ytiegocbdgimimaa.Mem
set_option linter.unusedVariables false
section
variable {H : Type} {enc : TypeId × Value → H} {P : Program} {w : World} {base : Nat} {spare : Nat → Bool} {held : Bool}
theorem slice_room {t e : TypeId} {fuel : Nat} {v : Value} {x : DataW H × List MemPlace} (ht : P.underlying t = some (.slice e)) (h : DataW.trod enc P w base spare held fuel t [v] = some x) (hw : ∀ m ∈ x.1.weights P t, m ≤ reachBytes) :
    ∃ ao len cap, v = .slice ao len cap ∧ len * P.bytesOf e ≤ reachBytes := by
  rcases open_slice ht h with ⟨h0, _⟩ | ⟨a, len, cap, m, n, D, Pl, hcs, hb, hl, hm, hmm, hx, hi⟩
  · exact ⟨none, 0, 0, by simpa using h0, by simp⟩
  · refine ⟨some a, len, cap, by simpa using hcs, ?_⟩
    have := hw ((((List.range len).map D).length + ((List.range (m - len)).map fun j => D (len + j)).length) * P.bytesOf e) (by rw [hx]; simp [DataW.weights, ht])
    have h2 : len * P.bytesOf e ≤ (((List.range len).map D).length + ((List.range (m - len)).map fun j => D (len + j)).length) * P.bytesOf e := Nat.mul_le_mul_right _ (by simp)
    omega
end
theorem bytes_str : Try.prog.bytesOf 9 = 16 := by kernel_rfl
theorem bytes_wr : Try.prog.bytesOf 62 = 24 := by kernel_rfl
set_option maxRecDepth 100000 in
theorem disk_room {H : Type} {enc : TypeId × Value → H} {W : World} {r : Reach} {b0 : Nat} {v : Value} {d : DataW H} {p : List MemPlace} (hv : Value.okWide Try.prog W r b0 25 v) (h : DataW.Trod enc Try.prog W 0 (fun _ => true) true 25 v d p)
    (hw : ∀ m ∈ d.weights Try.prog 25, m ≤ reachBytes) (D : Disk) (hD : DiskV W v D) : D.secs.length * 16 ≤ 140737488355328 ∧ D.pend.length * 24 ≤ 140737488355328 := by
  obtain ⟨v0, v1, v2, v3, y0, y1, y2, y3, n, rfl, rfl, _, t0, t1, t2, t3⟩ := open_agg4 Try.underlying25 (by kernel_rfl) (by kernel_rfl) hv h
  obtain ⟨sv, pv, he, hs, hp⟩ := hD
  simp only [Value.agg.injEq, Array.mk.injEq, List.cons.injEq, and_true] at he
  obtain ⟨rfl, rfl, -, -⟩ := he
  obtain ⟨so, sc, rfl, _⟩ := hs.form
  obtain ⟨po, pc, rfl, _⟩ := hp.form
  obtain ⟨ao, ln, cp, e0, r0⟩ := slice_room Try.underlying22 t0 (fun m hm => hw m (by simp [DataW.weights, DataW.weightsEach, Try.underlying25]; left; exact hm))
  obtain ⟨ao1, ln1, cp1, e1, r1⟩ := slice_room Try.underlying23 t1 (fun m hm => hw m (by simp [DataW.weights, DataW.weightsEach, Try.underlying25]; right; left; exact hm))
  simp only [Value.slice.injEq] at e0 e1
  rw [bytes_str] at r0
  rw [bytes_wr] at r1
  have hr : reachBytes ≤ 140737488355328 := by decide
  obtain ⟨-, h0, -⟩ := e0
  obtain ⟨-, h1, -⟩ := e1
  omega
end Go.Proofs.Ytiegocbdgimimaa.Sector
namespace Go.Proofs.Ytiegocbdgimimaa.walAppends
open Go.ChangeShapes Go.WideShapes Go.ChangeAt Go.RowKit
open Go.Proofs.Ytiegocbdgimimaa.Mem Go.Proofs.Ytiegocbdgimimaa.Rec Go.Proofs.Ytiegocbdgimimaa.Sector Go.Proofs.Ytiegocbdgimimaa.Wal
set_option linter.unusedVariables false
set_option linter.unusedSimpArgs false
set_option maxRecDepth 100000
set_option maxHeartbeats 8000000 in
theorem walk (v0 : Value) (d : Disk) (r : Rg) (a2 : Int) (f : Fr) (w : World) (h0 : DiskV w v0 d) (f0 : (Lit.int .i64 d.fuse).wf = true) (b0 : d.secs.length * 16 ≤ 140737488355328 ∧ d.pend.length * 24 ≤ 140737488355328) (w1 : r.has) (w2 : (Lit.int .i64 a2).wf = true) (w3 : f.has) :
    Calls Try.prog 3 #[v0, rgV r, .int .i64 a2, frV f] w fun e w' => e = .returned (.bool true) ∧ Below w.heap.size w w' := by
  have hrh := hid w1
  have hfh := hid w3
  have hfu := hid f0
  have hcopy := hid (fun v W (h : DiskV W v d) => rcopy_any d v W h b0.1 b0.2)
  obtain ⟨X, hX⟩ : ∃ X, appE d r a2 f = X := ⟨_, rfl⟩
  have ha := hid (fun v W (h : DiskV W v d) => hX ▸ append_any d v r a2 f W h f0 w1 w2 w3)
  have hb := hid (fun v W (h : DiskV W v d) => hX ▸ rappend_any d v r a2 f W h f0 w1 w2 w3)
  clear hX
  obtain ⟨x, n, c⟩ := X
  have hv := hid h0
  obtain ⟨rf, rs⟩ := r
  obtain ⟨sv, pv, rfl, hs, hp⟩ := h0
  obtain ⟨so, scap, rfl, _⟩ := hs.form
  obtain ⟨po, pcap, rfl, _⟩ := hp.form
  clear hs hp f0 w1 w2 w3 b0
  rw [show rgV ⟨rf, rs⟩ = .agg #[.int .i64 rf, .int .i64 rs] from rfl] at ha hb ⊢
  rw [show frV f = .agg #[.int .u8 f.kind, .int .u64 f.epoch, .int .u64 f.seq, .string f.pay] from rfl] at ha hb ⊢
  go_enter Try.func3, Try.ntmps3
  go_upto_region 1 with fail
  have M := hid ((((Bag.nil w).push [.slice so d.secs.length scap, .slice po d.pend.length pcap, .bool d.off, .int .i64 d.fuse] 25 w.heap.size rfl).push [.int .i64 rf, .int .i64 rs] 27 (w.heap.size + 1) (by simp)).push [.int .u8 f.kind, .int .u64 f.epoch, .int .u64 f.seq, .string f.pay] 30 (w.heap.size + 2) (by simp))
  generalize ((w.alloc (.cells #[.slice so d.secs.length scap, .slice po d.pend.length pcap, .bool d.off, .int .i64 d.fuse] 25)).alloc (.cells #[.int .i64 rf, .int .i64 rs] 27)).alloc (.cells #[.int .u8 f.kind, .int .u64 f.epoch, .int .u64 f.seq, .string f.pay] 30) = X0 at M ⊢
  obtain ⟨d0, d1, d2, d3, df⟩ := (M.out.get 0 rfl).four
  go_wp2_with fail
  (with_reducible refine (hcopy.out _ _ (hv.out.below M.out.bel)).mono ?_)
  rintro e3 w3 ⟨sv3, pv3, rfl, o, b⟩
  obtain ⟨so3, sc3, rfl, _⟩ := ownsRow_form o.secs
  obtain ⟨po3, pc3, rfl, _⟩ := ownsRow_form o.pend
  replace M := hid (M.out.res o b)
  clear o b hcopy d0 d1 d2 d3 df
  go_upto_region 2 with fail
  replace M := hid (M.out.push [.slice so3 d.secs.length sc3, .slice po3 d.pend.length pc3, .bool d.off, .int .i64 d.fuse] 25 w3.heap.size rfl)
  generalize w3.alloc (.cells #[.slice so3 d.secs.length sc3, .slice po3 d.pend.length pc3, .bool d.off, .int .i64 d.fuse] 25) = X3 at M ⊢
  generalize w3.heap.size = n3 at M ⊢
  obtain ⟨g0, g1, g2, g3, gf⟩ := (M.out.get 3 rfl).four
  obtain ⟨q0, q1, qf⟩ := (M.out.get 1 rfl).two
  obtain ⟨f0, f1, f2, f3, ff⟩ := (M.out.get 2 rfl).four
  go_wp2_with fail
  (with_reducible refine (ha.out _ _ (M.out.view 0 rfl)).mono ?_)
  rintro e4 w4 hr
  obtain ⟨so4, sc4, po4, pc4, rfl, o, b⟩ := hr.open
  replace M := hid (M.out.res o b)
  clear hr o b ha g0 g1 g2 g3 gf q0 q1 qf f0 f1 f2 f3 ff
  dsimp only
  go_upto_region 3 with fail
  replace M := hid (M.out.push [.slice so4 x.secs.length sc4, .slice po4 x.pend.length pc4, .bool x.off, .int .i64 x.fuse] 25 w4.heap.size rfl)
  generalize w4.alloc (.cells #[.slice so4 x.secs.length sc4, .slice po4 x.pend.length pc4, .bool x.off, .int .i64 x.fuse] 25) = X4 at M ⊢
  generalize w4.heap.size = n4 at M ⊢
  obtain ⟨d0, d1, d2, d3, df⟩ := (M.out.get 0 rfl).four
  obtain ⟨q0, q1, qf⟩ := (M.out.get 1 rfl).two
  obtain ⟨f0, f1, f2, f3, ff⟩ := (M.out.get 2 rfl).four
  go_wp2_with fail
  (with_reducible refine (hb.out _ _ (hv.out.below M.out.bel)).mono ?_)
  rintro e5 w5 hr
  obtain ⟨so5, sc5, po5, pc5, rfl, o, b⟩ := hr.open
  replace M := hid (M.out.res o b)
  clear hr o b hb d0 d1 d2 d3 df q0 q1 qf f0 f1 f2 f3 ff
  dsimp only
  go_upto_region 4 with fail
  replace M := hid (M.out.push [.slice so5 x.secs.length sc5, .slice po5 x.pend.length pc5, .bool x.off, .int .i64 x.fuse] 25 w5.heap.size rfl)
  generalize w5.alloc (.cells #[.slice so5 x.secs.length sc5, .slice po5 x.pend.length pc5, .bool x.off, .int .i64 x.fuse] 25) = X5 at M ⊢
  generalize w5.heap.size = n5 at M ⊢
  go_wp2_with fail
  (with_reducible refine (Wal.lives_any _).mono ?_)
  rintro e w6 ⟨rfl, b6⟩
  replace M := hid (M.out.below b6)
  clear b6
  obtain ⟨a0, a1, a2, a3, af⟩ := (M.out.get 4 rfl).four
  obtain ⟨b0, b1, b2, b3, bf⟩ := (M.out.get 5 rfl).four
  go_wp2_with fail
  (with_reducible refine (same_self x _ _ _ (M.out.view 1 rfl) (M.out.view 2 rfl)).mono ?_)
  rintro e w7 ⟨rfl, b7⟩
  replace M := hid (M.out.below b7)
  clear b7 a0 a1 a2 a3 af b0 b1 b2 b3 bf
  obtain ⟨d0, d1, d2, d3, df⟩ := (M.out.get 0 rfl).four
  obtain ⟨g0, g1, g2, g3, gf⟩ := (M.out.get 3 rfl).four
  go_wp2_with fail
  (with_reducible refine (same_self d _ _ _ (M.out.view 0 rfl) (hv.out.below M.out.bel)).mono ?_)
  rintro e w8 ⟨rfl, b8⟩
  replace M := hid (M.out.below b8)
  clear b8 d0 d1 d2 d3 df g0 g1 g2 g3 gf
  go_wp2_with fail
  go_ret
  exact ⟨by simp, M.out.bel⟩
end Go.Proofs.Ytiegocbdgimimaa.walAppends
namespace Go.Proofs.Ytiegocbdgimimaa.walAppends
open Go.ChangeShapes Go.WideShapes Go.ChangeAt Go.RowKit
open Go.ChangeMaps (open_string shut_string)
set_option linter.unusedVariables false
theorem own : ownKnob Try.prog.godebug = none := by kernel_rfl
theorem laidOut : laidOutB Try.prog = true := by kernel_rfl
set_option maxRecDepth 100000 in
theorem lifted (os : Os) (started : os.Started) (H : Type) (enc : TypeId × Value → H) :
    ReturnsInHanded {} Try.checked os 3 .any (Rows.walAppendsSpec.pre6 enc Try.prog Try.f3 Rows.walAppendsRow.domain false) (Rows.walAppendsSpec.post enc Try.prog Try.f3 false true false false) := by
  refine returnsInHanded_of_change_sized (C := Try.checked) own started (by kernel_rfl) Try.func3
    (ChangeSpec.witness6 (enc := enc) (C := Try.checked) false ⟨#[], #[.agg #[.slice none 0 0, .slice none 0 0, .bool false, .int .i64 0], .agg #[.int .i64 0, .int .i64 0], .int .i64 0, .agg #[.int .u8 0, .int .u64 0, .int .u64 0, .string ByteArray.empty]], []⟩ 8 (by kernel_rfl) (by kernel_rfl) (by kernel_rfl) (by kernel_rfl)) ?_
  intro W base args ds gs before hval0 hW hcnd hsz0 _
  have hsz : (DataW.weightsEach Try.prog (Try.f3.params.toList ++ Rows.walAppendsSpec.plain.varTypes Try.prog) (ds ++ gs)).all (· ≤ reachBytes) = true := hsz0
  have hval : ∀ (j : Nat) t v, Try.f3.params[j]? = some t → args[j]? = some v → Value.okWide Try.prog W .any base t v := hval0
  have hW' := hW
  obtain ⟨p, q, hA0, hV, rfl, hfz, hnd⟩ := hW
  have hA : DataW.TrodAll enc Try.prog W 0 (fun _ => true) true Try.f3.params.toList args.toList ds p := hA0
  rw [Try.params3] at hA hval
  obtain ⟨v0, vs0, d0, ds0, p0, q0, hargs, rfl, rfl, h0, r0⟩ := trodAll_cons hA
  obtain ⟨v1, vs1, d1, ds1, p1, q1, rfl, rfl, rfl, h1, r1⟩ := trodAll_cons r0
  obtain ⟨v2, vs2, d2, ds2, p2, q2, rfl, rfl, rfl, h2, r2⟩ := trodAll_cons r1
  obtain ⟨v3, vs3, d3, ds3, p3, q3, rfl, rfl, rfl, h3, r3⟩ := trodAll_cons r2
  obtain ⟨rfl, rfl, rfl⟩ := trodAll_nil r3
  obtain rfl : args = #[v0, v1, v2, v3] := by cases args; simp_all
  obtain ⟨rfl, rfl⟩ := trodVars_none hV
  have lt0 : ∀ x ∈ p0, x.block < W.heap.size := by obtain ⟨m, hm⟩ := h0; exact DataW.trod_lt m _ _ _ hm
  obtain ⟨a0, w0, f0⟩ := Sector.open_disk (hval 0 25 v0 rfl rfl) h0
  have b0 := Sector.disk_room (hval 0 25 v0 rfl rfl) h0 (fun m hm => by have := List.all_eq_true.1 hsz _ (DataW.weights_mem_each (j := 0) (t := 25) rfl rfl m hm); simpa using this) a0 w0
  have lt1 : ∀ x ∈ p1, x.block < W.heap.size := by obtain ⟨m, hm⟩ := h1; exact DataW.trod_lt m _ _ _ hm
  obtain ⟨a1, rfl, w1⟩ := Wal.open_region (hval 1 27 v1 rfl rfl) h1
  obtain ⟨a2, rfl, rfl, rfl, w2⟩ := open_int Try.underlying3 (hval 2 3 v2 rfl rfl) h2
  have lt3 : ∀ x ∈ p3, x.block < W.heap.size := by obtain ⟨m, hm⟩ := h3; exact DataW.trod_lt m _ _ _ hm
  obtain ⟨a3, rfl, w3⟩ := Rec.open_frame (hval 3 30 v3 rfl rfl) h3
  clear hA0 hval0
  refine (walk v0 a0 a1 a2 a3 W w0 f0 b0 w1 w2 w3).mono fun e W' ⟨he, bel⟩ => ?_
  subst he
  exact ⟨_, rfl, _, _, _, [], _, [], hW', trodAll_mk1 (shut_bool Try.underlying4 _), (trodAll_cons_mk (Below.trod laidOut (by kernel_rfl) (of_decide_eq_true (by kernel_rfl)) h0 bel lt0) (trodAll_cons_mk (Below.trod laidOut (by kernel_rfl) (of_decide_eq_true (by kernel_rfl)) h1 bel lt1) (trodAll_cons_mk (shut_int Try.underlying3 w2) (trodAll_cons_mk (Below.trod laidOut (by kernel_rfl) (of_decide_eq_true (by kernel_rfl)) h3 bel lt3) trodAll_mk0)))), rfl, bel.frame _, fun h => by cases h⟩
theorem over : Rows.walAppendsRow.holds Try.pinned (OpenSpec.ofChange Rows.walAppendsSpec) :=
  OpenClaim.holds_of_wide 3 Try.f3 rfl rfl rfl rfl rfl rfl rfl ⟨rfl, rfl, rfl, rfl, rfl⟩ rfl rfl rfl rfl rfl (by kernel_rfl) Try.func3 (by kernel_rfl)
    (of_decide_eq_true (by kernel_rfl)) (by unfold Func.isWrapper; first | (rw [if_pos (by decide +kernel)]; kernel_rfl) | (rw [if_neg (by decide +kernel)]; exact ⟨rfl, rfl⟩))
    (fun os started H enc _ => lifted os started H enc)
theorem proved : Rows.WalAppendsSaid := over
end Go.Proofs.Ytiegocbdgimimaa.walAppends
