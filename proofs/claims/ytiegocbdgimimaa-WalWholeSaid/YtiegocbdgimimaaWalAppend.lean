/-
  The contract of wal.Append.
-/
import Derived.Test.YtiegocbdgimimaaWalSteps
import Derived.Test.YtiegocbdgimimaaWalTurn
import Derived.Test.YtiegocbdgimimaaRecArgs
import Derived.Test.YtiegocbdgimimaaRound
import Derived.Deep.DrawnRows
namespace Go.Proofs.Ytiegocbdgimimaa.Wal
open Go.ChangeShapes Go.WideShapes Go.ChangeAt Go.RowKit
open Go.Proofs.Ytiegocbdgimimaa.Mem Go.Proofs.Ytiegocbdgimimaa.Rec Go.Proofs.Ytiegocbdgimimaa.Sector
set_option linter.unusedVariables false
set_option maxRecDepth 100000
def Apd (w : World) (x : Ap) (e0 : Ending) (w' : World) : Prop :=
  ∃ sv pv, e0 = .returned (.tuple #[.agg #[sv, pv, .bool x.d.off, .int .i64 x.d.fuse], .int .i64 x.at', .int .i64 x.c]) ∧ OwnDisk w.heap.size w' sv pv x.d ∧ Below w.heap.size w w'
theorem appE_run {d : Disk} {r : Rg} {a : Int} {f : Fr} {hd : ByteArray} {t : List ByteArray} (h0 : walChk d r = 0) (hs : sectorsE f = (hd :: t, 0)) (h1 : ¬ a < 0) (h2 : ¬ r.s < a) (h3 : ¬ r.s - a < (t.length : Int) + 1) :
    appE d r a f = if (runE d (layE (r.f + a) hd t)).2 ≠ 0 then ⟨(runE d (layE (r.f + a) hd t)).1, 0, (runE d (layE (r.f + a) hd t)).2⟩ else ⟨(runE d (layE (r.f + a) hd t)).1, a + ((t.length : Int) + 1), 0⟩ := by
  unfold appE
  rw [if_neg (by simpa using h0), hs]
  dsimp only [List.headD_cons, List.tail_cons]
  rw [if_neg (by simp), if_neg (by omega), if_neg (by rw [List.length_cons]; push_cast; exact h3), List.length_cons]
  push_cast
  rfl
set_option maxHeartbeats 8000000 in
theorem append_any (d : Disk) (v : Value) (r : Rg) (a : Int) (f : Fr) (w : World) (h : DiskV w v d) (hfu : (Lit.int .i64 d.fuse).wf = true) (hr : r.has) (ha : (Lit.int .i64 a).wf = true) (hf : f.has) :
    Calls Try.prog 6 #[v, rgV r, .int .i64 a, frV f] w (Apd w (appE d r a f)) := by
  have hv := hid h
  have hfu := hid hfu
  have hrh := hid hr
  have hfh := hid hf
  have ha2 := bounds_i64 ha
  obtain ⟨sv, pv, rfl, hs, hp⟩ := h
  obtain ⟨so, scap, rfl, _⟩ := hs.form
  obtain ⟨po, pcap, rfl, _⟩ := hp.form
  have hcheck := hid (fun v W (h : DiskV W v d) => wcheck_any d v r W h hr)
  have hsec := hid (fun W => secs_any f W hf)
  have hr0 := hr.s0
  have hr1 := hr.s1
  clear hs hp hr ha
  obtain ⟨a0, a1⟩ := ha2
  rw [show rgV r = .agg #[.int .i64 r.f, .int .i64 r.s] from rfl] at hcheck ⊢
  rw [show frV f = .agg #[.int .u8 f.kind, .int .u64 f.epoch, .int .u64 f.seq, .string f.pay] from rfl] at hsec ⊢
  go_enter Try.func6, Try.ntmps6
  go_upto_region 1 with fail
  have D0 := (((Blk.new w [.slice so d.secs.length scap, .slice po d.pend.length pcap, .bool d.off, .int .i64 d.fuse] 25).alloc (.cells #[.int .i64 r.f, .int .i64 r.s] 27)).alloc (.cells #[.int .u8 f.kind, .int .u64 f.epoch, .int .u64 f.seq, .string f.pay] 30)).alloc (.cells #[.slice none 0 0, .slice none 0 0, .bool false, .int .i64 0] 25)
  have R0 := ((Blk.new' (w.alloc (.cells #[.slice so d.secs.length scap, .slice po d.pend.length pcap, .bool d.off, .int .i64 d.fuse] 25)) [.int .i64 r.f, .int .i64 r.s] 27 (w.heap.size + 1) (by simp)).alloc (.cells #[.int .u8 f.kind, .int .u64 f.epoch, .int .u64 f.seq, .string f.pay] 30)).alloc (.cells #[.slice none 0 0, .slice none 0 0, .bool false, .int .i64 0] 25)
  have F0 := (Blk.new' ((w.alloc (.cells #[.slice so d.secs.length scap, .slice po d.pend.length pcap, .bool d.off, .int .i64 d.fuse] 25)).alloc (.cells #[.int .i64 r.f, .int .i64 r.s] 27)) [.int .u8 f.kind, .int .u64 f.epoch, .int .u64 f.seq, .string f.pay] 30 (w.heap.size + 2) (by simp)).alloc (.cells #[.slice none 0 0, .slice none 0 0, .bool false, .int .i64 0] 25)
  have Z0 := Blk.new' (((w.alloc (.cells #[.slice so d.secs.length scap, .slice po d.pend.length pcap, .bool d.off, .int .i64 d.fuse] 25)).alloc (.cells #[.int .i64 r.f, .int .i64 r.s] 27)).alloc (.cells #[.int .u8 f.kind, .int .u64 f.epoch, .int .u64 f.seq, .string f.pay] 30)) [.slice none 0 0, .slice none 0 0, .bool false, .int .i64 0] 25 (w.heap.size + 3) (by simp)
  have b0 : Below w.heap.size w ((((w.alloc (.cells #[.slice so d.secs.length scap, .slice po d.pend.length pcap, .bool d.off, .int .i64 d.fuse] 25)).alloc (.cells #[.int .i64 r.f, .int .i64 r.s] 27)).alloc (.cells #[.int .u8 f.kind, .int .u64 f.epoch, .int .u64 f.seq, .string f.pay] 30)).alloc (.cells #[.slice none 0 0, .slice none 0 0, .bool false, .int .i64 0] 25)) := by go_grown
  generalize (((w.alloc (.cells #[.slice so d.secs.length scap, .slice po d.pend.length pcap, .bool d.off, .int .i64 d.fuse] 25)).alloc (.cells #[.int .i64 r.f, .int .i64 r.s] 27)).alloc (.cells #[.int .u8 f.kind, .int .u64 f.epoch, .int .u64 f.seq, .string f.pay] 30)).alloc (.cells #[.slice none 0 0, .slice none 0 0, .bool false, .int .i64 0] 25) = X0 at D0 R0 F0 Z0 b0 ⊢
  obtain ⟨d0, d1, d2, d3, df⟩ := D0.four
  obtain ⟨g0, g1, gf⟩ := R0.two
  go_wp2_with fail
  refine (hcheck.out _ _ (hv.out.below b0)).mono ?_
  rintro e w1 ⟨rfl, b1⟩
  have D1 := hid (D0.below b1 D0.lt)
  have R1 := hid (R0.below b1 R0.lt)
  have F1 := hid (F0.below b1 F0.lt)
  have Z1 := hid (Z0.below b1 Z0.lt)
  have b1w := hid (bt b0 b1)
  clear d0 d1 d2 d3 df g0 g1 gf D0 R0 F0 Z0 b0 b1 hcheck
  obtain ⟨z0, z1, z2, z3, zf⟩ := Z1.out.four
  obtain ⟨f0, f1, f2, f3, ff⟩ := F1.out.four
  by_cases hc : walChk d r = 0
  · have hE : Hid (appE d r a f = if (sectorsE f).2 ≠ 0 then ⟨d, 0, (sectorsE f).2⟩ else if a < 0 ∨ r.s < a then ⟨d, 0, 1⟩ else if r.s - a < ((sectorsE f).1.length : Int) then ⟨d, 0, 16⟩ else if (runE d (layE (r.f + a) ((sectorsE f).1.headD ⟨#[]⟩) (sectorsE f).1.tail)).2 ≠ 0 then ⟨(runE d (layE (r.f + a) ((sectorsE f).1.headD ⟨#[]⟩) (sectorsE f).1.tail)).1, 0, (runE d (layE (r.f + a) ((sectorsE f).1.headD ⟨#[]⟩) (sectorsE f).1.tail)).2⟩ else ⟨(runE d (layE (r.f + a) ((sectorsE f).1.headD ⟨#[]⟩) (sectorsE f).1.tail)).1, a + ((sectorsE f).1.length : Int), 0⟩) := hid (by unfold appE; rw [if_neg (by simpa using hc)])
    have hck := hid (walChk_zero hc)
    have hls := hid (okB_secs hck.out.1)
    have hlp := hid (okB_pend hck.out.1)
    rw [hc]
    have hck0 := hid hc
    clear hc
    go_wp2_with fail
    refine (hsec.out _).mono ?_
    rintro e w2 ⟨lo, n, lcap, hn, rfl, hown, b2⟩
    have D2 := hid (D1.out.below b2 D1.out.lt)
    have R2 := hid (R1.out.below b2 R1.out.lt)
    have Z2 := hid (Z1.out.below b2 Z1.out.lt)
    have b2w := hid (bt b1w.out b2)
    have hsv := hid (SecTold.strs hown hn)
    clear z0 z1 z2 z3 zf f0 f1 f2 f3 ff D1 R1 F1 Z1 b1w b2 hown hsec
    by_cases hk : (sectorsE f).2 = 0
    · have hse : sectorsE f = (secsL f, 0) := by
        unfold sectorsE at hk ⊢
        split
        · rfl
        · rename_i h0; rw [if_neg h0] at hk; exact absurd hk h0
      have hpc : pcs f.pay.size ≤ 269 := by
        unfold sectorsE at hk
        split at hk
        · have := (fchk_zero (by assumption)).2; unfold pcs; omega
        · exact absurd hk (by assumption)
      rw [hse] at hE hsv hn ⊢
      obtain ⟨t, hL, htq⟩ := secsL_head f
      rw [hL] at hE hsv hn hse
      have hse2 := hid hse
      clear hse hk
      generalize bs (headL (hdOf f)) = hd at hE hsv hn hL hse2
      dsimp only at hn hsv
      clear hL
      have hnl : n = t.length + 1 := by rw [hn, List.length_cons]
      clear hn
      have htl := hid (show t.length ≤ 4000 by omega)
      have htl2 : (t.length : Int) ≤ 269 := by omega
      clear hpc htq
      subst hnl
      by_cases h1 : a < 0
      · replace hE : Hid (appE d r a f = ⟨d, 0, 1⟩) := hid (by rw [hE.out, if_neg (by simp), if_pos (.inl h1)])
        have hv2 := hid (hv.out.below b2w.out)
        obtain ⟨d0, d1, d2, d3, df⟩ := D2.out.four
        obtain ⟨z0, z1, z2, z3, zf⟩ := Z2.out.four
        obtain ⟨g0, g1, gf⟩ := R2.out.two
        go_wp2_with fail
        refine (copied_any d _ _ hv2.out hls.out hlp.out).mono ?_
        rintro e w4 ⟨sv4, pv4, rfl, o4, b4⟩
        obtain ⟨so4, sc4, rfl, _⟩ := ownsRow_form o4.secs
        obtain ⟨po4, pc4, rfl, _⟩ := ownsRow_form o4.pend
        have hsz := Z2.out.lt
        have Z4 := hid (Z2.out.below b4 Z2.out.lt)
        obtain ⟨Z5, O5, b5⟩ := box4 Z4.out (o4.mono (B' := w.heap.size + 4) (by omega)) (by omega : w.heap.size + 3 < w.heap.size + 4) (bt b2w.out b4) (by omega : w.heap.size ≤ w.heap.size + 3) (.slice so4 d.secs.length sc4) (.slice po4 d.pend.length pc4) (.bool d.off) (.int .i64 d.fuse)
        clear d0 d1 d2 d3 df z0 z1 z2 z3 zf g0 g1 gf
        obtain ⟨z0, z1, z2, z3, zf⟩ := Z4.out.four
        go_wp2_with fail
        obtain ⟨q0, q1, q2, q3, qf⟩ := Z5.out.four
        refine bodyPost_ret (v := .tuple #[.agg #[.slice so4 d.secs.length sc4, .slice po4 d.pend.length pc4, .bool d.off, .int .i64 d.fuse], .int .i64 0, .int .i64 1]) (by simp [results, Try.results6, go_sem, q0, q1, q2, q3]) rfl ?_
        rw [hE.out]
        exact ⟨_, _, rfl, OwnDisk.mono (B := w.heap.size + 4) (d := d) ⟨O5.out.secs, O5.out.far⟩ (by omega), b5.out⟩
      · by_cases h2 : r.s < a
        · replace hE : Hid (appE d r a f = ⟨d, 0, 1⟩) := hid (by rw [hE.out, if_neg (by simp), if_pos (.inr h2)]) 
          have hv2 := hid (hv.out.below b2w.out)
          obtain ⟨d0, d1, d2, d3, df⟩ := D2.out.four
          obtain ⟨z0, z1, z2, z3, zf⟩ := Z2.out.four
          obtain ⟨g0, g1, gf⟩ := R2.out.two
          go_wp2_with fail
          refine (copied_any d _ _ hv2.out hls.out hlp.out).mono ?_
          rintro e w4 ⟨sv4, pv4, rfl, o4, b4⟩
          obtain ⟨so4, sc4, rfl, _⟩ := ownsRow_form o4.secs
          obtain ⟨po4, pc4, rfl, _⟩ := ownsRow_form o4.pend
          have hsz := Z2.out.lt
          have Z4 := hid (Z2.out.below b4 Z2.out.lt)
          obtain ⟨Z5, O5, b5⟩ := box4 Z4.out (o4.mono (B' := w.heap.size + 4) (by omega)) (by omega : w.heap.size + 3 < w.heap.size + 4) (bt b2w.out b4) (by omega : w.heap.size ≤ w.heap.size + 3) (.slice so4 d.secs.length sc4) (.slice po4 d.pend.length pc4) (.bool d.off) (.int .i64 d.fuse)
          clear d0 d1 d2 d3 df z0 z1 z2 z3 zf g0 g1 gf
          obtain ⟨z0, z1, z2, z3, zf⟩ := Z4.out.four
          go_wp2_with fail
          obtain ⟨q0, q1, q2, q3, qf⟩ := Z5.out.four
          refine bodyPost_ret (v := .tuple #[.agg #[.slice so4 d.secs.length sc4, .slice po4 d.pend.length pc4, .bool d.off, .int .i64 d.fuse], .int .i64 0, .int .i64 1]) (by simp [results, Try.results6, go_sem, q0, q1, q2, q3]) rfl ?_
          rw [hE.out]
          exact ⟨_, _, rfl, OwnDisk.mono (B := w.heap.size + 4) (d := d) ⟨O5.out.secs, O5.out.far⟩ (by omega), b5.out⟩
        · by_cases h3 : r.s - a < (t.length : Int) + 1
          · replace hE : Hid (appE d r a f = ⟨d, 0, 16⟩) := hid (by rw [hE.out, if_neg (by simp), if_neg (by omega), if_pos (by dsimp only; rw [List.length_cons]; push_cast; exact h3)])
            have hv2 := hid (hv.out.below b2w.out)
            obtain ⟨d0, d1, d2, d3, df⟩ := D2.out.four
            obtain ⟨z0, z1, z2, z3, zf⟩ := Z2.out.four
            obtain ⟨g0, g1, gf⟩ := R2.out.two
            go_wp2_with fail
            refine (copied_any d _ _ hv2.out hls.out hlp.out).mono ?_
            rintro e w4 ⟨sv4, pv4, rfl, o4, b4⟩
            obtain ⟨so4, sc4, rfl, _⟩ := ownsRow_form o4.secs
            obtain ⟨po4, pc4, rfl, _⟩ := ownsRow_form o4.pend
            have hsz := Z2.out.lt
            have Z4 := hid (Z2.out.below b4 Z2.out.lt)
            obtain ⟨Z5, O5, b5⟩ := box4 Z4.out (o4.mono (B' := w.heap.size + 4) (by omega)) (by omega : w.heap.size + 3 < w.heap.size + 4) (bt b2w.out b4) (by omega : w.heap.size ≤ w.heap.size + 3) (.slice so4 d.secs.length sc4) (.slice po4 d.pend.length pc4) (.bool d.off) (.int .i64 d.fuse)
            clear d0 d1 d2 d3 df z0 z1 z2 z3 zf g0 g1 gf
            obtain ⟨z0, z1, z2, z3, zf⟩ := Z4.out.four
            go_wp2_with fail
            obtain ⟨q0, q1, q2, q3, qf⟩ := Z5.out.four
            refine bodyPost_ret (v := .tuple #[.agg #[.slice so4 d.secs.length sc4, .slice po4 d.pend.length pc4, .bool d.off, .int .i64 d.fuse], .int .i64 0, .int .i64 16]) (by simp [results, Try.results6, go_sem, q0, q1, q2, q3]) rfl ?_
            rw [hE.out]
            exact ⟨_, _, rfl, OwnDisk.mono (B := w.heap.size + 4) (d := d) ⟨O5.out.secs, O5.out.far⟩ (by omega), b5.out⟩
          · obtain ⟨x, hx⟩ : ∃ x, runE d (layE (r.f + a) hd t) = x := ⟨_, rfl⟩
            replace hE : Hid (appE d r a f = if x.2 ≠ 0 then ⟨x.1, 0, x.2⟩ else ⟨x.1, a + ((t.length : Int) + 1), 0⟩) := hid (by rw [← hx]; exact appE_run hck0.out hse2.out h1 h2 h3)
            have hX := hid hx
            obtain ⟨k1, k2, k3, k4, k5⟩ := hck.out
            have hn0 := hid (show 0 ≤ r.f + a by omega)
            have hn1 := hid (show r.f + a ≤ 100000 by omega)
            have hllen : (layE (r.f + a) hd t).length = t.length + 3 := by unfold layE; rw [List.length_append, puts_len]; simp
            have hll := hid (show 0 < (layE (r.f + a) hd t).length by omega)
            have hl5 := hid (show (layE (r.f + a) hd t).length ≤ 5000 by have := htl.out; omega)
            have hss := hsv
            have hf0 : (0 : Int) ≤ r.f := k2
            have hf1 : r.f ≤ 2000 := by omega
            have ha5 : a ≤ 2000 := by omega
            have hwr : IntKind.i64.wrap (r.f + a) = r.f + a := by rw [IntWalk.i64_in _ (by omega)]
            clear hx k1 k2 k3 k4 k5 hllen hsv
            obtain ⟨d0, d1, d2, d3, df⟩ := D2.out.four
            obtain ⟨z0, z1, z2, z3, zf⟩ := Z2.out.four
            obtain ⟨g0, g1, gf⟩ := R2.out.two
            go_upto_region 12 with fail
            clear d0 d1 d2 d3 df z0 z1 z2 z3 zf g0 g1 gf
            have hv0 := hid ((Below.refl w2.heap.size w2).drew)
            replace D2 := hid D2.out.drew
            replace R2 := hid R2.out.drew
            replace Z2 := hid Z2.out.drew
            replace hss := hid (hss.out.below hv0.out)
            replace b2w := hid b2w.out.drew
            have hmix : Try.prog.follows .mixedOrders = true := by kernel_rfl
            refine wp_region_any hmix ?_
            clear hmix
            rw [show ({ heap := w2.heap, tape := w2.tape, drawn := w2.drawn + 1, os := w2.os, output := w2.output } : World) = w2.drew from rfl]
            generalize w2.drew = W2 at D2 R2 Z2 hss b2w ⊢
            clear hv0
            refine wpAny_take (i := 1) (v := ?_) rfl (by kernel_rfl) (by kernel_rfl) (by kernel_rfl) (fun _ _ _ h => h) (Or.inl ⟨by rfl, ?_⟩) ?_
            rotate_left 1
            (intro w; go_simp; try with_reducible rfl)
            (try simp only [Act.put, List.getElem_toArray, List.getElem_cons_zero, List.getElem_cons_succ, List.setIfInBounds_toArray, List.set_cons_zero, List.set_cons_succ])
            refine wpAny_take (i := 3) (v := ?_) rfl (by kernel_rfl) (by kernel_rfl) (by kernel_rfl) (fun _ _ _ h => h) (Or.inl ⟨by rfl, ?_⟩) ?_
            rotate_left 1
            (intro w; go_simp; try with_reducible rfl)
            (try simp only [Act.put, List.getElem_toArray, List.getElem_cons_zero, List.getElem_cons_succ, List.setIfInBounds_toArray, List.set_cons_zero, List.set_cons_succ])
            refine wpAny_take (i := 5) (v := ?_) rfl (by kernel_rfl) (by kernel_rfl) (by kernel_rfl) (fun _ _ _ h => h) (Or.inl ⟨by rfl, ?_⟩) ?_
            rotate_left 1
            (intro w; go_simp; try with_reducible rfl)
            (try simp only [Act.put, List.getElem_toArray, List.getElem_cons_zero, List.getElem_cons_succ, List.setIfInBounds_toArray, List.set_cons_zero, List.set_cons_succ])
            refine wpAny_ready (rs := [0, 2]) (by kernel_rfl) (by simp) ?_
            refine AllReady.cons rfl (fun K hK => ?_) ?_
            · skip
              obtain ⟨d0, d1, d2, d3, df⟩ := D2.out.four
              go_simp
              clear d0 d1 d2 d3 df
              refine hK _ _ ?_
              clear hK K
              (try simp only [Act.put, List.getElem_toArray, List.getElem_cons_zero, List.getElem_cons_succ, List.setIfInBounds_toArray, List.set_cons_zero, List.set_cons_succ])
              refine wpAny_ready (rs := [2]) (by kernel_rfl) (by simp) ?_
              refine AllReady.cons rfl (fun K hK => ?_) AllReady.nil
              obtain ⟨g0, g1, gf⟩ := R2.out.two
              go_simp
              clear g0 g1 gf
              refine hK _ _ ?_
              clear hK K
              (try simp only [Act.put, List.getElem_toArray, List.getElem_cons_zero, List.getElem_cons_succ, List.setIfInBounds_toArray, List.set_cons_zero, List.set_cons_succ])
              refine wpAny_take (i := 4) (v := ?_) rfl (by kernel_rfl) (by kernel_rfl) (by kernel_rfl) (fun _ _ _ h => h) (Or.inl ⟨by rfl, ?_⟩) ?_
              rotate_left 1
              (intro w; go_simp; try with_reducible rfl)
              (try simp only [Act.put, List.getElem_toArray, List.getElem_cons_zero, List.getElem_cons_succ, List.setIfInBounds_toArray, List.set_cons_zero, List.set_cons_succ])
              refine wpAny_ready (rs := [6]) (by kernel_rfl) (by simp) ?_
              refine AllReady.cons rfl (fun K hK => ?_) AllReady.nil
              go_simp
              (with_reducible refine (laying_any (r.f + a) hd t _ _ hss.out hn0.out hn1.out htl.out).mono ?_)
              rintro e w3 ⟨lo, lc, cs, rfl, hsl, hst, b3⟩
              replace D2 := hid (D2.out.below b3 D2.out.lt)
              replace R2 := hid (R2.out.below b3 R2.out.lt)
              replace Z2 := hid (Z2.out.below b3 Z2.out.lt)
              replace b2w := hid (bt b2w.out b3)
              have hsl' := hid hsl
              have hst' := hid hst
              clear hsl hst b3
              refine hK _ _ ?_
              clear hK K
              (try simp only [Act.put, List.getElem_toArray, List.getElem_cons_zero, List.getElem_cons_succ, List.setIfInBounds_toArray, List.set_cons_zero, List.set_cons_succ])
              refine wpAny_ready (rs := [7]) (by kernel_rfl) (by simp) ?_
              refine AllReady.cons rfl (fun K hK => ?_) AllReady.nil
              go_simp
              (with_reducible refine (inTurn_any d _ (layE (r.f + a) hd t) lo lc cs _ (hv.out.below b2w.out) hfu.out hst'.out hsl'.out hll.out hl5.out).mono ?_)
              rw [hX.out]
              rintro e w4 hr4
              obtain ⟨so4, sc4, po4, pc4, rfl, o4, b4⟩ := hr4.open
              clear hr4
              have hsz := Z2.out.lt
              have o4' := hid (o4.mono (B' := w.heap.size + 4) (by omega))
              replace D2 := hid (D2.out.below b4 D2.out.lt)
              replace Z2 := hid (Z2.out.below b4 Z2.out.lt)
              replace b2w := hid (bt b2w.out b4)
              clear o4 b4 hsl' hst' R2 hsz
              refine hK _ _ ?_
              clear hK K
              (try simp only [Act.put, List.getElem_toArray, List.getElem_cons_zero, List.getElem_cons_succ, List.setIfInBounds_toArray, List.set_cons_zero, List.set_cons_succ])
              refine wpAny_take (i := 8) (v := ?_) rfl (by kernel_rfl) (by kernel_rfl) (by kernel_rfl) (fun _ _ _ h => h) (Or.inl ⟨by rfl, ?_⟩) ?_
              rotate_left 1
              (intro w; go_simp; try with_reducible rfl)
              (try simp only [Act.put, List.getElem_toArray, List.getElem_cons_zero, List.getElem_cons_succ, List.setIfInBounds_toArray, List.set_cons_zero, List.set_cons_succ])
              refine wpAny_take (i := 9) (v := ?_) rfl (by kernel_rfl) (by kernel_rfl) (by kernel_rfl) (fun _ _ _ h => h) (Or.inl ⟨by rfl, ?_⟩) ?_
              rotate_left 1
              (intro w; go_simp; try with_reducible rfl)
              (try simp only [Act.put, List.getElem_toArray, List.getElem_cons_zero, List.getElem_cons_succ, List.setIfInBounds_toArray, List.set_cons_zero, List.set_cons_succ])
              refine wpAny_take (i := 10) (v := ?_) rfl (by kernel_rfl) (by kernel_rfl) (by kernel_rfl) (fun _ _ _ h => h) (Or.inl ⟨by rfl, ?_⟩) ?_
              rotate_left 1
              (intro w; go_simp; try with_reducible rfl)
              (try simp only [Act.put, List.getElem_toArray, List.getElem_cons_zero, List.getElem_cons_succ, List.setIfInBounds_toArray, List.set_cons_zero, List.set_cons_succ])
              refine wpAny_ready (rs := [11]) (by kernel_rfl) (by simp) ?_
              refine AllReady.cons rfl (fun K hK => ?_) AllReady.nil
              obtain ⟨d0, d1, d2, d3, df⟩ := D2.out.four
              go_simp
              clear d0 d1 d2 d3 df
              refine hK _ _ ?_
              clear hK K
              (try simp only [Act.put, List.getElem_toArray, List.getElem_cons_zero, List.getElem_cons_succ, List.setIfInBounds_toArray, List.set_cons_zero, List.set_cons_succ])
              refine wpAny_take (i := 12) (v := ?_) rfl (by kernel_rfl) (by kernel_rfl) (by kernel_rfl) (fun _ _ _ h => h) (Or.inl ⟨by rfl, ?_⟩) ?_
              rotate_left 1
              (intro w; go_simp; try with_reducible rfl)
              (try simp only [Act.put, List.getElem_toArray, List.getElem_cons_zero, List.getElem_cons_succ, List.setIfInBounds_toArray, List.set_cons_zero, List.set_cons_succ])
              refine wpAny_done (by kernel_rfl) ?_ _
              
              obtain ⟨D3, O3, b3⟩ := box4 D2.out o4'.out (by omega : w.heap.size < w.heap.size + 4) b2w.out (Nat.le_refl _) (.slice so4 x.1.secs.length sc4) (.slice po4 x.1.pend.length pc4) (.bool x.1.off) (.int .i64 x.1.fuse)
              have Z3 := hid ((((Z2.out.other (p := ⟨w.heap.size, 0, none⟩) (by simp) (.slice so4 x.1.secs.length sc4)).other (p := ⟨w.heap.size, 1, none⟩) (by simp) (.slice po4 x.1.pend.length pc4)).other (p := ⟨w.heap.size, 2, none⟩) (by simp) (.bool x.1.off)).other (p := ⟨w.heap.size, 3, none⟩) (by simp) (.int .i64 x.1.fuse))
              clear D2 Z2 o4' b2w
              generalize (((w4.setCell ⟨w.heap.size, 0, none⟩ (.slice so4 x.1.secs.length sc4)).setCell ⟨w.heap.size, 1, none⟩ (.slice po4 x.1.pend.length pc4)).setCell ⟨w.heap.size, 2, none⟩ (.bool x.1.off)).setCell ⟨w.heap.size, 3, none⟩ (.int .i64 x.1.fuse) = X4 at D3 Z3 O3 b3 ⊢
              obtain ⟨d0, d1, d2, d3, df⟩ := D3.out.four
              obtain ⟨z0, z1, z2, z3, zf⟩ := Z3.out.four
              obtain ⟨Z5, O5, b5⟩ := box4 Z3.out O3.out (by omega : w.heap.size + 3 < w.heap.size + 4) b3.out (by omega : w.heap.size ≤ w.heap.size + 3) (.slice so4 x.1.secs.length sc4) (.slice po4 x.1.pend.length pc4) (.bool x.1.off) (.int .i64 x.1.fuse)
              by_cases hz : x.2 = 0
              · have hz1 : (x.2 != 0) = false := by rw [hz]; rfl
                have hE2 : Hid (appE d r a f = ⟨x.1, a + ((t.length : Int) + 1), 0⟩) := hid (by rw [hE.out, if_neg (by simpa using hz)])
                clear hz
                go_wp2_with fail
                obtain ⟨q0, q1, q2, q3, qf⟩ := Z5.out.four
                refine bodyPost_ret (v := .tuple #[.agg #[.slice so4 x.1.secs.length sc4, .slice po4 x.1.pend.length pc4, .bool x.1.off, .int .i64 x.1.fuse], .int .i64 (a + ((t.length : Int) + 1)), .int .i64 0]) (by simp [results, Try.results6, go_sem, q0, q1, q2, q3]) rfl ?_
                rw [hE2.out]
                exact ⟨_, _, rfl, OwnDisk.mono (B := w.heap.size + 4) (d := x.1) ⟨O5.out.secs, O5.out.far⟩ (by omega), b5.out⟩
              · have hz1 : (x.2 != 0) = true := by simpa using hz
                have hE2 : Hid (appE d r a f = ⟨x.1, 0, x.2⟩) := hid (by rw [hE.out, if_pos hz])
                clear hz
                go_wp2_with fail
                obtain ⟨q0, q1, q2, q3, qf⟩ := Z5.out.four
                refine bodyPost_ret (v := .tuple #[.agg #[.slice so4 x.1.secs.length sc4, .slice po4 x.1.pend.length pc4, .bool x.1.off, .int .i64 x.1.fuse], .int .i64 0, .int .i64 x.2]) (by simp [results, Try.results6, go_sem, q0, q1, q2, q3]) rfl ?_
                rw [hE2.out]
                exact ⟨_, _, rfl, OwnDisk.mono (B := w.heap.size + 4) (d := x.1) ⟨O5.out.secs, O5.out.far⟩ (by omega), b5.out⟩
            refine AllReady.cons rfl (fun K hK => ?_) AllReady.nil
            obtain ⟨g0, g1, gf⟩ := R2.out.two
            go_simp
            clear g0 g1 gf
            refine hK _ _ ?_
            clear hK K
            (try simp only [Act.put, List.getElem_toArray, List.getElem_cons_zero, List.getElem_cons_succ, List.setIfInBounds_toArray, List.set_cons_zero, List.set_cons_succ])
            refine wpAny_take (i := 4) (v := ?_) rfl (by kernel_rfl) (by kernel_rfl) (by kernel_rfl) (fun _ _ _ h => h) (Or.inl ⟨by rfl, ?_⟩) ?_
            rotate_left 1
            (intro w; go_simp; try with_reducible rfl)
            (try simp only [Act.put, List.getElem_toArray, List.getElem_cons_zero, List.getElem_cons_succ, List.setIfInBounds_toArray, List.set_cons_zero, List.set_cons_succ])
            refine wpAny_ready (rs := [0, 6]) (by kernel_rfl) (by simp) ?_
            refine AllReady.cons rfl (fun K hK => ?_) ?_
            · skip
              obtain ⟨d0, d1, d2, d3, df⟩ := D2.out.four
              go_simp
              clear d0 d1 d2 d3 df
              refine hK _ _ ?_
              clear hK K
              (try simp only [Act.put, List.getElem_toArray, List.getElem_cons_zero, List.getElem_cons_succ, List.setIfInBounds_toArray, List.set_cons_zero, List.set_cons_succ])
              refine wpAny_ready (rs := [6]) (by kernel_rfl) (by simp) ?_
              refine AllReady.cons rfl (fun K hK => ?_) AllReady.nil
              go_simp
              (with_reducible refine (laying_any (r.f + a) hd t _ _ hss.out hn0.out hn1.out htl.out).mono ?_)
              rintro e w3 ⟨lo, lc, cs, rfl, hsl, hst, b3⟩
              replace D2 := hid (D2.out.below b3 D2.out.lt)
              replace R2 := hid (R2.out.below b3 R2.out.lt)
              replace Z2 := hid (Z2.out.below b3 Z2.out.lt)
              replace b2w := hid (bt b2w.out b3)
              have hsl' := hid hsl
              have hst' := hid hst
              clear hsl hst b3
              refine hK _ _ ?_
              clear hK K
              (try simp only [Act.put, List.getElem_toArray, List.getElem_cons_zero, List.getElem_cons_succ, List.setIfInBounds_toArray, List.set_cons_zero, List.set_cons_succ])
              refine wpAny_ready (rs := [7]) (by kernel_rfl) (by simp) ?_
              refine AllReady.cons rfl (fun K hK => ?_) AllReady.nil
              go_simp
              (with_reducible refine (inTurn_any d _ (layE (r.f + a) hd t) lo lc cs _ (hv.out.below b2w.out) hfu.out hst'.out hsl'.out hll.out hl5.out).mono ?_)
              rw [hX.out]
              rintro e w4 hr4
              obtain ⟨so4, sc4, po4, pc4, rfl, o4, b4⟩ := hr4.open
              clear hr4
              have hsz := Z2.out.lt
              have o4' := hid (o4.mono (B' := w.heap.size + 4) (by omega))
              replace D2 := hid (D2.out.below b4 D2.out.lt)
              replace Z2 := hid (Z2.out.below b4 Z2.out.lt)
              replace b2w := hid (bt b2w.out b4)
              clear o4 b4 hsl' hst' R2 hsz
              refine hK _ _ ?_
              clear hK K
              (try simp only [Act.put, List.getElem_toArray, List.getElem_cons_zero, List.getElem_cons_succ, List.setIfInBounds_toArray, List.set_cons_zero, List.set_cons_succ])
              refine wpAny_take (i := 8) (v := ?_) rfl (by kernel_rfl) (by kernel_rfl) (by kernel_rfl) (fun _ _ _ h => h) (Or.inl ⟨by rfl, ?_⟩) ?_
              rotate_left 1
              (intro w; go_simp; try with_reducible rfl)
              (try simp only [Act.put, List.getElem_toArray, List.getElem_cons_zero, List.getElem_cons_succ, List.setIfInBounds_toArray, List.set_cons_zero, List.set_cons_succ])
              refine wpAny_take (i := 9) (v := ?_) rfl (by kernel_rfl) (by kernel_rfl) (by kernel_rfl) (fun _ _ _ h => h) (Or.inl ⟨by rfl, ?_⟩) ?_
              rotate_left 1
              (intro w; go_simp; try with_reducible rfl)
              (try simp only [Act.put, List.getElem_toArray, List.getElem_cons_zero, List.getElem_cons_succ, List.setIfInBounds_toArray, List.set_cons_zero, List.set_cons_succ])
              refine wpAny_take (i := 10) (v := ?_) rfl (by kernel_rfl) (by kernel_rfl) (by kernel_rfl) (fun _ _ _ h => h) (Or.inl ⟨by rfl, ?_⟩) ?_
              rotate_left 1
              (intro w; go_simp; try with_reducible rfl)
              (try simp only [Act.put, List.getElem_toArray, List.getElem_cons_zero, List.getElem_cons_succ, List.setIfInBounds_toArray, List.set_cons_zero, List.set_cons_succ])
              refine wpAny_ready (rs := [11]) (by kernel_rfl) (by simp) ?_
              refine AllReady.cons rfl (fun K hK => ?_) AllReady.nil
              obtain ⟨d0, d1, d2, d3, df⟩ := D2.out.four
              go_simp
              clear d0 d1 d2 d3 df
              refine hK _ _ ?_
              clear hK K
              (try simp only [Act.put, List.getElem_toArray, List.getElem_cons_zero, List.getElem_cons_succ, List.setIfInBounds_toArray, List.set_cons_zero, List.set_cons_succ])
              refine wpAny_take (i := 12) (v := ?_) rfl (by kernel_rfl) (by kernel_rfl) (by kernel_rfl) (fun _ _ _ h => h) (Or.inl ⟨by rfl, ?_⟩) ?_
              rotate_left 1
              (intro w; go_simp; try with_reducible rfl)
              (try simp only [Act.put, List.getElem_toArray, List.getElem_cons_zero, List.getElem_cons_succ, List.setIfInBounds_toArray, List.set_cons_zero, List.set_cons_succ])
              refine wpAny_done (by kernel_rfl) ?_ _
              
              obtain ⟨D3, O3, b3⟩ := box4 D2.out o4'.out (by omega : w.heap.size < w.heap.size + 4) b2w.out (Nat.le_refl _) (.slice so4 x.1.secs.length sc4) (.slice po4 x.1.pend.length pc4) (.bool x.1.off) (.int .i64 x.1.fuse)
              have Z3 := hid ((((Z2.out.other (p := ⟨w.heap.size, 0, none⟩) (by simp) (.slice so4 x.1.secs.length sc4)).other (p := ⟨w.heap.size, 1, none⟩) (by simp) (.slice po4 x.1.pend.length pc4)).other (p := ⟨w.heap.size, 2, none⟩) (by simp) (.bool x.1.off)).other (p := ⟨w.heap.size, 3, none⟩) (by simp) (.int .i64 x.1.fuse))
              clear D2 Z2 o4' b2w
              generalize (((w4.setCell ⟨w.heap.size, 0, none⟩ (.slice so4 x.1.secs.length sc4)).setCell ⟨w.heap.size, 1, none⟩ (.slice po4 x.1.pend.length pc4)).setCell ⟨w.heap.size, 2, none⟩ (.bool x.1.off)).setCell ⟨w.heap.size, 3, none⟩ (.int .i64 x.1.fuse) = X4 at D3 Z3 O3 b3 ⊢
              obtain ⟨d0, d1, d2, d3, df⟩ := D3.out.four
              obtain ⟨z0, z1, z2, z3, zf⟩ := Z3.out.four
              obtain ⟨Z5, O5, b5⟩ := box4 Z3.out O3.out (by omega : w.heap.size + 3 < w.heap.size + 4) b3.out (by omega : w.heap.size ≤ w.heap.size + 3) (.slice so4 x.1.secs.length sc4) (.slice po4 x.1.pend.length pc4) (.bool x.1.off) (.int .i64 x.1.fuse)
              by_cases hz : x.2 = 0
              · have hz1 : (x.2 != 0) = false := by rw [hz]; rfl
                have hE2 : Hid (appE d r a f = ⟨x.1, a + ((t.length : Int) + 1), 0⟩) := hid (by rw [hE.out, if_neg (by simpa using hz)])
                clear hz
                go_wp2_with fail
                obtain ⟨q0, q1, q2, q3, qf⟩ := Z5.out.four
                refine bodyPost_ret (v := .tuple #[.agg #[.slice so4 x.1.secs.length sc4, .slice po4 x.1.pend.length pc4, .bool x.1.off, .int .i64 x.1.fuse], .int .i64 (a + ((t.length : Int) + 1)), .int .i64 0]) (by simp [results, Try.results6, go_sem, q0, q1, q2, q3]) rfl ?_
                rw [hE2.out]
                exact ⟨_, _, rfl, OwnDisk.mono (B := w.heap.size + 4) (d := x.1) ⟨O5.out.secs, O5.out.far⟩ (by omega), b5.out⟩
              · have hz1 : (x.2 != 0) = true := by simpa using hz
                have hE2 : Hid (appE d r a f = ⟨x.1, 0, x.2⟩) := hid (by rw [hE.out, if_pos hz])
                clear hz
                go_wp2_with fail
                obtain ⟨q0, q1, q2, q3, qf⟩ := Z5.out.four
                refine bodyPost_ret (v := .tuple #[.agg #[.slice so4 x.1.secs.length sc4, .slice po4 x.1.pend.length pc4, .bool x.1.off, .int .i64 x.1.fuse], .int .i64 0, .int .i64 x.2]) (by simp [results, Try.results6, go_sem, q0, q1, q2, q3]) rfl ?_
                rw [hE2.out]
                exact ⟨_, _, rfl, OwnDisk.mono (B := w.heap.size + 4) (d := x.1) ⟨O5.out.secs, O5.out.far⟩ (by omega), b5.out⟩
            refine AllReady.cons rfl (fun K hK => ?_) AllReady.nil
            go_simp
            (with_reducible refine (laying_any (r.f + a) hd t _ _ hss.out hn0.out hn1.out htl.out).mono ?_)
            rintro e w3 ⟨lo, lc, cs, rfl, hsl, hst, b3⟩
            replace D2 := hid (D2.out.below b3 D2.out.lt)
            replace R2 := hid (R2.out.below b3 R2.out.lt)
            replace Z2 := hid (Z2.out.below b3 Z2.out.lt)
            replace b2w := hid (bt b2w.out b3)
            have hsl' := hid hsl
            have hst' := hid hst
            clear hsl hst b3
            refine hK _ _ ?_
            clear hK K
            (try simp only [Act.put, List.getElem_toArray, List.getElem_cons_zero, List.getElem_cons_succ, List.setIfInBounds_toArray, List.set_cons_zero, List.set_cons_succ])
            refine wpAny_ready (rs := [0]) (by kernel_rfl) (by simp) ?_
            refine AllReady.cons rfl (fun K hK => ?_) AllReady.nil
            obtain ⟨d0, d1, d2, d3, df⟩ := D2.out.four
            go_simp
            clear d0 d1 d2 d3 df
            refine hK _ _ ?_
            clear hK K
            (try simp only [Act.put, List.getElem_toArray, List.getElem_cons_zero, List.getElem_cons_succ, List.setIfInBounds_toArray, List.set_cons_zero, List.set_cons_succ])
            refine wpAny_ready (rs := [7]) (by kernel_rfl) (by simp) ?_
            refine AllReady.cons rfl (fun K hK => ?_) AllReady.nil
            go_simp
            (with_reducible refine (inTurn_any d _ (layE (r.f + a) hd t) lo lc cs _ (hv.out.below b2w.out) hfu.out hst'.out hsl'.out hll.out hl5.out).mono ?_)
            rw [hX.out]
            rintro e w4 hr4
            obtain ⟨so4, sc4, po4, pc4, rfl, o4, b4⟩ := hr4.open
            clear hr4
            have hsz := Z2.out.lt
            have o4' := hid (o4.mono (B' := w.heap.size + 4) (by omega))
            replace D2 := hid (D2.out.below b4 D2.out.lt)
            replace Z2 := hid (Z2.out.below b4 Z2.out.lt)
            replace b2w := hid (bt b2w.out b4)
            clear o4 b4 hsl' hst' R2 hsz
            refine hK _ _ ?_
            clear hK K
            (try simp only [Act.put, List.getElem_toArray, List.getElem_cons_zero, List.getElem_cons_succ, List.setIfInBounds_toArray, List.set_cons_zero, List.set_cons_succ])
            refine wpAny_take (i := 8) (v := ?_) rfl (by kernel_rfl) (by kernel_rfl) (by kernel_rfl) (fun _ _ _ h => h) (Or.inl ⟨by rfl, ?_⟩) ?_
            rotate_left 1
            (intro w; go_simp; try with_reducible rfl)
            (try simp only [Act.put, List.getElem_toArray, List.getElem_cons_zero, List.getElem_cons_succ, List.setIfInBounds_toArray, List.set_cons_zero, List.set_cons_succ])
            refine wpAny_take (i := 9) (v := ?_) rfl (by kernel_rfl) (by kernel_rfl) (by kernel_rfl) (fun _ _ _ h => h) (Or.inl ⟨by rfl, ?_⟩) ?_
            rotate_left 1
            (intro w; go_simp; try with_reducible rfl)
            (try simp only [Act.put, List.getElem_toArray, List.getElem_cons_zero, List.getElem_cons_succ, List.setIfInBounds_toArray, List.set_cons_zero, List.set_cons_succ])
            refine wpAny_take (i := 10) (v := ?_) rfl (by kernel_rfl) (by kernel_rfl) (by kernel_rfl) (fun _ _ _ h => h) (Or.inl ⟨by rfl, ?_⟩) ?_
            rotate_left 1
            (intro w; go_simp; try with_reducible rfl)
            (try simp only [Act.put, List.getElem_toArray, List.getElem_cons_zero, List.getElem_cons_succ, List.setIfInBounds_toArray, List.set_cons_zero, List.set_cons_succ])
            refine wpAny_ready (rs := [11]) (by kernel_rfl) (by simp) ?_
            refine AllReady.cons rfl (fun K hK => ?_) AllReady.nil
            obtain ⟨d0, d1, d2, d3, df⟩ := D2.out.four
            go_simp
            clear d0 d1 d2 d3 df
            refine hK _ _ ?_
            clear hK K
            (try simp only [Act.put, List.getElem_toArray, List.getElem_cons_zero, List.getElem_cons_succ, List.setIfInBounds_toArray, List.set_cons_zero, List.set_cons_succ])
            refine wpAny_take (i := 12) (v := ?_) rfl (by kernel_rfl) (by kernel_rfl) (by kernel_rfl) (fun _ _ _ h => h) (Or.inl ⟨by rfl, ?_⟩) ?_
            rotate_left 1
            (intro w; go_simp; try with_reducible rfl)
            (try simp only [Act.put, List.getElem_toArray, List.getElem_cons_zero, List.getElem_cons_succ, List.setIfInBounds_toArray, List.set_cons_zero, List.set_cons_succ])
            refine wpAny_done (by kernel_rfl) ?_ _

            obtain ⟨D3, O3, b3⟩ := box4 D2.out o4'.out (by omega : w.heap.size < w.heap.size + 4) b2w.out (Nat.le_refl _) (.slice so4 x.1.secs.length sc4) (.slice po4 x.1.pend.length pc4) (.bool x.1.off) (.int .i64 x.1.fuse)
            have Z3 := hid ((((Z2.out.other (p := ⟨w.heap.size, 0, none⟩) (by simp) (.slice so4 x.1.secs.length sc4)).other (p := ⟨w.heap.size, 1, none⟩) (by simp) (.slice po4 x.1.pend.length pc4)).other (p := ⟨w.heap.size, 2, none⟩) (by simp) (.bool x.1.off)).other (p := ⟨w.heap.size, 3, none⟩) (by simp) (.int .i64 x.1.fuse))
            clear D2 Z2 o4' b2w
            generalize (((w4.setCell ⟨w.heap.size, 0, none⟩ (.slice so4 x.1.secs.length sc4)).setCell ⟨w.heap.size, 1, none⟩ (.slice po4 x.1.pend.length pc4)).setCell ⟨w.heap.size, 2, none⟩ (.bool x.1.off)).setCell ⟨w.heap.size, 3, none⟩ (.int .i64 x.1.fuse) = X4 at D3 Z3 O3 b3 ⊢
            obtain ⟨d0, d1, d2, d3, df⟩ := D3.out.four
            obtain ⟨z0, z1, z2, z3, zf⟩ := Z3.out.four
            obtain ⟨Z5, O5, b5⟩ := box4 Z3.out O3.out (by omega : w.heap.size + 3 < w.heap.size + 4) b3.out (by omega : w.heap.size ≤ w.heap.size + 3) (.slice so4 x.1.secs.length sc4) (.slice po4 x.1.pend.length pc4) (.bool x.1.off) (.int .i64 x.1.fuse)
            by_cases hz : x.2 = 0
            · have hz1 : (x.2 != 0) = false := by rw [hz]; rfl
              have hE2 : Hid (appE d r a f = ⟨x.1, a + ((t.length : Int) + 1), 0⟩) := hid (by rw [hE.out, if_neg (by simpa using hz)])
              clear hz
              go_wp2_with fail
              obtain ⟨q0, q1, q2, q3, qf⟩ := Z5.out.four
              refine bodyPost_ret (v := .tuple #[.agg #[.slice so4 x.1.secs.length sc4, .slice po4 x.1.pend.length pc4, .bool x.1.off, .int .i64 x.1.fuse], .int .i64 (a + ((t.length : Int) + 1)), .int .i64 0]) (by simp [results, Try.results6, go_sem, q0, q1, q2, q3]) rfl ?_
              rw [hE2.out]
              exact ⟨_, _, rfl, OwnDisk.mono (B := w.heap.size + 4) (d := x.1) ⟨O5.out.secs, O5.out.far⟩ (by omega), b5.out⟩
            · have hz1 : (x.2 != 0) = true := by simpa using hz
              have hE2 : Hid (appE d r a f = ⟨x.1, 0, x.2⟩) := hid (by rw [hE.out, if_pos hz])
              clear hz
              go_wp2_with fail
              obtain ⟨q0, q1, q2, q3, qf⟩ := Z5.out.four
              refine bodyPost_ret (v := .tuple #[.agg #[.slice so4 x.1.secs.length sc4, .slice po4 x.1.pend.length pc4, .bool x.1.off, .int .i64 x.1.fuse], .int .i64 0, .int .i64 x.2]) (by simp [results, Try.results6, go_sem, q0, q1, q2, q3]) rfl ?_
              rw [hE2.out]
              exact ⟨_, _, rfl, OwnDisk.mono (B := w.heap.size + 4) (d := x.1) ⟨O5.out.secs, O5.out.far⟩ (by omega), b5.out⟩
    · have hq : ((sectorsE f).2 != 0) = true := by simpa using hk
      replace hE : Hid (appE d r a f = ⟨d, 0, (sectorsE f).2⟩) := hid (by rw [hE.out, if_pos hk])
      clear hk hsv
      generalize (sectorsE f).2 = c at hE hq ⊢
      have hv2 := hid (hv.out.below b2w.out)
      obtain ⟨d0, d1, d2, d3, df⟩ := D2.out.four
      obtain ⟨z0, z1, z2, z3, zf⟩ := Z2.out.four
      obtain ⟨g0, g1, gf⟩ := R2.out.two
      go_wp2_with fail
      refine (copied_any d _ _ hv2.out hls.out hlp.out).mono ?_
      rintro e w4 ⟨sv4, pv4, rfl, o4, b4⟩
      obtain ⟨so4, sc4, rfl, _⟩ := ownsRow_form o4.secs
      obtain ⟨po4, pc4, rfl, _⟩ := ownsRow_form o4.pend
      have hsz := Z2.out.lt
      have Z4 := hid (Z2.out.below b4 Z2.out.lt)
      obtain ⟨Z5, O5, b5⟩ := box4 Z4.out (o4.mono (B' := w.heap.size + 4) (by omega)) (by omega : w.heap.size + 3 < w.heap.size + 4) (bt b2w.out b4) (by omega : w.heap.size ≤ w.heap.size + 3) (.slice so4 d.secs.length sc4) (.slice po4 d.pend.length pc4) (.bool d.off) (.int .i64 d.fuse)
      clear d0 d1 d2 d3 df z0 z1 z2 z3 zf g0 g1 gf
      obtain ⟨z0, z1, z2, z3, zf⟩ := Z4.out.four
      go_wp2_with fail
      obtain ⟨q0, q1, q2, q3, qf⟩ := Z5.out.four
      refine bodyPost_ret (v := .tuple #[.agg #[.slice so4 d.secs.length sc4, .slice po4 d.pend.length pc4, .bool d.off, .int .i64 d.fuse], .int .i64 0, .int .i64 c]) (by simp [results, Try.results6, go_sem, q0, q1, q2, q3]) rfl ?_
      rw [hE.out]
      exact ⟨_, _, rfl, OwnDisk.mono (B := w.heap.size + 4) (d := d) ⟨O5.out.secs, O5.out.far⟩ (by omega), b5.out⟩
  · have hq : (walChk d r != 0) = true := by simpa using hc
    have hE : Hid (appE d r a f = ⟨zeroDisk, 0, walChk d r⟩) := hid (by unfold appE; rw [if_pos hc])
    clear hc
    generalize walChk d r = c at hE hq ⊢
    have hsz := Z1.out.lt
    have zo : OwnDisk (w.heap.size + 4) w1 (.slice none 0 0) (.slice none 0 0) zeroDisk := zero_own (by omega)
    obtain ⟨Z5, O5, b5⟩ := box4 Z1.out zo (by omega : w.heap.size + 3 < w.heap.size + 4) b1w.out (by omega : w.heap.size ≤ w.heap.size + 3) (.slice none 0 0) (.slice none 0 0) (.bool false) (.int .i64 0)
    clear zo hsz
    go_wp2_with fail
    obtain ⟨q0, q1, q2, q3, qf⟩ := Z5.out.four
    refine bodyPost_ret (v := .tuple #[.agg #[.slice none 0 0, .slice none 0 0, .bool false, .int .i64 0], .int .i64 0, .int .i64 c]) (by simp [results, Try.results6, go_sem, q0, q1, q2, q3]) rfl ?_
    rw [hE.out]
    exact ⟨_, _, rfl, OwnDisk.mono (B := w.heap.size + 4) (d := zeroDisk) ⟨O5.out.secs, O5.out.far⟩ (by omega), b5.out⟩
end Go.Proofs.Ytiegocbdgimimaa.Wal
