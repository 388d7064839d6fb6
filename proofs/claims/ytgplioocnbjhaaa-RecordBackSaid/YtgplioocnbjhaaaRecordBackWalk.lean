/-
  RecordBack: the walk.
-/
import Derived.Test.YtgplioocnbjhaaaRecLives
import Derived.Test.YtgplioocnbjhaaaRecRef
import Derived.Test.YtgplioocnbjhaaaRecArgs
import Derived.Test.YtgplioocnbjhaaaRecMore
import Derived.Test.YtgplioocnbjhaaaSectorCopyRef
import Derived.Deep.DeepCutAuto
import Derived.Test.YtgplioocnbjhaaaRound
import Derived.Deep.DrawnRows
import Derived.Test.YtgplioocnbjhaaaBackStep
namespace Go.Proofs.Ytgplioocnbjhaaa.recordBack
open Go.ChangeShapes Go.WideShapes Go.ChangeAt Go.RowKit
open Go.Proofs.Ytgplioocnbjhaaa.Mem Go.Proofs.Ytgplioocnbjhaaa.Rec
set_option linter.unusedVariables false
set_option maxRecDepth 100000
theorem take_strs {w : World} {ao : Option Addr} {n cap : Nat} {l : List ByteArray} (h : StrsV w (.slice ao n cap) l) (k : Nat) (hk : k ≤ n) : StrsV w (.slice ao k cap) (l.take k) := by
  obtain ⟨ao', cap', hv, h2, h3, h4, h5, h6⟩ := h
  simp only [Value.slice.injEq] at hv
  obtain ⟨rfl, rfl, rfl⟩ := hv
  have hl : (l.take k).length = k := by rw [List.length_take]; omega
  refine ⟨ao, cap, by rw [hl], by rw [hl]; omega, h3, h4, fun h0 => ?_, fun a ha j hj => ?_⟩
  · rw [hl] at h0; subst h0; simp [strC]
  · rw [strC_len, hl] at hj
    have hjl : j < l.length := by omega
    rw [h6 a ha j (by rw [strC_len]; exact hjl), strC_get l j hjl, strC_get _ j (by rw [hl]; exact hj)]
    simp
set_option maxHeartbeats 40000000 in
theorem walk (f : Fr) (v1 : Value) (l1 : List ByteArray) (w : World) (h : f.has) (w1 : StrsV w v1 l1) : Calls Try.prog 5 #[frV f, v1] w fun e w' => e = .returned (.bool true) ∧ Below w.heap.size w w' := by
  have hsec := hid (fun w => secs_any f w h)
  have hless := hid (fun hc => join_less f (h.okn hc) hc)
  have hmore := hid (fun hc => join_more f (h.okn hc) hc)
  have hhead := hid (fun hc => head_of f (h.okn hc) hc)
  have hback := hid (fun hc => join_secs f (h.okn hc) hc)
  have hsl := hid (secsL_head f)
  have hmx := hid (more_lt' f.pay.data.toList)
  obtain ⟨k, ep, sq, p⟩ := f
  obtain ⟨o0, o1, o2, o3⟩ := h
  dsimp only at o0 o1 o2 o3
  have ho3 := hid o3
  unfold frV
  dsimp only
  clear o0 o1 o2 o3
  have hv1 := hid w1
  obtain ⟨vo, vcap, rfl, _⟩ := w1.form
  clear w1
  go_enter Try.func5, Try.ntmps5
  go_wp2_with fail
  have F0 := Blk.new w [.int .u8 k, .int .u64 ep, .int .u64 sq, .string p] 40
  refine (lives_any _).mono ?_
  rintro e w1 ⟨rfl, b1⟩
  have F1 := F0.below b1 F0.lt
  have hB1 := hid ((show Below w.heap.size w _ from by go_grown).trans (b1.mono (by simp)))
  obtain ⟨c0, c1, c2, c3, cf⟩ := F1.four
  have F1' := hid F1
  clear F0 F1 b1
  go_wp2_with fail
  refine (hsec.out _).mono ?_
  rintro e w2 ⟨ao, n, cap, hn, rfl, hown, b2⟩
  have F2 := F1'.out.below b2 F1'.out.lt
  have hB2 := hid (bt hB1.out b2)
  have hsv := hid (SecTold.strs hown hn)
  have hnh := hid hn
  clear hn c0 c1 c2 c3 cf hB1 b2 hown hsec F1'
  obtain ⟨c0, c1, c2, c3, cf⟩ := F2.four
  have F2' := hid F2
  clear F2
  by_cases hc : fchk k p.size = 0
  · have he : sectorsE ⟨k, ep, sq, p⟩ = (secsL ⟨k, ep, sq, p⟩, 0) := by unfold sectorsE; rw [if_pos hc]
    rw [he] at hnh hsv ⊢
    have hless2 := hid (hless.out hc)
    have hmore2 := hid (hmore.out hc)
    have hhead2 := hid (hhead.out hc)
    have hback2 := hid (hback.out hc)
    have hl16 : Hid ((secsL ⟨k, ep, sq, p⟩).length * 16 ≤ 140737488355328) := hid (by rw [secsL_len]; have := (fchk_zero hc).2; dsimp only at this ⊢; unfold pcs; omega)
    have hm1 : Hid ((hdOf ⟨k, ep, sq, p⟩) = ⟨k, ep, sq, p.size, CrcMath.more 0 p.data.toList⟩) := hid rfl
    have hpc : Hid (pcs p.size ≤ 300) := hid (by have := (fchk_zero hc).2; unfold pcs; omega)
    clear hc he hless hmore hhead hback
    obtain ⟨t, hL, htl⟩ := hsl.out
    rw [hL] at hnh hsv hless2 hmore2 hback2 hl16
    generalize bs (headL (hdOf ⟨k, ep, sq, p⟩)) = s0 at *
    dsimp only at hnh hsv htl hless2
    generalize pcs p.size = m at *
    obtain rfl : n = m + 1 := by have := hnh.out; simp only [List.length_cons] at this; omega
    clear hnh hL hsl
    go_wp2_with fail
    refine (join_any _ _ _ hsv.out).mono ?_
    rw [hback2.out]
    rintro e w3 ⟨rfl, b3⟩
    have F3 := F2'.out.below b3 F2'.out.lt
    have hB3 := hid (bt hB2.out b3)
    have hsv3 := hid (hsv.out.below b3)
    clear c0 c1 c2 c3 cf hB2 b3 F2' hsv hback2
    obtain ⟨c0, c1, c2, c3, cf⟩ := F3.four
    have F3' := hid F3
    clear F3
    obtain ⟨tb, toff, cap', hv, hlc, hcm, hb, hcc⟩ := hsv3.out.open (by simp)
    simp only [Value.slice.injEq] at hv
    obtain ⟨rfl, -, rfl⟩ := hv
    have x0 := hcc 0 (by simp)
    simp only [Nat.add_zero, List.getElem_cons_zero] at x0
    unfold frV
    dsimp only
    go_wp2_with fail
    refine (hd_any s0 _).mono ?_
    rw [hhead2.out, hm1.out]
    rintro e w4 ⟨rfl, b4⟩
    have F4 := (F3'.out.alloc (.cells #[.int .u8 k, .int .u64 ep, .int .u64 sq, .string p] 40)).below b4 (by have := F3'.out.lt; simp; omega)
    have G4 := (Blk.new w3 [.int .u8 k, .int .u64 ep, .int .u64 sq, .string p] 40).below b4 (by simp)
    have hB4 := hid (bt (hB3.out.alloc hB3.out.size (.cells #[.int .u8 k, .int .u64 ep, .int .u64 sq, .string p] 40)) b4)
    have hsv4 := hid (hsv3.out.below (((Below.refl _ w3).alloc (Nat.le_refl _) (.cells #[.int .u8 k, .int .u64 ep, .int .u64 sq, .string p] 40)).trans (b4.mono (by simp))))
    have hlt34 : Hid (w3.heap.size < w4.heap.size) := hid G4.lt
    unfold hdV
    dsimp only
    clear x0 c0 c1 c2 c3 cf b4 hcc hb F3' hB3 hsv3 hhead2
    have F5 := F4.alloc (.cells #[.int .u8 k, .int .u64 ep, .int .u64 sq, .int .i64 p.size, .int .u32 (CrcMath.more 0 p.data.toList : Nat)] 47)
    have G5 := G4.alloc (.cells #[.int .u8 k, .int .u64 ep, .int .u64 sq, .int .i64 p.size, .int .u32 (CrcMath.more 0 p.data.toList : Nat)] 47)
    have H5 := Blk.new w4 [.int .u8 k, .int .u64 ep, .int .u64 sq, .int .i64 p.size, .int .u32 (CrcMath.more 0 p.data.toList : Nat)] 47
    have hB5 := hid (hB4.out.alloc hB4.out.size (.cells #[.int .u8 k, .int .u64 ep, .int .u64 sq, .int .i64 p.size, .int .u32 (CrcMath.more 0 p.data.toList : Nat)] 47))
    have hsv5 := hid (hsv4.out.below ((Below.refl _ w4).alloc (Nat.le_refl _) (.cells #[.int .u8 k, .int .u64 ep, .int .u64 sq, .int .i64 p.size, .int .u32 (CrcMath.more 0 p.data.toList : Nat)] 47)))
    clear F4 G4 hB4 hsv4
    have hpp : (p.toList == p.toList) = true := str_yes rfl
    go_upto_region 7 with fail
    have hmxl : Hid (p.size ≤ maxLen) := hid (by unfold maxLen; exact ho3.out)
    generalize hW5 : w4.alloc (.cells #[.int .u8 k, .int .u64 ep, .int .u64 sq, .int .i64 p.size, .int .u32 (CrcMath.more 0 p.data.toList : Nat)] 47) = W5 at F5 G5 H5 hB5 hsv5 ⊢
    clear hW5
    obtain ⟨c0, c1, c2, c3, cf⟩ := F5.four
    obtain ⟨g0, g1, g2, g3, gf⟩ := G5.four
    obtain ⟨h0, h1, h2, h3, h4, hf⟩ := five H5
    have F5' := hid F5
    have G5' := hid G5
    have H5' := hid H5
    clear F5 G5 H5
    go_region_held3 (fun W => (W.cell? ⟨w.heap.size, 0, none⟩ = some (.int .u8 k) ∧ W.cell? ⟨w.heap.size, 1, none⟩ = some (.int .u64 ep) ∧ W.cell? ⟨w.heap.size, 2, none⟩ = some (.int .u64 sq) ∧ W.cell? ⟨w.heap.size, 3, none⟩ = some (.string p)) ∧ (W.cell? ⟨w3.heap.size, 0, none⟩ = some (.int .u8 k) ∧ W.cell? ⟨w3.heap.size, 1, none⟩ = some (.int .u64 ep) ∧ W.cell? ⟨w3.heap.size, 2, none⟩ = some (.int .u64 sq) ∧ W.cell? ⟨w3.heap.size, 3, none⟩ = some (.string p)) ∧ W.cell? ⟨w4.heap.size, 0, none⟩ = some (.int .u8 k) ∧ W.cell? ⟨w4.heap.size, 1, none⟩ = some (.int .u64 ep) ∧ W.cell? ⟨w4.heap.size, 2, none⟩ = some (.int .u64 sq) ∧ W.cell? ⟨w4.heap.size, 3, none⟩ = some (.int .i64 p.size) ∧ W.cell? ⟨w4.heap.size, 4, none⟩ = some (.int .u32 (CrcMath.more 0 p.data.toList : Nat))) (exact ⟨⟨c0, c1, c2, c3⟩, ⟨g0, g1, g2, g3⟩, h0, h1, h2, h3, h4⟩) (first
      | (go_at_call 34; (with_reducible refine (Crc.sum_any p _ hmxl.out).mono ?_); rintro e w6 ⟨rfl, b6⟩
         have b6' := (Below.refl W5.heap.size W5).drew.trans b6
         have F6 := F5'.out.below b6' F5'.out.lt
         have G6 := G5'.out.below b6' G5'.out.lt
         have H6 := H5'.out.below b6' H5'.out.lt
         replace hB5 := hid (bt hB5.out b6')
         replace hsv5 := hid (hsv5.out.below b6')
         clear b6 b6' c0 c1 c2 c3 cf g0 g1 g2 g3 gf h0 h1 h2 h3 h4 hf
         obtain ⟨c0, c1, c2, c3, cf⟩ := F6.four
         obtain ⟨g0, g1, g2, g3, gf⟩ := G6.four
         obtain ⟨h0, h1, h2, h3, h4, hf⟩ := five H6
         clear F5' G5' H5' F6 G6 H6))
    have hm3 := hpc.out
    have hmi : (m : Int) ≤ 300 := by omega
    have hmc : (m : Int) ≤ (cap : Int) := by simp only [List.length_cons] at hlc; omega
    go_wp2_with fail
    have hless3 := hid (take_strs hsv5.out m (by omega))
    refine (join_any _ _ _ hless3.out).mono ?_
    rw [hless2.out]
    rintro e w7 ⟨rfl, b7⟩
    have hB7 := hid (bt hB5.out b7)
    have hsv7 := hid (hsv5.out.below b7)
    clear b7 hB5 hsv5 hless3 hless2 c0 c1 c2 c3 cf g0 g1 g2 g3 gf h0 h1 h2 h3 h4 hf
    unfold frV zeroFr
    dsimp only
    go_upto_region 10 with fail
    have hB8 := hid (hB7.out.alloc hB7.out.size (.cells #[.int .u8 0, .int .u64 0, .int .u64 0, .string ⟨#[]⟩] 40))
    have hsv8 := hid (hsv7.out.below ((Below.refl _ w7).alloc (Nat.le_refl _) (.cells #[.int .u8 0, .int .u64 0, .int .u64 0, .string ⟨#[]⟩] 40)))
    clear hB7 hsv7
    generalize hW8 : w7.alloc (.cells #[.int .u8 0, .int .u64 0, .int .u64 0, .string ⟨#[]⟩] 40) = W8 at hB8 hsv8 ⊢
    clear hW8
    have hlast : Hid (W8.cell? ⟨tb, toff + m, none⟩ = some (.string ((s0 :: t)[m]'(by rw [List.length_cons]; omega)))) := hid (by
      obtain ⟨b', off', cap', hv, _, _, _, hcc⟩ := hsv8.out.open (by simp)
      simp only [Value.slice.injEq, Option.some.injEq, Addr.mk.injEq, and_true] at hv
      obtain ⟨⟨rfl, rfl⟩, _, rfl⟩ := hv
      exact hcc m (by rw [List.length_cons]; omega))
    generalize (s0 :: t)[m]'_ = last at hlast
    have hlen : Hid ((s0 :: t).length = m + 1) := hid (by rw [List.length_cons, htl])
    have hlen2 : Hid ((s0 :: t ++ [last]).length = m + 1 + 1) := hid (by simp [htl])
    have hl17 : Hid ((m + 1) * 16 ≤ 140737488355328) := hid (by omega)
    have hm1000 : Hid (m + 1 ≤ 1000) := hid (by omega)
    have hm1001 := hm1000
    have hmi0 : (0 : Int) ≤ (m : Int) := by omega
    have hcw := hid hB8.out.size
    have hmw : IntKind.i64.wrap (m : Int) = (m : Int) := by rw [IntWalk.i64_in _ (by omega)]
    have hml : (m : Int) < (m : Int) + 1 := by omega
    go_cut [14] (fun s14 wx => s14 = .int .i64 14 ∧ Below w.heap.size w wx)
    case first =>
      have hmix : Try.prog.follows .mixedOrders = true := by kernel_rfl
      refine wp_region_any hmix ?_
      clear hmix
      rw [show ({ heap := W8.heap, tape := W8.tape, drawn := W8.drawn + 1, os := W8.os, output := W8.output } : World) = W8.drew from rfl]
      have hcur := hid ((Below.refl W8.heap.size W8).drew)
      have hfin := hid (fun (V : World) (p : Nat) (hp : W8.heap.size ≤ p) (h : Below W8.heap.size W8 V) => show Below w.heap.size w ((((V.setCell ⟨p, 0, none⟩ (.int .u8 0)).setCell ⟨p, 1, none⟩ (.int .u64 0)).setCell ⟨p, 2, none⟩ (.int .u64 0)).setCell ⟨p, 3, none⟩ (.string ⟨#[]⟩)) from below4 (bt hB8.out h) (Nat.le_trans hcw.out hp))
      generalize W8.drew = V0 at hcur ⊢
      refine wpAny_take (i := 1) (v := ?_) rfl (by kernel_rfl) (by kernel_rfl) (by kernel_rfl) (fun _ _ _ h => h) (Or.inl ⟨by rfl, ?_⟩) ?_
      rotate_left 1
      (intro w; go_simp; try with_reducible rfl)
      (try simp only [Act.put, List.getElem_toArray, List.getElem_cons_zero, List.getElem_cons_succ, List.setIfInBounds_toArray, List.set_cons_zero, List.set_cons_succ])
      refine wpAny_take (i := 3) (v := ?_) rfl (by kernel_rfl) (by kernel_rfl) (by kernel_rfl) (fun _ _ _ h => h) (Or.inl ⟨by rfl, ?_⟩) ?_
      rotate_left 1
      (intro w; go_simp; try with_reducible rfl)
      (try simp only [Act.put, List.getElem_toArray, List.getElem_cons_zero, List.getElem_cons_succ, List.setIfInBounds_toArray, List.set_cons_zero, List.set_cons_succ])
      refine wpAny_take (i := 4) (v := ?_) rfl (by kernel_rfl) (by kernel_rfl) (by kernel_rfl) (fun _ _ _ h => h) (Or.inl ⟨by rfl, ?_⟩) ?_
      rotate_left 1
      (intro w; go_simp; try with_reducible rfl)
      (try simp only [Act.put, List.getElem_toArray, List.getElem_cons_zero, List.getElem_cons_succ, List.setIfInBounds_toArray, List.set_cons_zero, List.set_cons_succ])
      refine wpAny_take (i := 5) (v := ?_) rfl (by kernel_rfl) (by kernel_rfl) (by kernel_rfl) (fun _ _ _ h => h) (Or.inl ⟨by rfl, ?_⟩) ?_
      rotate_left 1
      (intro w; go_simp; try with_reducible rfl)
      (try simp only [Act.put, List.getElem_toArray, List.getElem_cons_zero, List.getElem_cons_succ, List.setIfInBounds_toArray, List.set_cons_zero, List.set_cons_succ])
      refine wpAny_take (i := 6) (v := ?_) rfl (by kernel_rfl) (by kernel_rfl) (by kernel_rfl) (fun _ _ _ h => h) (Or.inl ⟨by rfl, ?_⟩) ?_
      rotate_left 1
      (intro w; go_simp; try with_reducible rfl)
      (try simp only [Act.put, List.getElem_toArray, List.getElem_cons_zero, List.getElem_cons_succ, List.setIfInBounds_toArray, List.set_cons_zero, List.set_cons_succ])
      refine wpAny_take (i := 7) (v := ?_) rfl (by kernel_rfl) (by kernel_rfl) (by kernel_rfl) (fun _ _ _ h => h) (Or.inl ⟨by rfl, ?_⟩) ?_
      rotate_left 1
      (intro w; go_simp; try with_reducible rfl)
      (try simp only [Act.put, List.getElem_toArray, List.getElem_cons_zero, List.getElem_cons_succ, List.setIfInBounds_toArray, List.set_cons_zero, List.set_cons_succ])
      refine wpAny_ready (rs := [0, 8, 15]) (by kernel_rfl) (by simp) ?_
      refine AllReady.cons rfl (fun K hK => ?_) ?_
      · skip
        go_simp
        refine hK _ _ ?_
        clear hK K
        (try simp only [Act.put, List.getElem_toArray, List.getElem_cons_zero, List.getElem_cons_succ, List.setIfInBounds_toArray, List.set_cons_zero, List.set_cons_succ])
        have hg := hid (Blk.new V0 [] 9)
        have hgB := hid hcur.out.size
        replace hcur := hid (hcur.out.alloc hcur.out.size (.cells #[] 9))
        generalize V0.alloc (.cells #[] 9) = V1 at hg hcur ⊢
        refine wpAny_ready (rs := [2, 8, 15]) (by kernel_rfl) (by simp) ?_
        refine AllReady.cons rfl (fun K hK => ?_) ?_
        · skip
          obtain ⟨so, sc, V2, hrun, hr0, hbW, hkp⟩ := app_list W8.heap.size V1 _ (s0 :: t) _ _ _ (hsv8.out.below hcur.out) hlen.out hl17.out hm1000.out hg.out hgB.out
          refine step_append_run rfl (.tmp 97) (.tmp 98) 22 rfl _ _ _ _ rfl rfl hrun ?_
          refine hK _ _ ?_
          clear hK K
          (try simp only [Act.put, List.getElem_toArray, List.getElem_cons_zero, List.getElem_cons_succ, List.setIfInBounds_toArray, List.set_cons_zero, List.set_cons_succ])
          have hr := hid hr0
          replace hcur := hid (hcur.out.trans hbW)
          clear hr0 hrun hbW hkp hg hgB
          refine wpAny_ready (rs := [8, 15]) (by kernel_rfl) (by simp) ?_
          refine AllReady.cons rfl (fun K hK => ?_) ?_
          · as_aux_lemma =>
              have cl := cell_below hcur.out _ _ hlast.out
              go_simp
              clear cl
              refine hK _ _ ?_
              clear hK K
              (try simp only [Act.put, List.getElem_toArray, List.getElem_cons_zero, List.getElem_cons_succ, List.setIfInBounds_toArray, List.set_cons_zero, List.set_cons_succ])
              refine wpAny_ready (rs := [9, 15]) (by kernel_rfl) (by simp) ?_
              refine AllReady.cons rfl (fun K hK => ?_) ?_
              · skip
                go_simp
                refine hK _ _ ?_
                clear hK K
                (try simp only [Act.put, List.getElem_toArray, List.getElem_cons_zero, List.getElem_cons_succ, List.setIfInBounds_toArray, List.set_cons_zero, List.set_cons_succ])
                replace hr := hid (hr.out.alloc (.cells #[.string last] 9))
                have hx := hid (Blk.new V2 [.string last] 9)
                have hxB := hid hcur.out.size
                replace hcur := hid (hcur.out.alloc hcur.out.size (.cells #[.string last] 9))
                generalize V2.alloc (.cells #[.string last] 9) = V3 at hr hx hcur ⊢
                refine wpAny_ready (rs := [10, 15]) (by kernel_rfl) (by simp) ?_
                refine AllReady.cons rfl (fun K hK => ?_) ?_
                · skip
                  obtain ⟨so2, sc2, V4, hrun, hr0, hbW, hkp⟩ := app_last W8.heap.size V3 _ (s0 :: t) last _ _ hr.out hx.out hm1001.out hcur.out.size
                  refine step_append_run rfl (.tmp 99) (.tmp 106) 22 rfl _ _ _ _ rfl rfl hrun ?_
                  refine hK _ _ ?_
                  clear hK K
                  (try simp only [Act.put, List.getElem_toArray, List.getElem_cons_zero, List.getElem_cons_succ, List.setIfInBounds_toArray, List.set_cons_zero, List.set_cons_succ])
                  have hr2 := hid hr0
                  replace hcur := hid (hcur.out.trans hbW)
                  clear hr0 hrun hbW hkp hr hx
                  refine wpAny_ready (rs := [11, 15]) (by kernel_rfl) (by simp) ?_
                  refine AllReady.cons rfl (fun K hK => ?_) ?_
                  · skip
                    go_simp
                    (with_reducible refine (join_any (s0 :: t ++ [last]) _ _ (own_strs hr2.out hlen2.out)).mono ?_)
                    rw [hmore2.out last]
                    rintro e V5 ⟨rfl, b9⟩
                    unfold frV zeroFr
                    dsimp only
                    refine hK _ _ ?_
                    clear hK K
                    (try simp only [Act.put, List.getElem_toArray, List.getElem_cons_zero, List.getElem_cons_succ, List.setIfInBounds_toArray, List.set_cons_zero, List.set_cons_succ])
                    replace hcur := hid (bt hcur.out b9)
                    clear b9 hr2
                    refine wpAny_take (i := 12) (v := ?_) rfl (by kernel_rfl) (by kernel_rfl) (by kernel_rfl) (fun _ _ _ h => h) (Or.inl ⟨by rfl, ?_⟩) ?_
                    rotate_left 1
                    (intro w; go_simp; try with_reducible rfl)
                    (try simp only [Act.put, List.getElem_toArray, List.getElem_cons_zero, List.getElem_cons_succ, List.setIfInBounds_toArray, List.set_cons_zero, List.set_cons_succ])
                    refine wpAny_take (i := 13) (v := ?_) rfl (by kernel_rfl) (by kernel_rfl) (by kernel_rfl) (fun _ _ _ h => h) (Or.inl ⟨by rfl, ?_⟩) ?_
                    rotate_left 1
                    (intro w; go_simp; try with_reducible rfl)
                    (try simp only [Act.put, List.getElem_toArray, List.getElem_cons_zero, List.getElem_cons_succ, List.setIfInBounds_toArray, List.set_cons_zero, List.set_cons_succ])
                    refine wpAny_take (i := 14) (v := ?_) rfl (by kernel_rfl) (by kernel_rfl) (by kernel_rfl) (fun _ _ _ h => h) (Or.inl ⟨by rfl, ?_⟩) ?_
                    rotate_left 1
                    (intro w; go_simp; try with_reducible rfl)
                    (try simp only [Act.put, List.getElem_toArray, List.getElem_cons_zero, List.getElem_cons_succ, List.setIfInBounds_toArray, List.set_cons_zero, List.set_cons_succ])
                    refine wpAny_ready (rs := [15]) (by kernel_rfl) (by simp) ?_
                    refine AllReady.cons rfl (fun K hK => ?_) AllReady.nil
                    go_simp
                    refine hK _ _ ?_
                    clear hK K
                    (try simp only [Act.put, List.getElem_toArray, List.getElem_cons_zero, List.getElem_cons_succ, List.setIfInBounds_toArray, List.set_cons_zero, List.set_cons_succ])
                    have hp := hid (Blk.new V5 [.int .u8 0, .int .u64 0, .int .u64 0, .string ⟨#[]⟩] 40)
                    have hpB := hid hcur.out.size
                    replace hcur := hid (hcur.out.alloc hcur.out.size (.cells #[.int .u8 0, .int .u64 0, .int .u64 0, .string ⟨#[]⟩] 40))
                    generalize V5.alloc (.cells #[.int .u8 0, .int .u64 0, .int .u64 0, .string ⟨#[]⟩] 40) = V6 at hp hcur ⊢
                    refine wpAny_ready (rs := [16]) (by kernel_rfl) (by simp) ?_
                    refine AllReady.cons rfl (fun K hK => ?_) AllReady.nil
                    obtain ⟨p0, p1, p2, p3, pf⟩ := hp.out.four
                    go_simp
                    clear p0 p1 p2 p3 pf
                    refine hK _ _ ?_
                    clear hK K
                    (try simp only [Act.put, List.getElem_toArray, List.getElem_cons_zero, List.getElem_cons_succ, List.setIfInBounds_toArray, List.set_cons_zero, List.set_cons_succ])
                    refine wpAny_take (i := 17) (v := ?_) rfl (by kernel_rfl) (by kernel_rfl) (by kernel_rfl) (fun _ _ _ h => h) (Or.inl ⟨by rfl, ?_⟩) ?_
                    rotate_left 1
                    (intro w; go_simp; try with_reducible rfl)
                    (try simp only [Act.put, List.getElem_toArray, List.getElem_cons_zero, List.getElem_cons_succ, List.setIfInBounds_toArray, List.set_cons_zero, List.set_cons_succ])
                    refine wpAny_done (by kernel_rfl) ?_ _
                    go_wp2_with fail
                    go_meet
                    exact ⟨rfl, hfin.out _ _ hpB.out hcur.out⟩
                  refine AllReady.cons rfl (fun K hK => ?_) AllReady.nil
                  go_simp
                  refine hK _ _ ?_
                  clear hK K
                  (try simp only [Act.put, List.getElem_toArray, List.getElem_cons_zero, List.getElem_cons_succ, List.setIfInBounds_toArray, List.set_cons_zero, List.set_cons_succ])
                  replace hr2 := hid (hr2.out.alloc (.cells #[.int .u8 0, .int .u64 0, .int .u64 0, .string ⟨#[]⟩] 40))
                  have hp := hid (Blk.new V4 [.int .u8 0, .int .u64 0, .int .u64 0, .string ⟨#[]⟩] 40)
                  have hpB := hid hcur.out.size
                  replace hcur := hid (hcur.out.alloc hcur.out.size (.cells #[.int .u8 0, .int .u64 0, .int .u64 0, .string ⟨#[]⟩] 40))
                  generalize V4.alloc (.cells #[.int .u8 0, .int .u64 0, .int .u64 0, .string ⟨#[]⟩] 40) = V5 at hr2 hp hcur ⊢
                  refine wpAny_ready (rs := [11]) (by kernel_rfl) (by simp) ?_
                  refine AllReady.cons rfl (fun K hK => ?_) AllReady.nil
                  go_simp
                  (with_reducible refine (join_any (s0 :: t ++ [last]) _ _ (own_strs hr2.out hlen2.out)).mono ?_)
                  rw [hmore2.out last]
                  rintro e V6 ⟨rfl, b9⟩
                  unfold frV zeroFr
                  dsimp only
                  refine hK _ _ ?_
                  clear hK K
                  (try simp only [Act.put, List.getElem_toArray, List.getElem_cons_zero, List.getElem_cons_succ, List.setIfInBounds_toArray, List.set_cons_zero, List.set_cons_succ])
                  replace hp := hid (hp.out.below b9 hp.out.lt)
                  replace hcur := hid (bt hcur.out b9)
                  clear b9 hr2
                  refine wpAny_take (i := 12) (v := ?_) rfl (by kernel_rfl) (by kernel_rfl) (by kernel_rfl) (fun _ _ _ h => h) (Or.inl ⟨by rfl, ?_⟩) ?_
                  rotate_left 1
                  (intro w; go_simp; try with_reducible rfl)
                  (try simp only [Act.put, List.getElem_toArray, List.getElem_cons_zero, List.getElem_cons_succ, List.setIfInBounds_toArray, List.set_cons_zero, List.set_cons_succ])
                  refine wpAny_take (i := 13) (v := ?_) rfl (by kernel_rfl) (by kernel_rfl) (by kernel_rfl) (fun _ _ _ h => h) (Or.inl ⟨by rfl, ?_⟩) ?_
                  rotate_left 1
                  (intro w; go_simp; try with_reducible rfl)
                  (try simp only [Act.put, List.getElem_toArray, List.getElem_cons_zero, List.getElem_cons_succ, List.setIfInBounds_toArray, List.set_cons_zero, List.set_cons_succ])
                  refine wpAny_take (i := 14) (v := ?_) rfl (by kernel_rfl) (by kernel_rfl) (by kernel_rfl) (fun _ _ _ h => h) (Or.inl ⟨by rfl, ?_⟩) ?_
                  rotate_left 1
                  (intro w; go_simp; try with_reducible rfl)
                  (try simp only [Act.put, List.getElem_toArray, List.getElem_cons_zero, List.getElem_cons_succ, List.setIfInBounds_toArray, List.set_cons_zero, List.set_cons_succ])
                  refine wpAny_ready (rs := [16]) (by kernel_rfl) (by simp) ?_
                  refine AllReady.cons rfl (fun K hK => ?_) AllReady.nil
                  obtain ⟨p0, p1, p2, p3, pf⟩ := hp.out.four
                  go_simp
                  clear p0 p1 p2 p3 pf
                  refine hK _ _ ?_
                  clear hK K
                  (try simp only [Act.put, List.getElem_toArray, List.getElem_cons_zero, List.getElem_cons_succ, List.setIfInBounds_toArray, List.set_cons_zero, List.set_cons_succ])
                  refine wpAny_take (i := 17) (v := ?_) rfl (by kernel_rfl) (by kernel_rfl) (by kernel_rfl) (fun _ _ _ h => h) (Or.inl ⟨by rfl, ?_⟩) ?_
                  rotate_left 1
                  (intro w; go_simp; try with_reducible rfl)
                  (try simp only [Act.put, List.getElem_toArray, List.getElem_cons_zero, List.getElem_cons_succ, List.setIfInBounds_toArray, List.set_cons_zero, List.set_cons_succ])
                  refine wpAny_done (by kernel_rfl) ?_ _
                  go_wp2_with fail
                  go_meet
                  exact ⟨rfl, hfin.out _ _ hpB.out hcur.out⟩
                refine AllReady.cons rfl (fun K hK => ?_) AllReady.nil
                go_simp
                refine hK _ _ ?_
                clear hK K
                (try simp only [Act.put, List.getElem_toArray, List.getElem_cons_zero, List.getElem_cons_succ, List.setIfInBounds_toArray, List.set_cons_zero, List.set_cons_succ])
                replace hr := hid (hr.out.alloc (.cells #[.int .u8 0, .int .u64 0, .int .u64 0, .string ⟨#[]⟩] 40))
                replace hx := hid (hx.out.alloc (.cells #[.int .u8 0, .int .u64 0, .int .u64 0, .string ⟨#[]⟩] 40))
                have hp := hid (Blk.new V3 [.int .u8 0, .int .u64 0, .int .u64 0, .string ⟨#[]⟩] 40)
                have hpB := hid hcur.out.size
                replace hcur := hid (hcur.out.alloc hcur.out.size (.cells #[.int .u8 0, .int .u64 0, .int .u64 0, .string ⟨#[]⟩] 40))
                generalize V3.alloc (.cells #[.int .u8 0, .int .u64 0, .int .u64 0, .string ⟨#[]⟩] 40) = V4 at hr hx hp hcur ⊢
                refine wpAny_ready (rs := [10]) (by kernel_rfl) (by simp) ?_
                refine AllReady.cons rfl (fun K hK => ?_) AllReady.nil
                obtain ⟨so2, sc2, V5, hrun, hr0, hbW, hkp⟩ := app_last W8.heap.size V4 _ (s0 :: t) last _ _ hr.out hx.out hm1001.out hcur.out.size
                refine step_append_run rfl (.tmp 99) (.tmp 106) 22 rfl _ _ _ _ rfl rfl hrun ?_
                refine hK _ _ ?_
                clear hK K
                (try simp only [Act.put, List.getElem_toArray, List.getElem_cons_zero, List.getElem_cons_succ, List.setIfInBounds_toArray, List.set_cons_zero, List.set_cons_succ])
                have hr2 := hid hr0
                replace hp := hid (hkp _ _ _ hp.out (by decide))
                replace hcur := hid (hcur.out.trans hbW)
                clear hr0 hrun hbW hkp hr hx
                refine wpAny_ready (rs := [11]) (by kernel_rfl) (by simp) ?_
                refine AllReady.cons rfl (fun K hK => ?_) AllReady.nil
                go_simp
                (with_reducible refine (join_any (s0 :: t ++ [last]) _ _ (own_strs hr2.out hlen2.out)).mono ?_)
                rw [hmore2.out last]
                rintro e V6 ⟨rfl, b9⟩
                unfold frV zeroFr
                dsimp only
                refine hK _ _ ?_
                clear hK K
                (try simp only [Act.put, List.getElem_toArray, List.getElem_cons_zero, List.getElem_cons_succ, List.setIfInBounds_toArray, List.set_cons_zero, List.set_cons_succ])
                replace hp := hid (hp.out.below b9 hp.out.lt)
                replace hcur := hid (bt hcur.out b9)
                clear b9 hr2
                refine wpAny_take (i := 12) (v := ?_) rfl (by kernel_rfl) (by kernel_rfl) (by kernel_rfl) (fun _ _ _ h => h) (Or.inl ⟨by rfl, ?_⟩) ?_
                rotate_left 1
                (intro w; go_simp; try with_reducible rfl)
                (try simp only [Act.put, List.getElem_toArray, List.getElem_cons_zero, List.getElem_cons_succ, List.setIfInBounds_toArray, List.set_cons_zero, List.set_cons_succ])
                refine wpAny_take (i := 13) (v := ?_) rfl (by kernel_rfl) (by kernel_rfl) (by kernel_rfl) (fun _ _ _ h => h) (Or.inl ⟨by rfl, ?_⟩) ?_
                rotate_left 1
                (intro w; go_simp; try with_reducible rfl)
                (try simp only [Act.put, List.getElem_toArray, List.getElem_cons_zero, List.getElem_cons_succ, List.setIfInBounds_toArray, List.set_cons_zero, List.set_cons_succ])
                refine wpAny_take (i := 14) (v := ?_) rfl (by kernel_rfl) (by kernel_rfl) (by kernel_rfl) (fun _ _ _ h => h) (Or.inl ⟨by rfl, ?_⟩) ?_
                rotate_left 1
                (intro w; go_simp; try with_reducible rfl)
                (try simp only [Act.put, List.getElem_toArray, List.getElem_cons_zero, List.getElem_cons_succ, List.setIfInBounds_toArray, List.set_cons_zero, List.set_cons_succ])
                refine wpAny_ready (rs := [16]) (by kernel_rfl) (by simp) ?_
                refine AllReady.cons rfl (fun K hK => ?_) AllReady.nil
                obtain ⟨p0, p1, p2, p3, pf⟩ := hp.out.four
                go_simp
                clear p0 p1 p2 p3 pf
                refine hK _ _ ?_
                clear hK K
                (try simp only [Act.put, List.getElem_toArray, List.getElem_cons_zero, List.getElem_cons_succ, List.setIfInBounds_toArray, List.set_cons_zero, List.set_cons_succ])
                refine wpAny_take (i := 17) (v := ?_) rfl (by kernel_rfl) (by kernel_rfl) (by kernel_rfl) (fun _ _ _ h => h) (Or.inl ⟨by rfl, ?_⟩) ?_
                rotate_left 1
                (intro w; go_simp; try with_reducible rfl)
                (try simp only [Act.put, List.getElem_toArray, List.getElem_cons_zero, List.getElem_cons_succ, List.setIfInBounds_toArray, List.set_cons_zero, List.set_cons_succ])
                refine wpAny_done (by kernel_rfl) ?_ _
                go_wp2_with fail
                go_meet
                exact ⟨rfl, hfin.out _ _ hpB.out hcur.out⟩
              refine AllReady.cons rfl (fun K hK => ?_) AllReady.nil
              go_simp
              refine hK _ _ ?_
              clear hK K
              (try simp only [Act.put, List.getElem_toArray, List.getElem_cons_zero, List.getElem_cons_succ, List.setIfInBounds_toArray, List.set_cons_zero, List.set_cons_succ])
              replace hr := hid (hr.out.alloc (.cells #[.int .u8 0, .int .u64 0, .int .u64 0, .string ⟨#[]⟩] 40))
              have hp := hid (Blk.new V2 [.int .u8 0, .int .u64 0, .int .u64 0, .string ⟨#[]⟩] 40)
              have hpB := hid hcur.out.size
              replace hcur := hid (hcur.out.alloc hcur.out.size (.cells #[.int .u8 0, .int .u64 0, .int .u64 0, .string ⟨#[]⟩] 40))
              generalize V2.alloc (.cells #[.int .u8 0, .int .u64 0, .int .u64 0, .string ⟨#[]⟩] 40) = V3 at hr hp hcur ⊢
              refine wpAny_ready (rs := [9]) (by kernel_rfl) (by simp) ?_
              refine AllReady.cons rfl (fun K hK => ?_) AllReady.nil
              go_simp
              refine hK _ _ ?_
              clear hK K
              (try simp only [Act.put, List.getElem_toArray, List.getElem_cons_zero, List.getElem_cons_succ, List.setIfInBounds_toArray, List.set_cons_zero, List.set_cons_succ])
              replace hr := hid (hr.out.alloc (.cells #[.string last] 9))
              replace hp := hid (hp.out.alloc (.cells #[.string last] 9))
              have hx := hid (Blk.new V3 [.string last] 9)
              have hxB := hid hcur.out.size
              replace hcur := hid (hcur.out.alloc hcur.out.size (.cells #[.string last] 9))
              generalize V3.alloc (.cells #[.string last] 9) = V4 at hr hp hx hcur ⊢
              refine wpAny_ready (rs := [10]) (by kernel_rfl) (by simp) ?_
              refine AllReady.cons rfl (fun K hK => ?_) AllReady.nil
              obtain ⟨so2, sc2, V5, hrun, hr0, hbW, hkp⟩ := app_last W8.heap.size V4 _ (s0 :: t) last _ _ hr.out hx.out hm1001.out hcur.out.size
              refine step_append_run rfl (.tmp 99) (.tmp 106) 22 rfl _ _ _ _ rfl rfl hrun ?_
              refine hK _ _ ?_
              clear hK K
              (try simp only [Act.put, List.getElem_toArray, List.getElem_cons_zero, List.getElem_cons_succ, List.setIfInBounds_toArray, List.set_cons_zero, List.set_cons_succ])
              have hr2 := hid hr0
              replace hp := hid (hkp _ _ _ hp.out (by decide))
              replace hcur := hid (hcur.out.trans hbW)
              clear hr0 hrun hbW hkp hr hx
              refine wpAny_ready (rs := [11]) (by kernel_rfl) (by simp) ?_
              refine AllReady.cons rfl (fun K hK => ?_) AllReady.nil
              go_simp
              (with_reducible refine (join_any (s0 :: t ++ [last]) _ _ (own_strs hr2.out hlen2.out)).mono ?_)
              rw [hmore2.out last]
              rintro e V6 ⟨rfl, b9⟩
              unfold frV zeroFr
              dsimp only
              refine hK _ _ ?_
              clear hK K
              (try simp only [Act.put, List.getElem_toArray, List.getElem_cons_zero, List.getElem_cons_succ, List.setIfInBounds_toArray, List.set_cons_zero, List.set_cons_succ])
              replace hp := hid (hp.out.below b9 hp.out.lt)
              replace hcur := hid (bt hcur.out b9)
              clear b9 hr2
              refine wpAny_take (i := 12) (v := ?_) rfl (by kernel_rfl) (by kernel_rfl) (by kernel_rfl) (fun _ _ _ h => h) (Or.inl ⟨by rfl, ?_⟩) ?_
              rotate_left 1
              (intro w; go_simp; try with_reducible rfl)
              (try simp only [Act.put, List.getElem_toArray, List.getElem_cons_zero, List.getElem_cons_succ, List.setIfInBounds_toArray, List.set_cons_zero, List.set_cons_succ])
              refine wpAny_take (i := 13) (v := ?_) rfl (by kernel_rfl) (by kernel_rfl) (by kernel_rfl) (fun _ _ _ h => h) (Or.inl ⟨by rfl, ?_⟩) ?_
              rotate_left 1
              (intro w; go_simp; try with_reducible rfl)
              (try simp only [Act.put, List.getElem_toArray, List.getElem_cons_zero, List.getElem_cons_succ, List.setIfInBounds_toArray, List.set_cons_zero, List.set_cons_succ])
              refine wpAny_take (i := 14) (v := ?_) rfl (by kernel_rfl) (by kernel_rfl) (by kernel_rfl) (fun _ _ _ h => h) (Or.inl ⟨by rfl, ?_⟩) ?_
              rotate_left 1
              (intro w; go_simp; try with_reducible rfl)
              (try simp only [Act.put, List.getElem_toArray, List.getElem_cons_zero, List.getElem_cons_succ, List.setIfInBounds_toArray, List.set_cons_zero, List.set_cons_succ])
              refine wpAny_ready (rs := [16]) (by kernel_rfl) (by simp) ?_
              refine AllReady.cons rfl (fun K hK => ?_) AllReady.nil
              obtain ⟨p0, p1, p2, p3, pf⟩ := hp.out.four
              go_simp
              clear p0 p1 p2 p3 pf
              refine hK _ _ ?_
              clear hK K
              (try simp only [Act.put, List.getElem_toArray, List.getElem_cons_zero, List.getElem_cons_succ, List.setIfInBounds_toArray, List.set_cons_zero, List.set_cons_succ])
              refine wpAny_take (i := 17) (v := ?_) rfl (by kernel_rfl) (by kernel_rfl) (by kernel_rfl) (fun _ _ _ h => h) (Or.inl ⟨by rfl, ?_⟩) ?_
              rotate_left 1
              (intro w; go_simp; try with_reducible rfl)
              (try simp only [Act.put, List.getElem_toArray, List.getElem_cons_zero, List.getElem_cons_succ, List.setIfInBounds_toArray, List.set_cons_zero, List.set_cons_succ])
              refine wpAny_done (by kernel_rfl) ?_ _
              go_wp2_with fail
              go_meet
              exact ⟨rfl, hfin.out _ _ hpB.out hcur.out⟩
          refine AllReady.cons rfl (fun K hK => ?_) AllReady.nil
          as_aux_lemma =>
            go_simp
            refine hK _ _ ?_
            clear hK K
            (try simp only [Act.put, List.getElem_toArray, List.getElem_cons_zero, List.getElem_cons_succ, List.setIfInBounds_toArray, List.set_cons_zero, List.set_cons_succ])
            replace hr := hid (hr.out.alloc (.cells #[.int .u8 0, .int .u64 0, .int .u64 0, .string ⟨#[]⟩] 40))
            have hp := hid (Blk.new V2 [.int .u8 0, .int .u64 0, .int .u64 0, .string ⟨#[]⟩] 40)
            have hpB := hid hcur.out.size
            replace hcur := hid (hcur.out.alloc hcur.out.size (.cells #[.int .u8 0, .int .u64 0, .int .u64 0, .string ⟨#[]⟩] 40))
            generalize V2.alloc (.cells #[.int .u8 0, .int .u64 0, .int .u64 0, .string ⟨#[]⟩] 40) = V3 at hr hp hcur ⊢
            refine wpAny_ready (rs := [8]) (by kernel_rfl) (by simp) ?_
            refine AllReady.cons rfl (fun K hK => ?_) AllReady.nil
            have cl := cell_below hcur.out _ _ hlast.out
            go_simp
            clear cl
            refine hK _ _ ?_
            clear hK K
            (try simp only [Act.put, List.getElem_toArray, List.getElem_cons_zero, List.getElem_cons_succ, List.setIfInBounds_toArray, List.set_cons_zero, List.set_cons_succ])
            refine wpAny_ready (rs := [9]) (by kernel_rfl) (by simp) ?_
            refine AllReady.cons rfl (fun K hK => ?_) AllReady.nil
            go_simp
            refine hK _ _ ?_
            clear hK K
            (try simp only [Act.put, List.getElem_toArray, List.getElem_cons_zero, List.getElem_cons_succ, List.setIfInBounds_toArray, List.set_cons_zero, List.set_cons_succ])
            replace hr := hid (hr.out.alloc (.cells #[.string last] 9))
            replace hp := hid (hp.out.alloc (.cells #[.string last] 9))
            have hx := hid (Blk.new V3 [.string last] 9)
            have hxB := hid hcur.out.size
            replace hcur := hid (hcur.out.alloc hcur.out.size (.cells #[.string last] 9))
            generalize V3.alloc (.cells #[.string last] 9) = V4 at hr hp hx hcur ⊢
            refine wpAny_ready (rs := [10]) (by kernel_rfl) (by simp) ?_
            refine AllReady.cons rfl (fun K hK => ?_) AllReady.nil
            obtain ⟨so2, sc2, V5, hrun, hr0, hbW, hkp⟩ := app_last W8.heap.size V4 _ (s0 :: t) last _ _ hr.out hx.out hm1001.out hcur.out.size
            refine step_append_run rfl (.tmp 99) (.tmp 106) 22 rfl _ _ _ _ rfl rfl hrun ?_
            refine hK _ _ ?_
            clear hK K
            (try simp only [Act.put, List.getElem_toArray, List.getElem_cons_zero, List.getElem_cons_succ, List.setIfInBounds_toArray, List.set_cons_zero, List.set_cons_succ])
            have hr2 := hid hr0
            replace hp := hid (hkp _ _ _ hp.out (by decide))
            replace hcur := hid (hcur.out.trans hbW)
            clear hr0 hrun hbW hkp hr hx
            refine wpAny_ready (rs := [11]) (by kernel_rfl) (by simp) ?_
            refine AllReady.cons rfl (fun K hK => ?_) AllReady.nil
            go_simp
            (with_reducible refine (join_any (s0 :: t ++ [last]) _ _ (own_strs hr2.out hlen2.out)).mono ?_)
            rw [hmore2.out last]
            rintro e V6 ⟨rfl, b9⟩
            unfold frV zeroFr
            dsimp only
            refine hK _ _ ?_
            clear hK K
            (try simp only [Act.put, List.getElem_toArray, List.getElem_cons_zero, List.getElem_cons_succ, List.setIfInBounds_toArray, List.set_cons_zero, List.set_cons_succ])
            replace hp := hid (hp.out.below b9 hp.out.lt)
            replace hcur := hid (bt hcur.out b9)
            clear b9 hr2
            refine wpAny_take (i := 12) (v := ?_) rfl (by kernel_rfl) (by kernel_rfl) (by kernel_rfl) (fun _ _ _ h => h) (Or.inl ⟨by rfl, ?_⟩) ?_
            rotate_left 1
            (intro w; go_simp; try with_reducible rfl)
            (try simp only [Act.put, List.getElem_toArray, List.getElem_cons_zero, List.getElem_cons_succ, List.setIfInBounds_toArray, List.set_cons_zero, List.set_cons_succ])
            refine wpAny_take (i := 13) (v := ?_) rfl (by kernel_rfl) (by kernel_rfl) (by kernel_rfl) (fun _ _ _ h => h) (Or.inl ⟨by rfl, ?_⟩) ?_
            rotate_left 1
            (intro w; go_simp; try with_reducible rfl)
            (try simp only [Act.put, List.getElem_toArray, List.getElem_cons_zero, List.getElem_cons_succ, List.setIfInBounds_toArray, List.set_cons_zero, List.set_cons_succ])
            refine wpAny_take (i := 14) (v := ?_) rfl (by kernel_rfl) (by kernel_rfl) (by kernel_rfl) (fun _ _ _ h => h) (Or.inl ⟨by rfl, ?_⟩) ?_
            rotate_left 1
            (intro w; go_simp; try with_reducible rfl)
            (try simp only [Act.put, List.getElem_toArray, List.getElem_cons_zero, List.getElem_cons_succ, List.setIfInBounds_toArray, List.set_cons_zero, List.set_cons_succ])
            refine wpAny_ready (rs := [16]) (by kernel_rfl) (by simp) ?_
            refine AllReady.cons rfl (fun K hK => ?_) AllReady.nil
            obtain ⟨p0, p1, p2, p3, pf⟩ := hp.out.four
            go_simp
            clear p0 p1 p2 p3 pf
            refine hK _ _ ?_
            clear hK K
            (try simp only [Act.put, List.getElem_toArray, List.getElem_cons_zero, List.getElem_cons_succ, List.setIfInBounds_toArray, List.set_cons_zero, List.set_cons_succ])
            refine wpAny_take (i := 17) (v := ?_) rfl (by kernel_rfl) (by kernel_rfl) (by kernel_rfl) (fun _ _ _ h => h) (Or.inl ⟨by rfl, ?_⟩) ?_
            rotate_left 1
            (intro w; go_simp; try with_reducible rfl)
            (try simp only [Act.put, List.getElem_toArray, List.getElem_cons_zero, List.getElem_cons_succ, List.setIfInBounds_toArray, List.set_cons_zero, List.set_cons_succ])
            refine wpAny_done (by kernel_rfl) ?_ _
            go_wp2_with fail
            go_meet
            exact ⟨rfl, hfin.out _ _ hpB.out hcur.out⟩
        refine AllReady.cons rfl (fun K hK => ?_) ?_
        · skip
          have cl := cell_below hcur.out _ _ hlast.out
          go_simp
          clear cl
          refine hK _ _ ?_
          clear hK K
          (try simp only [Act.put, List.getElem_toArray, List.getElem_cons_zero, List.getElem_cons_succ, List.setIfInBounds_toArray, List.set_cons_zero, List.set_cons_succ])
          refine wpAny_ready (rs := [2, 9, 15]) (by kernel_rfl) (by simp) ?_
          refine AllReady.cons rfl (fun K hK => ?_) ?_
          · as_aux_lemma =>
              obtain ⟨so, sc, V2, hrun, hr0, hbW, hkp⟩ := app_list W8.heap.size V1 _ (s0 :: t) _ _ _ (hsv8.out.below hcur.out) hlen.out hl17.out hm1000.out hg.out hgB.out
              refine step_append_run rfl (.tmp 97) (.tmp 98) 22 rfl _ _ _ _ rfl rfl hrun ?_
              refine hK _ _ ?_
              clear hK K
              (try simp only [Act.put, List.getElem_toArray, List.getElem_cons_zero, List.getElem_cons_succ, List.setIfInBounds_toArray, List.set_cons_zero, List.set_cons_succ])
              have hr := hid hr0
              replace hcur := hid (hcur.out.trans hbW)
              clear hr0 hrun hbW hkp hg hgB
              refine wpAny_ready (rs := [9, 15]) (by kernel_rfl) (by simp) ?_
              refine AllReady.cons rfl (fun K hK => ?_) ?_
              · skip
                go_simp
                refine hK _ _ ?_
                clear hK K
                (try simp only [Act.put, List.getElem_toArray, List.getElem_cons_zero, List.getElem_cons_succ, List.setIfInBounds_toArray, List.set_cons_zero, List.set_cons_succ])
                replace hr := hid (hr.out.alloc (.cells #[.string last] 9))
                have hx := hid (Blk.new V2 [.string last] 9)
                have hxB := hid hcur.out.size
                replace hcur := hid (hcur.out.alloc hcur.out.size (.cells #[.string last] 9))
                generalize V2.alloc (.cells #[.string last] 9) = V3 at hr hx hcur ⊢
                refine wpAny_ready (rs := [10, 15]) (by kernel_rfl) (by simp) ?_
                refine AllReady.cons rfl (fun K hK => ?_) ?_
                · skip
                  obtain ⟨so2, sc2, V4, hrun, hr0, hbW, hkp⟩ := app_last W8.heap.size V3 _ (s0 :: t) last _ _ hr.out hx.out hm1001.out hcur.out.size
                  refine step_append_run rfl (.tmp 99) (.tmp 106) 22 rfl _ _ _ _ rfl rfl hrun ?_
                  refine hK _ _ ?_
                  clear hK K
                  (try simp only [Act.put, List.getElem_toArray, List.getElem_cons_zero, List.getElem_cons_succ, List.setIfInBounds_toArray, List.set_cons_zero, List.set_cons_succ])
                  have hr2 := hid hr0
                  replace hcur := hid (hcur.out.trans hbW)
                  clear hr0 hrun hbW hkp hr hx
                  refine wpAny_ready (rs := [11, 15]) (by kernel_rfl) (by simp) ?_
                  refine AllReady.cons rfl (fun K hK => ?_) ?_
                  · skip
                    go_simp
                    (with_reducible refine (join_any (s0 :: t ++ [last]) _ _ (own_strs hr2.out hlen2.out)).mono ?_)
                    rw [hmore2.out last]
                    rintro e V5 ⟨rfl, b9⟩
                    unfold frV zeroFr
                    dsimp only
                    refine hK _ _ ?_
                    clear hK K
                    (try simp only [Act.put, List.getElem_toArray, List.getElem_cons_zero, List.getElem_cons_succ, List.setIfInBounds_toArray, List.set_cons_zero, List.set_cons_succ])
                    replace hcur := hid (bt hcur.out b9)
                    clear b9 hr2
                    refine wpAny_take (i := 12) (v := ?_) rfl (by kernel_rfl) (by kernel_rfl) (by kernel_rfl) (fun _ _ _ h => h) (Or.inl ⟨by rfl, ?_⟩) ?_
                    rotate_left 1
                    (intro w; go_simp; try with_reducible rfl)
                    (try simp only [Act.put, List.getElem_toArray, List.getElem_cons_zero, List.getElem_cons_succ, List.setIfInBounds_toArray, List.set_cons_zero, List.set_cons_succ])
                    refine wpAny_take (i := 13) (v := ?_) rfl (by kernel_rfl) (by kernel_rfl) (by kernel_rfl) (fun _ _ _ h => h) (Or.inl ⟨by rfl, ?_⟩) ?_
                    rotate_left 1
                    (intro w; go_simp; try with_reducible rfl)
                    (try simp only [Act.put, List.getElem_toArray, List.getElem_cons_zero, List.getElem_cons_succ, List.setIfInBounds_toArray, List.set_cons_zero, List.set_cons_succ])
                    refine wpAny_take (i := 14) (v := ?_) rfl (by kernel_rfl) (by kernel_rfl) (by kernel_rfl) (fun _ _ _ h => h) (Or.inl ⟨by rfl, ?_⟩) ?_
                    rotate_left 1
                    (intro w; go_simp; try with_reducible rfl)
                    (try simp only [Act.put, List.getElem_toArray, List.getElem_cons_zero, List.getElem_cons_succ, List.setIfInBounds_toArray, List.set_cons_zero, List.set_cons_succ])
                    refine wpAny_ready (rs := [15]) (by kernel_rfl) (by simp) ?_
                    refine AllReady.cons rfl (fun K hK => ?_) AllReady.nil
                    go_simp
                    refine hK _ _ ?_
                    clear hK K
                    (try simp only [Act.put, List.getElem_toArray, List.getElem_cons_zero, List.getElem_cons_succ, List.setIfInBounds_toArray, List.set_cons_zero, List.set_cons_succ])
                    have hp := hid (Blk.new V5 [.int .u8 0, .int .u64 0, .int .u64 0, .string ⟨#[]⟩] 40)
                    have hpB := hid hcur.out.size
                    replace hcur := hid (hcur.out.alloc hcur.out.size (.cells #[.int .u8 0, .int .u64 0, .int .u64 0, .string ⟨#[]⟩] 40))
                    generalize V5.alloc (.cells #[.int .u8 0, .int .u64 0, .int .u64 0, .string ⟨#[]⟩] 40) = V6 at hp hcur ⊢
                    refine wpAny_ready (rs := [16]) (by kernel_rfl) (by simp) ?_
                    refine AllReady.cons rfl (fun K hK => ?_) AllReady.nil
                    obtain ⟨p0, p1, p2, p3, pf⟩ := hp.out.four
                    go_simp
                    clear p0 p1 p2 p3 pf
                    refine hK _ _ ?_
                    clear hK K
                    (try simp only [Act.put, List.getElem_toArray, List.getElem_cons_zero, List.getElem_cons_succ, List.setIfInBounds_toArray, List.set_cons_zero, List.set_cons_succ])
                    refine wpAny_take (i := 17) (v := ?_) rfl (by kernel_rfl) (by kernel_rfl) (by kernel_rfl) (fun _ _ _ h => h) (Or.inl ⟨by rfl, ?_⟩) ?_
                    rotate_left 1
                    (intro w; go_simp; try with_reducible rfl)
                    (try simp only [Act.put, List.getElem_toArray, List.getElem_cons_zero, List.getElem_cons_succ, List.setIfInBounds_toArray, List.set_cons_zero, List.set_cons_succ])
                    refine wpAny_done (by kernel_rfl) ?_ _
                    go_wp2_with fail
                    go_meet
                    exact ⟨rfl, hfin.out _ _ hpB.out hcur.out⟩
                  refine AllReady.cons rfl (fun K hK => ?_) AllReady.nil
                  go_simp
                  refine hK _ _ ?_
                  clear hK K
                  (try simp only [Act.put, List.getElem_toArray, List.getElem_cons_zero, List.getElem_cons_succ, List.setIfInBounds_toArray, List.set_cons_zero, List.set_cons_succ])
                  replace hr2 := hid (hr2.out.alloc (.cells #[.int .u8 0, .int .u64 0, .int .u64 0, .string ⟨#[]⟩] 40))
                  have hp := hid (Blk.new V4 [.int .u8 0, .int .u64 0, .int .u64 0, .string ⟨#[]⟩] 40)
                  have hpB := hid hcur.out.size
                  replace hcur := hid (hcur.out.alloc hcur.out.size (.cells #[.int .u8 0, .int .u64 0, .int .u64 0, .string ⟨#[]⟩] 40))
                  generalize V4.alloc (.cells #[.int .u8 0, .int .u64 0, .int .u64 0, .string ⟨#[]⟩] 40) = V5 at hr2 hp hcur ⊢
                  refine wpAny_ready (rs := [11]) (by kernel_rfl) (by simp) ?_
                  refine AllReady.cons rfl (fun K hK => ?_) AllReady.nil
                  go_simp
                  (with_reducible refine (join_any (s0 :: t ++ [last]) _ _ (own_strs hr2.out hlen2.out)).mono ?_)
                  rw [hmore2.out last]
                  rintro e V6 ⟨rfl, b9⟩
                  unfold frV zeroFr
                  dsimp only
                  refine hK _ _ ?_
                  clear hK K
                  (try simp only [Act.put, List.getElem_toArray, List.getElem_cons_zero, List.getElem_cons_succ, List.setIfInBounds_toArray, List.set_cons_zero, List.set_cons_succ])
                  replace hp := hid (hp.out.below b9 hp.out.lt)
                  replace hcur := hid (bt hcur.out b9)
                  clear b9 hr2
                  refine wpAny_take (i := 12) (v := ?_) rfl (by kernel_rfl) (by kernel_rfl) (by kernel_rfl) (fun _ _ _ h => h) (Or.inl ⟨by rfl, ?_⟩) ?_
                  rotate_left 1
                  (intro w; go_simp; try with_reducible rfl)
                  (try simp only [Act.put, List.getElem_toArray, List.getElem_cons_zero, List.getElem_cons_succ, List.setIfInBounds_toArray, List.set_cons_zero, List.set_cons_succ])
                  refine wpAny_take (i := 13) (v := ?_) rfl (by kernel_rfl) (by kernel_rfl) (by kernel_rfl) (fun _ _ _ h => h) (Or.inl ⟨by rfl, ?_⟩) ?_
                  rotate_left 1
                  (intro w; go_simp; try with_reducible rfl)
                  (try simp only [Act.put, List.getElem_toArray, List.getElem_cons_zero, List.getElem_cons_succ, List.setIfInBounds_toArray, List.set_cons_zero, List.set_cons_succ])
                  refine wpAny_take (i := 14) (v := ?_) rfl (by kernel_rfl) (by kernel_rfl) (by kernel_rfl) (fun _ _ _ h => h) (Or.inl ⟨by rfl, ?_⟩) ?_
                  rotate_left 1
                  (intro w; go_simp; try with_reducible rfl)
                  (try simp only [Act.put, List.getElem_toArray, List.getElem_cons_zero, List.getElem_cons_succ, List.setIfInBounds_toArray, List.set_cons_zero, List.set_cons_succ])
                  refine wpAny_ready (rs := [16]) (by kernel_rfl) (by simp) ?_
                  refine AllReady.cons rfl (fun K hK => ?_) AllReady.nil
                  obtain ⟨p0, p1, p2, p3, pf⟩ := hp.out.four
                  go_simp
                  clear p0 p1 p2 p3 pf
                  refine hK _ _ ?_
                  clear hK K
                  (try simp only [Act.put, List.getElem_toArray, List.getElem_cons_zero, List.getElem_cons_succ, List.setIfInBounds_toArray, List.set_cons_zero, List.set_cons_succ])
                  refine wpAny_take (i := 17) (v := ?_) rfl (by kernel_rfl) (by kernel_rfl) (by kernel_rfl) (fun _ _ _ h => h) (Or.inl ⟨by rfl, ?_⟩) ?_
                  rotate_left 1
                  (intro w; go_simp; try with_reducible rfl)
                  (try simp only [Act.put, List.getElem_toArray, List.getElem_cons_zero, List.getElem_cons_succ, List.setIfInBounds_toArray, List.set_cons_zero, List.set_cons_succ])
                  refine wpAny_done (by kernel_rfl) ?_ _
                  go_wp2_with fail
                  go_meet
                  exact ⟨rfl, hfin.out _ _ hpB.out hcur.out⟩
                refine AllReady.cons rfl (fun K hK => ?_) AllReady.nil
                go_simp
                refine hK _ _ ?_
                clear hK K
                (try simp only [Act.put, List.getElem_toArray, List.getElem_cons_zero, List.getElem_cons_succ, List.setIfInBounds_toArray, List.set_cons_zero, List.set_cons_succ])
                replace hr := hid (hr.out.alloc (.cells #[.int .u8 0, .int .u64 0, .int .u64 0, .string ⟨#[]⟩] 40))
                replace hx := hid (hx.out.alloc (.cells #[.int .u8 0, .int .u64 0, .int .u64 0, .string ⟨#[]⟩] 40))
                have hp := hid (Blk.new V3 [.int .u8 0, .int .u64 0, .int .u64 0, .string ⟨#[]⟩] 40)
                have hpB := hid hcur.out.size
                replace hcur := hid (hcur.out.alloc hcur.out.size (.cells #[.int .u8 0, .int .u64 0, .int .u64 0, .string ⟨#[]⟩] 40))
                generalize V3.alloc (.cells #[.int .u8 0, .int .u64 0, .int .u64 0, .string ⟨#[]⟩] 40) = V4 at hr hx hp hcur ⊢
                refine wpAny_ready (rs := [10]) (by kernel_rfl) (by simp) ?_
                refine AllReady.cons rfl (fun K hK => ?_) AllReady.nil
                obtain ⟨so2, sc2, V5, hrun, hr0, hbW, hkp⟩ := app_last W8.heap.size V4 _ (s0 :: t) last _ _ hr.out hx.out hm1001.out hcur.out.size
                refine step_append_run rfl (.tmp 99) (.tmp 106) 22 rfl _ _ _ _ rfl rfl hrun ?_
                refine hK _ _ ?_
                clear hK K
                (try simp only [Act.put, List.getElem_toArray, List.getElem_cons_zero, List.getElem_cons_succ, List.setIfInBounds_toArray, List.set_cons_zero, List.set_cons_succ])
                have hr2 := hid hr0
                replace hp := hid (hkp _ _ _ hp.out (by decide))
                replace hcur := hid (hcur.out.trans hbW)
                clear hr0 hrun hbW hkp hr hx
                refine wpAny_ready (rs := [11]) (by kernel_rfl) (by simp) ?_
                refine AllReady.cons rfl (fun K hK => ?_) AllReady.nil
                go_simp
                (with_reducible refine (join_any (s0 :: t ++ [last]) _ _ (own_strs hr2.out hlen2.out)).mono ?_)
                rw [hmore2.out last]
                rintro e V6 ⟨rfl, b9⟩
                unfold frV zeroFr
                dsimp only
                refine hK _ _ ?_
                clear hK K
                (try simp only [Act.put, List.getElem_toArray, List.getElem_cons_zero, List.getElem_cons_succ, List.setIfInBounds_toArray, List.set_cons_zero, List.set_cons_succ])
                replace hp := hid (hp.out.below b9 hp.out.lt)
                replace hcur := hid (bt hcur.out b9)
                clear b9 hr2
                refine wpAny_take (i := 12) (v := ?_) rfl (by kernel_rfl) (by kernel_rfl) (by kernel_rfl) (fun _ _ _ h => h) (Or.inl ⟨by rfl, ?_⟩) ?_
                rotate_left 1
                (intro w; go_simp; try with_reducible rfl)
                (try simp only [Act.put, List.getElem_toArray, List.getElem_cons_zero, List.getElem_cons_succ, List.setIfInBounds_toArray, List.set_cons_zero, List.set_cons_succ])
                refine wpAny_take (i := 13) (v := ?_) rfl (by kernel_rfl) (by kernel_rfl) (by kernel_rfl) (fun _ _ _ h => h) (Or.inl ⟨by rfl, ?_⟩) ?_
                rotate_left 1
                (intro w; go_simp; try with_reducible rfl)
                (try simp only [Act.put, List.getElem_toArray, List.getElem_cons_zero, List.getElem_cons_succ, List.setIfInBounds_toArray, List.set_cons_zero, List.set_cons_succ])
                refine wpAny_take (i := 14) (v := ?_) rfl (by kernel_rfl) (by kernel_rfl) (by kernel_rfl) (fun _ _ _ h => h) (Or.inl ⟨by rfl, ?_⟩) ?_
                rotate_left 1
                (intro w; go_simp; try with_reducible rfl)
                (try simp only [Act.put, List.getElem_toArray, List.getElem_cons_zero, List.getElem_cons_succ, List.setIfInBounds_toArray, List.set_cons_zero, List.set_cons_succ])
                refine wpAny_ready (rs := [16]) (by kernel_rfl) (by simp) ?_
                refine AllReady.cons rfl (fun K hK => ?_) AllReady.nil
                obtain ⟨p0, p1, p2, p3, pf⟩ := hp.out.four
                go_simp
                clear p0 p1 p2 p3 pf
                refine hK _ _ ?_
                clear hK K
                (try simp only [Act.put, List.getElem_toArray, List.getElem_cons_zero, List.getElem_cons_succ, List.setIfInBounds_toArray, List.set_cons_zero, List.set_cons_succ])
                refine wpAny_take (i := 17) (v := ?_) rfl (by kernel_rfl) (by kernel_rfl) (by kernel_rfl) (fun _ _ _ h => h) (Or.inl ⟨by rfl, ?_⟩) ?_
                rotate_left 1
                (intro w; go_simp; try with_reducible rfl)
                (try simp only [Act.put, List.getElem_toArray, List.getElem_cons_zero, List.getElem_cons_succ, List.setIfInBounds_toArray, List.set_cons_zero, List.set_cons_succ])
                refine wpAny_done (by kernel_rfl) ?_ _
                go_wp2_with fail
                go_meet
                exact ⟨rfl, hfin.out _ _ hpB.out hcur.out⟩
              refine AllReady.cons rfl (fun K hK => ?_) AllReady.nil
              go_simp
              refine hK _ _ ?_
              clear hK K
              (try simp only [Act.put, List.getElem_toArray, List.getElem_cons_zero, List.getElem_cons_succ, List.setIfInBounds_toArray, List.set_cons_zero, List.set_cons_succ])
              replace hr := hid (hr.out.alloc (.cells #[.int .u8 0, .int .u64 0, .int .u64 0, .string ⟨#[]⟩] 40))
              have hp := hid (Blk.new V2 [.int .u8 0, .int .u64 0, .int .u64 0, .string ⟨#[]⟩] 40)
              have hpB := hid hcur.out.size
              replace hcur := hid (hcur.out.alloc hcur.out.size (.cells #[.int .u8 0, .int .u64 0, .int .u64 0, .string ⟨#[]⟩] 40))
              generalize V2.alloc (.cells #[.int .u8 0, .int .u64 0, .int .u64 0, .string ⟨#[]⟩] 40) = V3 at hr hp hcur ⊢
              refine wpAny_ready (rs := [9]) (by kernel_rfl) (by simp) ?_
              refine AllReady.cons rfl (fun K hK => ?_) AllReady.nil
              go_simp
              refine hK _ _ ?_
              clear hK K
              (try simp only [Act.put, List.getElem_toArray, List.getElem_cons_zero, List.getElem_cons_succ, List.setIfInBounds_toArray, List.set_cons_zero, List.set_cons_succ])
              replace hr := hid (hr.out.alloc (.cells #[.string last] 9))
              replace hp := hid (hp.out.alloc (.cells #[.string last] 9))
              have hx := hid (Blk.new V3 [.string last] 9)
              have hxB := hid hcur.out.size
              replace hcur := hid (hcur.out.alloc hcur.out.size (.cells #[.string last] 9))
              generalize V3.alloc (.cells #[.string last] 9) = V4 at hr hp hx hcur ⊢
              refine wpAny_ready (rs := [10]) (by kernel_rfl) (by simp) ?_
              refine AllReady.cons rfl (fun K hK => ?_) AllReady.nil
              obtain ⟨so2, sc2, V5, hrun, hr0, hbW, hkp⟩ := app_last W8.heap.size V4 _ (s0 :: t) last _ _ hr.out hx.out hm1001.out hcur.out.size
              refine step_append_run rfl (.tmp 99) (.tmp 106) 22 rfl _ _ _ _ rfl rfl hrun ?_
              refine hK _ _ ?_
              clear hK K
              (try simp only [Act.put, List.getElem_toArray, List.getElem_cons_zero, List.getElem_cons_succ, List.setIfInBounds_toArray, List.set_cons_zero, List.set_cons_succ])
              have hr2 := hid hr0
              replace hp := hid (hkp _ _ _ hp.out (by decide))
              replace hcur := hid (hcur.out.trans hbW)
              clear hr0 hrun hbW hkp hr hx
              refine wpAny_ready (rs := [11]) (by kernel_rfl) (by simp) ?_
              refine AllReady.cons rfl (fun K hK => ?_) AllReady.nil
              go_simp
              (with_reducible refine (join_any (s0 :: t ++ [last]) _ _ (own_strs hr2.out hlen2.out)).mono ?_)
              rw [hmore2.out last]
              rintro e V6 ⟨rfl, b9⟩
              unfold frV zeroFr
              dsimp only
              refine hK _ _ ?_
              clear hK K
              (try simp only [Act.put, List.getElem_toArray, List.getElem_cons_zero, List.getElem_cons_succ, List.setIfInBounds_toArray, List.set_cons_zero, List.set_cons_succ])
              replace hp := hid (hp.out.below b9 hp.out.lt)
              replace hcur := hid (bt hcur.out b9)
              clear b9 hr2
              refine wpAny_take (i := 12) (v := ?_) rfl (by kernel_rfl) (by kernel_rfl) (by kernel_rfl) (fun _ _ _ h => h) (Or.inl ⟨by rfl, ?_⟩) ?_
              rotate_left 1
              (intro w; go_simp; try with_reducible rfl)
              (try simp only [Act.put, List.getElem_toArray, List.getElem_cons_zero, List.getElem_cons_succ, List.setIfInBounds_toArray, List.set_cons_zero, List.set_cons_succ])
              refine wpAny_take (i := 13) (v := ?_) rfl (by kernel_rfl) (by kernel_rfl) (by kernel_rfl) (fun _ _ _ h => h) (Or.inl ⟨by rfl, ?_⟩) ?_
              rotate_left 1
              (intro w; go_simp; try with_reducible rfl)
              (try simp only [Act.put, List.getElem_toArray, List.getElem_cons_zero, List.getElem_cons_succ, List.setIfInBounds_toArray, List.set_cons_zero, List.set_cons_succ])
              refine wpAny_take (i := 14) (v := ?_) rfl (by kernel_rfl) (by kernel_rfl) (by kernel_rfl) (fun _ _ _ h => h) (Or.inl ⟨by rfl, ?_⟩) ?_
              rotate_left 1
              (intro w; go_simp; try with_reducible rfl)
              (try simp only [Act.put, List.getElem_toArray, List.getElem_cons_zero, List.getElem_cons_succ, List.setIfInBounds_toArray, List.set_cons_zero, List.set_cons_succ])
              refine wpAny_ready (rs := [16]) (by kernel_rfl) (by simp) ?_
              refine AllReady.cons rfl (fun K hK => ?_) AllReady.nil
              obtain ⟨p0, p1, p2, p3, pf⟩ := hp.out.four
              go_simp
              clear p0 p1 p2 p3 pf
              refine hK _ _ ?_
              clear hK K
              (try simp only [Act.put, List.getElem_toArray, List.getElem_cons_zero, List.getElem_cons_succ, List.setIfInBounds_toArray, List.set_cons_zero, List.set_cons_succ])
              refine wpAny_take (i := 17) (v := ?_) rfl (by kernel_rfl) (by kernel_rfl) (by kernel_rfl) (fun _ _ _ h => h) (Or.inl ⟨by rfl, ?_⟩) ?_
              rotate_left 1
              (intro w; go_simp; try with_reducible rfl)
              (try simp only [Act.put, List.getElem_toArray, List.getElem_cons_zero, List.getElem_cons_succ, List.setIfInBounds_toArray, List.set_cons_zero, List.set_cons_succ])
              refine wpAny_done (by kernel_rfl) ?_ _
              go_wp2_with fail
              go_meet
              exact ⟨rfl, hfin.out _ _ hpB.out hcur.out⟩
          refine AllReady.cons rfl (fun K hK => ?_) ?_
          · as_aux_lemma =>
              go_simp
              refine hK _ _ ?_
              clear hK K
              (try simp only [Act.put, List.getElem_toArray, List.getElem_cons_zero, List.getElem_cons_succ, List.setIfInBounds_toArray, List.set_cons_zero, List.set_cons_succ])
              have hxg := hid (Nat.ne_of_gt hg.out.lt)
              replace hg := hid (hg.out.alloc (.cells #[.string last] 9))
              have hx := hid (Blk.new V1 [.string last] 9)
              have hxB := hid hcur.out.size
              replace hcur := hid (hcur.out.alloc hcur.out.size (.cells #[.string last] 9))
              generalize V1.alloc (.cells #[.string last] 9) = V2 at hg hx hcur ⊢
              refine wpAny_ready (rs := [2, 15]) (by kernel_rfl) (by simp) ?_
              refine AllReady.cons rfl (fun K hK => ?_) ?_
              · skip
                obtain ⟨so, sc, V3, hrun, hr0, hbW, hkp⟩ := app_list W8.heap.size V2 _ (s0 :: t) _ _ _ (hsv8.out.below hcur.out) hlen.out hl17.out hm1000.out hg.out hgB.out
                refine step_append_run rfl (.tmp 97) (.tmp 98) 22 rfl _ _ _ _ rfl rfl hrun ?_
                refine hK _ _ ?_
                clear hK K
                (try simp only [Act.put, List.getElem_toArray, List.getElem_cons_zero, List.getElem_cons_succ, List.setIfInBounds_toArray, List.set_cons_zero, List.set_cons_succ])
                have hr := hid hr0
                replace hx := hid (hkp _ _ _ hx.out hxg.out)
                replace hcur := hid (hcur.out.trans hbW)
                clear hr0 hrun hbW hkp hg hgB
                refine wpAny_ready (rs := [10, 15]) (by kernel_rfl) (by simp) ?_
                refine AllReady.cons rfl (fun K hK => ?_) ?_
                · skip
                  obtain ⟨so2, sc2, V4, hrun, hr0, hbW, hkp⟩ := app_last W8.heap.size V3 _ (s0 :: t) last _ _ hr.out hx.out hm1001.out hcur.out.size
                  refine step_append_run rfl (.tmp 99) (.tmp 106) 22 rfl _ _ _ _ rfl rfl hrun ?_
                  refine hK _ _ ?_
                  clear hK K
                  (try simp only [Act.put, List.getElem_toArray, List.getElem_cons_zero, List.getElem_cons_succ, List.setIfInBounds_toArray, List.set_cons_zero, List.set_cons_succ])
                  have hr2 := hid hr0
                  replace hcur := hid (hcur.out.trans hbW)
                  clear hr0 hrun hbW hkp hr hx
                  refine wpAny_ready (rs := [11, 15]) (by kernel_rfl) (by simp) ?_
                  refine AllReady.cons rfl (fun K hK => ?_) ?_
                  · skip
                    go_simp
                    (with_reducible refine (join_any (s0 :: t ++ [last]) _ _ (own_strs hr2.out hlen2.out)).mono ?_)
                    rw [hmore2.out last]
                    rintro e V5 ⟨rfl, b9⟩
                    unfold frV zeroFr
                    dsimp only
                    refine hK _ _ ?_
                    clear hK K
                    (try simp only [Act.put, List.getElem_toArray, List.getElem_cons_zero, List.getElem_cons_succ, List.setIfInBounds_toArray, List.set_cons_zero, List.set_cons_succ])
                    replace hcur := hid (bt hcur.out b9)
                    clear b9 hr2
                    refine wpAny_take (i := 12) (v := ?_) rfl (by kernel_rfl) (by kernel_rfl) (by kernel_rfl) (fun _ _ _ h => h) (Or.inl ⟨by rfl, ?_⟩) ?_
                    rotate_left 1
                    (intro w; go_simp; try with_reducible rfl)
                    (try simp only [Act.put, List.getElem_toArray, List.getElem_cons_zero, List.getElem_cons_succ, List.setIfInBounds_toArray, List.set_cons_zero, List.set_cons_succ])
                    refine wpAny_take (i := 13) (v := ?_) rfl (by kernel_rfl) (by kernel_rfl) (by kernel_rfl) (fun _ _ _ h => h) (Or.inl ⟨by rfl, ?_⟩) ?_
                    rotate_left 1
                    (intro w; go_simp; try with_reducible rfl)
                    (try simp only [Act.put, List.getElem_toArray, List.getElem_cons_zero, List.getElem_cons_succ, List.setIfInBounds_toArray, List.set_cons_zero, List.set_cons_succ])
                    refine wpAny_take (i := 14) (v := ?_) rfl (by kernel_rfl) (by kernel_rfl) (by kernel_rfl) (fun _ _ _ h => h) (Or.inl ⟨by rfl, ?_⟩) ?_
                    rotate_left 1
                    (intro w; go_simp; try with_reducible rfl)
                    (try simp only [Act.put, List.getElem_toArray, List.getElem_cons_zero, List.getElem_cons_succ, List.setIfInBounds_toArray, List.set_cons_zero, List.set_cons_succ])
                    refine wpAny_ready (rs := [15]) (by kernel_rfl) (by simp) ?_
                    refine AllReady.cons rfl (fun K hK => ?_) AllReady.nil
                    go_simp
                    refine hK _ _ ?_
                    clear hK K
                    (try simp only [Act.put, List.getElem_toArray, List.getElem_cons_zero, List.getElem_cons_succ, List.setIfInBounds_toArray, List.set_cons_zero, List.set_cons_succ])
                    have hp := hid (Blk.new V5 [.int .u8 0, .int .u64 0, .int .u64 0, .string ⟨#[]⟩] 40)
                    have hpB := hid hcur.out.size
                    replace hcur := hid (hcur.out.alloc hcur.out.size (.cells #[.int .u8 0, .int .u64 0, .int .u64 0, .string ⟨#[]⟩] 40))
                    generalize V5.alloc (.cells #[.int .u8 0, .int .u64 0, .int .u64 0, .string ⟨#[]⟩] 40) = V6 at hp hcur ⊢
                    refine wpAny_ready (rs := [16]) (by kernel_rfl) (by simp) ?_
                    refine AllReady.cons rfl (fun K hK => ?_) AllReady.nil
                    obtain ⟨p0, p1, p2, p3, pf⟩ := hp.out.four
                    go_simp
                    clear p0 p1 p2 p3 pf
                    refine hK _ _ ?_
                    clear hK K
                    (try simp only [Act.put, List.getElem_toArray, List.getElem_cons_zero, List.getElem_cons_succ, List.setIfInBounds_toArray, List.set_cons_zero, List.set_cons_succ])
                    refine wpAny_take (i := 17) (v := ?_) rfl (by kernel_rfl) (by kernel_rfl) (by kernel_rfl) (fun _ _ _ h => h) (Or.inl ⟨by rfl, ?_⟩) ?_
                    rotate_left 1
                    (intro w; go_simp; try with_reducible rfl)
                    (try simp only [Act.put, List.getElem_toArray, List.getElem_cons_zero, List.getElem_cons_succ, List.setIfInBounds_toArray, List.set_cons_zero, List.set_cons_succ])
                    refine wpAny_done (by kernel_rfl) ?_ _
                    go_wp2_with fail
                    go_meet
                    exact ⟨rfl, hfin.out _ _ hpB.out hcur.out⟩
                  refine AllReady.cons rfl (fun K hK => ?_) AllReady.nil
                  go_simp
                  refine hK _ _ ?_
                  clear hK K
                  (try simp only [Act.put, List.getElem_toArray, List.getElem_cons_zero, List.getElem_cons_succ, List.setIfInBounds_toArray, List.set_cons_zero, List.set_cons_succ])
                  replace hr2 := hid (hr2.out.alloc (.cells #[.int .u8 0, .int .u64 0, .int .u64 0, .string ⟨#[]⟩] 40))
                  have hp := hid (Blk.new V4 [.int .u8 0, .int .u64 0, .int .u64 0, .string ⟨#[]⟩] 40)
                  have hpB := hid hcur.out.size
                  replace hcur := hid (hcur.out.alloc hcur.out.size (.cells #[.int .u8 0, .int .u64 0, .int .u64 0, .string ⟨#[]⟩] 40))
                  generalize V4.alloc (.cells #[.int .u8 0, .int .u64 0, .int .u64 0, .string ⟨#[]⟩] 40) = V5 at hr2 hp hcur ⊢
                  refine wpAny_ready (rs := [11]) (by kernel_rfl) (by simp) ?_
                  refine AllReady.cons rfl (fun K hK => ?_) AllReady.nil
                  go_simp
                  (with_reducible refine (join_any (s0 :: t ++ [last]) _ _ (own_strs hr2.out hlen2.out)).mono ?_)
                  rw [hmore2.out last]
                  rintro e V6 ⟨rfl, b9⟩
                  unfold frV zeroFr
                  dsimp only
                  refine hK _ _ ?_
                  clear hK K
                  (try simp only [Act.put, List.getElem_toArray, List.getElem_cons_zero, List.getElem_cons_succ, List.setIfInBounds_toArray, List.set_cons_zero, List.set_cons_succ])
                  replace hp := hid (hp.out.below b9 hp.out.lt)
                  replace hcur := hid (bt hcur.out b9)
                  clear b9 hr2
                  refine wpAny_take (i := 12) (v := ?_) rfl (by kernel_rfl) (by kernel_rfl) (by kernel_rfl) (fun _ _ _ h => h) (Or.inl ⟨by rfl, ?_⟩) ?_
                  rotate_left 1
                  (intro w; go_simp; try with_reducible rfl)
                  (try simp only [Act.put, List.getElem_toArray, List.getElem_cons_zero, List.getElem_cons_succ, List.setIfInBounds_toArray, List.set_cons_zero, List.set_cons_succ])
                  refine wpAny_take (i := 13) (v := ?_) rfl (by kernel_rfl) (by kernel_rfl) (by kernel_rfl) (fun _ _ _ h => h) (Or.inl ⟨by rfl, ?_⟩) ?_
                  rotate_left 1
                  (intro w; go_simp; try with_reducible rfl)
                  (try simp only [Act.put, List.getElem_toArray, List.getElem_cons_zero, List.getElem_cons_succ, List.setIfInBounds_toArray, List.set_cons_zero, List.set_cons_succ])
                  refine wpAny_take (i := 14) (v := ?_) rfl (by kernel_rfl) (by kernel_rfl) (by kernel_rfl) (fun _ _ _ h => h) (Or.inl ⟨by rfl, ?_⟩) ?_
                  rotate_left 1
                  (intro w; go_simp; try with_reducible rfl)
                  (try simp only [Act.put, List.getElem_toArray, List.getElem_cons_zero, List.getElem_cons_succ, List.setIfInBounds_toArray, List.set_cons_zero, List.set_cons_succ])
                  refine wpAny_ready (rs := [16]) (by kernel_rfl) (by simp) ?_
                  refine AllReady.cons rfl (fun K hK => ?_) AllReady.nil
                  obtain ⟨p0, p1, p2, p3, pf⟩ := hp.out.four
                  go_simp
                  clear p0 p1 p2 p3 pf
                  refine hK _ _ ?_
                  clear hK K
                  (try simp only [Act.put, List.getElem_toArray, List.getElem_cons_zero, List.getElem_cons_succ, List.setIfInBounds_toArray, List.set_cons_zero, List.set_cons_succ])
                  refine wpAny_take (i := 17) (v := ?_) rfl (by kernel_rfl) (by kernel_rfl) (by kernel_rfl) (fun _ _ _ h => h) (Or.inl ⟨by rfl, ?_⟩) ?_
                  rotate_left 1
                  (intro w; go_simp; try with_reducible rfl)
                  (try simp only [Act.put, List.getElem_toArray, List.getElem_cons_zero, List.getElem_cons_succ, List.setIfInBounds_toArray, List.set_cons_zero, List.set_cons_succ])
                  refine wpAny_done (by kernel_rfl) ?_ _
                  go_wp2_with fail
                  go_meet
                  exact ⟨rfl, hfin.out _ _ hpB.out hcur.out⟩
                refine AllReady.cons rfl (fun K hK => ?_) AllReady.nil
                go_simp
                refine hK _ _ ?_
                clear hK K
                (try simp only [Act.put, List.getElem_toArray, List.getElem_cons_zero, List.getElem_cons_succ, List.setIfInBounds_toArray, List.set_cons_zero, List.set_cons_succ])
                replace hr := hid (hr.out.alloc (.cells #[.int .u8 0, .int .u64 0, .int .u64 0, .string ⟨#[]⟩] 40))
                replace hx := hid (hx.out.alloc (.cells #[.int .u8 0, .int .u64 0, .int .u64 0, .string ⟨#[]⟩] 40))
                have hp := hid (Blk.new V3 [.int .u8 0, .int .u64 0, .int .u64 0, .string ⟨#[]⟩] 40)
                have hpB := hid hcur.out.size
                replace hcur := hid (hcur.out.alloc hcur.out.size (.cells #[.int .u8 0, .int .u64 0, .int .u64 0, .string ⟨#[]⟩] 40))
                generalize V3.alloc (.cells #[.int .u8 0, .int .u64 0, .int .u64 0, .string ⟨#[]⟩] 40) = V4 at hr hx hp hcur ⊢
                refine wpAny_ready (rs := [10]) (by kernel_rfl) (by simp) ?_
                refine AllReady.cons rfl (fun K hK => ?_) AllReady.nil
                obtain ⟨so2, sc2, V5, hrun, hr0, hbW, hkp⟩ := app_last W8.heap.size V4 _ (s0 :: t) last _ _ hr.out hx.out hm1001.out hcur.out.size
                refine step_append_run rfl (.tmp 99) (.tmp 106) 22 rfl _ _ _ _ rfl rfl hrun ?_
                refine hK _ _ ?_
                clear hK K
                (try simp only [Act.put, List.getElem_toArray, List.getElem_cons_zero, List.getElem_cons_succ, List.setIfInBounds_toArray, List.set_cons_zero, List.set_cons_succ])
                have hr2 := hid hr0
                replace hp := hid (hkp _ _ _ hp.out (by decide))
                replace hcur := hid (hcur.out.trans hbW)
                clear hr0 hrun hbW hkp hr hx
                refine wpAny_ready (rs := [11]) (by kernel_rfl) (by simp) ?_
                refine AllReady.cons rfl (fun K hK => ?_) AllReady.nil
                go_simp
                (with_reducible refine (join_any (s0 :: t ++ [last]) _ _ (own_strs hr2.out hlen2.out)).mono ?_)
                rw [hmore2.out last]
                rintro e V6 ⟨rfl, b9⟩
                unfold frV zeroFr
                dsimp only
                refine hK _ _ ?_
                clear hK K
                (try simp only [Act.put, List.getElem_toArray, List.getElem_cons_zero, List.getElem_cons_succ, List.setIfInBounds_toArray, List.set_cons_zero, List.set_cons_succ])
                replace hp := hid (hp.out.below b9 hp.out.lt)
                replace hcur := hid (bt hcur.out b9)
                clear b9 hr2
                refine wpAny_take (i := 12) (v := ?_) rfl (by kernel_rfl) (by kernel_rfl) (by kernel_rfl) (fun _ _ _ h => h) (Or.inl ⟨by rfl, ?_⟩) ?_
                rotate_left 1
                (intro w; go_simp; try with_reducible rfl)
                (try simp only [Act.put, List.getElem_toArray, List.getElem_cons_zero, List.getElem_cons_succ, List.setIfInBounds_toArray, List.set_cons_zero, List.set_cons_succ])
                refine wpAny_take (i := 13) (v := ?_) rfl (by kernel_rfl) (by kernel_rfl) (by kernel_rfl) (fun _ _ _ h => h) (Or.inl ⟨by rfl, ?_⟩) ?_
                rotate_left 1
                (intro w; go_simp; try with_reducible rfl)
                (try simp only [Act.put, List.getElem_toArray, List.getElem_cons_zero, List.getElem_cons_succ, List.setIfInBounds_toArray, List.set_cons_zero, List.set_cons_succ])
                refine wpAny_take (i := 14) (v := ?_) rfl (by kernel_rfl) (by kernel_rfl) (by kernel_rfl) (fun _ _ _ h => h) (Or.inl ⟨by rfl, ?_⟩) ?_
                rotate_left 1
                (intro w; go_simp; try with_reducible rfl)
                (try simp only [Act.put, List.getElem_toArray, List.getElem_cons_zero, List.getElem_cons_succ, List.setIfInBounds_toArray, List.set_cons_zero, List.set_cons_succ])
                refine wpAny_ready (rs := [16]) (by kernel_rfl) (by simp) ?_
                refine AllReady.cons rfl (fun K hK => ?_) AllReady.nil
                obtain ⟨p0, p1, p2, p3, pf⟩ := hp.out.four
                go_simp
                clear p0 p1 p2 p3 pf
                refine hK _ _ ?_
                clear hK K
                (try simp only [Act.put, List.getElem_toArray, List.getElem_cons_zero, List.getElem_cons_succ, List.setIfInBounds_toArray, List.set_cons_zero, List.set_cons_succ])
                refine wpAny_take (i := 17) (v := ?_) rfl (by kernel_rfl) (by kernel_rfl) (by kernel_rfl) (fun _ _ _ h => h) (Or.inl ⟨by rfl, ?_⟩) ?_
                rotate_left 1
                (intro w; go_simp; try with_reducible rfl)
                (try simp only [Act.put, List.getElem_toArray, List.getElem_cons_zero, List.getElem_cons_succ, List.setIfInBounds_toArray, List.set_cons_zero, List.set_cons_succ])
                refine wpAny_done (by kernel_rfl) ?_ _
                go_wp2_with fail
                go_meet
                exact ⟨rfl, hfin.out _ _ hpB.out hcur.out⟩
              refine AllReady.cons rfl (fun K hK => ?_) AllReady.nil
              go_simp
              refine hK _ _ ?_
              clear hK K
              (try simp only [Act.put, List.getElem_toArray, List.getElem_cons_zero, List.getElem_cons_succ, List.setIfInBounds_toArray, List.set_cons_zero, List.set_cons_succ])
              have hpg := hid (Nat.ne_of_gt hg.out.lt)
              replace hg := hid (hg.out.alloc (.cells #[.int .u8 0, .int .u64 0, .int .u64 0, .string ⟨#[]⟩] 40))
              replace hx := hid (hx.out.alloc (.cells #[.int .u8 0, .int .u64 0, .int .u64 0, .string ⟨#[]⟩] 40))
              have hp := hid (Blk.new V2 [.int .u8 0, .int .u64 0, .int .u64 0, .string ⟨#[]⟩] 40)
              have hpB := hid hcur.out.size
              replace hcur := hid (hcur.out.alloc hcur.out.size (.cells #[.int .u8 0, .int .u64 0, .int .u64 0, .string ⟨#[]⟩] 40))
              generalize V2.alloc (.cells #[.int .u8 0, .int .u64 0, .int .u64 0, .string ⟨#[]⟩] 40) = V3 at hg hx hp hcur ⊢
              refine wpAny_ready (rs := [2]) (by kernel_rfl) (by simp) ?_
              refine AllReady.cons rfl (fun K hK => ?_) AllReady.nil
              obtain ⟨so, sc, V4, hrun, hr0, hbW, hkp⟩ := app_list W8.heap.size V3 _ (s0 :: t) _ _ _ (hsv8.out.below hcur.out) hlen.out hl17.out hm1000.out hg.out hgB.out
              refine step_append_run rfl (.tmp 97) (.tmp 98) 22 rfl _ _ _ _ rfl rfl hrun ?_
              refine hK _ _ ?_
              clear hK K
              (try simp only [Act.put, List.getElem_toArray, List.getElem_cons_zero, List.getElem_cons_succ, List.setIfInBounds_toArray, List.set_cons_zero, List.set_cons_succ])
              have hr := hid hr0
              replace hx := hid (hkp _ _ _ hx.out hxg.out)
              replace hp := hid (hkp _ _ _ hp.out hpg.out)
              replace hcur := hid (hcur.out.trans hbW)
              clear hr0 hrun hbW hkp hg hgB
              refine wpAny_ready (rs := [10]) (by kernel_rfl) (by simp) ?_
              refine AllReady.cons rfl (fun K hK => ?_) AllReady.nil
              obtain ⟨so2, sc2, V5, hrun, hr0, hbW, hkp⟩ := app_last W8.heap.size V4 _ (s0 :: t) last _ _ hr.out hx.out hm1001.out hcur.out.size
              refine step_append_run rfl (.tmp 99) (.tmp 106) 22 rfl _ _ _ _ rfl rfl hrun ?_
              refine hK _ _ ?_
              clear hK K
              (try simp only [Act.put, List.getElem_toArray, List.getElem_cons_zero, List.getElem_cons_succ, List.setIfInBounds_toArray, List.set_cons_zero, List.set_cons_succ])
              have hr2 := hid hr0
              replace hp := hid (hkp _ _ _ hp.out (by decide))
              replace hcur := hid (hcur.out.trans hbW)
              clear hr0 hrun hbW hkp hr hx
              refine wpAny_ready (rs := [11]) (by kernel_rfl) (by simp) ?_
              refine AllReady.cons rfl (fun K hK => ?_) AllReady.nil
              go_simp
              (with_reducible refine (join_any (s0 :: t ++ [last]) _ _ (own_strs hr2.out hlen2.out)).mono ?_)
              rw [hmore2.out last]
              rintro e V6 ⟨rfl, b9⟩
              unfold frV zeroFr
              dsimp only
              refine hK _ _ ?_
              clear hK K
              (try simp only [Act.put, List.getElem_toArray, List.getElem_cons_zero, List.getElem_cons_succ, List.setIfInBounds_toArray, List.set_cons_zero, List.set_cons_succ])
              replace hp := hid (hp.out.below b9 hp.out.lt)
              replace hcur := hid (bt hcur.out b9)
              clear b9 hr2
              refine wpAny_take (i := 12) (v := ?_) rfl (by kernel_rfl) (by kernel_rfl) (by kernel_rfl) (fun _ _ _ h => h) (Or.inl ⟨by rfl, ?_⟩) ?_
              rotate_left 1
              (intro w; go_simp; try with_reducible rfl)
              (try simp only [Act.put, List.getElem_toArray, List.getElem_cons_zero, List.getElem_cons_succ, List.setIfInBounds_toArray, List.set_cons_zero, List.set_cons_succ])
              refine wpAny_take (i := 13) (v := ?_) rfl (by kernel_rfl) (by kernel_rfl) (by kernel_rfl) (fun _ _ _ h => h) (Or.inl ⟨by rfl, ?_⟩) ?_
              rotate_left 1
              (intro w; go_simp; try with_reducible rfl)
              (try simp only [Act.put, List.getElem_toArray, List.getElem_cons_zero, List.getElem_cons_succ, List.setIfInBounds_toArray, List.set_cons_zero, List.set_cons_succ])
              refine wpAny_take (i := 14) (v := ?_) rfl (by kernel_rfl) (by kernel_rfl) (by kernel_rfl) (fun _ _ _ h => h) (Or.inl ⟨by rfl, ?_⟩) ?_
              rotate_left 1
              (intro w; go_simp; try with_reducible rfl)
              (try simp only [Act.put, List.getElem_toArray, List.getElem_cons_zero, List.getElem_cons_succ, List.setIfInBounds_toArray, List.set_cons_zero, List.set_cons_succ])
              refine wpAny_ready (rs := [16]) (by kernel_rfl) (by simp) ?_
              refine AllReady.cons rfl (fun K hK => ?_) AllReady.nil
              obtain ⟨p0, p1, p2, p3, pf⟩ := hp.out.four
              go_simp
              clear p0 p1 p2 p3 pf
              refine hK _ _ ?_
              clear hK K
              (try simp only [Act.put, List.getElem_toArray, List.getElem_cons_zero, List.getElem_cons_succ, List.setIfInBounds_toArray, List.set_cons_zero, List.set_cons_succ])
              refine wpAny_take (i := 17) (v := ?_) rfl (by kernel_rfl) (by kernel_rfl) (by kernel_rfl) (fun _ _ _ h => h) (Or.inl ⟨by rfl, ?_⟩) ?_
              rotate_left 1
              (intro w; go_simp; try with_reducible rfl)
              (try simp only [Act.put, List.getElem_toArray, List.getElem_cons_zero, List.getElem_cons_succ, List.setIfInBounds_toArray, List.set_cons_zero, List.set_cons_succ])
              refine wpAny_done (by kernel_rfl) ?_ _
              go_wp2_with fail
              go_meet
              exact ⟨rfl, hfin.out _ _ hpB.out hcur.out⟩
          refine AllReady.cons rfl (fun K hK => ?_) AllReady.nil
          as_aux_lemma =>
            go_simp
            refine hK _ _ ?_
            clear hK K
            (try simp only [Act.put, List.getElem_toArray, List.getElem_cons_zero, List.getElem_cons_succ, List.setIfInBounds_toArray, List.set_cons_zero, List.set_cons_succ])
            have hpg := hid (Nat.ne_of_gt hg.out.lt)
            replace hg := hid (hg.out.alloc (.cells #[.int .u8 0, .int .u64 0, .int .u64 0, .string ⟨#[]⟩] 40))
            have hp := hid (Blk.new V1 [.int .u8 0, .int .u64 0, .int .u64 0, .string ⟨#[]⟩] 40)
            have hpB := hid hcur.out.size
            replace hcur := hid (hcur.out.alloc hcur.out.size (.cells #[.int .u8 0, .int .u64 0, .int .u64 0, .string ⟨#[]⟩] 40))
            generalize V1.alloc (.cells #[.int .u8 0, .int .u64 0, .int .u64 0, .string ⟨#[]⟩] 40) = V2 at hg hp hcur ⊢
            refine wpAny_ready (rs := [2, 9]) (by kernel_rfl) (by simp) ?_
            refine AllReady.cons rfl (fun K hK => ?_) ?_
            · skip
              obtain ⟨so, sc, V3, hrun, hr0, hbW, hkp⟩ := app_list W8.heap.size V2 _ (s0 :: t) _ _ _ (hsv8.out.below hcur.out) hlen.out hl17.out hm1000.out hg.out hgB.out
              refine step_append_run rfl (.tmp 97) (.tmp 98) 22 rfl _ _ _ _ rfl rfl hrun ?_
              refine hK _ _ ?_
              clear hK K
              (try simp only [Act.put, List.getElem_toArray, List.getElem_cons_zero, List.getElem_cons_succ, List.setIfInBounds_toArray, List.set_cons_zero, List.set_cons_succ])
              have hr := hid hr0
              replace hp := hid (hkp _ _ _ hp.out hpg.out)
              replace hcur := hid (hcur.out.trans hbW)
              clear hr0 hrun hbW hkp hg hgB
              refine wpAny_ready (rs := [9]) (by kernel_rfl) (by simp) ?_
              refine AllReady.cons rfl (fun K hK => ?_) AllReady.nil
              go_simp
              refine hK _ _ ?_
              clear hK K
              (try simp only [Act.put, List.getElem_toArray, List.getElem_cons_zero, List.getElem_cons_succ, List.setIfInBounds_toArray, List.set_cons_zero, List.set_cons_succ])
              replace hr := hid (hr.out.alloc (.cells #[.string last] 9))
              replace hp := hid (hp.out.alloc (.cells #[.string last] 9))
              have hx := hid (Blk.new V3 [.string last] 9)
              have hxB := hid hcur.out.size
              replace hcur := hid (hcur.out.alloc hcur.out.size (.cells #[.string last] 9))
              generalize V3.alloc (.cells #[.string last] 9) = V4 at hr hp hx hcur ⊢
              refine wpAny_ready (rs := [10]) (by kernel_rfl) (by simp) ?_
              refine AllReady.cons rfl (fun K hK => ?_) AllReady.nil
              obtain ⟨so2, sc2, V5, hrun, hr0, hbW, hkp⟩ := app_last W8.heap.size V4 _ (s0 :: t) last _ _ hr.out hx.out hm1001.out hcur.out.size
              refine step_append_run rfl (.tmp 99) (.tmp 106) 22 rfl _ _ _ _ rfl rfl hrun ?_
              refine hK _ _ ?_
              clear hK K
              (try simp only [Act.put, List.getElem_toArray, List.getElem_cons_zero, List.getElem_cons_succ, List.setIfInBounds_toArray, List.set_cons_zero, List.set_cons_succ])
              have hr2 := hid hr0
              replace hp := hid (hkp _ _ _ hp.out (by decide))
              replace hcur := hid (hcur.out.trans hbW)
              clear hr0 hrun hbW hkp hr hx
              refine wpAny_ready (rs := [11]) (by kernel_rfl) (by simp) ?_
              refine AllReady.cons rfl (fun K hK => ?_) AllReady.nil
              go_simp
              (with_reducible refine (join_any (s0 :: t ++ [last]) _ _ (own_strs hr2.out hlen2.out)).mono ?_)
              rw [hmore2.out last]
              rintro e V6 ⟨rfl, b9⟩
              unfold frV zeroFr
              dsimp only
              refine hK _ _ ?_
              clear hK K
              (try simp only [Act.put, List.getElem_toArray, List.getElem_cons_zero, List.getElem_cons_succ, List.setIfInBounds_toArray, List.set_cons_zero, List.set_cons_succ])
              replace hp := hid (hp.out.below b9 hp.out.lt)
              replace hcur := hid (bt hcur.out b9)
              clear b9 hr2
              refine wpAny_take (i := 12) (v := ?_) rfl (by kernel_rfl) (by kernel_rfl) (by kernel_rfl) (fun _ _ _ h => h) (Or.inl ⟨by rfl, ?_⟩) ?_
              rotate_left 1
              (intro w; go_simp; try with_reducible rfl)
              (try simp only [Act.put, List.getElem_toArray, List.getElem_cons_zero, List.getElem_cons_succ, List.setIfInBounds_toArray, List.set_cons_zero, List.set_cons_succ])
              refine wpAny_take (i := 13) (v := ?_) rfl (by kernel_rfl) (by kernel_rfl) (by kernel_rfl) (fun _ _ _ h => h) (Or.inl ⟨by rfl, ?_⟩) ?_
              rotate_left 1
              (intro w; go_simp; try with_reducible rfl)
              (try simp only [Act.put, List.getElem_toArray, List.getElem_cons_zero, List.getElem_cons_succ, List.setIfInBounds_toArray, List.set_cons_zero, List.set_cons_succ])
              refine wpAny_take (i := 14) (v := ?_) rfl (by kernel_rfl) (by kernel_rfl) (by kernel_rfl) (fun _ _ _ h => h) (Or.inl ⟨by rfl, ?_⟩) ?_
              rotate_left 1
              (intro w; go_simp; try with_reducible rfl)
              (try simp only [Act.put, List.getElem_toArray, List.getElem_cons_zero, List.getElem_cons_succ, List.setIfInBounds_toArray, List.set_cons_zero, List.set_cons_succ])
              refine wpAny_ready (rs := [16]) (by kernel_rfl) (by simp) ?_
              refine AllReady.cons rfl (fun K hK => ?_) AllReady.nil
              obtain ⟨p0, p1, p2, p3, pf⟩ := hp.out.four
              go_simp
              clear p0 p1 p2 p3 pf
              refine hK _ _ ?_
              clear hK K
              (try simp only [Act.put, List.getElem_toArray, List.getElem_cons_zero, List.getElem_cons_succ, List.setIfInBounds_toArray, List.set_cons_zero, List.set_cons_succ])
              refine wpAny_take (i := 17) (v := ?_) rfl (by kernel_rfl) (by kernel_rfl) (by kernel_rfl) (fun _ _ _ h => h) (Or.inl ⟨by rfl, ?_⟩) ?_
              rotate_left 1
              (intro w; go_simp; try with_reducible rfl)
              (try simp only [Act.put, List.getElem_toArray, List.getElem_cons_zero, List.getElem_cons_succ, List.setIfInBounds_toArray, List.set_cons_zero, List.set_cons_succ])
              refine wpAny_done (by kernel_rfl) ?_ _
              go_wp2_with fail
              go_meet
              exact ⟨rfl, hfin.out _ _ hpB.out hcur.out⟩
            refine AllReady.cons rfl (fun K hK => ?_) AllReady.nil
            go_simp
            refine hK _ _ ?_
            clear hK K
            (try simp only [Act.put, List.getElem_toArray, List.getElem_cons_zero, List.getElem_cons_succ, List.setIfInBounds_toArray, List.set_cons_zero, List.set_cons_succ])
            have hxg := hid (Nat.ne_of_gt hg.out.lt)
            replace hg := hid (hg.out.alloc (.cells #[.string last] 9))
            replace hp := hid (hp.out.alloc (.cells #[.string last] 9))
            have hx := hid (Blk.new V2 [.string last] 9)
            have hxB := hid hcur.out.size
            replace hcur := hid (hcur.out.alloc hcur.out.size (.cells #[.string last] 9))
            generalize V2.alloc (.cells #[.string last] 9) = V3 at hg hp hx hcur ⊢
            refine wpAny_ready (rs := [2]) (by kernel_rfl) (by simp) ?_
            refine AllReady.cons rfl (fun K hK => ?_) AllReady.nil
            obtain ⟨so, sc, V4, hrun, hr0, hbW, hkp⟩ := app_list W8.heap.size V3 _ (s0 :: t) _ _ _ (hsv8.out.below hcur.out) hlen.out hl17.out hm1000.out hg.out hgB.out
            refine step_append_run rfl (.tmp 97) (.tmp 98) 22 rfl _ _ _ _ rfl rfl hrun ?_
            refine hK _ _ ?_
            clear hK K
            (try simp only [Act.put, List.getElem_toArray, List.getElem_cons_zero, List.getElem_cons_succ, List.setIfInBounds_toArray, List.set_cons_zero, List.set_cons_succ])
            have hr := hid hr0
            replace hx := hid (hkp _ _ _ hx.out hxg.out)
            replace hp := hid (hkp _ _ _ hp.out hpg.out)
            replace hcur := hid (hcur.out.trans hbW)
            clear hr0 hrun hbW hkp hg hgB
            refine wpAny_ready (rs := [10]) (by kernel_rfl) (by simp) ?_
            refine AllReady.cons rfl (fun K hK => ?_) AllReady.nil
            obtain ⟨so2, sc2, V5, hrun, hr0, hbW, hkp⟩ := app_last W8.heap.size V4 _ (s0 :: t) last _ _ hr.out hx.out hm1001.out hcur.out.size
            refine step_append_run rfl (.tmp 99) (.tmp 106) 22 rfl _ _ _ _ rfl rfl hrun ?_
            refine hK _ _ ?_
            clear hK K
            (try simp only [Act.put, List.getElem_toArray, List.getElem_cons_zero, List.getElem_cons_succ, List.setIfInBounds_toArray, List.set_cons_zero, List.set_cons_succ])
            have hr2 := hid hr0
            replace hp := hid (hkp _ _ _ hp.out (by decide))
            replace hcur := hid (hcur.out.trans hbW)
            clear hr0 hrun hbW hkp hr hx
            refine wpAny_ready (rs := [11]) (by kernel_rfl) (by simp) ?_
            refine AllReady.cons rfl (fun K hK => ?_) AllReady.nil
            go_simp
            (with_reducible refine (join_any (s0 :: t ++ [last]) _ _ (own_strs hr2.out hlen2.out)).mono ?_)
            rw [hmore2.out last]
            rintro e V6 ⟨rfl, b9⟩
            unfold frV zeroFr
            dsimp only
            refine hK _ _ ?_
            clear hK K
            (try simp only [Act.put, List.getElem_toArray, List.getElem_cons_zero, List.getElem_cons_succ, List.setIfInBounds_toArray, List.set_cons_zero, List.set_cons_succ])
            replace hp := hid (hp.out.below b9 hp.out.lt)
            replace hcur := hid (bt hcur.out b9)
            clear b9 hr2
            refine wpAny_take (i := 12) (v := ?_) rfl (by kernel_rfl) (by kernel_rfl) (by kernel_rfl) (fun _ _ _ h => h) (Or.inl ⟨by rfl, ?_⟩) ?_
            rotate_left 1
            (intro w; go_simp; try with_reducible rfl)
            (try simp only [Act.put, List.getElem_toArray, List.getElem_cons_zero, List.getElem_cons_succ, List.setIfInBounds_toArray, List.set_cons_zero, List.set_cons_succ])
            refine wpAny_take (i := 13) (v := ?_) rfl (by kernel_rfl) (by kernel_rfl) (by kernel_rfl) (fun _ _ _ h => h) (Or.inl ⟨by rfl, ?_⟩) ?_
            rotate_left 1
            (intro w; go_simp; try with_reducible rfl)
            (try simp only [Act.put, List.getElem_toArray, List.getElem_cons_zero, List.getElem_cons_succ, List.setIfInBounds_toArray, List.set_cons_zero, List.set_cons_succ])
            refine wpAny_take (i := 14) (v := ?_) rfl (by kernel_rfl) (by kernel_rfl) (by kernel_rfl) (fun _ _ _ h => h) (Or.inl ⟨by rfl, ?_⟩) ?_
            rotate_left 1
            (intro w; go_simp; try with_reducible rfl)
            (try simp only [Act.put, List.getElem_toArray, List.getElem_cons_zero, List.getElem_cons_succ, List.setIfInBounds_toArray, List.set_cons_zero, List.set_cons_succ])
            refine wpAny_ready (rs := [16]) (by kernel_rfl) (by simp) ?_
            refine AllReady.cons rfl (fun K hK => ?_) AllReady.nil
            obtain ⟨p0, p1, p2, p3, pf⟩ := hp.out.four
            go_simp
            clear p0 p1 p2 p3 pf
            refine hK _ _ ?_
            clear hK K
            (try simp only [Act.put, List.getElem_toArray, List.getElem_cons_zero, List.getElem_cons_succ, List.setIfInBounds_toArray, List.set_cons_zero, List.set_cons_succ])
            refine wpAny_take (i := 17) (v := ?_) rfl (by kernel_rfl) (by kernel_rfl) (by kernel_rfl) (fun _ _ _ h => h) (Or.inl ⟨by rfl, ?_⟩) ?_
            rotate_left 1
            (intro w; go_simp; try with_reducible rfl)
            (try simp only [Act.put, List.getElem_toArray, List.getElem_cons_zero, List.getElem_cons_succ, List.setIfInBounds_toArray, List.set_cons_zero, List.set_cons_succ])
            refine wpAny_done (by kernel_rfl) ?_ _
            go_wp2_with fail
            go_meet
            exact ⟨rfl, hfin.out _ _ hpB.out hcur.out⟩
        refine AllReady.cons rfl (fun K hK => ?_) AllReady.nil
        as_aux_lemma =>
          go_simp
          refine hK _ _ ?_
          clear hK K
          (try simp only [Act.put, List.getElem_toArray, List.getElem_cons_zero, List.getElem_cons_succ, List.setIfInBounds_toArray, List.set_cons_zero, List.set_cons_succ])
          have hpg := hid (Nat.ne_of_gt hg.out.lt)
          replace hg := hid (hg.out.alloc (.cells #[.int .u8 0, .int .u64 0, .int .u64 0, .string ⟨#[]⟩] 40))
          have hp := hid (Blk.new V1 [.int .u8 0, .int .u64 0, .int .u64 0, .string ⟨#[]⟩] 40)
          have hpB := hid hcur.out.size
          replace hcur := hid (hcur.out.alloc hcur.out.size (.cells #[.int .u8 0, .int .u64 0, .int .u64 0, .string ⟨#[]⟩] 40))
          generalize V1.alloc (.cells #[.int .u8 0, .int .u64 0, .int .u64 0, .string ⟨#[]⟩] 40) = V2 at hg hp hcur ⊢
          refine wpAny_ready (rs := [2, 8]) (by kernel_rfl) (by simp) ?_
          refine AllReady.cons rfl (fun K hK => ?_) ?_
          · skip
            obtain ⟨so, sc, V3, hrun, hr0, hbW, hkp⟩ := app_list W8.heap.size V2 _ (s0 :: t) _ _ _ (hsv8.out.below hcur.out) hlen.out hl17.out hm1000.out hg.out hgB.out
            refine step_append_run rfl (.tmp 97) (.tmp 98) 22 rfl _ _ _ _ rfl rfl hrun ?_
            refine hK _ _ ?_
            clear hK K
            (try simp only [Act.put, List.getElem_toArray, List.getElem_cons_zero, List.getElem_cons_succ, List.setIfInBounds_toArray, List.set_cons_zero, List.set_cons_succ])
            have hr := hid hr0
            replace hp := hid (hkp _ _ _ hp.out hpg.out)
            replace hcur := hid (hcur.out.trans hbW)
            clear hr0 hrun hbW hkp hg hgB
            refine wpAny_ready (rs := [8]) (by kernel_rfl) (by simp) ?_
            refine AllReady.cons rfl (fun K hK => ?_) AllReady.nil
            have cl := cell_below hcur.out _ _ hlast.out
            go_simp
            clear cl
            refine hK _ _ ?_
            clear hK K
            (try simp only [Act.put, List.getElem_toArray, List.getElem_cons_zero, List.getElem_cons_succ, List.setIfInBounds_toArray, List.set_cons_zero, List.set_cons_succ])
            refine wpAny_ready (rs := [9]) (by kernel_rfl) (by simp) ?_
            refine AllReady.cons rfl (fun K hK => ?_) AllReady.nil
            go_simp
            refine hK _ _ ?_
            clear hK K
            (try simp only [Act.put, List.getElem_toArray, List.getElem_cons_zero, List.getElem_cons_succ, List.setIfInBounds_toArray, List.set_cons_zero, List.set_cons_succ])
            replace hr := hid (hr.out.alloc (.cells #[.string last] 9))
            replace hp := hid (hp.out.alloc (.cells #[.string last] 9))
            have hx := hid (Blk.new V3 [.string last] 9)
            have hxB := hid hcur.out.size
            replace hcur := hid (hcur.out.alloc hcur.out.size (.cells #[.string last] 9))
            generalize V3.alloc (.cells #[.string last] 9) = V4 at hr hp hx hcur ⊢
            refine wpAny_ready (rs := [10]) (by kernel_rfl) (by simp) ?_
            refine AllReady.cons rfl (fun K hK => ?_) AllReady.nil
            obtain ⟨so2, sc2, V5, hrun, hr0, hbW, hkp⟩ := app_last W8.heap.size V4 _ (s0 :: t) last _ _ hr.out hx.out hm1001.out hcur.out.size
            refine step_append_run rfl (.tmp 99) (.tmp 106) 22 rfl _ _ _ _ rfl rfl hrun ?_
            refine hK _ _ ?_
            clear hK K
            (try simp only [Act.put, List.getElem_toArray, List.getElem_cons_zero, List.getElem_cons_succ, List.setIfInBounds_toArray, List.set_cons_zero, List.set_cons_succ])
            have hr2 := hid hr0
            replace hp := hid (hkp _ _ _ hp.out (by decide))
            replace hcur := hid (hcur.out.trans hbW)
            clear hr0 hrun hbW hkp hr hx
            refine wpAny_ready (rs := [11]) (by kernel_rfl) (by simp) ?_
            refine AllReady.cons rfl (fun K hK => ?_) AllReady.nil
            go_simp
            (with_reducible refine (join_any (s0 :: t ++ [last]) _ _ (own_strs hr2.out hlen2.out)).mono ?_)
            rw [hmore2.out last]
            rintro e V6 ⟨rfl, b9⟩
            unfold frV zeroFr
            dsimp only
            refine hK _ _ ?_
            clear hK K
            (try simp only [Act.put, List.getElem_toArray, List.getElem_cons_zero, List.getElem_cons_succ, List.setIfInBounds_toArray, List.set_cons_zero, List.set_cons_succ])
            replace hp := hid (hp.out.below b9 hp.out.lt)
            replace hcur := hid (bt hcur.out b9)
            clear b9 hr2
            refine wpAny_take (i := 12) (v := ?_) rfl (by kernel_rfl) (by kernel_rfl) (by kernel_rfl) (fun _ _ _ h => h) (Or.inl ⟨by rfl, ?_⟩) ?_
            rotate_left 1
            (intro w; go_simp; try with_reducible rfl)
            (try simp only [Act.put, List.getElem_toArray, List.getElem_cons_zero, List.getElem_cons_succ, List.setIfInBounds_toArray, List.set_cons_zero, List.set_cons_succ])
            refine wpAny_take (i := 13) (v := ?_) rfl (by kernel_rfl) (by kernel_rfl) (by kernel_rfl) (fun _ _ _ h => h) (Or.inl ⟨by rfl, ?_⟩) ?_
            rotate_left 1
            (intro w; go_simp; try with_reducible rfl)
            (try simp only [Act.put, List.getElem_toArray, List.getElem_cons_zero, List.getElem_cons_succ, List.setIfInBounds_toArray, List.set_cons_zero, List.set_cons_succ])
            refine wpAny_take (i := 14) (v := ?_) rfl (by kernel_rfl) (by kernel_rfl) (by kernel_rfl) (fun _ _ _ h => h) (Or.inl ⟨by rfl, ?_⟩) ?_
            rotate_left 1
            (intro w; go_simp; try with_reducible rfl)
            (try simp only [Act.put, List.getElem_toArray, List.getElem_cons_zero, List.getElem_cons_succ, List.setIfInBounds_toArray, List.set_cons_zero, List.set_cons_succ])
            refine wpAny_ready (rs := [16]) (by kernel_rfl) (by simp) ?_
            refine AllReady.cons rfl (fun K hK => ?_) AllReady.nil
            obtain ⟨p0, p1, p2, p3, pf⟩ := hp.out.four
            go_simp
            clear p0 p1 p2 p3 pf
            refine hK _ _ ?_
            clear hK K
            (try simp only [Act.put, List.getElem_toArray, List.getElem_cons_zero, List.getElem_cons_succ, List.setIfInBounds_toArray, List.set_cons_zero, List.set_cons_succ])
            refine wpAny_take (i := 17) (v := ?_) rfl (by kernel_rfl) (by kernel_rfl) (by kernel_rfl) (fun _ _ _ h => h) (Or.inl ⟨by rfl, ?_⟩) ?_
            rotate_left 1
            (intro w; go_simp; try with_reducible rfl)
            (try simp only [Act.put, List.getElem_toArray, List.getElem_cons_zero, List.getElem_cons_succ, List.setIfInBounds_toArray, List.set_cons_zero, List.set_cons_succ])
            refine wpAny_done (by kernel_rfl) ?_ _
            go_wp2_with fail
            go_meet
            exact ⟨rfl, hfin.out _ _ hpB.out hcur.out⟩
          refine AllReady.cons rfl (fun K hK => ?_) AllReady.nil
          have cl := cell_below hcur.out _ _ hlast.out
          go_simp
          clear cl
          refine hK _ _ ?_
          clear hK K
          (try simp only [Act.put, List.getElem_toArray, List.getElem_cons_zero, List.getElem_cons_succ, List.setIfInBounds_toArray, List.set_cons_zero, List.set_cons_succ])
          refine wpAny_ready (rs := [2, 9]) (by kernel_rfl) (by simp) ?_
          refine AllReady.cons rfl (fun K hK => ?_) ?_
          · skip
            obtain ⟨so, sc, V3, hrun, hr0, hbW, hkp⟩ := app_list W8.heap.size V2 _ (s0 :: t) _ _ _ (hsv8.out.below hcur.out) hlen.out hl17.out hm1000.out hg.out hgB.out
            refine step_append_run rfl (.tmp 97) (.tmp 98) 22 rfl _ _ _ _ rfl rfl hrun ?_
            refine hK _ _ ?_
            clear hK K
            (try simp only [Act.put, List.getElem_toArray, List.getElem_cons_zero, List.getElem_cons_succ, List.setIfInBounds_toArray, List.set_cons_zero, List.set_cons_succ])
            have hr := hid hr0
            replace hp := hid (hkp _ _ _ hp.out hpg.out)
            replace hcur := hid (hcur.out.trans hbW)
            clear hr0 hrun hbW hkp hg hgB
            refine wpAny_ready (rs := [9]) (by kernel_rfl) (by simp) ?_
            refine AllReady.cons rfl (fun K hK => ?_) AllReady.nil
            go_simp
            refine hK _ _ ?_
            clear hK K
            (try simp only [Act.put, List.getElem_toArray, List.getElem_cons_zero, List.getElem_cons_succ, List.setIfInBounds_toArray, List.set_cons_zero, List.set_cons_succ])
            replace hr := hid (hr.out.alloc (.cells #[.string last] 9))
            replace hp := hid (hp.out.alloc (.cells #[.string last] 9))
            have hx := hid (Blk.new V3 [.string last] 9)
            have hxB := hid hcur.out.size
            replace hcur := hid (hcur.out.alloc hcur.out.size (.cells #[.string last] 9))
            generalize V3.alloc (.cells #[.string last] 9) = V4 at hr hp hx hcur ⊢
            refine wpAny_ready (rs := [10]) (by kernel_rfl) (by simp) ?_
            refine AllReady.cons rfl (fun K hK => ?_) AllReady.nil
            obtain ⟨so2, sc2, V5, hrun, hr0, hbW, hkp⟩ := app_last W8.heap.size V4 _ (s0 :: t) last _ _ hr.out hx.out hm1001.out hcur.out.size
            refine step_append_run rfl (.tmp 99) (.tmp 106) 22 rfl _ _ _ _ rfl rfl hrun ?_
            refine hK _ _ ?_
            clear hK K
            (try simp only [Act.put, List.getElem_toArray, List.getElem_cons_zero, List.getElem_cons_succ, List.setIfInBounds_toArray, List.set_cons_zero, List.set_cons_succ])
            have hr2 := hid hr0
            replace hp := hid (hkp _ _ _ hp.out (by decide))
            replace hcur := hid (hcur.out.trans hbW)
            clear hr0 hrun hbW hkp hr hx
            refine wpAny_ready (rs := [11]) (by kernel_rfl) (by simp) ?_
            refine AllReady.cons rfl (fun K hK => ?_) AllReady.nil
            go_simp
            (with_reducible refine (join_any (s0 :: t ++ [last]) _ _ (own_strs hr2.out hlen2.out)).mono ?_)
            rw [hmore2.out last]
            rintro e V6 ⟨rfl, b9⟩
            unfold frV zeroFr
            dsimp only
            refine hK _ _ ?_
            clear hK K
            (try simp only [Act.put, List.getElem_toArray, List.getElem_cons_zero, List.getElem_cons_succ, List.setIfInBounds_toArray, List.set_cons_zero, List.set_cons_succ])
            replace hp := hid (hp.out.below b9 hp.out.lt)
            replace hcur := hid (bt hcur.out b9)
            clear b9 hr2
            refine wpAny_take (i := 12) (v := ?_) rfl (by kernel_rfl) (by kernel_rfl) (by kernel_rfl) (fun _ _ _ h => h) (Or.inl ⟨by rfl, ?_⟩) ?_
            rotate_left 1
            (intro w; go_simp; try with_reducible rfl)
            (try simp only [Act.put, List.getElem_toArray, List.getElem_cons_zero, List.getElem_cons_succ, List.setIfInBounds_toArray, List.set_cons_zero, List.set_cons_succ])
            refine wpAny_take (i := 13) (v := ?_) rfl (by kernel_rfl) (by kernel_rfl) (by kernel_rfl) (fun _ _ _ h => h) (Or.inl ⟨by rfl, ?_⟩) ?_
            rotate_left 1
            (intro w; go_simp; try with_reducible rfl)
            (try simp only [Act.put, List.getElem_toArray, List.getElem_cons_zero, List.getElem_cons_succ, List.setIfInBounds_toArray, List.set_cons_zero, List.set_cons_succ])
            refine wpAny_take (i := 14) (v := ?_) rfl (by kernel_rfl) (by kernel_rfl) (by kernel_rfl) (fun _ _ _ h => h) (Or.inl ⟨by rfl, ?_⟩) ?_
            rotate_left 1
            (intro w; go_simp; try with_reducible rfl)
            (try simp only [Act.put, List.getElem_toArray, List.getElem_cons_zero, List.getElem_cons_succ, List.setIfInBounds_toArray, List.set_cons_zero, List.set_cons_succ])
            refine wpAny_ready (rs := [16]) (by kernel_rfl) (by simp) ?_
            refine AllReady.cons rfl (fun K hK => ?_) AllReady.nil
            obtain ⟨p0, p1, p2, p3, pf⟩ := hp.out.four
            go_simp
            clear p0 p1 p2 p3 pf
            refine hK _ _ ?_
            clear hK K
            (try simp only [Act.put, List.getElem_toArray, List.getElem_cons_zero, List.getElem_cons_succ, List.setIfInBounds_toArray, List.set_cons_zero, List.set_cons_succ])
            refine wpAny_take (i := 17) (v := ?_) rfl (by kernel_rfl) (by kernel_rfl) (by kernel_rfl) (fun _ _ _ h => h) (Or.inl ⟨by rfl, ?_⟩) ?_
            rotate_left 1
            (intro w; go_simp; try with_reducible rfl)
            (try simp only [Act.put, List.getElem_toArray, List.getElem_cons_zero, List.getElem_cons_succ, List.setIfInBounds_toArray, List.set_cons_zero, List.set_cons_succ])
            refine wpAny_done (by kernel_rfl) ?_ _
            go_wp2_with fail
            go_meet
            exact ⟨rfl, hfin.out _ _ hpB.out hcur.out⟩
          refine AllReady.cons rfl (fun K hK => ?_) AllReady.nil
          go_simp
          refine hK _ _ ?_
          clear hK K
          (try simp only [Act.put, List.getElem_toArray, List.getElem_cons_zero, List.getElem_cons_succ, List.setIfInBounds_toArray, List.set_cons_zero, List.set_cons_succ])
          have hxg := hid (Nat.ne_of_gt hg.out.lt)
          replace hg := hid (hg.out.alloc (.cells #[.string last] 9))
          replace hp := hid (hp.out.alloc (.cells #[.string last] 9))
          have hx := hid (Blk.new V2 [.string last] 9)
          have hxB := hid hcur.out.size
          replace hcur := hid (hcur.out.alloc hcur.out.size (.cells #[.string last] 9))
          generalize V2.alloc (.cells #[.string last] 9) = V3 at hg hp hx hcur ⊢
          refine wpAny_ready (rs := [2]) (by kernel_rfl) (by simp) ?_
          refine AllReady.cons rfl (fun K hK => ?_) AllReady.nil
          obtain ⟨so, sc, V4, hrun, hr0, hbW, hkp⟩ := app_list W8.heap.size V3 _ (s0 :: t) _ _ _ (hsv8.out.below hcur.out) hlen.out hl17.out hm1000.out hg.out hgB.out
          refine step_append_run rfl (.tmp 97) (.tmp 98) 22 rfl _ _ _ _ rfl rfl hrun ?_
          refine hK _ _ ?_
          clear hK K
          (try simp only [Act.put, List.getElem_toArray, List.getElem_cons_zero, List.getElem_cons_succ, List.setIfInBounds_toArray, List.set_cons_zero, List.set_cons_succ])
          have hr := hid hr0
          replace hx := hid (hkp _ _ _ hx.out hxg.out)
          replace hp := hid (hkp _ _ _ hp.out hpg.out)
          replace hcur := hid (hcur.out.trans hbW)
          clear hr0 hrun hbW hkp hg hgB
          refine wpAny_ready (rs := [10]) (by kernel_rfl) (by simp) ?_
          refine AllReady.cons rfl (fun K hK => ?_) AllReady.nil
          obtain ⟨so2, sc2, V5, hrun, hr0, hbW, hkp⟩ := app_last W8.heap.size V4 _ (s0 :: t) last _ _ hr.out hx.out hm1001.out hcur.out.size
          refine step_append_run rfl (.tmp 99) (.tmp 106) 22 rfl _ _ _ _ rfl rfl hrun ?_
          refine hK _ _ ?_
          clear hK K
          (try simp only [Act.put, List.getElem_toArray, List.getElem_cons_zero, List.getElem_cons_succ, List.setIfInBounds_toArray, List.set_cons_zero, List.set_cons_succ])
          have hr2 := hid hr0
          replace hp := hid (hkp _ _ _ hp.out (by decide))
          replace hcur := hid (hcur.out.trans hbW)
          clear hr0 hrun hbW hkp hr hx
          refine wpAny_ready (rs := [11]) (by kernel_rfl) (by simp) ?_
          refine AllReady.cons rfl (fun K hK => ?_) AllReady.nil
          go_simp
          (with_reducible refine (join_any (s0 :: t ++ [last]) _ _ (own_strs hr2.out hlen2.out)).mono ?_)
          rw [hmore2.out last]
          rintro e V6 ⟨rfl, b9⟩
          unfold frV zeroFr
          dsimp only
          refine hK _ _ ?_
          clear hK K
          (try simp only [Act.put, List.getElem_toArray, List.getElem_cons_zero, List.getElem_cons_succ, List.setIfInBounds_toArray, List.set_cons_zero, List.set_cons_succ])
          replace hp := hid (hp.out.below b9 hp.out.lt)
          replace hcur := hid (bt hcur.out b9)
          clear b9 hr2
          refine wpAny_take (i := 12) (v := ?_) rfl (by kernel_rfl) (by kernel_rfl) (by kernel_rfl) (fun _ _ _ h => h) (Or.inl ⟨by rfl, ?_⟩) ?_
          rotate_left 1
          (intro w; go_simp; try with_reducible rfl)
          (try simp only [Act.put, List.getElem_toArray, List.getElem_cons_zero, List.getElem_cons_succ, List.setIfInBounds_toArray, List.set_cons_zero, List.set_cons_succ])
          refine wpAny_take (i := 13) (v := ?_) rfl (by kernel_rfl) (by kernel_rfl) (by kernel_rfl) (fun _ _ _ h => h) (Or.inl ⟨by rfl, ?_⟩) ?_
          rotate_left 1
          (intro w; go_simp; try with_reducible rfl)
          (try simp only [Act.put, List.getElem_toArray, List.getElem_cons_zero, List.getElem_cons_succ, List.setIfInBounds_toArray, List.set_cons_zero, List.set_cons_succ])
          refine wpAny_take (i := 14) (v := ?_) rfl (by kernel_rfl) (by kernel_rfl) (by kernel_rfl) (fun _ _ _ h => h) (Or.inl ⟨by rfl, ?_⟩) ?_
          rotate_left 1
          (intro w; go_simp; try with_reducible rfl)
          (try simp only [Act.put, List.getElem_toArray, List.getElem_cons_zero, List.getElem_cons_succ, List.setIfInBounds_toArray, List.set_cons_zero, List.set_cons_succ])
          refine wpAny_ready (rs := [16]) (by kernel_rfl) (by simp) ?_
          refine AllReady.cons rfl (fun K hK => ?_) AllReady.nil
          obtain ⟨p0, p1, p2, p3, pf⟩ := hp.out.four
          go_simp
          clear p0 p1 p2 p3 pf
          refine hK _ _ ?_
          clear hK K
          (try simp only [Act.put, List.getElem_toArray, List.getElem_cons_zero, List.getElem_cons_succ, List.setIfInBounds_toArray, List.set_cons_zero, List.set_cons_succ])
          refine wpAny_take (i := 17) (v := ?_) rfl (by kernel_rfl) (by kernel_rfl) (by kernel_rfl) (fun _ _ _ h => h) (Or.inl ⟨by rfl, ?_⟩) ?_
          rotate_left 1
          (intro w; go_simp; try with_reducible rfl)
          (try simp only [Act.put, List.getElem_toArray, List.getElem_cons_zero, List.getElem_cons_succ, List.setIfInBounds_toArray, List.set_cons_zero, List.set_cons_succ])
          refine wpAny_done (by kernel_rfl) ?_ _
          go_wp2_with fail
          go_meet
          exact ⟨rfl, hfin.out _ _ hpB.out hcur.out⟩
      refine AllReady.cons rfl (fun K hK => ?_) ?_
      · skip
        have cl := cell_below hcur.out _ _ hlast.out
        go_simp
        clear cl
        refine hK _ _ ?_
        clear hK K
        (try simp only [Act.put, List.getElem_toArray, List.getElem_cons_zero, List.getElem_cons_succ, List.setIfInBounds_toArray, List.set_cons_zero, List.set_cons_succ])
        refine wpAny_ready (rs := [0, 9, 15]) (by kernel_rfl) (by simp) ?_
        refine AllReady.cons rfl (fun K hK => ?_) ?_
        · skip
          go_simp
          refine hK _ _ ?_
          clear hK K
          (try simp only [Act.put, List.getElem_toArray, List.getElem_cons_zero, List.getElem_cons_succ, List.setIfInBounds_toArray, List.set_cons_zero, List.set_cons_succ])
          have hg := hid (Blk.new V0 [] 9)
          have hgB := hid hcur.out.size
          replace hcur := hid (hcur.out.alloc hcur.out.size (.cells #[] 9))
          generalize V0.alloc (.cells #[] 9) = V1 at hg hcur ⊢
          refine wpAny_ready (rs := [2, 9, 15]) (by kernel_rfl) (by simp) ?_
          refine AllReady.cons rfl (fun K hK => ?_) ?_
          · as_aux_lemma =>
              obtain ⟨so, sc, V2, hrun, hr0, hbW, hkp⟩ := app_list W8.heap.size V1 _ (s0 :: t) _ _ _ (hsv8.out.below hcur.out) hlen.out hl17.out hm1000.out hg.out hgB.out
              refine step_append_run rfl (.tmp 97) (.tmp 98) 22 rfl _ _ _ _ rfl rfl hrun ?_
              refine hK _ _ ?_
              clear hK K
              (try simp only [Act.put, List.getElem_toArray, List.getElem_cons_zero, List.getElem_cons_succ, List.setIfInBounds_toArray, List.set_cons_zero, List.set_cons_succ])
              have hr := hid hr0
              replace hcur := hid (hcur.out.trans hbW)
              clear hr0 hrun hbW hkp hg hgB
              refine wpAny_ready (rs := [9, 15]) (by kernel_rfl) (by simp) ?_
              refine AllReady.cons rfl (fun K hK => ?_) ?_
              · skip
                go_simp
                refine hK _ _ ?_
                clear hK K
                (try simp only [Act.put, List.getElem_toArray, List.getElem_cons_zero, List.getElem_cons_succ, List.setIfInBounds_toArray, List.set_cons_zero, List.set_cons_succ])
                replace hr := hid (hr.out.alloc (.cells #[.string last] 9))
                have hx := hid (Blk.new V2 [.string last] 9)
                have hxB := hid hcur.out.size
                replace hcur := hid (hcur.out.alloc hcur.out.size (.cells #[.string last] 9))
                generalize V2.alloc (.cells #[.string last] 9) = V3 at hr hx hcur ⊢
                refine wpAny_ready (rs := [10, 15]) (by kernel_rfl) (by simp) ?_
                refine AllReady.cons rfl (fun K hK => ?_) ?_
                · skip
                  obtain ⟨so2, sc2, V4, hrun, hr0, hbW, hkp⟩ := app_last W8.heap.size V3 _ (s0 :: t) last _ _ hr.out hx.out hm1001.out hcur.out.size
                  refine step_append_run rfl (.tmp 99) (.tmp 106) 22 rfl _ _ _ _ rfl rfl hrun ?_
                  refine hK _ _ ?_
                  clear hK K
                  (try simp only [Act.put, List.getElem_toArray, List.getElem_cons_zero, List.getElem_cons_succ, List.setIfInBounds_toArray, List.set_cons_zero, List.set_cons_succ])
                  have hr2 := hid hr0
                  replace hcur := hid (hcur.out.trans hbW)
                  clear hr0 hrun hbW hkp hr hx
                  refine wpAny_ready (rs := [11, 15]) (by kernel_rfl) (by simp) ?_
                  refine AllReady.cons rfl (fun K hK => ?_) ?_
                  · skip
                    go_simp
                    (with_reducible refine (join_any (s0 :: t ++ [last]) _ _ (own_strs hr2.out hlen2.out)).mono ?_)
                    rw [hmore2.out last]
                    rintro e V5 ⟨rfl, b9⟩
                    unfold frV zeroFr
                    dsimp only
                    refine hK _ _ ?_
                    clear hK K
                    (try simp only [Act.put, List.getElem_toArray, List.getElem_cons_zero, List.getElem_cons_succ, List.setIfInBounds_toArray, List.set_cons_zero, List.set_cons_succ])
                    replace hcur := hid (bt hcur.out b9)
                    clear b9 hr2
                    refine wpAny_take (i := 12) (v := ?_) rfl (by kernel_rfl) (by kernel_rfl) (by kernel_rfl) (fun _ _ _ h => h) (Or.inl ⟨by rfl, ?_⟩) ?_
                    rotate_left 1
                    (intro w; go_simp; try with_reducible rfl)
                    (try simp only [Act.put, List.getElem_toArray, List.getElem_cons_zero, List.getElem_cons_succ, List.setIfInBounds_toArray, List.set_cons_zero, List.set_cons_succ])
                    refine wpAny_take (i := 13) (v := ?_) rfl (by kernel_rfl) (by kernel_rfl) (by kernel_rfl) (fun _ _ _ h => h) (Or.inl ⟨by rfl, ?_⟩) ?_
                    rotate_left 1
                    (intro w; go_simp; try with_reducible rfl)
                    (try simp only [Act.put, List.getElem_toArray, List.getElem_cons_zero, List.getElem_cons_succ, List.setIfInBounds_toArray, List.set_cons_zero, List.set_cons_succ])
                    refine wpAny_take (i := 14) (v := ?_) rfl (by kernel_rfl) (by kernel_rfl) (by kernel_rfl) (fun _ _ _ h => h) (Or.inl ⟨by rfl, ?_⟩) ?_
                    rotate_left 1
                    (intro w; go_simp; try with_reducible rfl)
                    (try simp only [Act.put, List.getElem_toArray, List.getElem_cons_zero, List.getElem_cons_succ, List.setIfInBounds_toArray, List.set_cons_zero, List.set_cons_succ])
                    refine wpAny_ready (rs := [15]) (by kernel_rfl) (by simp) ?_
                    refine AllReady.cons rfl (fun K hK => ?_) AllReady.nil
                    go_simp
                    refine hK _ _ ?_
                    clear hK K
                    (try simp only [Act.put, List.getElem_toArray, List.getElem_cons_zero, List.getElem_cons_succ, List.setIfInBounds_toArray, List.set_cons_zero, List.set_cons_succ])
                    have hp := hid (Blk.new V5 [.int .u8 0, .int .u64 0, .int .u64 0, .string ⟨#[]⟩] 40)
                    have hpB := hid hcur.out.size
                    replace hcur := hid (hcur.out.alloc hcur.out.size (.cells #[.int .u8 0, .int .u64 0, .int .u64 0, .string ⟨#[]⟩] 40))
                    generalize V5.alloc (.cells #[.int .u8 0, .int .u64 0, .int .u64 0, .string ⟨#[]⟩] 40) = V6 at hp hcur ⊢
                    refine wpAny_ready (rs := [16]) (by kernel_rfl) (by simp) ?_
                    refine AllReady.cons rfl (fun K hK => ?_) AllReady.nil
                    obtain ⟨p0, p1, p2, p3, pf⟩ := hp.out.four
                    go_simp
                    clear p0 p1 p2 p3 pf
                    refine hK _ _ ?_
                    clear hK K
                    (try simp only [Act.put, List.getElem_toArray, List.getElem_cons_zero, List.getElem_cons_succ, List.setIfInBounds_toArray, List.set_cons_zero, List.set_cons_succ])
                    refine wpAny_take (i := 17) (v := ?_) rfl (by kernel_rfl) (by kernel_rfl) (by kernel_rfl) (fun _ _ _ h => h) (Or.inl ⟨by rfl, ?_⟩) ?_
                    rotate_left 1
                    (intro w; go_simp; try with_reducible rfl)
                    (try simp only [Act.put, List.getElem_toArray, List.getElem_cons_zero, List.getElem_cons_succ, List.setIfInBounds_toArray, List.set_cons_zero, List.set_cons_succ])
                    refine wpAny_done (by kernel_rfl) ?_ _
                    go_wp2_with fail
                    go_meet
                    exact ⟨rfl, hfin.out _ _ hpB.out hcur.out⟩
                  refine AllReady.cons rfl (fun K hK => ?_) AllReady.nil
                  go_simp
                  refine hK _ _ ?_
                  clear hK K
                  (try simp only [Act.put, List.getElem_toArray, List.getElem_cons_zero, List.getElem_cons_succ, List.setIfInBounds_toArray, List.set_cons_zero, List.set_cons_succ])
                  replace hr2 := hid (hr2.out.alloc (.cells #[.int .u8 0, .int .u64 0, .int .u64 0, .string ⟨#[]⟩] 40))
                  have hp := hid (Blk.new V4 [.int .u8 0, .int .u64 0, .int .u64 0, .string ⟨#[]⟩] 40)
                  have hpB := hid hcur.out.size
                  replace hcur := hid (hcur.out.alloc hcur.out.size (.cells #[.int .u8 0, .int .u64 0, .int .u64 0, .string ⟨#[]⟩] 40))
                  generalize V4.alloc (.cells #[.int .u8 0, .int .u64 0, .int .u64 0, .string ⟨#[]⟩] 40) = V5 at hr2 hp hcur ⊢
                  refine wpAny_ready (rs := [11]) (by kernel_rfl) (by simp) ?_
                  refine AllReady.cons rfl (fun K hK => ?_) AllReady.nil
                  go_simp
                  (with_reducible refine (join_any (s0 :: t ++ [last]) _ _ (own_strs hr2.out hlen2.out)).mono ?_)
                  rw [hmore2.out last]
                  rintro e V6 ⟨rfl, b9⟩
                  unfold frV zeroFr
                  dsimp only
                  refine hK _ _ ?_
                  clear hK K
                  (try simp only [Act.put, List.getElem_toArray, List.getElem_cons_zero, List.getElem_cons_succ, List.setIfInBounds_toArray, List.set_cons_zero, List.set_cons_succ])
                  replace hp := hid (hp.out.below b9 hp.out.lt)
                  replace hcur := hid (bt hcur.out b9)
                  clear b9 hr2
                  refine wpAny_take (i := 12) (v := ?_) rfl (by kernel_rfl) (by kernel_rfl) (by kernel_rfl) (fun _ _ _ h => h) (Or.inl ⟨by rfl, ?_⟩) ?_
                  rotate_left 1
                  (intro w; go_simp; try with_reducible rfl)
                  (try simp only [Act.put, List.getElem_toArray, List.getElem_cons_zero, List.getElem_cons_succ, List.setIfInBounds_toArray, List.set_cons_zero, List.set_cons_succ])
                  refine wpAny_take (i := 13) (v := ?_) rfl (by kernel_rfl) (by kernel_rfl) (by kernel_rfl) (fun _ _ _ h => h) (Or.inl ⟨by rfl, ?_⟩) ?_
                  rotate_left 1
                  (intro w; go_simp; try with_reducible rfl)
                  (try simp only [Act.put, List.getElem_toArray, List.getElem_cons_zero, List.getElem_cons_succ, List.setIfInBounds_toArray, List.set_cons_zero, List.set_cons_succ])
                  refine wpAny_take (i := 14) (v := ?_) rfl (by kernel_rfl) (by kernel_rfl) (by kernel_rfl) (fun _ _ _ h => h) (Or.inl ⟨by rfl, ?_⟩) ?_
                  rotate_left 1
                  (intro w; go_simp; try with_reducible rfl)
                  (try simp only [Act.put, List.getElem_toArray, List.getElem_cons_zero, List.getElem_cons_succ, List.setIfInBounds_toArray, List.set_cons_zero, List.set_cons_succ])
                  refine wpAny_ready (rs := [16]) (by kernel_rfl) (by simp) ?_
                  refine AllReady.cons rfl (fun K hK => ?_) AllReady.nil
                  obtain ⟨p0, p1, p2, p3, pf⟩ := hp.out.four
                  go_simp
                  clear p0 p1 p2 p3 pf
                  refine hK _ _ ?_
                  clear hK K
                  (try simp only [Act.put, List.getElem_toArray, List.getElem_cons_zero, List.getElem_cons_succ, List.setIfInBounds_toArray, List.set_cons_zero, List.set_cons_succ])
                  refine wpAny_take (i := 17) (v := ?_) rfl (by kernel_rfl) (by kernel_rfl) (by kernel_rfl) (fun _ _ _ h => h) (Or.inl ⟨by rfl, ?_⟩) ?_
                  rotate_left 1
                  (intro w; go_simp; try with_reducible rfl)
                  (try simp only [Act.put, List.getElem_toArray, List.getElem_cons_zero, List.getElem_cons_succ, List.setIfInBounds_toArray, List.set_cons_zero, List.set_cons_succ])
                  refine wpAny_done (by kernel_rfl) ?_ _
                  go_wp2_with fail
                  go_meet
                  exact ⟨rfl, hfin.out _ _ hpB.out hcur.out⟩
                refine AllReady.cons rfl (fun K hK => ?_) AllReady.nil
                go_simp
                refine hK _ _ ?_
                clear hK K
                (try simp only [Act.put, List.getElem_toArray, List.getElem_cons_zero, List.getElem_cons_succ, List.setIfInBounds_toArray, List.set_cons_zero, List.set_cons_succ])
                replace hr := hid (hr.out.alloc (.cells #[.int .u8 0, .int .u64 0, .int .u64 0, .string ⟨#[]⟩] 40))
                replace hx := hid (hx.out.alloc (.cells #[.int .u8 0, .int .u64 0, .int .u64 0, .string ⟨#[]⟩] 40))
                have hp := hid (Blk.new V3 [.int .u8 0, .int .u64 0, .int .u64 0, .string ⟨#[]⟩] 40)
                have hpB := hid hcur.out.size
                replace hcur := hid (hcur.out.alloc hcur.out.size (.cells #[.int .u8 0, .int .u64 0, .int .u64 0, .string ⟨#[]⟩] 40))
                generalize V3.alloc (.cells #[.int .u8 0, .int .u64 0, .int .u64 0, .string ⟨#[]⟩] 40) = V4 at hr hx hp hcur ⊢
                refine wpAny_ready (rs := [10]) (by kernel_rfl) (by simp) ?_
                refine AllReady.cons rfl (fun K hK => ?_) AllReady.nil
                obtain ⟨so2, sc2, V5, hrun, hr0, hbW, hkp⟩ := app_last W8.heap.size V4 _ (s0 :: t) last _ _ hr.out hx.out hm1001.out hcur.out.size
                refine step_append_run rfl (.tmp 99) (.tmp 106) 22 rfl _ _ _ _ rfl rfl hrun ?_
                refine hK _ _ ?_
                clear hK K
                (try simp only [Act.put, List.getElem_toArray, List.getElem_cons_zero, List.getElem_cons_succ, List.setIfInBounds_toArray, List.set_cons_zero, List.set_cons_succ])
                have hr2 := hid hr0
                replace hp := hid (hkp _ _ _ hp.out (by decide))
                replace hcur := hid (hcur.out.trans hbW)
                clear hr0 hrun hbW hkp hr hx
                refine wpAny_ready (rs := [11]) (by kernel_rfl) (by simp) ?_
                refine AllReady.cons rfl (fun K hK => ?_) AllReady.nil
                go_simp
                (with_reducible refine (join_any (s0 :: t ++ [last]) _ _ (own_strs hr2.out hlen2.out)).mono ?_)
                rw [hmore2.out last]
                rintro e V6 ⟨rfl, b9⟩
                unfold frV zeroFr
                dsimp only
                refine hK _ _ ?_
                clear hK K
                (try simp only [Act.put, List.getElem_toArray, List.getElem_cons_zero, List.getElem_cons_succ, List.setIfInBounds_toArray, List.set_cons_zero, List.set_cons_succ])
                replace hp := hid (hp.out.below b9 hp.out.lt)
                replace hcur := hid (bt hcur.out b9)
                clear b9 hr2
                refine wpAny_take (i := 12) (v := ?_) rfl (by kernel_rfl) (by kernel_rfl) (by kernel_rfl) (fun _ _ _ h => h) (Or.inl ⟨by rfl, ?_⟩) ?_
                rotate_left 1
                (intro w; go_simp; try with_reducible rfl)
                (try simp only [Act.put, List.getElem_toArray, List.getElem_cons_zero, List.getElem_cons_succ, List.setIfInBounds_toArray, List.set_cons_zero, List.set_cons_succ])
                refine wpAny_take (i := 13) (v := ?_) rfl (by kernel_rfl) (by kernel_rfl) (by kernel_rfl) (fun _ _ _ h => h) (Or.inl ⟨by rfl, ?_⟩) ?_
                rotate_left 1
                (intro w; go_simp; try with_reducible rfl)
                (try simp only [Act.put, List.getElem_toArray, List.getElem_cons_zero, List.getElem_cons_succ, List.setIfInBounds_toArray, List.set_cons_zero, List.set_cons_succ])
                refine wpAny_take (i := 14) (v := ?_) rfl (by kernel_rfl) (by kernel_rfl) (by kernel_rfl) (fun _ _ _ h => h) (Or.inl ⟨by rfl, ?_⟩) ?_
                rotate_left 1
                (intro w; go_simp; try with_reducible rfl)
                (try simp only [Act.put, List.getElem_toArray, List.getElem_cons_zero, List.getElem_cons_succ, List.setIfInBounds_toArray, List.set_cons_zero, List.set_cons_succ])
                refine wpAny_ready (rs := [16]) (by kernel_rfl) (by simp) ?_
                refine AllReady.cons rfl (fun K hK => ?_) AllReady.nil
                obtain ⟨p0, p1, p2, p3, pf⟩ := hp.out.four
                go_simp
                clear p0 p1 p2 p3 pf
                refine hK _ _ ?_
                clear hK K
                (try simp only [Act.put, List.getElem_toArray, List.getElem_cons_zero, List.getElem_cons_succ, List.setIfInBounds_toArray, List.set_cons_zero, List.set_cons_succ])
                refine wpAny_take (i := 17) (v := ?_) rfl (by kernel_rfl) (by kernel_rfl) (by kernel_rfl) (fun _ _ _ h => h) (Or.inl ⟨by rfl, ?_⟩) ?_
                rotate_left 1
                (intro w; go_simp; try with_reducible rfl)
                (try simp only [Act.put, List.getElem_toArray, List.getElem_cons_zero, List.getElem_cons_succ, List.setIfInBounds_toArray, List.set_cons_zero, List.set_cons_succ])
                refine wpAny_done (by kernel_rfl) ?_ _
                go_wp2_with fail
                go_meet
                exact ⟨rfl, hfin.out _ _ hpB.out hcur.out⟩
              refine AllReady.cons rfl (fun K hK => ?_) AllReady.nil
              go_simp
              refine hK _ _ ?_
              clear hK K
              (try simp only [Act.put, List.getElem_toArray, List.getElem_cons_zero, List.getElem_cons_succ, List.setIfInBounds_toArray, List.set_cons_zero, List.set_cons_succ])
              replace hr := hid (hr.out.alloc (.cells #[.int .u8 0, .int .u64 0, .int .u64 0, .string ⟨#[]⟩] 40))
              have hp := hid (Blk.new V2 [.int .u8 0, .int .u64 0, .int .u64 0, .string ⟨#[]⟩] 40)
              have hpB := hid hcur.out.size
              replace hcur := hid (hcur.out.alloc hcur.out.size (.cells #[.int .u8 0, .int .u64 0, .int .u64 0, .string ⟨#[]⟩] 40))
              generalize V2.alloc (.cells #[.int .u8 0, .int .u64 0, .int .u64 0, .string ⟨#[]⟩] 40) = V3 at hr hp hcur ⊢
              refine wpAny_ready (rs := [9]) (by kernel_rfl) (by simp) ?_
              refine AllReady.cons rfl (fun K hK => ?_) AllReady.nil
              go_simp
              refine hK _ _ ?_
              clear hK K
              (try simp only [Act.put, List.getElem_toArray, List.getElem_cons_zero, List.getElem_cons_succ, List.setIfInBounds_toArray, List.set_cons_zero, List.set_cons_succ])
              replace hr := hid (hr.out.alloc (.cells #[.string last] 9))
              replace hp := hid (hp.out.alloc (.cells #[.string last] 9))
              have hx := hid (Blk.new V3 [.string last] 9)
              have hxB := hid hcur.out.size
              replace hcur := hid (hcur.out.alloc hcur.out.size (.cells #[.string last] 9))
              generalize V3.alloc (.cells #[.string last] 9) = V4 at hr hp hx hcur ⊢
              refine wpAny_ready (rs := [10]) (by kernel_rfl) (by simp) ?_
              refine AllReady.cons rfl (fun K hK => ?_) AllReady.nil
              obtain ⟨so2, sc2, V5, hrun, hr0, hbW, hkp⟩ := app_last W8.heap.size V4 _ (s0 :: t) last _ _ hr.out hx.out hm1001.out hcur.out.size
              refine step_append_run rfl (.tmp 99) (.tmp 106) 22 rfl _ _ _ _ rfl rfl hrun ?_
              refine hK _ _ ?_
              clear hK K
              (try simp only [Act.put, List.getElem_toArray, List.getElem_cons_zero, List.getElem_cons_succ, List.setIfInBounds_toArray, List.set_cons_zero, List.set_cons_succ])
              have hr2 := hid hr0
              replace hp := hid (hkp _ _ _ hp.out (by decide))
              replace hcur := hid (hcur.out.trans hbW)
              clear hr0 hrun hbW hkp hr hx
              refine wpAny_ready (rs := [11]) (by kernel_rfl) (by simp) ?_
              refine AllReady.cons rfl (fun K hK => ?_) AllReady.nil
              go_simp
              (with_reducible refine (join_any (s0 :: t ++ [last]) _ _ (own_strs hr2.out hlen2.out)).mono ?_)
              rw [hmore2.out last]
              rintro e V6 ⟨rfl, b9⟩
              unfold frV zeroFr
              dsimp only
              refine hK _ _ ?_
              clear hK K
              (try simp only [Act.put, List.getElem_toArray, List.getElem_cons_zero, List.getElem_cons_succ, List.setIfInBounds_toArray, List.set_cons_zero, List.set_cons_succ])
              replace hp := hid (hp.out.below b9 hp.out.lt)
              replace hcur := hid (bt hcur.out b9)
              clear b9 hr2
              refine wpAny_take (i := 12) (v := ?_) rfl (by kernel_rfl) (by kernel_rfl) (by kernel_rfl) (fun _ _ _ h => h) (Or.inl ⟨by rfl, ?_⟩) ?_
              rotate_left 1
              (intro w; go_simp; try with_reducible rfl)
              (try simp only [Act.put, List.getElem_toArray, List.getElem_cons_zero, List.getElem_cons_succ, List.setIfInBounds_toArray, List.set_cons_zero, List.set_cons_succ])
              refine wpAny_take (i := 13) (v := ?_) rfl (by kernel_rfl) (by kernel_rfl) (by kernel_rfl) (fun _ _ _ h => h) (Or.inl ⟨by rfl, ?_⟩) ?_
              rotate_left 1
              (intro w; go_simp; try with_reducible rfl)
              (try simp only [Act.put, List.getElem_toArray, List.getElem_cons_zero, List.getElem_cons_succ, List.setIfInBounds_toArray, List.set_cons_zero, List.set_cons_succ])
              refine wpAny_take (i := 14) (v := ?_) rfl (by kernel_rfl) (by kernel_rfl) (by kernel_rfl) (fun _ _ _ h => h) (Or.inl ⟨by rfl, ?_⟩) ?_
              rotate_left 1
              (intro w; go_simp; try with_reducible rfl)
              (try simp only [Act.put, List.getElem_toArray, List.getElem_cons_zero, List.getElem_cons_succ, List.setIfInBounds_toArray, List.set_cons_zero, List.set_cons_succ])
              refine wpAny_ready (rs := [16]) (by kernel_rfl) (by simp) ?_
              refine AllReady.cons rfl (fun K hK => ?_) AllReady.nil
              obtain ⟨p0, p1, p2, p3, pf⟩ := hp.out.four
              go_simp
              clear p0 p1 p2 p3 pf
              refine hK _ _ ?_
              clear hK K
              (try simp only [Act.put, List.getElem_toArray, List.getElem_cons_zero, List.getElem_cons_succ, List.setIfInBounds_toArray, List.set_cons_zero, List.set_cons_succ])
              refine wpAny_take (i := 17) (v := ?_) rfl (by kernel_rfl) (by kernel_rfl) (by kernel_rfl) (fun _ _ _ h => h) (Or.inl ⟨by rfl, ?_⟩) ?_
              rotate_left 1
              (intro w; go_simp; try with_reducible rfl)
              (try simp only [Act.put, List.getElem_toArray, List.getElem_cons_zero, List.getElem_cons_succ, List.setIfInBounds_toArray, List.set_cons_zero, List.set_cons_succ])
              refine wpAny_done (by kernel_rfl) ?_ _
              go_wp2_with fail
              go_meet
              exact ⟨rfl, hfin.out _ _ hpB.out hcur.out⟩
          refine AllReady.cons rfl (fun K hK => ?_) ?_
          · as_aux_lemma =>
              go_simp
              refine hK _ _ ?_
              clear hK K
              (try simp only [Act.put, List.getElem_toArray, List.getElem_cons_zero, List.getElem_cons_succ, List.setIfInBounds_toArray, List.set_cons_zero, List.set_cons_succ])
              have hxg := hid (Nat.ne_of_gt hg.out.lt)
              replace hg := hid (hg.out.alloc (.cells #[.string last] 9))
              have hx := hid (Blk.new V1 [.string last] 9)
              have hxB := hid hcur.out.size
              replace hcur := hid (hcur.out.alloc hcur.out.size (.cells #[.string last] 9))
              generalize V1.alloc (.cells #[.string last] 9) = V2 at hg hx hcur ⊢
              refine wpAny_ready (rs := [2, 15]) (by kernel_rfl) (by simp) ?_
              refine AllReady.cons rfl (fun K hK => ?_) ?_
              · skip
                obtain ⟨so, sc, V3, hrun, hr0, hbW, hkp⟩ := app_list W8.heap.size V2 _ (s0 :: t) _ _ _ (hsv8.out.below hcur.out) hlen.out hl17.out hm1000.out hg.out hgB.out
                refine step_append_run rfl (.tmp 97) (.tmp 98) 22 rfl _ _ _ _ rfl rfl hrun ?_
                refine hK _ _ ?_
                clear hK K
                (try simp only [Act.put, List.getElem_toArray, List.getElem_cons_zero, List.getElem_cons_succ, List.setIfInBounds_toArray, List.set_cons_zero, List.set_cons_succ])
                have hr := hid hr0
                replace hx := hid (hkp _ _ _ hx.out hxg.out)
                replace hcur := hid (hcur.out.trans hbW)
                clear hr0 hrun hbW hkp hg hgB
                refine wpAny_ready (rs := [10, 15]) (by kernel_rfl) (by simp) ?_
                refine AllReady.cons rfl (fun K hK => ?_) ?_
                · skip
                  obtain ⟨so2, sc2, V4, hrun, hr0, hbW, hkp⟩ := app_last W8.heap.size V3 _ (s0 :: t) last _ _ hr.out hx.out hm1001.out hcur.out.size
                  refine step_append_run rfl (.tmp 99) (.tmp 106) 22 rfl _ _ _ _ rfl rfl hrun ?_
                  refine hK _ _ ?_
                  clear hK K
                  (try simp only [Act.put, List.getElem_toArray, List.getElem_cons_zero, List.getElem_cons_succ, List.setIfInBounds_toArray, List.set_cons_zero, List.set_cons_succ])
                  have hr2 := hid hr0
                  replace hcur := hid (hcur.out.trans hbW)
                  clear hr0 hrun hbW hkp hr hx
                  refine wpAny_ready (rs := [11, 15]) (by kernel_rfl) (by simp) ?_
                  refine AllReady.cons rfl (fun K hK => ?_) ?_
                  · skip
                    go_simp
                    (with_reducible refine (join_any (s0 :: t ++ [last]) _ _ (own_strs hr2.out hlen2.out)).mono ?_)
                    rw [hmore2.out last]
                    rintro e V5 ⟨rfl, b9⟩
                    unfold frV zeroFr
                    dsimp only
                    refine hK _ _ ?_
                    clear hK K
                    (try simp only [Act.put, List.getElem_toArray, List.getElem_cons_zero, List.getElem_cons_succ, List.setIfInBounds_toArray, List.set_cons_zero, List.set_cons_succ])
                    replace hcur := hid (bt hcur.out b9)
                    clear b9 hr2
                    refine wpAny_take (i := 12) (v := ?_) rfl (by kernel_rfl) (by kernel_rfl) (by kernel_rfl) (fun _ _ _ h => h) (Or.inl ⟨by rfl, ?_⟩) ?_
                    rotate_left 1
                    (intro w; go_simp; try with_reducible rfl)
                    (try simp only [Act.put, List.getElem_toArray, List.getElem_cons_zero, List.getElem_cons_succ, List.setIfInBounds_toArray, List.set_cons_zero, List.set_cons_succ])
                    refine wpAny_take (i := 13) (v := ?_) rfl (by kernel_rfl) (by kernel_rfl) (by kernel_rfl) (fun _ _ _ h => h) (Or.inl ⟨by rfl, ?_⟩) ?_
                    rotate_left 1
                    (intro w; go_simp; try with_reducible rfl)
                    (try simp only [Act.put, List.getElem_toArray, List.getElem_cons_zero, List.getElem_cons_succ, List.setIfInBounds_toArray, List.set_cons_zero, List.set_cons_succ])
                    refine wpAny_take (i := 14) (v := ?_) rfl (by kernel_rfl) (by kernel_rfl) (by kernel_rfl) (fun _ _ _ h => h) (Or.inl ⟨by rfl, ?_⟩) ?_
                    rotate_left 1
                    (intro w; go_simp; try with_reducible rfl)
                    (try simp only [Act.put, List.getElem_toArray, List.getElem_cons_zero, List.getElem_cons_succ, List.setIfInBounds_toArray, List.set_cons_zero, List.set_cons_succ])
                    refine wpAny_ready (rs := [15]) (by kernel_rfl) (by simp) ?_
                    refine AllReady.cons rfl (fun K hK => ?_) AllReady.nil
                    go_simp
                    refine hK _ _ ?_
                    clear hK K
                    (try simp only [Act.put, List.getElem_toArray, List.getElem_cons_zero, List.getElem_cons_succ, List.setIfInBounds_toArray, List.set_cons_zero, List.set_cons_succ])
                    have hp := hid (Blk.new V5 [.int .u8 0, .int .u64 0, .int .u64 0, .string ⟨#[]⟩] 40)
                    have hpB := hid hcur.out.size
                    replace hcur := hid (hcur.out.alloc hcur.out.size (.cells #[.int .u8 0, .int .u64 0, .int .u64 0, .string ⟨#[]⟩] 40))
                    generalize V5.alloc (.cells #[.int .u8 0, .int .u64 0, .int .u64 0, .string ⟨#[]⟩] 40) = V6 at hp hcur ⊢
                    refine wpAny_ready (rs := [16]) (by kernel_rfl) (by simp) ?_
                    refine AllReady.cons rfl (fun K hK => ?_) AllReady.nil
                    obtain ⟨p0, p1, p2, p3, pf⟩ := hp.out.four
                    go_simp
                    clear p0 p1 p2 p3 pf
                    refine hK _ _ ?_
                    clear hK K
                    (try simp only [Act.put, List.getElem_toArray, List.getElem_cons_zero, List.getElem_cons_succ, List.setIfInBounds_toArray, List.set_cons_zero, List.set_cons_succ])
                    refine wpAny_take (i := 17) (v := ?_) rfl (by kernel_rfl) (by kernel_rfl) (by kernel_rfl) (fun _ _ _ h => h) (Or.inl ⟨by rfl, ?_⟩) ?_
                    rotate_left 1
                    (intro w; go_simp; try with_reducible rfl)
                    (try simp only [Act.put, List.getElem_toArray, List.getElem_cons_zero, List.getElem_cons_succ, List.setIfInBounds_toArray, List.set_cons_zero, List.set_cons_succ])
                    refine wpAny_done (by kernel_rfl) ?_ _
                    go_wp2_with fail
                    go_meet
                    exact ⟨rfl, hfin.out _ _ hpB.out hcur.out⟩
                  refine AllReady.cons rfl (fun K hK => ?_) AllReady.nil
                  go_simp
                  refine hK _ _ ?_
                  clear hK K
                  (try simp only [Act.put, List.getElem_toArray, List.getElem_cons_zero, List.getElem_cons_succ, List.setIfInBounds_toArray, List.set_cons_zero, List.set_cons_succ])
                  replace hr2 := hid (hr2.out.alloc (.cells #[.int .u8 0, .int .u64 0, .int .u64 0, .string ⟨#[]⟩] 40))
                  have hp := hid (Blk.new V4 [.int .u8 0, .int .u64 0, .int .u64 0, .string ⟨#[]⟩] 40)
                  have hpB := hid hcur.out.size
                  replace hcur := hid (hcur.out.alloc hcur.out.size (.cells #[.int .u8 0, .int .u64 0, .int .u64 0, .string ⟨#[]⟩] 40))
                  generalize V4.alloc (.cells #[.int .u8 0, .int .u64 0, .int .u64 0, .string ⟨#[]⟩] 40) = V5 at hr2 hp hcur ⊢
                  refine wpAny_ready (rs := [11]) (by kernel_rfl) (by simp) ?_
                  refine AllReady.cons rfl (fun K hK => ?_) AllReady.nil
                  go_simp
                  (with_reducible refine (join_any (s0 :: t ++ [last]) _ _ (own_strs hr2.out hlen2.out)).mono ?_)
                  rw [hmore2.out last]
                  rintro e V6 ⟨rfl, b9⟩
                  unfold frV zeroFr
                  dsimp only
                  refine hK _ _ ?_
                  clear hK K
                  (try simp only [Act.put, List.getElem_toArray, List.getElem_cons_zero, List.getElem_cons_succ, List.setIfInBounds_toArray, List.set_cons_zero, List.set_cons_succ])
                  replace hp := hid (hp.out.below b9 hp.out.lt)
                  replace hcur := hid (bt hcur.out b9)
                  clear b9 hr2
                  refine wpAny_take (i := 12) (v := ?_) rfl (by kernel_rfl) (by kernel_rfl) (by kernel_rfl) (fun _ _ _ h => h) (Or.inl ⟨by rfl, ?_⟩) ?_
                  rotate_left 1
                  (intro w; go_simp; try with_reducible rfl)
                  (try simp only [Act.put, List.getElem_toArray, List.getElem_cons_zero, List.getElem_cons_succ, List.setIfInBounds_toArray, List.set_cons_zero, List.set_cons_succ])
                  refine wpAny_take (i := 13) (v := ?_) rfl (by kernel_rfl) (by kernel_rfl) (by kernel_rfl) (fun _ _ _ h => h) (Or.inl ⟨by rfl, ?_⟩) ?_
                  rotate_left 1
                  (intro w; go_simp; try with_reducible rfl)
                  (try simp only [Act.put, List.getElem_toArray, List.getElem_cons_zero, List.getElem_cons_succ, List.setIfInBounds_toArray, List.set_cons_zero, List.set_cons_succ])
                  refine wpAny_take (i := 14) (v := ?_) rfl (by kernel_rfl) (by kernel_rfl) (by kernel_rfl) (fun _ _ _ h => h) (Or.inl ⟨by rfl, ?_⟩) ?_
                  rotate_left 1
                  (intro w; go_simp; try with_reducible rfl)
                  (try simp only [Act.put, List.getElem_toArray, List.getElem_cons_zero, List.getElem_cons_succ, List.setIfInBounds_toArray, List.set_cons_zero, List.set_cons_succ])
                  refine wpAny_ready (rs := [16]) (by kernel_rfl) (by simp) ?_
                  refine AllReady.cons rfl (fun K hK => ?_) AllReady.nil
                  obtain ⟨p0, p1, p2, p3, pf⟩ := hp.out.four
                  go_simp
                  clear p0 p1 p2 p3 pf
                  refine hK _ _ ?_
                  clear hK K
                  (try simp only [Act.put, List.getElem_toArray, List.getElem_cons_zero, List.getElem_cons_succ, List.setIfInBounds_toArray, List.set_cons_zero, List.set_cons_succ])
                  refine wpAny_take (i := 17) (v := ?_) rfl (by kernel_rfl) (by kernel_rfl) (by kernel_rfl) (fun _ _ _ h => h) (Or.inl ⟨by rfl, ?_⟩) ?_
                  rotate_left 1
                  (intro w; go_simp; try with_reducible rfl)
                  (try simp only [Act.put, List.getElem_toArray, List.getElem_cons_zero, List.getElem_cons_succ, List.setIfInBounds_toArray, List.set_cons_zero, List.set_cons_succ])
                  refine wpAny_done (by kernel_rfl) ?_ _
                  go_wp2_with fail
                  go_meet
                  exact ⟨rfl, hfin.out _ _ hpB.out hcur.out⟩
                refine AllReady.cons rfl (fun K hK => ?_) AllReady.nil
                go_simp
                refine hK _ _ ?_
                clear hK K
                (try simp only [Act.put, List.getElem_toArray, List.getElem_cons_zero, List.getElem_cons_succ, List.setIfInBounds_toArray, List.set_cons_zero, List.set_cons_succ])
                replace hr := hid (hr.out.alloc (.cells #[.int .u8 0, .int .u64 0, .int .u64 0, .string ⟨#[]⟩] 40))
                replace hx := hid (hx.out.alloc (.cells #[.int .u8 0, .int .u64 0, .int .u64 0, .string ⟨#[]⟩] 40))
                have hp := hid (Blk.new V3 [.int .u8 0, .int .u64 0, .int .u64 0, .string ⟨#[]⟩] 40)
                have hpB := hid hcur.out.size
                replace hcur := hid (hcur.out.alloc hcur.out.size (.cells #[.int .u8 0, .int .u64 0, .int .u64 0, .string ⟨#[]⟩] 40))
                generalize V3.alloc (.cells #[.int .u8 0, .int .u64 0, .int .u64 0, .string ⟨#[]⟩] 40) = V4 at hr hx hp hcur ⊢
                refine wpAny_ready (rs := [10]) (by kernel_rfl) (by simp) ?_
                refine AllReady.cons rfl (fun K hK => ?_) AllReady.nil
                obtain ⟨so2, sc2, V5, hrun, hr0, hbW, hkp⟩ := app_last W8.heap.size V4 _ (s0 :: t) last _ _ hr.out hx.out hm1001.out hcur.out.size
                refine step_append_run rfl (.tmp 99) (.tmp 106) 22 rfl _ _ _ _ rfl rfl hrun ?_
                refine hK _ _ ?_
                clear hK K
                (try simp only [Act.put, List.getElem_toArray, List.getElem_cons_zero, List.getElem_cons_succ, List.setIfInBounds_toArray, List.set_cons_zero, List.set_cons_succ])
                have hr2 := hid hr0
                replace hp := hid (hkp _ _ _ hp.out (by decide))
                replace hcur := hid (hcur.out.trans hbW)
                clear hr0 hrun hbW hkp hr hx
                refine wpAny_ready (rs := [11]) (by kernel_rfl) (by simp) ?_
                refine AllReady.cons rfl (fun K hK => ?_) AllReady.nil
                go_simp
                (with_reducible refine (join_any (s0 :: t ++ [last]) _ _ (own_strs hr2.out hlen2.out)).mono ?_)
                rw [hmore2.out last]
                rintro e V6 ⟨rfl, b9⟩
                unfold frV zeroFr
                dsimp only
                refine hK _ _ ?_
                clear hK K
                (try simp only [Act.put, List.getElem_toArray, List.getElem_cons_zero, List.getElem_cons_succ, List.setIfInBounds_toArray, List.set_cons_zero, List.set_cons_succ])
                replace hp := hid (hp.out.below b9 hp.out.lt)
                replace hcur := hid (bt hcur.out b9)
                clear b9 hr2
                refine wpAny_take (i := 12) (v := ?_) rfl (by kernel_rfl) (by kernel_rfl) (by kernel_rfl) (fun _ _ _ h => h) (Or.inl ⟨by rfl, ?_⟩) ?_
                rotate_left 1
                (intro w; go_simp; try with_reducible rfl)
                (try simp only [Act.put, List.getElem_toArray, List.getElem_cons_zero, List.getElem_cons_succ, List.setIfInBounds_toArray, List.set_cons_zero, List.set_cons_succ])
                refine wpAny_take (i := 13) (v := ?_) rfl (by kernel_rfl) (by kernel_rfl) (by kernel_rfl) (fun _ _ _ h => h) (Or.inl ⟨by rfl, ?_⟩) ?_
                rotate_left 1
                (intro w; go_simp; try with_reducible rfl)
                (try simp only [Act.put, List.getElem_toArray, List.getElem_cons_zero, List.getElem_cons_succ, List.setIfInBounds_toArray, List.set_cons_zero, List.set_cons_succ])
                refine wpAny_take (i := 14) (v := ?_) rfl (by kernel_rfl) (by kernel_rfl) (by kernel_rfl) (fun _ _ _ h => h) (Or.inl ⟨by rfl, ?_⟩) ?_
                rotate_left 1
                (intro w; go_simp; try with_reducible rfl)
                (try simp only [Act.put, List.getElem_toArray, List.getElem_cons_zero, List.getElem_cons_succ, List.setIfInBounds_toArray, List.set_cons_zero, List.set_cons_succ])
                refine wpAny_ready (rs := [16]) (by kernel_rfl) (by simp) ?_
                refine AllReady.cons rfl (fun K hK => ?_) AllReady.nil
                obtain ⟨p0, p1, p2, p3, pf⟩ := hp.out.four
                go_simp
                clear p0 p1 p2 p3 pf
                refine hK _ _ ?_
                clear hK K
                (try simp only [Act.put, List.getElem_toArray, List.getElem_cons_zero, List.getElem_cons_succ, List.setIfInBounds_toArray, List.set_cons_zero, List.set_cons_succ])
                refine wpAny_take (i := 17) (v := ?_) rfl (by kernel_rfl) (by kernel_rfl) (by kernel_rfl) (fun _ _ _ h => h) (Or.inl ⟨by rfl, ?_⟩) ?_
                rotate_left 1
                (intro w; go_simp; try with_reducible rfl)
                (try simp only [Act.put, List.getElem_toArray, List.getElem_cons_zero, List.getElem_cons_succ, List.setIfInBounds_toArray, List.set_cons_zero, List.set_cons_succ])
                refine wpAny_done (by kernel_rfl) ?_ _
                go_wp2_with fail
                go_meet
                exact ⟨rfl, hfin.out _ _ hpB.out hcur.out⟩
              refine AllReady.cons rfl (fun K hK => ?_) AllReady.nil
              go_simp
              refine hK _ _ ?_
              clear hK K
              (try simp only [Act.put, List.getElem_toArray, List.getElem_cons_zero, List.getElem_cons_succ, List.setIfInBounds_toArray, List.set_cons_zero, List.set_cons_succ])
              have hpg := hid (Nat.ne_of_gt hg.out.lt)
              replace hg := hid (hg.out.alloc (.cells #[.int .u8 0, .int .u64 0, .int .u64 0, .string ⟨#[]⟩] 40))
              replace hx := hid (hx.out.alloc (.cells #[.int .u8 0, .int .u64 0, .int .u64 0, .string ⟨#[]⟩] 40))
              have hp := hid (Blk.new V2 [.int .u8 0, .int .u64 0, .int .u64 0, .string ⟨#[]⟩] 40)
              have hpB := hid hcur.out.size
              replace hcur := hid (hcur.out.alloc hcur.out.size (.cells #[.int .u8 0, .int .u64 0, .int .u64 0, .string ⟨#[]⟩] 40))
              generalize V2.alloc (.cells #[.int .u8 0, .int .u64 0, .int .u64 0, .string ⟨#[]⟩] 40) = V3 at hg hx hp hcur ⊢
              refine wpAny_ready (rs := [2]) (by kernel_rfl) (by simp) ?_
              refine AllReady.cons rfl (fun K hK => ?_) AllReady.nil
              obtain ⟨so, sc, V4, hrun, hr0, hbW, hkp⟩ := app_list W8.heap.size V3 _ (s0 :: t) _ _ _ (hsv8.out.below hcur.out) hlen.out hl17.out hm1000.out hg.out hgB.out
              refine step_append_run rfl (.tmp 97) (.tmp 98) 22 rfl _ _ _ _ rfl rfl hrun ?_
              refine hK _ _ ?_
              clear hK K
              (try simp only [Act.put, List.getElem_toArray, List.getElem_cons_zero, List.getElem_cons_succ, List.setIfInBounds_toArray, List.set_cons_zero, List.set_cons_succ])
              have hr := hid hr0
              replace hx := hid (hkp _ _ _ hx.out hxg.out)
              replace hp := hid (hkp _ _ _ hp.out hpg.out)
              replace hcur := hid (hcur.out.trans hbW)
              clear hr0 hrun hbW hkp hg hgB
              refine wpAny_ready (rs := [10]) (by kernel_rfl) (by simp) ?_
              refine AllReady.cons rfl (fun K hK => ?_) AllReady.nil
              obtain ⟨so2, sc2, V5, hrun, hr0, hbW, hkp⟩ := app_last W8.heap.size V4 _ (s0 :: t) last _ _ hr.out hx.out hm1001.out hcur.out.size
              refine step_append_run rfl (.tmp 99) (.tmp 106) 22 rfl _ _ _ _ rfl rfl hrun ?_
              refine hK _ _ ?_
              clear hK K
              (try simp only [Act.put, List.getElem_toArray, List.getElem_cons_zero, List.getElem_cons_succ, List.setIfInBounds_toArray, List.set_cons_zero, List.set_cons_succ])
              have hr2 := hid hr0
              replace hp := hid (hkp _ _ _ hp.out (by decide))
              replace hcur := hid (hcur.out.trans hbW)
              clear hr0 hrun hbW hkp hr hx
              refine wpAny_ready (rs := [11]) (by kernel_rfl) (by simp) ?_
              refine AllReady.cons rfl (fun K hK => ?_) AllReady.nil
              go_simp
              (with_reducible refine (join_any (s0 :: t ++ [last]) _ _ (own_strs hr2.out hlen2.out)).mono ?_)
              rw [hmore2.out last]
              rintro e V6 ⟨rfl, b9⟩
              unfold frV zeroFr
              dsimp only
              refine hK _ _ ?_
              clear hK K
              (try simp only [Act.put, List.getElem_toArray, List.getElem_cons_zero, List.getElem_cons_succ, List.setIfInBounds_toArray, List.set_cons_zero, List.set_cons_succ])
              replace hp := hid (hp.out.below b9 hp.out.lt)
              replace hcur := hid (bt hcur.out b9)
              clear b9 hr2
              refine wpAny_take (i := 12) (v := ?_) rfl (by kernel_rfl) (by kernel_rfl) (by kernel_rfl) (fun _ _ _ h => h) (Or.inl ⟨by rfl, ?_⟩) ?_
              rotate_left 1
              (intro w; go_simp; try with_reducible rfl)
              (try simp only [Act.put, List.getElem_toArray, List.getElem_cons_zero, List.getElem_cons_succ, List.setIfInBounds_toArray, List.set_cons_zero, List.set_cons_succ])
              refine wpAny_take (i := 13) (v := ?_) rfl (by kernel_rfl) (by kernel_rfl) (by kernel_rfl) (fun _ _ _ h => h) (Or.inl ⟨by rfl, ?_⟩) ?_
              rotate_left 1
              (intro w; go_simp; try with_reducible rfl)
              (try simp only [Act.put, List.getElem_toArray, List.getElem_cons_zero, List.getElem_cons_succ, List.setIfInBounds_toArray, List.set_cons_zero, List.set_cons_succ])
              refine wpAny_take (i := 14) (v := ?_) rfl (by kernel_rfl) (by kernel_rfl) (by kernel_rfl) (fun _ _ _ h => h) (Or.inl ⟨by rfl, ?_⟩) ?_
              rotate_left 1
              (intro w; go_simp; try with_reducible rfl)
              (try simp only [Act.put, List.getElem_toArray, List.getElem_cons_zero, List.getElem_cons_succ, List.setIfInBounds_toArray, List.set_cons_zero, List.set_cons_succ])
              refine wpAny_ready (rs := [16]) (by kernel_rfl) (by simp) ?_
              refine AllReady.cons rfl (fun K hK => ?_) AllReady.nil
              obtain ⟨p0, p1, p2, p3, pf⟩ := hp.out.four
              go_simp
              clear p0 p1 p2 p3 pf
              refine hK _ _ ?_
              clear hK K
              (try simp only [Act.put, List.getElem_toArray, List.getElem_cons_zero, List.getElem_cons_succ, List.setIfInBounds_toArray, List.set_cons_zero, List.set_cons_succ])
              refine wpAny_take (i := 17) (v := ?_) rfl (by kernel_rfl) (by kernel_rfl) (by kernel_rfl) (fun _ _ _ h => h) (Or.inl ⟨by rfl, ?_⟩) ?_
              rotate_left 1
              (intro w; go_simp; try with_reducible rfl)
              (try simp only [Act.put, List.getElem_toArray, List.getElem_cons_zero, List.getElem_cons_succ, List.setIfInBounds_toArray, List.set_cons_zero, List.set_cons_succ])
              refine wpAny_done (by kernel_rfl) ?_ _
              go_wp2_with fail
              go_meet
              exact ⟨rfl, hfin.out _ _ hpB.out hcur.out⟩
          refine AllReady.cons rfl (fun K hK => ?_) AllReady.nil
          as_aux_lemma =>
            go_simp
            refine hK _ _ ?_
            clear hK K
            (try simp only [Act.put, List.getElem_toArray, List.getElem_cons_zero, List.getElem_cons_succ, List.setIfInBounds_toArray, List.set_cons_zero, List.set_cons_succ])
            have hpg := hid (Nat.ne_of_gt hg.out.lt)
            replace hg := hid (hg.out.alloc (.cells #[.int .u8 0, .int .u64 0, .int .u64 0, .string ⟨#[]⟩] 40))
            have hp := hid (Blk.new V1 [.int .u8 0, .int .u64 0, .int .u64 0, .string ⟨#[]⟩] 40)
            have hpB := hid hcur.out.size
            replace hcur := hid (hcur.out.alloc hcur.out.size (.cells #[.int .u8 0, .int .u64 0, .int .u64 0, .string ⟨#[]⟩] 40))
            generalize V1.alloc (.cells #[.int .u8 0, .int .u64 0, .int .u64 0, .string ⟨#[]⟩] 40) = V2 at hg hp hcur ⊢
            refine wpAny_ready (rs := [2, 9]) (by kernel_rfl) (by simp) ?_
            refine AllReady.cons rfl (fun K hK => ?_) ?_
            · skip
              obtain ⟨so, sc, V3, hrun, hr0, hbW, hkp⟩ := app_list W8.heap.size V2 _ (s0 :: t) _ _ _ (hsv8.out.below hcur.out) hlen.out hl17.out hm1000.out hg.out hgB.out
              refine step_append_run rfl (.tmp 97) (.tmp 98) 22 rfl _ _ _ _ rfl rfl hrun ?_
              refine hK _ _ ?_
              clear hK K
              (try simp only [Act.put, List.getElem_toArray, List.getElem_cons_zero, List.getElem_cons_succ, List.setIfInBounds_toArray, List.set_cons_zero, List.set_cons_succ])
              have hr := hid hr0
              replace hp := hid (hkp _ _ _ hp.out hpg.out)
              replace hcur := hid (hcur.out.trans hbW)
              clear hr0 hrun hbW hkp hg hgB
              refine wpAny_ready (rs := [9]) (by kernel_rfl) (by simp) ?_
              refine AllReady.cons rfl (fun K hK => ?_) AllReady.nil
              go_simp
              refine hK _ _ ?_
              clear hK K
              (try simp only [Act.put, List.getElem_toArray, List.getElem_cons_zero, List.getElem_cons_succ, List.setIfInBounds_toArray, List.set_cons_zero, List.set_cons_succ])
              replace hr := hid (hr.out.alloc (.cells #[.string last] 9))
              replace hp := hid (hp.out.alloc (.cells #[.string last] 9))
              have hx := hid (Blk.new V3 [.string last] 9)
              have hxB := hid hcur.out.size
              replace hcur := hid (hcur.out.alloc hcur.out.size (.cells #[.string last] 9))
              generalize V3.alloc (.cells #[.string last] 9) = V4 at hr hp hx hcur ⊢
              refine wpAny_ready (rs := [10]) (by kernel_rfl) (by simp) ?_
              refine AllReady.cons rfl (fun K hK => ?_) AllReady.nil
              obtain ⟨so2, sc2, V5, hrun, hr0, hbW, hkp⟩ := app_last W8.heap.size V4 _ (s0 :: t) last _ _ hr.out hx.out hm1001.out hcur.out.size
              refine step_append_run rfl (.tmp 99) (.tmp 106) 22 rfl _ _ _ _ rfl rfl hrun ?_
              refine hK _ _ ?_
              clear hK K
              (try simp only [Act.put, List.getElem_toArray, List.getElem_cons_zero, List.getElem_cons_succ, List.setIfInBounds_toArray, List.set_cons_zero, List.set_cons_succ])
              have hr2 := hid hr0
              replace hp := hid (hkp _ _ _ hp.out (by decide))
              replace hcur := hid (hcur.out.trans hbW)
              clear hr0 hrun hbW hkp hr hx
              refine wpAny_ready (rs := [11]) (by kernel_rfl) (by simp) ?_
              refine AllReady.cons rfl (fun K hK => ?_) AllReady.nil
              go_simp
              (with_reducible refine (join_any (s0 :: t ++ [last]) _ _ (own_strs hr2.out hlen2.out)).mono ?_)
              rw [hmore2.out last]
              rintro e V6 ⟨rfl, b9⟩
              unfold frV zeroFr
              dsimp only
              refine hK _ _ ?_
              clear hK K
              (try simp only [Act.put, List.getElem_toArray, List.getElem_cons_zero, List.getElem_cons_succ, List.setIfInBounds_toArray, List.set_cons_zero, List.set_cons_succ])
              replace hp := hid (hp.out.below b9 hp.out.lt)
              replace hcur := hid (bt hcur.out b9)
              clear b9 hr2
              refine wpAny_take (i := 12) (v := ?_) rfl (by kernel_rfl) (by kernel_rfl) (by kernel_rfl) (fun _ _ _ h => h) (Or.inl ⟨by rfl, ?_⟩) ?_
              rotate_left 1
              (intro w; go_simp; try with_reducible rfl)
              (try simp only [Act.put, List.getElem_toArray, List.getElem_cons_zero, List.getElem_cons_succ, List.setIfInBounds_toArray, List.set_cons_zero, List.set_cons_succ])
              refine wpAny_take (i := 13) (v := ?_) rfl (by kernel_rfl) (by kernel_rfl) (by kernel_rfl) (fun _ _ _ h => h) (Or.inl ⟨by rfl, ?_⟩) ?_
              rotate_left 1
              (intro w; go_simp; try with_reducible rfl)
              (try simp only [Act.put, List.getElem_toArray, List.getElem_cons_zero, List.getElem_cons_succ, List.setIfInBounds_toArray, List.set_cons_zero, List.set_cons_succ])
              refine wpAny_take (i := 14) (v := ?_) rfl (by kernel_rfl) (by kernel_rfl) (by kernel_rfl) (fun _ _ _ h => h) (Or.inl ⟨by rfl, ?_⟩) ?_
              rotate_left 1
              (intro w; go_simp; try with_reducible rfl)
              (try simp only [Act.put, List.getElem_toArray, List.getElem_cons_zero, List.getElem_cons_succ, List.setIfInBounds_toArray, List.set_cons_zero, List.set_cons_succ])
              refine wpAny_ready (rs := [16]) (by kernel_rfl) (by simp) ?_
              refine AllReady.cons rfl (fun K hK => ?_) AllReady.nil
              obtain ⟨p0, p1, p2, p3, pf⟩ := hp.out.four
              go_simp
              clear p0 p1 p2 p3 pf
              refine hK _ _ ?_
              clear hK K
              (try simp only [Act.put, List.getElem_toArray, List.getElem_cons_zero, List.getElem_cons_succ, List.setIfInBounds_toArray, List.set_cons_zero, List.set_cons_succ])
              refine wpAny_take (i := 17) (v := ?_) rfl (by kernel_rfl) (by kernel_rfl) (by kernel_rfl) (fun _ _ _ h => h) (Or.inl ⟨by rfl, ?_⟩) ?_
              rotate_left 1
              (intro w; go_simp; try with_reducible rfl)
              (try simp only [Act.put, List.getElem_toArray, List.getElem_cons_zero, List.getElem_cons_succ, List.setIfInBounds_toArray, List.set_cons_zero, List.set_cons_succ])
              refine wpAny_done (by kernel_rfl) ?_ _
              go_wp2_with fail
              go_meet
              exact ⟨rfl, hfin.out _ _ hpB.out hcur.out⟩
            refine AllReady.cons rfl (fun K hK => ?_) AllReady.nil
            go_simp
            refine hK _ _ ?_
            clear hK K
            (try simp only [Act.put, List.getElem_toArray, List.getElem_cons_zero, List.getElem_cons_succ, List.setIfInBounds_toArray, List.set_cons_zero, List.set_cons_succ])
            have hxg := hid (Nat.ne_of_gt hg.out.lt)
            replace hg := hid (hg.out.alloc (.cells #[.string last] 9))
            replace hp := hid (hp.out.alloc (.cells #[.string last] 9))
            have hx := hid (Blk.new V2 [.string last] 9)
            have hxB := hid hcur.out.size
            replace hcur := hid (hcur.out.alloc hcur.out.size (.cells #[.string last] 9))
            generalize V2.alloc (.cells #[.string last] 9) = V3 at hg hp hx hcur ⊢
            refine wpAny_ready (rs := [2]) (by kernel_rfl) (by simp) ?_
            refine AllReady.cons rfl (fun K hK => ?_) AllReady.nil
            obtain ⟨so, sc, V4, hrun, hr0, hbW, hkp⟩ := app_list W8.heap.size V3 _ (s0 :: t) _ _ _ (hsv8.out.below hcur.out) hlen.out hl17.out hm1000.out hg.out hgB.out
            refine step_append_run rfl (.tmp 97) (.tmp 98) 22 rfl _ _ _ _ rfl rfl hrun ?_
            refine hK _ _ ?_
            clear hK K
            (try simp only [Act.put, List.getElem_toArray, List.getElem_cons_zero, List.getElem_cons_succ, List.setIfInBounds_toArray, List.set_cons_zero, List.set_cons_succ])
            have hr := hid hr0
            replace hx := hid (hkp _ _ _ hx.out hxg.out)
            replace hp := hid (hkp _ _ _ hp.out hpg.out)
            replace hcur := hid (hcur.out.trans hbW)
            clear hr0 hrun hbW hkp hg hgB
            refine wpAny_ready (rs := [10]) (by kernel_rfl) (by simp) ?_
            refine AllReady.cons rfl (fun K hK => ?_) AllReady.nil
            obtain ⟨so2, sc2, V5, hrun, hr0, hbW, hkp⟩ := app_last W8.heap.size V4 _ (s0 :: t) last _ _ hr.out hx.out hm1001.out hcur.out.size
            refine step_append_run rfl (.tmp 99) (.tmp 106) 22 rfl _ _ _ _ rfl rfl hrun ?_
            refine hK _ _ ?_
            clear hK K
            (try simp only [Act.put, List.getElem_toArray, List.getElem_cons_zero, List.getElem_cons_succ, List.setIfInBounds_toArray, List.set_cons_zero, List.set_cons_succ])
            have hr2 := hid hr0
            replace hp := hid (hkp _ _ _ hp.out (by decide))
            replace hcur := hid (hcur.out.trans hbW)
            clear hr0 hrun hbW hkp hr hx
            refine wpAny_ready (rs := [11]) (by kernel_rfl) (by simp) ?_
            refine AllReady.cons rfl (fun K hK => ?_) AllReady.nil
            go_simp
            (with_reducible refine (join_any (s0 :: t ++ [last]) _ _ (own_strs hr2.out hlen2.out)).mono ?_)
            rw [hmore2.out last]
            rintro e V6 ⟨rfl, b9⟩
            unfold frV zeroFr
            dsimp only
            refine hK _ _ ?_
            clear hK K
            (try simp only [Act.put, List.getElem_toArray, List.getElem_cons_zero, List.getElem_cons_succ, List.setIfInBounds_toArray, List.set_cons_zero, List.set_cons_succ])
            replace hp := hid (hp.out.below b9 hp.out.lt)
            replace hcur := hid (bt hcur.out b9)
            clear b9 hr2
            refine wpAny_take (i := 12) (v := ?_) rfl (by kernel_rfl) (by kernel_rfl) (by kernel_rfl) (fun _ _ _ h => h) (Or.inl ⟨by rfl, ?_⟩) ?_
            rotate_left 1
            (intro w; go_simp; try with_reducible rfl)
            (try simp only [Act.put, List.getElem_toArray, List.getElem_cons_zero, List.getElem_cons_succ, List.setIfInBounds_toArray, List.set_cons_zero, List.set_cons_succ])
            refine wpAny_take (i := 13) (v := ?_) rfl (by kernel_rfl) (by kernel_rfl) (by kernel_rfl) (fun _ _ _ h => h) (Or.inl ⟨by rfl, ?_⟩) ?_
            rotate_left 1
            (intro w; go_simp; try with_reducible rfl)
            (try simp only [Act.put, List.getElem_toArray, List.getElem_cons_zero, List.getElem_cons_succ, List.setIfInBounds_toArray, List.set_cons_zero, List.set_cons_succ])
            refine wpAny_take (i := 14) (v := ?_) rfl (by kernel_rfl) (by kernel_rfl) (by kernel_rfl) (fun _ _ _ h => h) (Or.inl ⟨by rfl, ?_⟩) ?_
            rotate_left 1
            (intro w; go_simp; try with_reducible rfl)
            (try simp only [Act.put, List.getElem_toArray, List.getElem_cons_zero, List.getElem_cons_succ, List.setIfInBounds_toArray, List.set_cons_zero, List.set_cons_succ])
            refine wpAny_ready (rs := [16]) (by kernel_rfl) (by simp) ?_
            refine AllReady.cons rfl (fun K hK => ?_) AllReady.nil
            obtain ⟨p0, p1, p2, p3, pf⟩ := hp.out.four
            go_simp
            clear p0 p1 p2 p3 pf
            refine hK _ _ ?_
            clear hK K
            (try simp only [Act.put, List.getElem_toArray, List.getElem_cons_zero, List.getElem_cons_succ, List.setIfInBounds_toArray, List.set_cons_zero, List.set_cons_succ])
            refine wpAny_take (i := 17) (v := ?_) rfl (by kernel_rfl) (by kernel_rfl) (by kernel_rfl) (fun _ _ _ h => h) (Or.inl ⟨by rfl, ?_⟩) ?_
            rotate_left 1
            (intro w; go_simp; try with_reducible rfl)
            (try simp only [Act.put, List.getElem_toArray, List.getElem_cons_zero, List.getElem_cons_succ, List.setIfInBounds_toArray, List.set_cons_zero, List.set_cons_succ])
            refine wpAny_done (by kernel_rfl) ?_ _
            go_wp2_with fail
            go_meet
            exact ⟨rfl, hfin.out _ _ hpB.out hcur.out⟩
        refine AllReady.cons rfl (fun K hK => ?_) ?_
        · skip
          go_simp
          refine hK _ _ ?_
          clear hK K
          (try simp only [Act.put, List.getElem_toArray, List.getElem_cons_zero, List.getElem_cons_succ, List.setIfInBounds_toArray, List.set_cons_zero, List.set_cons_succ])
          have hx := hid (Blk.new V0 [.string last] 9)
          have hxB := hid hcur.out.size
          replace hcur := hid (hcur.out.alloc hcur.out.size (.cells #[.string last] 9))
          generalize V0.alloc (.cells #[.string last] 9) = V1 at hx hcur ⊢
          refine wpAny_ready (rs := [0, 15]) (by kernel_rfl) (by simp) ?_
          refine AllReady.cons rfl (fun K hK => ?_) ?_
          · as_aux_lemma =>
              go_simp
              refine hK _ _ ?_
              clear hK K
              (try simp only [Act.put, List.getElem_toArray, List.getElem_cons_zero, List.getElem_cons_succ, List.setIfInBounds_toArray, List.set_cons_zero, List.set_cons_succ])
              have hxg := hid (Nat.ne_of_lt hx.out.lt)
              replace hx := hid (hx.out.alloc (.cells #[] 9))
              have hg := hid (Blk.new V1 [] 9)
              have hgB := hid hcur.out.size
              replace hcur := hid (hcur.out.alloc hcur.out.size (.cells #[] 9))
              generalize V1.alloc (.cells #[] 9) = V2 at hx hg hcur ⊢
              refine wpAny_ready (rs := [2, 15]) (by kernel_rfl) (by simp) ?_
              refine AllReady.cons rfl (fun K hK => ?_) ?_
              · skip
                obtain ⟨so, sc, V3, hrun, hr0, hbW, hkp⟩ := app_list W8.heap.size V2 _ (s0 :: t) _ _ _ (hsv8.out.below hcur.out) hlen.out hl17.out hm1000.out hg.out hgB.out
                refine step_append_run rfl (.tmp 97) (.tmp 98) 22 rfl _ _ _ _ rfl rfl hrun ?_
                refine hK _ _ ?_
                clear hK K
                (try simp only [Act.put, List.getElem_toArray, List.getElem_cons_zero, List.getElem_cons_succ, List.setIfInBounds_toArray, List.set_cons_zero, List.set_cons_succ])
                have hr := hid hr0
                replace hx := hid (hkp _ _ _ hx.out hxg.out)
                replace hcur := hid (hcur.out.trans hbW)
                clear hr0 hrun hbW hkp hg hgB
                refine wpAny_ready (rs := [10, 15]) (by kernel_rfl) (by simp) ?_
                refine AllReady.cons rfl (fun K hK => ?_) ?_
                · skip
                  obtain ⟨so2, sc2, V4, hrun, hr0, hbW, hkp⟩ := app_last W8.heap.size V3 _ (s0 :: t) last _ _ hr.out hx.out hm1001.out hcur.out.size
                  refine step_append_run rfl (.tmp 99) (.tmp 106) 22 rfl _ _ _ _ rfl rfl hrun ?_
                  refine hK _ _ ?_
                  clear hK K
                  (try simp only [Act.put, List.getElem_toArray, List.getElem_cons_zero, List.getElem_cons_succ, List.setIfInBounds_toArray, List.set_cons_zero, List.set_cons_succ])
                  have hr2 := hid hr0
                  replace hcur := hid (hcur.out.trans hbW)
                  clear hr0 hrun hbW hkp hr hx
                  refine wpAny_ready (rs := [11, 15]) (by kernel_rfl) (by simp) ?_
                  refine AllReady.cons rfl (fun K hK => ?_) ?_
                  · skip
                    go_simp
                    (with_reducible refine (join_any (s0 :: t ++ [last]) _ _ (own_strs hr2.out hlen2.out)).mono ?_)
                    rw [hmore2.out last]
                    rintro e V5 ⟨rfl, b9⟩
                    unfold frV zeroFr
                    dsimp only
                    refine hK _ _ ?_
                    clear hK K
                    (try simp only [Act.put, List.getElem_toArray, List.getElem_cons_zero, List.getElem_cons_succ, List.setIfInBounds_toArray, List.set_cons_zero, List.set_cons_succ])
                    replace hcur := hid (bt hcur.out b9)
                    clear b9 hr2
                    refine wpAny_take (i := 12) (v := ?_) rfl (by kernel_rfl) (by kernel_rfl) (by kernel_rfl) (fun _ _ _ h => h) (Or.inl ⟨by rfl, ?_⟩) ?_
                    rotate_left 1
                    (intro w; go_simp; try with_reducible rfl)
                    (try simp only [Act.put, List.getElem_toArray, List.getElem_cons_zero, List.getElem_cons_succ, List.setIfInBounds_toArray, List.set_cons_zero, List.set_cons_succ])
                    refine wpAny_take (i := 13) (v := ?_) rfl (by kernel_rfl) (by kernel_rfl) (by kernel_rfl) (fun _ _ _ h => h) (Or.inl ⟨by rfl, ?_⟩) ?_
                    rotate_left 1
                    (intro w; go_simp; try with_reducible rfl)
                    (try simp only [Act.put, List.getElem_toArray, List.getElem_cons_zero, List.getElem_cons_succ, List.setIfInBounds_toArray, List.set_cons_zero, List.set_cons_succ])
                    refine wpAny_take (i := 14) (v := ?_) rfl (by kernel_rfl) (by kernel_rfl) (by kernel_rfl) (fun _ _ _ h => h) (Or.inl ⟨by rfl, ?_⟩) ?_
                    rotate_left 1
                    (intro w; go_simp; try with_reducible rfl)
                    (try simp only [Act.put, List.getElem_toArray, List.getElem_cons_zero, List.getElem_cons_succ, List.setIfInBounds_toArray, List.set_cons_zero, List.set_cons_succ])
                    refine wpAny_ready (rs := [15]) (by kernel_rfl) (by simp) ?_
                    refine AllReady.cons rfl (fun K hK => ?_) AllReady.nil
                    go_simp
                    refine hK _ _ ?_
                    clear hK K
                    (try simp only [Act.put, List.getElem_toArray, List.getElem_cons_zero, List.getElem_cons_succ, List.setIfInBounds_toArray, List.set_cons_zero, List.set_cons_succ])
                    have hp := hid (Blk.new V5 [.int .u8 0, .int .u64 0, .int .u64 0, .string ⟨#[]⟩] 40)
                    have hpB := hid hcur.out.size
                    replace hcur := hid (hcur.out.alloc hcur.out.size (.cells #[.int .u8 0, .int .u64 0, .int .u64 0, .string ⟨#[]⟩] 40))
                    generalize V5.alloc (.cells #[.int .u8 0, .int .u64 0, .int .u64 0, .string ⟨#[]⟩] 40) = V6 at hp hcur ⊢
                    refine wpAny_ready (rs := [16]) (by kernel_rfl) (by simp) ?_
                    refine AllReady.cons rfl (fun K hK => ?_) AllReady.nil
                    obtain ⟨p0, p1, p2, p3, pf⟩ := hp.out.four
                    go_simp
                    clear p0 p1 p2 p3 pf
                    refine hK _ _ ?_
                    clear hK K
                    (try simp only [Act.put, List.getElem_toArray, List.getElem_cons_zero, List.getElem_cons_succ, List.setIfInBounds_toArray, List.set_cons_zero, List.set_cons_succ])
                    refine wpAny_take (i := 17) (v := ?_) rfl (by kernel_rfl) (by kernel_rfl) (by kernel_rfl) (fun _ _ _ h => h) (Or.inl ⟨by rfl, ?_⟩) ?_
                    rotate_left 1
                    (intro w; go_simp; try with_reducible rfl)
                    (try simp only [Act.put, List.getElem_toArray, List.getElem_cons_zero, List.getElem_cons_succ, List.setIfInBounds_toArray, List.set_cons_zero, List.set_cons_succ])
                    refine wpAny_done (by kernel_rfl) ?_ _
                    go_wp2_with fail
                    go_meet
                    exact ⟨rfl, hfin.out _ _ hpB.out hcur.out⟩
                  refine AllReady.cons rfl (fun K hK => ?_) AllReady.nil
                  go_simp
                  refine hK _ _ ?_
                  clear hK K
                  (try simp only [Act.put, List.getElem_toArray, List.getElem_cons_zero, List.getElem_cons_succ, List.setIfInBounds_toArray, List.set_cons_zero, List.set_cons_succ])
                  replace hr2 := hid (hr2.out.alloc (.cells #[.int .u8 0, .int .u64 0, .int .u64 0, .string ⟨#[]⟩] 40))
                  have hp := hid (Blk.new V4 [.int .u8 0, .int .u64 0, .int .u64 0, .string ⟨#[]⟩] 40)
                  have hpB := hid hcur.out.size
                  replace hcur := hid (hcur.out.alloc hcur.out.size (.cells #[.int .u8 0, .int .u64 0, .int .u64 0, .string ⟨#[]⟩] 40))
                  generalize V4.alloc (.cells #[.int .u8 0, .int .u64 0, .int .u64 0, .string ⟨#[]⟩] 40) = V5 at hr2 hp hcur ⊢
                  refine wpAny_ready (rs := [11]) (by kernel_rfl) (by simp) ?_
                  refine AllReady.cons rfl (fun K hK => ?_) AllReady.nil
                  go_simp
                  (with_reducible refine (join_any (s0 :: t ++ [last]) _ _ (own_strs hr2.out hlen2.out)).mono ?_)
                  rw [hmore2.out last]
                  rintro e V6 ⟨rfl, b9⟩
                  unfold frV zeroFr
                  dsimp only
                  refine hK _ _ ?_
                  clear hK K
                  (try simp only [Act.put, List.getElem_toArray, List.getElem_cons_zero, List.getElem_cons_succ, List.setIfInBounds_toArray, List.set_cons_zero, List.set_cons_succ])
                  replace hp := hid (hp.out.below b9 hp.out.lt)
                  replace hcur := hid (bt hcur.out b9)
                  clear b9 hr2
                  refine wpAny_take (i := 12) (v := ?_) rfl (by kernel_rfl) (by kernel_rfl) (by kernel_rfl) (fun _ _ _ h => h) (Or.inl ⟨by rfl, ?_⟩) ?_
                  rotate_left 1
                  (intro w; go_simp; try with_reducible rfl)
                  (try simp only [Act.put, List.getElem_toArray, List.getElem_cons_zero, List.getElem_cons_succ, List.setIfInBounds_toArray, List.set_cons_zero, List.set_cons_succ])
                  refine wpAny_take (i := 13) (v := ?_) rfl (by kernel_rfl) (by kernel_rfl) (by kernel_rfl) (fun _ _ _ h => h) (Or.inl ⟨by rfl, ?_⟩) ?_
                  rotate_left 1
                  (intro w; go_simp; try with_reducible rfl)
                  (try simp only [Act.put, List.getElem_toArray, List.getElem_cons_zero, List.getElem_cons_succ, List.setIfInBounds_toArray, List.set_cons_zero, List.set_cons_succ])
                  refine wpAny_take (i := 14) (v := ?_) rfl (by kernel_rfl) (by kernel_rfl) (by kernel_rfl) (fun _ _ _ h => h) (Or.inl ⟨by rfl, ?_⟩) ?_
                  rotate_left 1
                  (intro w; go_simp; try with_reducible rfl)
                  (try simp only [Act.put, List.getElem_toArray, List.getElem_cons_zero, List.getElem_cons_succ, List.setIfInBounds_toArray, List.set_cons_zero, List.set_cons_succ])
                  refine wpAny_ready (rs := [16]) (by kernel_rfl) (by simp) ?_
                  refine AllReady.cons rfl (fun K hK => ?_) AllReady.nil
                  obtain ⟨p0, p1, p2, p3, pf⟩ := hp.out.four
                  go_simp
                  clear p0 p1 p2 p3 pf
                  refine hK _ _ ?_
                  clear hK K
                  (try simp only [Act.put, List.getElem_toArray, List.getElem_cons_zero, List.getElem_cons_succ, List.setIfInBounds_toArray, List.set_cons_zero, List.set_cons_succ])
                  refine wpAny_take (i := 17) (v := ?_) rfl (by kernel_rfl) (by kernel_rfl) (by kernel_rfl) (fun _ _ _ h => h) (Or.inl ⟨by rfl, ?_⟩) ?_
                  rotate_left 1
                  (intro w; go_simp; try with_reducible rfl)
                  (try simp only [Act.put, List.getElem_toArray, List.getElem_cons_zero, List.getElem_cons_succ, List.setIfInBounds_toArray, List.set_cons_zero, List.set_cons_succ])
                  refine wpAny_done (by kernel_rfl) ?_ _
                  go_wp2_with fail
                  go_meet
                  exact ⟨rfl, hfin.out _ _ hpB.out hcur.out⟩
                refine AllReady.cons rfl (fun K hK => ?_) AllReady.nil
                go_simp
                refine hK _ _ ?_
                clear hK K
                (try simp only [Act.put, List.getElem_toArray, List.getElem_cons_zero, List.getElem_cons_succ, List.setIfInBounds_toArray, List.set_cons_zero, List.set_cons_succ])
                replace hr := hid (hr.out.alloc (.cells #[.int .u8 0, .int .u64 0, .int .u64 0, .string ⟨#[]⟩] 40))
                replace hx := hid (hx.out.alloc (.cells #[.int .u8 0, .int .u64 0, .int .u64 0, .string ⟨#[]⟩] 40))
                have hp := hid (Blk.new V3 [.int .u8 0, .int .u64 0, .int .u64 0, .string ⟨#[]⟩] 40)
                have hpB := hid hcur.out.size
                replace hcur := hid (hcur.out.alloc hcur.out.size (.cells #[.int .u8 0, .int .u64 0, .int .u64 0, .string ⟨#[]⟩] 40))
                generalize V3.alloc (.cells #[.int .u8 0, .int .u64 0, .int .u64 0, .string ⟨#[]⟩] 40) = V4 at hr hx hp hcur ⊢
                refine wpAny_ready (rs := [10]) (by kernel_rfl) (by simp) ?_
                refine AllReady.cons rfl (fun K hK => ?_) AllReady.nil
                obtain ⟨so2, sc2, V5, hrun, hr0, hbW, hkp⟩ := app_last W8.heap.size V4 _ (s0 :: t) last _ _ hr.out hx.out hm1001.out hcur.out.size
                refine step_append_run rfl (.tmp 99) (.tmp 106) 22 rfl _ _ _ _ rfl rfl hrun ?_
                refine hK _ _ ?_
                clear hK K
                (try simp only [Act.put, List.getElem_toArray, List.getElem_cons_zero, List.getElem_cons_succ, List.setIfInBounds_toArray, List.set_cons_zero, List.set_cons_succ])
                have hr2 := hid hr0
                replace hp := hid (hkp _ _ _ hp.out (by decide))
                replace hcur := hid (hcur.out.trans hbW)
                clear hr0 hrun hbW hkp hr hx
                refine wpAny_ready (rs := [11]) (by kernel_rfl) (by simp) ?_
                refine AllReady.cons rfl (fun K hK => ?_) AllReady.nil
                go_simp
                (with_reducible refine (join_any (s0 :: t ++ [last]) _ _ (own_strs hr2.out hlen2.out)).mono ?_)
                rw [hmore2.out last]
                rintro e V6 ⟨rfl, b9⟩
                unfold frV zeroFr
                dsimp only
                refine hK _ _ ?_
                clear hK K
                (try simp only [Act.put, List.getElem_toArray, List.getElem_cons_zero, List.getElem_cons_succ, List.setIfInBounds_toArray, List.set_cons_zero, List.set_cons_succ])
                replace hp := hid (hp.out.below b9 hp.out.lt)
                replace hcur := hid (bt hcur.out b9)
                clear b9 hr2
                refine wpAny_take (i := 12) (v := ?_) rfl (by kernel_rfl) (by kernel_rfl) (by kernel_rfl) (fun _ _ _ h => h) (Or.inl ⟨by rfl, ?_⟩) ?_
                rotate_left 1
                (intro w; go_simp; try with_reducible rfl)
                (try simp only [Act.put, List.getElem_toArray, List.getElem_cons_zero, List.getElem_cons_succ, List.setIfInBounds_toArray, List.set_cons_zero, List.set_cons_succ])
                refine wpAny_take (i := 13) (v := ?_) rfl (by kernel_rfl) (by kernel_rfl) (by kernel_rfl) (fun _ _ _ h => h) (Or.inl ⟨by rfl, ?_⟩) ?_
                rotate_left 1
                (intro w; go_simp; try with_reducible rfl)
                (try simp only [Act.put, List.getElem_toArray, List.getElem_cons_zero, List.getElem_cons_succ, List.setIfInBounds_toArray, List.set_cons_zero, List.set_cons_succ])
                refine wpAny_take (i := 14) (v := ?_) rfl (by kernel_rfl) (by kernel_rfl) (by kernel_rfl) (fun _ _ _ h => h) (Or.inl ⟨by rfl, ?_⟩) ?_
                rotate_left 1
                (intro w; go_simp; try with_reducible rfl)
                (try simp only [Act.put, List.getElem_toArray, List.getElem_cons_zero, List.getElem_cons_succ, List.setIfInBounds_toArray, List.set_cons_zero, List.set_cons_succ])
                refine wpAny_ready (rs := [16]) (by kernel_rfl) (by simp) ?_
                refine AllReady.cons rfl (fun K hK => ?_) AllReady.nil
                obtain ⟨p0, p1, p2, p3, pf⟩ := hp.out.four
                go_simp
                clear p0 p1 p2 p3 pf
                refine hK _ _ ?_
                clear hK K
                (try simp only [Act.put, List.getElem_toArray, List.getElem_cons_zero, List.getElem_cons_succ, List.setIfInBounds_toArray, List.set_cons_zero, List.set_cons_succ])
                refine wpAny_take (i := 17) (v := ?_) rfl (by kernel_rfl) (by kernel_rfl) (by kernel_rfl) (fun _ _ _ h => h) (Or.inl ⟨by rfl, ?_⟩) ?_
                rotate_left 1
                (intro w; go_simp; try with_reducible rfl)
                (try simp only [Act.put, List.getElem_toArray, List.getElem_cons_zero, List.getElem_cons_succ, List.setIfInBounds_toArray, List.set_cons_zero, List.set_cons_succ])
                refine wpAny_done (by kernel_rfl) ?_ _
                go_wp2_with fail
                go_meet
                exact ⟨rfl, hfin.out _ _ hpB.out hcur.out⟩
              refine AllReady.cons rfl (fun K hK => ?_) AllReady.nil
              go_simp
              refine hK _ _ ?_
              clear hK K
              (try simp only [Act.put, List.getElem_toArray, List.getElem_cons_zero, List.getElem_cons_succ, List.setIfInBounds_toArray, List.set_cons_zero, List.set_cons_succ])
              have hpg := hid (Nat.ne_of_gt hg.out.lt)
              replace hg := hid (hg.out.alloc (.cells #[.int .u8 0, .int .u64 0, .int .u64 0, .string ⟨#[]⟩] 40))
              replace hx := hid (hx.out.alloc (.cells #[.int .u8 0, .int .u64 0, .int .u64 0, .string ⟨#[]⟩] 40))
              have hp := hid (Blk.new V2 [.int .u8 0, .int .u64 0, .int .u64 0, .string ⟨#[]⟩] 40)
              have hpB := hid hcur.out.size
              replace hcur := hid (hcur.out.alloc hcur.out.size (.cells #[.int .u8 0, .int .u64 0, .int .u64 0, .string ⟨#[]⟩] 40))
              generalize V2.alloc (.cells #[.int .u8 0, .int .u64 0, .int .u64 0, .string ⟨#[]⟩] 40) = V3 at hg hx hp hcur ⊢
              refine wpAny_ready (rs := [2]) (by kernel_rfl) (by simp) ?_
              refine AllReady.cons rfl (fun K hK => ?_) AllReady.nil
              obtain ⟨so, sc, V4, hrun, hr0, hbW, hkp⟩ := app_list W8.heap.size V3 _ (s0 :: t) _ _ _ (hsv8.out.below hcur.out) hlen.out hl17.out hm1000.out hg.out hgB.out
              refine step_append_run rfl (.tmp 97) (.tmp 98) 22 rfl _ _ _ _ rfl rfl hrun ?_
              refine hK _ _ ?_
              clear hK K
              (try simp only [Act.put, List.getElem_toArray, List.getElem_cons_zero, List.getElem_cons_succ, List.setIfInBounds_toArray, List.set_cons_zero, List.set_cons_succ])
              have hr := hid hr0
              replace hx := hid (hkp _ _ _ hx.out hxg.out)
              replace hp := hid (hkp _ _ _ hp.out hpg.out)
              replace hcur := hid (hcur.out.trans hbW)
              clear hr0 hrun hbW hkp hg hgB
              refine wpAny_ready (rs := [10]) (by kernel_rfl) (by simp) ?_
              refine AllReady.cons rfl (fun K hK => ?_) AllReady.nil
              obtain ⟨so2, sc2, V5, hrun, hr0, hbW, hkp⟩ := app_last W8.heap.size V4 _ (s0 :: t) last _ _ hr.out hx.out hm1001.out hcur.out.size
              refine step_append_run rfl (.tmp 99) (.tmp 106) 22 rfl _ _ _ _ rfl rfl hrun ?_
              refine hK _ _ ?_
              clear hK K
              (try simp only [Act.put, List.getElem_toArray, List.getElem_cons_zero, List.getElem_cons_succ, List.setIfInBounds_toArray, List.set_cons_zero, List.set_cons_succ])
              have hr2 := hid hr0
              replace hp := hid (hkp _ _ _ hp.out (by decide))
              replace hcur := hid (hcur.out.trans hbW)
              clear hr0 hrun hbW hkp hr hx
              refine wpAny_ready (rs := [11]) (by kernel_rfl) (by simp) ?_
              refine AllReady.cons rfl (fun K hK => ?_) AllReady.nil
              go_simp
              (with_reducible refine (join_any (s0 :: t ++ [last]) _ _ (own_strs hr2.out hlen2.out)).mono ?_)
              rw [hmore2.out last]
              rintro e V6 ⟨rfl, b9⟩
              unfold frV zeroFr
              dsimp only
              refine hK _ _ ?_
              clear hK K
              (try simp only [Act.put, List.getElem_toArray, List.getElem_cons_zero, List.getElem_cons_succ, List.setIfInBounds_toArray, List.set_cons_zero, List.set_cons_succ])
              replace hp := hid (hp.out.below b9 hp.out.lt)
              replace hcur := hid (bt hcur.out b9)
              clear b9 hr2
              refine wpAny_take (i := 12) (v := ?_) rfl (by kernel_rfl) (by kernel_rfl) (by kernel_rfl) (fun _ _ _ h => h) (Or.inl ⟨by rfl, ?_⟩) ?_
              rotate_left 1
              (intro w; go_simp; try with_reducible rfl)
              (try simp only [Act.put, List.getElem_toArray, List.getElem_cons_zero, List.getElem_cons_succ, List.setIfInBounds_toArray, List.set_cons_zero, List.set_cons_succ])
              refine wpAny_take (i := 13) (v := ?_) rfl (by kernel_rfl) (by kernel_rfl) (by kernel_rfl) (fun _ _ _ h => h) (Or.inl ⟨by rfl, ?_⟩) ?_
              rotate_left 1
              (intro w; go_simp; try with_reducible rfl)
              (try simp only [Act.put, List.getElem_toArray, List.getElem_cons_zero, List.getElem_cons_succ, List.setIfInBounds_toArray, List.set_cons_zero, List.set_cons_succ])
              refine wpAny_take (i := 14) (v := ?_) rfl (by kernel_rfl) (by kernel_rfl) (by kernel_rfl) (fun _ _ _ h => h) (Or.inl ⟨by rfl, ?_⟩) ?_
              rotate_left 1
              (intro w; go_simp; try with_reducible rfl)
              (try simp only [Act.put, List.getElem_toArray, List.getElem_cons_zero, List.getElem_cons_succ, List.setIfInBounds_toArray, List.set_cons_zero, List.set_cons_succ])
              refine wpAny_ready (rs := [16]) (by kernel_rfl) (by simp) ?_
              refine AllReady.cons rfl (fun K hK => ?_) AllReady.nil
              obtain ⟨p0, p1, p2, p3, pf⟩ := hp.out.four
              go_simp
              clear p0 p1 p2 p3 pf
              refine hK _ _ ?_
              clear hK K
              (try simp only [Act.put, List.getElem_toArray, List.getElem_cons_zero, List.getElem_cons_succ, List.setIfInBounds_toArray, List.set_cons_zero, List.set_cons_succ])
              refine wpAny_take (i := 17) (v := ?_) rfl (by kernel_rfl) (by kernel_rfl) (by kernel_rfl) (fun _ _ _ h => h) (Or.inl ⟨by rfl, ?_⟩) ?_
              rotate_left 1
              (intro w; go_simp; try with_reducible rfl)
              (try simp only [Act.put, List.getElem_toArray, List.getElem_cons_zero, List.getElem_cons_succ, List.setIfInBounds_toArray, List.set_cons_zero, List.set_cons_succ])
              refine wpAny_done (by kernel_rfl) ?_ _
              go_wp2_with fail
              go_meet
              exact ⟨rfl, hfin.out _ _ hpB.out hcur.out⟩
          refine AllReady.cons rfl (fun K hK => ?_) AllReady.nil
          as_aux_lemma =>
            go_simp
            refine hK _ _ ?_
            clear hK K
            (try simp only [Act.put, List.getElem_toArray, List.getElem_cons_zero, List.getElem_cons_succ, List.setIfInBounds_toArray, List.set_cons_zero, List.set_cons_succ])
            replace hx := hid (hx.out.alloc (.cells #[.int .u8 0, .int .u64 0, .int .u64 0, .string ⟨#[]⟩] 40))
            have hp := hid (Blk.new V1 [.int .u8 0, .int .u64 0, .int .u64 0, .string ⟨#[]⟩] 40)
            have hpB := hid hcur.out.size
            replace hcur := hid (hcur.out.alloc hcur.out.size (.cells #[.int .u8 0, .int .u64 0, .int .u64 0, .string ⟨#[]⟩] 40))
            generalize V1.alloc (.cells #[.int .u8 0, .int .u64 0, .int .u64 0, .string ⟨#[]⟩] 40) = V2 at hx hp hcur ⊢
            refine wpAny_ready (rs := [0]) (by kernel_rfl) (by simp) ?_
            refine AllReady.cons rfl (fun K hK => ?_) AllReady.nil
            go_simp
            refine hK _ _ ?_
            clear hK K
            (try simp only [Act.put, List.getElem_toArray, List.getElem_cons_zero, List.getElem_cons_succ, List.setIfInBounds_toArray, List.set_cons_zero, List.set_cons_succ])
            have hpg := hid (Nat.ne_of_lt hp.out.lt)
            have hxg := hid (Nat.ne_of_lt hx.out.lt)
            replace hx := hid (hx.out.alloc (.cells #[] 9))
            replace hp := hid (hp.out.alloc (.cells #[] 9))
            have hg := hid (Blk.new V2 [] 9)
            have hgB := hid hcur.out.size
            replace hcur := hid (hcur.out.alloc hcur.out.size (.cells #[] 9))
            generalize V2.alloc (.cells #[] 9) = V3 at hx hp hg hcur ⊢
            refine wpAny_ready (rs := [2]) (by kernel_rfl) (by simp) ?_
            refine AllReady.cons rfl (fun K hK => ?_) AllReady.nil
            obtain ⟨so, sc, V4, hrun, hr0, hbW, hkp⟩ := app_list W8.heap.size V3 _ (s0 :: t) _ _ _ (hsv8.out.below hcur.out) hlen.out hl17.out hm1000.out hg.out hgB.out
            refine step_append_run rfl (.tmp 97) (.tmp 98) 22 rfl _ _ _ _ rfl rfl hrun ?_
            refine hK _ _ ?_
            clear hK K
            (try simp only [Act.put, List.getElem_toArray, List.getElem_cons_zero, List.getElem_cons_succ, List.setIfInBounds_toArray, List.set_cons_zero, List.set_cons_succ])
            have hr := hid hr0
            replace hx := hid (hkp _ _ _ hx.out hxg.out)
            replace hp := hid (hkp _ _ _ hp.out hpg.out)
            replace hcur := hid (hcur.out.trans hbW)
            clear hr0 hrun hbW hkp hg hgB
            refine wpAny_ready (rs := [10]) (by kernel_rfl) (by simp) ?_
            refine AllReady.cons rfl (fun K hK => ?_) AllReady.nil
            obtain ⟨so2, sc2, V5, hrun, hr0, hbW, hkp⟩ := app_last W8.heap.size V4 _ (s0 :: t) last _ _ hr.out hx.out hm1001.out hcur.out.size
            refine step_append_run rfl (.tmp 99) (.tmp 106) 22 rfl _ _ _ _ rfl rfl hrun ?_
            refine hK _ _ ?_
            clear hK K
            (try simp only [Act.put, List.getElem_toArray, List.getElem_cons_zero, List.getElem_cons_succ, List.setIfInBounds_toArray, List.set_cons_zero, List.set_cons_succ])
            have hr2 := hid hr0
            replace hp := hid (hkp _ _ _ hp.out (by decide))
            replace hcur := hid (hcur.out.trans hbW)
            clear hr0 hrun hbW hkp hr hx
            refine wpAny_ready (rs := [11]) (by kernel_rfl) (by simp) ?_
            refine AllReady.cons rfl (fun K hK => ?_) AllReady.nil
            go_simp
            (with_reducible refine (join_any (s0 :: t ++ [last]) _ _ (own_strs hr2.out hlen2.out)).mono ?_)
            rw [hmore2.out last]
            rintro e V6 ⟨rfl, b9⟩
            unfold frV zeroFr
            dsimp only
            refine hK _ _ ?_
            clear hK K
            (try simp only [Act.put, List.getElem_toArray, List.getElem_cons_zero, List.getElem_cons_succ, List.setIfInBounds_toArray, List.set_cons_zero, List.set_cons_succ])
            replace hp := hid (hp.out.below b9 hp.out.lt)
            replace hcur := hid (bt hcur.out b9)
            clear b9 hr2
            refine wpAny_take (i := 12) (v := ?_) rfl (by kernel_rfl) (by kernel_rfl) (by kernel_rfl) (fun _ _ _ h => h) (Or.inl ⟨by rfl, ?_⟩) ?_
            rotate_left 1
            (intro w; go_simp; try with_reducible rfl)
            (try simp only [Act.put, List.getElem_toArray, List.getElem_cons_zero, List.getElem_cons_succ, List.setIfInBounds_toArray, List.set_cons_zero, List.set_cons_succ])
            refine wpAny_take (i := 13) (v := ?_) rfl (by kernel_rfl) (by kernel_rfl) (by kernel_rfl) (fun _ _ _ h => h) (Or.inl ⟨by rfl, ?_⟩) ?_
            rotate_left 1
            (intro w; go_simp; try with_reducible rfl)
            (try simp only [Act.put, List.getElem_toArray, List.getElem_cons_zero, List.getElem_cons_succ, List.setIfInBounds_toArray, List.set_cons_zero, List.set_cons_succ])
            refine wpAny_take (i := 14) (v := ?_) rfl (by kernel_rfl) (by kernel_rfl) (by kernel_rfl) (fun _ _ _ h => h) (Or.inl ⟨by rfl, ?_⟩) ?_
            rotate_left 1
            (intro w; go_simp; try with_reducible rfl)
            (try simp only [Act.put, List.getElem_toArray, List.getElem_cons_zero, List.getElem_cons_succ, List.setIfInBounds_toArray, List.set_cons_zero, List.set_cons_succ])
            refine wpAny_ready (rs := [16]) (by kernel_rfl) (by simp) ?_
            refine AllReady.cons rfl (fun K hK => ?_) AllReady.nil
            obtain ⟨p0, p1, p2, p3, pf⟩ := hp.out.four
            go_simp
            clear p0 p1 p2 p3 pf
            refine hK _ _ ?_
            clear hK K
            (try simp only [Act.put, List.getElem_toArray, List.getElem_cons_zero, List.getElem_cons_succ, List.setIfInBounds_toArray, List.set_cons_zero, List.set_cons_succ])
            refine wpAny_take (i := 17) (v := ?_) rfl (by kernel_rfl) (by kernel_rfl) (by kernel_rfl) (fun _ _ _ h => h) (Or.inl ⟨by rfl, ?_⟩) ?_
            rotate_left 1
            (intro w; go_simp; try with_reducible rfl)
            (try simp only [Act.put, List.getElem_toArray, List.getElem_cons_zero, List.getElem_cons_succ, List.setIfInBounds_toArray, List.set_cons_zero, List.set_cons_succ])
            refine wpAny_done (by kernel_rfl) ?_ _
            go_wp2_with fail
            go_meet
            exact ⟨rfl, hfin.out _ _ hpB.out hcur.out⟩
        refine AllReady.cons rfl (fun K hK => ?_) AllReady.nil
        as_aux_lemma =>
          go_simp
          refine hK _ _ ?_
          clear hK K
          (try simp only [Act.put, List.getElem_toArray, List.getElem_cons_zero, List.getElem_cons_succ, List.setIfInBounds_toArray, List.set_cons_zero, List.set_cons_succ])
          have hp := hid (Blk.new V0 [.int .u8 0, .int .u64 0, .int .u64 0, .string ⟨#[]⟩] 40)
          have hpB := hid hcur.out.size
          replace hcur := hid (hcur.out.alloc hcur.out.size (.cells #[.int .u8 0, .int .u64 0, .int .u64 0, .string ⟨#[]⟩] 40))
          generalize V0.alloc (.cells #[.int .u8 0, .int .u64 0, .int .u64 0, .string ⟨#[]⟩] 40) = V1 at hp hcur ⊢
          refine wpAny_ready (rs := [0, 9]) (by kernel_rfl) (by simp) ?_
          refine AllReady.cons rfl (fun K hK => ?_) ?_
          · skip
            go_simp
            refine hK _ _ ?_
            clear hK K
            (try simp only [Act.put, List.getElem_toArray, List.getElem_cons_zero, List.getElem_cons_succ, List.setIfInBounds_toArray, List.set_cons_zero, List.set_cons_succ])
            have hpg := hid (Nat.ne_of_lt hp.out.lt)
            replace hp := hid (hp.out.alloc (.cells #[] 9))
            have hg := hid (Blk.new V1 [] 9)
            have hgB := hid hcur.out.size
            replace hcur := hid (hcur.out.alloc hcur.out.size (.cells #[] 9))
            generalize V1.alloc (.cells #[] 9) = V2 at hp hg hcur ⊢
            refine wpAny_ready (rs := [2, 9]) (by kernel_rfl) (by simp) ?_
            refine AllReady.cons rfl (fun K hK => ?_) ?_
            · skip
              obtain ⟨so, sc, V3, hrun, hr0, hbW, hkp⟩ := app_list W8.heap.size V2 _ (s0 :: t) _ _ _ (hsv8.out.below hcur.out) hlen.out hl17.out hm1000.out hg.out hgB.out
              refine step_append_run rfl (.tmp 97) (.tmp 98) 22 rfl _ _ _ _ rfl rfl hrun ?_
              refine hK _ _ ?_
              clear hK K
              (try simp only [Act.put, List.getElem_toArray, List.getElem_cons_zero, List.getElem_cons_succ, List.setIfInBounds_toArray, List.set_cons_zero, List.set_cons_succ])
              have hr := hid hr0
              replace hp := hid (hkp _ _ _ hp.out hpg.out)
              replace hcur := hid (hcur.out.trans hbW)
              clear hr0 hrun hbW hkp hg hgB
              refine wpAny_ready (rs := [9]) (by kernel_rfl) (by simp) ?_
              refine AllReady.cons rfl (fun K hK => ?_) AllReady.nil
              go_simp
              refine hK _ _ ?_
              clear hK K
              (try simp only [Act.put, List.getElem_toArray, List.getElem_cons_zero, List.getElem_cons_succ, List.setIfInBounds_toArray, List.set_cons_zero, List.set_cons_succ])
              replace hr := hid (hr.out.alloc (.cells #[.string last] 9))
              replace hp := hid (hp.out.alloc (.cells #[.string last] 9))
              have hx := hid (Blk.new V3 [.string last] 9)
              have hxB := hid hcur.out.size
              replace hcur := hid (hcur.out.alloc hcur.out.size (.cells #[.string last] 9))
              generalize V3.alloc (.cells #[.string last] 9) = V4 at hr hp hx hcur ⊢
              refine wpAny_ready (rs := [10]) (by kernel_rfl) (by simp) ?_
              refine AllReady.cons rfl (fun K hK => ?_) AllReady.nil
              obtain ⟨so2, sc2, V5, hrun, hr0, hbW, hkp⟩ := app_last W8.heap.size V4 _ (s0 :: t) last _ _ hr.out hx.out hm1001.out hcur.out.size
              refine step_append_run rfl (.tmp 99) (.tmp 106) 22 rfl _ _ _ _ rfl rfl hrun ?_
              refine hK _ _ ?_
              clear hK K
              (try simp only [Act.put, List.getElem_toArray, List.getElem_cons_zero, List.getElem_cons_succ, List.setIfInBounds_toArray, List.set_cons_zero, List.set_cons_succ])
              have hr2 := hid hr0
              replace hp := hid (hkp _ _ _ hp.out (by decide))
              replace hcur := hid (hcur.out.trans hbW)
              clear hr0 hrun hbW hkp hr hx
              refine wpAny_ready (rs := [11]) (by kernel_rfl) (by simp) ?_
              refine AllReady.cons rfl (fun K hK => ?_) AllReady.nil
              go_simp
              (with_reducible refine (join_any (s0 :: t ++ [last]) _ _ (own_strs hr2.out hlen2.out)).mono ?_)
              rw [hmore2.out last]
              rintro e V6 ⟨rfl, b9⟩
              unfold frV zeroFr
              dsimp only
              refine hK _ _ ?_
              clear hK K
              (try simp only [Act.put, List.getElem_toArray, List.getElem_cons_zero, List.getElem_cons_succ, List.setIfInBounds_toArray, List.set_cons_zero, List.set_cons_succ])
              replace hp := hid (hp.out.below b9 hp.out.lt)
              replace hcur := hid (bt hcur.out b9)
              clear b9 hr2
              refine wpAny_take (i := 12) (v := ?_) rfl (by kernel_rfl) (by kernel_rfl) (by kernel_rfl) (fun _ _ _ h => h) (Or.inl ⟨by rfl, ?_⟩) ?_
              rotate_left 1
              (intro w; go_simp; try with_reducible rfl)
              (try simp only [Act.put, List.getElem_toArray, List.getElem_cons_zero, List.getElem_cons_succ, List.setIfInBounds_toArray, List.set_cons_zero, List.set_cons_succ])
              refine wpAny_take (i := 13) (v := ?_) rfl (by kernel_rfl) (by kernel_rfl) (by kernel_rfl) (fun _ _ _ h => h) (Or.inl ⟨by rfl, ?_⟩) ?_
              rotate_left 1
              (intro w; go_simp; try with_reducible rfl)
              (try simp only [Act.put, List.getElem_toArray, List.getElem_cons_zero, List.getElem_cons_succ, List.setIfInBounds_toArray, List.set_cons_zero, List.set_cons_succ])
              refine wpAny_take (i := 14) (v := ?_) rfl (by kernel_rfl) (by kernel_rfl) (by kernel_rfl) (fun _ _ _ h => h) (Or.inl ⟨by rfl, ?_⟩) ?_
              rotate_left 1
              (intro w; go_simp; try with_reducible rfl)
              (try simp only [Act.put, List.getElem_toArray, List.getElem_cons_zero, List.getElem_cons_succ, List.setIfInBounds_toArray, List.set_cons_zero, List.set_cons_succ])
              refine wpAny_ready (rs := [16]) (by kernel_rfl) (by simp) ?_
              refine AllReady.cons rfl (fun K hK => ?_) AllReady.nil
              obtain ⟨p0, p1, p2, p3, pf⟩ := hp.out.four
              go_simp
              clear p0 p1 p2 p3 pf
              refine hK _ _ ?_
              clear hK K
              (try simp only [Act.put, List.getElem_toArray, List.getElem_cons_zero, List.getElem_cons_succ, List.setIfInBounds_toArray, List.set_cons_zero, List.set_cons_succ])
              refine wpAny_take (i := 17) (v := ?_) rfl (by kernel_rfl) (by kernel_rfl) (by kernel_rfl) (fun _ _ _ h => h) (Or.inl ⟨by rfl, ?_⟩) ?_
              rotate_left 1
              (intro w; go_simp; try with_reducible rfl)
              (try simp only [Act.put, List.getElem_toArray, List.getElem_cons_zero, List.getElem_cons_succ, List.setIfInBounds_toArray, List.set_cons_zero, List.set_cons_succ])
              refine wpAny_done (by kernel_rfl) ?_ _
              go_wp2_with fail
              go_meet
              exact ⟨rfl, hfin.out _ _ hpB.out hcur.out⟩
            refine AllReady.cons rfl (fun K hK => ?_) AllReady.nil
            go_simp
            refine hK _ _ ?_
            clear hK K
            (try simp only [Act.put, List.getElem_toArray, List.getElem_cons_zero, List.getElem_cons_succ, List.setIfInBounds_toArray, List.set_cons_zero, List.set_cons_succ])
            have hxg := hid (Nat.ne_of_gt hg.out.lt)
            replace hg := hid (hg.out.alloc (.cells #[.string last] 9))
            replace hp := hid (hp.out.alloc (.cells #[.string last] 9))
            have hx := hid (Blk.new V2 [.string last] 9)
            have hxB := hid hcur.out.size
            replace hcur := hid (hcur.out.alloc hcur.out.size (.cells #[.string last] 9))
            generalize V2.alloc (.cells #[.string last] 9) = V3 at hg hp hx hcur ⊢
            refine wpAny_ready (rs := [2]) (by kernel_rfl) (by simp) ?_
            refine AllReady.cons rfl (fun K hK => ?_) AllReady.nil
            obtain ⟨so, sc, V4, hrun, hr0, hbW, hkp⟩ := app_list W8.heap.size V3 _ (s0 :: t) _ _ _ (hsv8.out.below hcur.out) hlen.out hl17.out hm1000.out hg.out hgB.out
            refine step_append_run rfl (.tmp 97) (.tmp 98) 22 rfl _ _ _ _ rfl rfl hrun ?_
            refine hK _ _ ?_
            clear hK K
            (try simp only [Act.put, List.getElem_toArray, List.getElem_cons_zero, List.getElem_cons_succ, List.setIfInBounds_toArray, List.set_cons_zero, List.set_cons_succ])
            have hr := hid hr0
            replace hx := hid (hkp _ _ _ hx.out hxg.out)
            replace hp := hid (hkp _ _ _ hp.out hpg.out)
            replace hcur := hid (hcur.out.trans hbW)
            clear hr0 hrun hbW hkp hg hgB
            refine wpAny_ready (rs := [10]) (by kernel_rfl) (by simp) ?_
            refine AllReady.cons rfl (fun K hK => ?_) AllReady.nil
            obtain ⟨so2, sc2, V5, hrun, hr0, hbW, hkp⟩ := app_last W8.heap.size V4 _ (s0 :: t) last _ _ hr.out hx.out hm1001.out hcur.out.size
            refine step_append_run rfl (.tmp 99) (.tmp 106) 22 rfl _ _ _ _ rfl rfl hrun ?_
            refine hK _ _ ?_
            clear hK K
            (try simp only [Act.put, List.getElem_toArray, List.getElem_cons_zero, List.getElem_cons_succ, List.setIfInBounds_toArray, List.set_cons_zero, List.set_cons_succ])
            have hr2 := hid hr0
            replace hp := hid (hkp _ _ _ hp.out (by decide))
            replace hcur := hid (hcur.out.trans hbW)
            clear hr0 hrun hbW hkp hr hx
            refine wpAny_ready (rs := [11]) (by kernel_rfl) (by simp) ?_
            refine AllReady.cons rfl (fun K hK => ?_) AllReady.nil
            go_simp
            (with_reducible refine (join_any (s0 :: t ++ [last]) _ _ (own_strs hr2.out hlen2.out)).mono ?_)
            rw [hmore2.out last]
            rintro e V6 ⟨rfl, b9⟩
            unfold frV zeroFr
            dsimp only
            refine hK _ _ ?_
            clear hK K
            (try simp only [Act.put, List.getElem_toArray, List.getElem_cons_zero, List.getElem_cons_succ, List.setIfInBounds_toArray, List.set_cons_zero, List.set_cons_succ])
            replace hp := hid (hp.out.below b9 hp.out.lt)
            replace hcur := hid (bt hcur.out b9)
            clear b9 hr2
            refine wpAny_take (i := 12) (v := ?_) rfl (by kernel_rfl) (by kernel_rfl) (by kernel_rfl) (fun _ _ _ h => h) (Or.inl ⟨by rfl, ?_⟩) ?_
            rotate_left 1
            (intro w; go_simp; try with_reducible rfl)
            (try simp only [Act.put, List.getElem_toArray, List.getElem_cons_zero, List.getElem_cons_succ, List.setIfInBounds_toArray, List.set_cons_zero, List.set_cons_succ])
            refine wpAny_take (i := 13) (v := ?_) rfl (by kernel_rfl) (by kernel_rfl) (by kernel_rfl) (fun _ _ _ h => h) (Or.inl ⟨by rfl, ?_⟩) ?_
            rotate_left 1
            (intro w; go_simp; try with_reducible rfl)
            (try simp only [Act.put, List.getElem_toArray, List.getElem_cons_zero, List.getElem_cons_succ, List.setIfInBounds_toArray, List.set_cons_zero, List.set_cons_succ])
            refine wpAny_take (i := 14) (v := ?_) rfl (by kernel_rfl) (by kernel_rfl) (by kernel_rfl) (fun _ _ _ h => h) (Or.inl ⟨by rfl, ?_⟩) ?_
            rotate_left 1
            (intro w; go_simp; try with_reducible rfl)
            (try simp only [Act.put, List.getElem_toArray, List.getElem_cons_zero, List.getElem_cons_succ, List.setIfInBounds_toArray, List.set_cons_zero, List.set_cons_succ])
            refine wpAny_ready (rs := [16]) (by kernel_rfl) (by simp) ?_
            refine AllReady.cons rfl (fun K hK => ?_) AllReady.nil
            obtain ⟨p0, p1, p2, p3, pf⟩ := hp.out.four
            go_simp
            clear p0 p1 p2 p3 pf
            refine hK _ _ ?_
            clear hK K
            (try simp only [Act.put, List.getElem_toArray, List.getElem_cons_zero, List.getElem_cons_succ, List.setIfInBounds_toArray, List.set_cons_zero, List.set_cons_succ])
            refine wpAny_take (i := 17) (v := ?_) rfl (by kernel_rfl) (by kernel_rfl) (by kernel_rfl) (fun _ _ _ h => h) (Or.inl ⟨by rfl, ?_⟩) ?_
            rotate_left 1
            (intro w; go_simp; try with_reducible rfl)
            (try simp only [Act.put, List.getElem_toArray, List.getElem_cons_zero, List.getElem_cons_succ, List.setIfInBounds_toArray, List.set_cons_zero, List.set_cons_succ])
            refine wpAny_done (by kernel_rfl) ?_ _
            go_wp2_with fail
            go_meet
            exact ⟨rfl, hfin.out _ _ hpB.out hcur.out⟩
          refine AllReady.cons rfl (fun K hK => ?_) AllReady.nil
          go_simp
          refine hK _ _ ?_
          clear hK K
          (try simp only [Act.put, List.getElem_toArray, List.getElem_cons_zero, List.getElem_cons_succ, List.setIfInBounds_toArray, List.set_cons_zero, List.set_cons_succ])
          replace hp := hid (hp.out.alloc (.cells #[.string last] 9))
          have hx := hid (Blk.new V1 [.string last] 9)
          have hxB := hid hcur.out.size
          replace hcur := hid (hcur.out.alloc hcur.out.size (.cells #[.string last] 9))
          generalize V1.alloc (.cells #[.string last] 9) = V2 at hp hx hcur ⊢
          refine wpAny_ready (rs := [0]) (by kernel_rfl) (by simp) ?_
          refine AllReady.cons rfl (fun K hK => ?_) AllReady.nil
          go_simp
          refine hK _ _ ?_
          clear hK K
          (try simp only [Act.put, List.getElem_toArray, List.getElem_cons_zero, List.getElem_cons_succ, List.setIfInBounds_toArray, List.set_cons_zero, List.set_cons_succ])
          have hpg := hid (Nat.ne_of_lt hp.out.lt)
          have hxg := hid (Nat.ne_of_lt hx.out.lt)
          replace hx := hid (hx.out.alloc (.cells #[] 9))
          replace hp := hid (hp.out.alloc (.cells #[] 9))
          have hg := hid (Blk.new V2 [] 9)
          have hgB := hid hcur.out.size
          replace hcur := hid (hcur.out.alloc hcur.out.size (.cells #[] 9))
          generalize V2.alloc (.cells #[] 9) = V3 at hx hp hg hcur ⊢
          refine wpAny_ready (rs := [2]) (by kernel_rfl) (by simp) ?_
          refine AllReady.cons rfl (fun K hK => ?_) AllReady.nil
          obtain ⟨so, sc, V4, hrun, hr0, hbW, hkp⟩ := app_list W8.heap.size V3 _ (s0 :: t) _ _ _ (hsv8.out.below hcur.out) hlen.out hl17.out hm1000.out hg.out hgB.out
          refine step_append_run rfl (.tmp 97) (.tmp 98) 22 rfl _ _ _ _ rfl rfl hrun ?_
          refine hK _ _ ?_
          clear hK K
          (try simp only [Act.put, List.getElem_toArray, List.getElem_cons_zero, List.getElem_cons_succ, List.setIfInBounds_toArray, List.set_cons_zero, List.set_cons_succ])
          have hr := hid hr0
          replace hx := hid (hkp _ _ _ hx.out hxg.out)
          replace hp := hid (hkp _ _ _ hp.out hpg.out)
          replace hcur := hid (hcur.out.trans hbW)
          clear hr0 hrun hbW hkp hg hgB
          refine wpAny_ready (rs := [10]) (by kernel_rfl) (by simp) ?_
          refine AllReady.cons rfl (fun K hK => ?_) AllReady.nil
          obtain ⟨so2, sc2, V5, hrun, hr0, hbW, hkp⟩ := app_last W8.heap.size V4 _ (s0 :: t) last _ _ hr.out hx.out hm1001.out hcur.out.size
          refine step_append_run rfl (.tmp 99) (.tmp 106) 22 rfl _ _ _ _ rfl rfl hrun ?_
          refine hK _ _ ?_
          clear hK K
          (try simp only [Act.put, List.getElem_toArray, List.getElem_cons_zero, List.getElem_cons_succ, List.setIfInBounds_toArray, List.set_cons_zero, List.set_cons_succ])
          have hr2 := hid hr0
          replace hp := hid (hkp _ _ _ hp.out (by decide))
          replace hcur := hid (hcur.out.trans hbW)
          clear hr0 hrun hbW hkp hr hx
          refine wpAny_ready (rs := [11]) (by kernel_rfl) (by simp) ?_
          refine AllReady.cons rfl (fun K hK => ?_) AllReady.nil
          go_simp
          (with_reducible refine (join_any (s0 :: t ++ [last]) _ _ (own_strs hr2.out hlen2.out)).mono ?_)
          rw [hmore2.out last]
          rintro e V6 ⟨rfl, b9⟩
          unfold frV zeroFr
          dsimp only
          refine hK _ _ ?_
          clear hK K
          (try simp only [Act.put, List.getElem_toArray, List.getElem_cons_zero, List.getElem_cons_succ, List.setIfInBounds_toArray, List.set_cons_zero, List.set_cons_succ])
          replace hp := hid (hp.out.below b9 hp.out.lt)
          replace hcur := hid (bt hcur.out b9)
          clear b9 hr2
          refine wpAny_take (i := 12) (v := ?_) rfl (by kernel_rfl) (by kernel_rfl) (by kernel_rfl) (fun _ _ _ h => h) (Or.inl ⟨by rfl, ?_⟩) ?_
          rotate_left 1
          (intro w; go_simp; try with_reducible rfl)
          (try simp only [Act.put, List.getElem_toArray, List.getElem_cons_zero, List.getElem_cons_succ, List.setIfInBounds_toArray, List.set_cons_zero, List.set_cons_succ])
          refine wpAny_take (i := 13) (v := ?_) rfl (by kernel_rfl) (by kernel_rfl) (by kernel_rfl) (fun _ _ _ h => h) (Or.inl ⟨by rfl, ?_⟩) ?_
          rotate_left 1
          (intro w; go_simp; try with_reducible rfl)
          (try simp only [Act.put, List.getElem_toArray, List.getElem_cons_zero, List.getElem_cons_succ, List.setIfInBounds_toArray, List.set_cons_zero, List.set_cons_succ])
          refine wpAny_take (i := 14) (v := ?_) rfl (by kernel_rfl) (by kernel_rfl) (by kernel_rfl) (fun _ _ _ h => h) (Or.inl ⟨by rfl, ?_⟩) ?_
          rotate_left 1
          (intro w; go_simp; try with_reducible rfl)
          (try simp only [Act.put, List.getElem_toArray, List.getElem_cons_zero, List.getElem_cons_succ, List.setIfInBounds_toArray, List.set_cons_zero, List.set_cons_succ])
          refine wpAny_ready (rs := [16]) (by kernel_rfl) (by simp) ?_
          refine AllReady.cons rfl (fun K hK => ?_) AllReady.nil
          obtain ⟨p0, p1, p2, p3, pf⟩ := hp.out.four
          go_simp
          clear p0 p1 p2 p3 pf
          refine hK _ _ ?_
          clear hK K
          (try simp only [Act.put, List.getElem_toArray, List.getElem_cons_zero, List.getElem_cons_succ, List.setIfInBounds_toArray, List.set_cons_zero, List.set_cons_succ])
          refine wpAny_take (i := 17) (v := ?_) rfl (by kernel_rfl) (by kernel_rfl) (by kernel_rfl) (fun _ _ _ h => h) (Or.inl ⟨by rfl, ?_⟩) ?_
          rotate_left 1
          (intro w; go_simp; try with_reducible rfl)
          (try simp only [Act.put, List.getElem_toArray, List.getElem_cons_zero, List.getElem_cons_succ, List.setIfInBounds_toArray, List.set_cons_zero, List.set_cons_succ])
          refine wpAny_done (by kernel_rfl) ?_ _
          go_wp2_with fail
          go_meet
          exact ⟨rfl, hfin.out _ _ hpB.out hcur.out⟩
      refine AllReady.cons rfl (fun K hK => ?_) AllReady.nil
      go_simp
      refine hK _ _ ?_
      clear hK K
      (try simp only [Act.put, List.getElem_toArray, List.getElem_cons_zero, List.getElem_cons_succ, List.setIfInBounds_toArray, List.set_cons_zero, List.set_cons_succ])
      have hp := hid (Blk.new V0 [.int .u8 0, .int .u64 0, .int .u64 0, .string ⟨#[]⟩] 40)
      have hpB := hid hcur.out.size
      replace hcur := hid (hcur.out.alloc hcur.out.size (.cells #[.int .u8 0, .int .u64 0, .int .u64 0, .string ⟨#[]⟩] 40))
      generalize V0.alloc (.cells #[.int .u8 0, .int .u64 0, .int .u64 0, .string ⟨#[]⟩] 40) = V1 at hp hcur ⊢
      refine wpAny_ready (rs := [0, 8]) (by kernel_rfl) (by simp) ?_
      refine AllReady.cons rfl (fun K hK => ?_) ?_
      · as_aux_lemma =>
          go_simp
          refine hK _ _ ?_
          clear hK K
          (try simp only [Act.put, List.getElem_toArray, List.getElem_cons_zero, List.getElem_cons_succ, List.setIfInBounds_toArray, List.set_cons_zero, List.set_cons_succ])
          have hpg := hid (Nat.ne_of_lt hp.out.lt)
          replace hp := hid (hp.out.alloc (.cells #[] 9))
          have hg := hid (Blk.new V1 [] 9)
          have hgB := hid hcur.out.size
          replace hcur := hid (hcur.out.alloc hcur.out.size (.cells #[] 9))
          generalize V1.alloc (.cells #[] 9) = V2 at hp hg hcur ⊢
          refine wpAny_ready (rs := [2, 8]) (by kernel_rfl) (by simp) ?_
          refine AllReady.cons rfl (fun K hK => ?_) ?_
          · skip
            obtain ⟨so, sc, V3, hrun, hr0, hbW, hkp⟩ := app_list W8.heap.size V2 _ (s0 :: t) _ _ _ (hsv8.out.below hcur.out) hlen.out hl17.out hm1000.out hg.out hgB.out
            refine step_append_run rfl (.tmp 97) (.tmp 98) 22 rfl _ _ _ _ rfl rfl hrun ?_
            refine hK _ _ ?_
            clear hK K
            (try simp only [Act.put, List.getElem_toArray, List.getElem_cons_zero, List.getElem_cons_succ, List.setIfInBounds_toArray, List.set_cons_zero, List.set_cons_succ])
            have hr := hid hr0
            replace hp := hid (hkp _ _ _ hp.out hpg.out)
            replace hcur := hid (hcur.out.trans hbW)
            clear hr0 hrun hbW hkp hg hgB
            refine wpAny_ready (rs := [8]) (by kernel_rfl) (by simp) ?_
            refine AllReady.cons rfl (fun K hK => ?_) AllReady.nil
            have cl := cell_below hcur.out _ _ hlast.out
            go_simp
            clear cl
            refine hK _ _ ?_
            clear hK K
            (try simp only [Act.put, List.getElem_toArray, List.getElem_cons_zero, List.getElem_cons_succ, List.setIfInBounds_toArray, List.set_cons_zero, List.set_cons_succ])
            refine wpAny_ready (rs := [9]) (by kernel_rfl) (by simp) ?_
            refine AllReady.cons rfl (fun K hK => ?_) AllReady.nil
            go_simp
            refine hK _ _ ?_
            clear hK K
            (try simp only [Act.put, List.getElem_toArray, List.getElem_cons_zero, List.getElem_cons_succ, List.setIfInBounds_toArray, List.set_cons_zero, List.set_cons_succ])
            replace hr := hid (hr.out.alloc (.cells #[.string last] 9))
            replace hp := hid (hp.out.alloc (.cells #[.string last] 9))
            have hx := hid (Blk.new V3 [.string last] 9)
            have hxB := hid hcur.out.size
            replace hcur := hid (hcur.out.alloc hcur.out.size (.cells #[.string last] 9))
            generalize V3.alloc (.cells #[.string last] 9) = V4 at hr hp hx hcur ⊢
            refine wpAny_ready (rs := [10]) (by kernel_rfl) (by simp) ?_
            refine AllReady.cons rfl (fun K hK => ?_) AllReady.nil
            obtain ⟨so2, sc2, V5, hrun, hr0, hbW, hkp⟩ := app_last W8.heap.size V4 _ (s0 :: t) last _ _ hr.out hx.out hm1001.out hcur.out.size
            refine step_append_run rfl (.tmp 99) (.tmp 106) 22 rfl _ _ _ _ rfl rfl hrun ?_
            refine hK _ _ ?_
            clear hK K
            (try simp only [Act.put, List.getElem_toArray, List.getElem_cons_zero, List.getElem_cons_succ, List.setIfInBounds_toArray, List.set_cons_zero, List.set_cons_succ])
            have hr2 := hid hr0
            replace hp := hid (hkp _ _ _ hp.out (by decide))
            replace hcur := hid (hcur.out.trans hbW)
            clear hr0 hrun hbW hkp hr hx
            refine wpAny_ready (rs := [11]) (by kernel_rfl) (by simp) ?_
            refine AllReady.cons rfl (fun K hK => ?_) AllReady.nil
            go_simp
            (with_reducible refine (join_any (s0 :: t ++ [last]) _ _ (own_strs hr2.out hlen2.out)).mono ?_)
            rw [hmore2.out last]
            rintro e V6 ⟨rfl, b9⟩
            unfold frV zeroFr
            dsimp only
            refine hK _ _ ?_
            clear hK K
            (try simp only [Act.put, List.getElem_toArray, List.getElem_cons_zero, List.getElem_cons_succ, List.setIfInBounds_toArray, List.set_cons_zero, List.set_cons_succ])
            replace hp := hid (hp.out.below b9 hp.out.lt)
            replace hcur := hid (bt hcur.out b9)
            clear b9 hr2
            refine wpAny_take (i := 12) (v := ?_) rfl (by kernel_rfl) (by kernel_rfl) (by kernel_rfl) (fun _ _ _ h => h) (Or.inl ⟨by rfl, ?_⟩) ?_
            rotate_left 1
            (intro w; go_simp; try with_reducible rfl)
            (try simp only [Act.put, List.getElem_toArray, List.getElem_cons_zero, List.getElem_cons_succ, List.setIfInBounds_toArray, List.set_cons_zero, List.set_cons_succ])
            refine wpAny_take (i := 13) (v := ?_) rfl (by kernel_rfl) (by kernel_rfl) (by kernel_rfl) (fun _ _ _ h => h) (Or.inl ⟨by rfl, ?_⟩) ?_
            rotate_left 1
            (intro w; go_simp; try with_reducible rfl)
            (try simp only [Act.put, List.getElem_toArray, List.getElem_cons_zero, List.getElem_cons_succ, List.setIfInBounds_toArray, List.set_cons_zero, List.set_cons_succ])
            refine wpAny_take (i := 14) (v := ?_) rfl (by kernel_rfl) (by kernel_rfl) (by kernel_rfl) (fun _ _ _ h => h) (Or.inl ⟨by rfl, ?_⟩) ?_
            rotate_left 1
            (intro w; go_simp; try with_reducible rfl)
            (try simp only [Act.put, List.getElem_toArray, List.getElem_cons_zero, List.getElem_cons_succ, List.setIfInBounds_toArray, List.set_cons_zero, List.set_cons_succ])
            refine wpAny_ready (rs := [16]) (by kernel_rfl) (by simp) ?_
            refine AllReady.cons rfl (fun K hK => ?_) AllReady.nil
            obtain ⟨p0, p1, p2, p3, pf⟩ := hp.out.four
            go_simp
            clear p0 p1 p2 p3 pf
            refine hK _ _ ?_
            clear hK K
            (try simp only [Act.put, List.getElem_toArray, List.getElem_cons_zero, List.getElem_cons_succ, List.setIfInBounds_toArray, List.set_cons_zero, List.set_cons_succ])
            refine wpAny_take (i := 17) (v := ?_) rfl (by kernel_rfl) (by kernel_rfl) (by kernel_rfl) (fun _ _ _ h => h) (Or.inl ⟨by rfl, ?_⟩) ?_
            rotate_left 1
            (intro w; go_simp; try with_reducible rfl)
            (try simp only [Act.put, List.getElem_toArray, List.getElem_cons_zero, List.getElem_cons_succ, List.setIfInBounds_toArray, List.set_cons_zero, List.set_cons_succ])
            refine wpAny_done (by kernel_rfl) ?_ _
            go_wp2_with fail
            go_meet
            exact ⟨rfl, hfin.out _ _ hpB.out hcur.out⟩
          refine AllReady.cons rfl (fun K hK => ?_) AllReady.nil
          have cl := cell_below hcur.out _ _ hlast.out
          go_simp
          clear cl
          refine hK _ _ ?_
          clear hK K
          (try simp only [Act.put, List.getElem_toArray, List.getElem_cons_zero, List.getElem_cons_succ, List.setIfInBounds_toArray, List.set_cons_zero, List.set_cons_succ])
          refine wpAny_ready (rs := [2, 9]) (by kernel_rfl) (by simp) ?_
          refine AllReady.cons rfl (fun K hK => ?_) ?_
          · skip
            obtain ⟨so, sc, V3, hrun, hr0, hbW, hkp⟩ := app_list W8.heap.size V2 _ (s0 :: t) _ _ _ (hsv8.out.below hcur.out) hlen.out hl17.out hm1000.out hg.out hgB.out
            refine step_append_run rfl (.tmp 97) (.tmp 98) 22 rfl _ _ _ _ rfl rfl hrun ?_
            refine hK _ _ ?_
            clear hK K
            (try simp only [Act.put, List.getElem_toArray, List.getElem_cons_zero, List.getElem_cons_succ, List.setIfInBounds_toArray, List.set_cons_zero, List.set_cons_succ])
            have hr := hid hr0
            replace hp := hid (hkp _ _ _ hp.out hpg.out)
            replace hcur := hid (hcur.out.trans hbW)
            clear hr0 hrun hbW hkp hg hgB
            refine wpAny_ready (rs := [9]) (by kernel_rfl) (by simp) ?_
            refine AllReady.cons rfl (fun K hK => ?_) AllReady.nil
            go_simp
            refine hK _ _ ?_
            clear hK K
            (try simp only [Act.put, List.getElem_toArray, List.getElem_cons_zero, List.getElem_cons_succ, List.setIfInBounds_toArray, List.set_cons_zero, List.set_cons_succ])
            replace hr := hid (hr.out.alloc (.cells #[.string last] 9))
            replace hp := hid (hp.out.alloc (.cells #[.string last] 9))
            have hx := hid (Blk.new V3 [.string last] 9)
            have hxB := hid hcur.out.size
            replace hcur := hid (hcur.out.alloc hcur.out.size (.cells #[.string last] 9))
            generalize V3.alloc (.cells #[.string last] 9) = V4 at hr hp hx hcur ⊢
            refine wpAny_ready (rs := [10]) (by kernel_rfl) (by simp) ?_
            refine AllReady.cons rfl (fun K hK => ?_) AllReady.nil
            obtain ⟨so2, sc2, V5, hrun, hr0, hbW, hkp⟩ := app_last W8.heap.size V4 _ (s0 :: t) last _ _ hr.out hx.out hm1001.out hcur.out.size
            refine step_append_run rfl (.tmp 99) (.tmp 106) 22 rfl _ _ _ _ rfl rfl hrun ?_
            refine hK _ _ ?_
            clear hK K
            (try simp only [Act.put, List.getElem_toArray, List.getElem_cons_zero, List.getElem_cons_succ, List.setIfInBounds_toArray, List.set_cons_zero, List.set_cons_succ])
            have hr2 := hid hr0
            replace hp := hid (hkp _ _ _ hp.out (by decide))
            replace hcur := hid (hcur.out.trans hbW)
            clear hr0 hrun hbW hkp hr hx
            refine wpAny_ready (rs := [11]) (by kernel_rfl) (by simp) ?_
            refine AllReady.cons rfl (fun K hK => ?_) AllReady.nil
            go_simp
            (with_reducible refine (join_any (s0 :: t ++ [last]) _ _ (own_strs hr2.out hlen2.out)).mono ?_)
            rw [hmore2.out last]
            rintro e V6 ⟨rfl, b9⟩
            unfold frV zeroFr
            dsimp only
            refine hK _ _ ?_
            clear hK K
            (try simp only [Act.put, List.getElem_toArray, List.getElem_cons_zero, List.getElem_cons_succ, List.setIfInBounds_toArray, List.set_cons_zero, List.set_cons_succ])
            replace hp := hid (hp.out.below b9 hp.out.lt)
            replace hcur := hid (bt hcur.out b9)
            clear b9 hr2
            refine wpAny_take (i := 12) (v := ?_) rfl (by kernel_rfl) (by kernel_rfl) (by kernel_rfl) (fun _ _ _ h => h) (Or.inl ⟨by rfl, ?_⟩) ?_
            rotate_left 1
            (intro w; go_simp; try with_reducible rfl)
            (try simp only [Act.put, List.getElem_toArray, List.getElem_cons_zero, List.getElem_cons_succ, List.setIfInBounds_toArray, List.set_cons_zero, List.set_cons_succ])
            refine wpAny_take (i := 13) (v := ?_) rfl (by kernel_rfl) (by kernel_rfl) (by kernel_rfl) (fun _ _ _ h => h) (Or.inl ⟨by rfl, ?_⟩) ?_
            rotate_left 1
            (intro w; go_simp; try with_reducible rfl)
            (try simp only [Act.put, List.getElem_toArray, List.getElem_cons_zero, List.getElem_cons_succ, List.setIfInBounds_toArray, List.set_cons_zero, List.set_cons_succ])
            refine wpAny_take (i := 14) (v := ?_) rfl (by kernel_rfl) (by kernel_rfl) (by kernel_rfl) (fun _ _ _ h => h) (Or.inl ⟨by rfl, ?_⟩) ?_
            rotate_left 1
            (intro w; go_simp; try with_reducible rfl)
            (try simp only [Act.put, List.getElem_toArray, List.getElem_cons_zero, List.getElem_cons_succ, List.setIfInBounds_toArray, List.set_cons_zero, List.set_cons_succ])
            refine wpAny_ready (rs := [16]) (by kernel_rfl) (by simp) ?_
            refine AllReady.cons rfl (fun K hK => ?_) AllReady.nil
            obtain ⟨p0, p1, p2, p3, pf⟩ := hp.out.four
            go_simp
            clear p0 p1 p2 p3 pf
            refine hK _ _ ?_
            clear hK K
            (try simp only [Act.put, List.getElem_toArray, List.getElem_cons_zero, List.getElem_cons_succ, List.setIfInBounds_toArray, List.set_cons_zero, List.set_cons_succ])
            refine wpAny_take (i := 17) (v := ?_) rfl (by kernel_rfl) (by kernel_rfl) (by kernel_rfl) (fun _ _ _ h => h) (Or.inl ⟨by rfl, ?_⟩) ?_
            rotate_left 1
            (intro w; go_simp; try with_reducible rfl)
            (try simp only [Act.put, List.getElem_toArray, List.getElem_cons_zero, List.getElem_cons_succ, List.setIfInBounds_toArray, List.set_cons_zero, List.set_cons_succ])
            refine wpAny_done (by kernel_rfl) ?_ _
            go_wp2_with fail
            go_meet
            exact ⟨rfl, hfin.out _ _ hpB.out hcur.out⟩
          refine AllReady.cons rfl (fun K hK => ?_) AllReady.nil
          go_simp
          refine hK _ _ ?_
          clear hK K
          (try simp only [Act.put, List.getElem_toArray, List.getElem_cons_zero, List.getElem_cons_succ, List.setIfInBounds_toArray, List.set_cons_zero, List.set_cons_succ])
          have hxg := hid (Nat.ne_of_gt hg.out.lt)
          replace hg := hid (hg.out.alloc (.cells #[.string last] 9))
          replace hp := hid (hp.out.alloc (.cells #[.string last] 9))
          have hx := hid (Blk.new V2 [.string last] 9)
          have hxB := hid hcur.out.size
          replace hcur := hid (hcur.out.alloc hcur.out.size (.cells #[.string last] 9))
          generalize V2.alloc (.cells #[.string last] 9) = V3 at hg hp hx hcur ⊢
          refine wpAny_ready (rs := [2]) (by kernel_rfl) (by simp) ?_
          refine AllReady.cons rfl (fun K hK => ?_) AllReady.nil
          obtain ⟨so, sc, V4, hrun, hr0, hbW, hkp⟩ := app_list W8.heap.size V3 _ (s0 :: t) _ _ _ (hsv8.out.below hcur.out) hlen.out hl17.out hm1000.out hg.out hgB.out
          refine step_append_run rfl (.tmp 97) (.tmp 98) 22 rfl _ _ _ _ rfl rfl hrun ?_
          refine hK _ _ ?_
          clear hK K
          (try simp only [Act.put, List.getElem_toArray, List.getElem_cons_zero, List.getElem_cons_succ, List.setIfInBounds_toArray, List.set_cons_zero, List.set_cons_succ])
          have hr := hid hr0
          replace hx := hid (hkp _ _ _ hx.out hxg.out)
          replace hp := hid (hkp _ _ _ hp.out hpg.out)
          replace hcur := hid (hcur.out.trans hbW)
          clear hr0 hrun hbW hkp hg hgB
          refine wpAny_ready (rs := [10]) (by kernel_rfl) (by simp) ?_
          refine AllReady.cons rfl (fun K hK => ?_) AllReady.nil
          obtain ⟨so2, sc2, V5, hrun, hr0, hbW, hkp⟩ := app_last W8.heap.size V4 _ (s0 :: t) last _ _ hr.out hx.out hm1001.out hcur.out.size
          refine step_append_run rfl (.tmp 99) (.tmp 106) 22 rfl _ _ _ _ rfl rfl hrun ?_
          refine hK _ _ ?_
          clear hK K
          (try simp only [Act.put, List.getElem_toArray, List.getElem_cons_zero, List.getElem_cons_succ, List.setIfInBounds_toArray, List.set_cons_zero, List.set_cons_succ])
          have hr2 := hid hr0
          replace hp := hid (hkp _ _ _ hp.out (by decide))
          replace hcur := hid (hcur.out.trans hbW)
          clear hr0 hrun hbW hkp hr hx
          refine wpAny_ready (rs := [11]) (by kernel_rfl) (by simp) ?_
          refine AllReady.cons rfl (fun K hK => ?_) AllReady.nil
          go_simp
          (with_reducible refine (join_any (s0 :: t ++ [last]) _ _ (own_strs hr2.out hlen2.out)).mono ?_)
          rw [hmore2.out last]
          rintro e V6 ⟨rfl, b9⟩
          unfold frV zeroFr
          dsimp only
          refine hK _ _ ?_
          clear hK K
          (try simp only [Act.put, List.getElem_toArray, List.getElem_cons_zero, List.getElem_cons_succ, List.setIfInBounds_toArray, List.set_cons_zero, List.set_cons_succ])
          replace hp := hid (hp.out.below b9 hp.out.lt)
          replace hcur := hid (bt hcur.out b9)
          clear b9 hr2
          refine wpAny_take (i := 12) (v := ?_) rfl (by kernel_rfl) (by kernel_rfl) (by kernel_rfl) (fun _ _ _ h => h) (Or.inl ⟨by rfl, ?_⟩) ?_
          rotate_left 1
          (intro w; go_simp; try with_reducible rfl)
          (try simp only [Act.put, List.getElem_toArray, List.getElem_cons_zero, List.getElem_cons_succ, List.setIfInBounds_toArray, List.set_cons_zero, List.set_cons_succ])
          refine wpAny_take (i := 13) (v := ?_) rfl (by kernel_rfl) (by kernel_rfl) (by kernel_rfl) (fun _ _ _ h => h) (Or.inl ⟨by rfl, ?_⟩) ?_
          rotate_left 1
          (intro w; go_simp; try with_reducible rfl)
          (try simp only [Act.put, List.getElem_toArray, List.getElem_cons_zero, List.getElem_cons_succ, List.setIfInBounds_toArray, List.set_cons_zero, List.set_cons_succ])
          refine wpAny_take (i := 14) (v := ?_) rfl (by kernel_rfl) (by kernel_rfl) (by kernel_rfl) (fun _ _ _ h => h) (Or.inl ⟨by rfl, ?_⟩) ?_
          rotate_left 1
          (intro w; go_simp; try with_reducible rfl)
          (try simp only [Act.put, List.getElem_toArray, List.getElem_cons_zero, List.getElem_cons_succ, List.setIfInBounds_toArray, List.set_cons_zero, List.set_cons_succ])
          refine wpAny_ready (rs := [16]) (by kernel_rfl) (by simp) ?_
          refine AllReady.cons rfl (fun K hK => ?_) AllReady.nil
          obtain ⟨p0, p1, p2, p3, pf⟩ := hp.out.four
          go_simp
          clear p0 p1 p2 p3 pf
          refine hK _ _ ?_
          clear hK K
          (try simp only [Act.put, List.getElem_toArray, List.getElem_cons_zero, List.getElem_cons_succ, List.setIfInBounds_toArray, List.set_cons_zero, List.set_cons_succ])
          refine wpAny_take (i := 17) (v := ?_) rfl (by kernel_rfl) (by kernel_rfl) (by kernel_rfl) (fun _ _ _ h => h) (Or.inl ⟨by rfl, ?_⟩) ?_
          rotate_left 1
          (intro w; go_simp; try with_reducible rfl)
          (try simp only [Act.put, List.getElem_toArray, List.getElem_cons_zero, List.getElem_cons_succ, List.setIfInBounds_toArray, List.set_cons_zero, List.set_cons_succ])
          refine wpAny_done (by kernel_rfl) ?_ _
          go_wp2_with fail
          go_meet
          exact ⟨rfl, hfin.out _ _ hpB.out hcur.out⟩
      refine AllReady.cons rfl (fun K hK => ?_) AllReady.nil
      as_aux_lemma =>
        have cl := cell_below hcur.out _ _ hlast.out
        go_simp
        clear cl
        refine hK _ _ ?_
        clear hK K
        (try simp only [Act.put, List.getElem_toArray, List.getElem_cons_zero, List.getElem_cons_succ, List.setIfInBounds_toArray, List.set_cons_zero, List.set_cons_succ])
        refine wpAny_ready (rs := [0, 9]) (by kernel_rfl) (by simp) ?_
        refine AllReady.cons rfl (fun K hK => ?_) ?_
        · skip
          go_simp
          refine hK _ _ ?_
          clear hK K
          (try simp only [Act.put, List.getElem_toArray, List.getElem_cons_zero, List.getElem_cons_succ, List.setIfInBounds_toArray, List.set_cons_zero, List.set_cons_succ])
          have hpg := hid (Nat.ne_of_lt hp.out.lt)
          replace hp := hid (hp.out.alloc (.cells #[] 9))
          have hg := hid (Blk.new V1 [] 9)
          have hgB := hid hcur.out.size
          replace hcur := hid (hcur.out.alloc hcur.out.size (.cells #[] 9))
          generalize V1.alloc (.cells #[] 9) = V2 at hp hg hcur ⊢
          refine wpAny_ready (rs := [2, 9]) (by kernel_rfl) (by simp) ?_
          refine AllReady.cons rfl (fun K hK => ?_) ?_
          · skip
            obtain ⟨so, sc, V3, hrun, hr0, hbW, hkp⟩ := app_list W8.heap.size V2 _ (s0 :: t) _ _ _ (hsv8.out.below hcur.out) hlen.out hl17.out hm1000.out hg.out hgB.out
            refine step_append_run rfl (.tmp 97) (.tmp 98) 22 rfl _ _ _ _ rfl rfl hrun ?_
            refine hK _ _ ?_
            clear hK K
            (try simp only [Act.put, List.getElem_toArray, List.getElem_cons_zero, List.getElem_cons_succ, List.setIfInBounds_toArray, List.set_cons_zero, List.set_cons_succ])
            have hr := hid hr0
            replace hp := hid (hkp _ _ _ hp.out hpg.out)
            replace hcur := hid (hcur.out.trans hbW)
            clear hr0 hrun hbW hkp hg hgB
            refine wpAny_ready (rs := [9]) (by kernel_rfl) (by simp) ?_
            refine AllReady.cons rfl (fun K hK => ?_) AllReady.nil
            go_simp
            refine hK _ _ ?_
            clear hK K
            (try simp only [Act.put, List.getElem_toArray, List.getElem_cons_zero, List.getElem_cons_succ, List.setIfInBounds_toArray, List.set_cons_zero, List.set_cons_succ])
            replace hr := hid (hr.out.alloc (.cells #[.string last] 9))
            replace hp := hid (hp.out.alloc (.cells #[.string last] 9))
            have hx := hid (Blk.new V3 [.string last] 9)
            have hxB := hid hcur.out.size
            replace hcur := hid (hcur.out.alloc hcur.out.size (.cells #[.string last] 9))
            generalize V3.alloc (.cells #[.string last] 9) = V4 at hr hp hx hcur ⊢
            refine wpAny_ready (rs := [10]) (by kernel_rfl) (by simp) ?_
            refine AllReady.cons rfl (fun K hK => ?_) AllReady.nil
            obtain ⟨so2, sc2, V5, hrun, hr0, hbW, hkp⟩ := app_last W8.heap.size V4 _ (s0 :: t) last _ _ hr.out hx.out hm1001.out hcur.out.size
            refine step_append_run rfl (.tmp 99) (.tmp 106) 22 rfl _ _ _ _ rfl rfl hrun ?_
            refine hK _ _ ?_
            clear hK K
            (try simp only [Act.put, List.getElem_toArray, List.getElem_cons_zero, List.getElem_cons_succ, List.setIfInBounds_toArray, List.set_cons_zero, List.set_cons_succ])
            have hr2 := hid hr0
            replace hp := hid (hkp _ _ _ hp.out (by decide))
            replace hcur := hid (hcur.out.trans hbW)
            clear hr0 hrun hbW hkp hr hx
            refine wpAny_ready (rs := [11]) (by kernel_rfl) (by simp) ?_
            refine AllReady.cons rfl (fun K hK => ?_) AllReady.nil
            go_simp
            (with_reducible refine (join_any (s0 :: t ++ [last]) _ _ (own_strs hr2.out hlen2.out)).mono ?_)
            rw [hmore2.out last]
            rintro e V6 ⟨rfl, b9⟩
            unfold frV zeroFr
            dsimp only
            refine hK _ _ ?_
            clear hK K
            (try simp only [Act.put, List.getElem_toArray, List.getElem_cons_zero, List.getElem_cons_succ, List.setIfInBounds_toArray, List.set_cons_zero, List.set_cons_succ])
            replace hp := hid (hp.out.below b9 hp.out.lt)
            replace hcur := hid (bt hcur.out b9)
            clear b9 hr2
            refine wpAny_take (i := 12) (v := ?_) rfl (by kernel_rfl) (by kernel_rfl) (by kernel_rfl) (fun _ _ _ h => h) (Or.inl ⟨by rfl, ?_⟩) ?_
            rotate_left 1
            (intro w; go_simp; try with_reducible rfl)
            (try simp only [Act.put, List.getElem_toArray, List.getElem_cons_zero, List.getElem_cons_succ, List.setIfInBounds_toArray, List.set_cons_zero, List.set_cons_succ])
            refine wpAny_take (i := 13) (v := ?_) rfl (by kernel_rfl) (by kernel_rfl) (by kernel_rfl) (fun _ _ _ h => h) (Or.inl ⟨by rfl, ?_⟩) ?_
            rotate_left 1
            (intro w; go_simp; try with_reducible rfl)
            (try simp only [Act.put, List.getElem_toArray, List.getElem_cons_zero, List.getElem_cons_succ, List.setIfInBounds_toArray, List.set_cons_zero, List.set_cons_succ])
            refine wpAny_take (i := 14) (v := ?_) rfl (by kernel_rfl) (by kernel_rfl) (by kernel_rfl) (fun _ _ _ h => h) (Or.inl ⟨by rfl, ?_⟩) ?_
            rotate_left 1
            (intro w; go_simp; try with_reducible rfl)
            (try simp only [Act.put, List.getElem_toArray, List.getElem_cons_zero, List.getElem_cons_succ, List.setIfInBounds_toArray, List.set_cons_zero, List.set_cons_succ])
            refine wpAny_ready (rs := [16]) (by kernel_rfl) (by simp) ?_
            refine AllReady.cons rfl (fun K hK => ?_) AllReady.nil
            obtain ⟨p0, p1, p2, p3, pf⟩ := hp.out.four
            go_simp
            clear p0 p1 p2 p3 pf
            refine hK _ _ ?_
            clear hK K
            (try simp only [Act.put, List.getElem_toArray, List.getElem_cons_zero, List.getElem_cons_succ, List.setIfInBounds_toArray, List.set_cons_zero, List.set_cons_succ])
            refine wpAny_take (i := 17) (v := ?_) rfl (by kernel_rfl) (by kernel_rfl) (by kernel_rfl) (fun _ _ _ h => h) (Or.inl ⟨by rfl, ?_⟩) ?_
            rotate_left 1
            (intro w; go_simp; try with_reducible rfl)
            (try simp only [Act.put, List.getElem_toArray, List.getElem_cons_zero, List.getElem_cons_succ, List.setIfInBounds_toArray, List.set_cons_zero, List.set_cons_succ])
            refine wpAny_done (by kernel_rfl) ?_ _
            go_wp2_with fail
            go_meet
            exact ⟨rfl, hfin.out _ _ hpB.out hcur.out⟩
          refine AllReady.cons rfl (fun K hK => ?_) AllReady.nil
          go_simp
          refine hK _ _ ?_
          clear hK K
          (try simp only [Act.put, List.getElem_toArray, List.getElem_cons_zero, List.getElem_cons_succ, List.setIfInBounds_toArray, List.set_cons_zero, List.set_cons_succ])
          have hxg := hid (Nat.ne_of_gt hg.out.lt)
          replace hg := hid (hg.out.alloc (.cells #[.string last] 9))
          replace hp := hid (hp.out.alloc (.cells #[.string last] 9))
          have hx := hid (Blk.new V2 [.string last] 9)
          have hxB := hid hcur.out.size
          replace hcur := hid (hcur.out.alloc hcur.out.size (.cells #[.string last] 9))
          generalize V2.alloc (.cells #[.string last] 9) = V3 at hg hp hx hcur ⊢
          refine wpAny_ready (rs := [2]) (by kernel_rfl) (by simp) ?_
          refine AllReady.cons rfl (fun K hK => ?_) AllReady.nil
          obtain ⟨so, sc, V4, hrun, hr0, hbW, hkp⟩ := app_list W8.heap.size V3 _ (s0 :: t) _ _ _ (hsv8.out.below hcur.out) hlen.out hl17.out hm1000.out hg.out hgB.out
          refine step_append_run rfl (.tmp 97) (.tmp 98) 22 rfl _ _ _ _ rfl rfl hrun ?_
          refine hK _ _ ?_
          clear hK K
          (try simp only [Act.put, List.getElem_toArray, List.getElem_cons_zero, List.getElem_cons_succ, List.setIfInBounds_toArray, List.set_cons_zero, List.set_cons_succ])
          have hr := hid hr0
          replace hx := hid (hkp _ _ _ hx.out hxg.out)
          replace hp := hid (hkp _ _ _ hp.out hpg.out)
          replace hcur := hid (hcur.out.trans hbW)
          clear hr0 hrun hbW hkp hg hgB
          refine wpAny_ready (rs := [10]) (by kernel_rfl) (by simp) ?_
          refine AllReady.cons rfl (fun K hK => ?_) AllReady.nil
          obtain ⟨so2, sc2, V5, hrun, hr0, hbW, hkp⟩ := app_last W8.heap.size V4 _ (s0 :: t) last _ _ hr.out hx.out hm1001.out hcur.out.size
          refine step_append_run rfl (.tmp 99) (.tmp 106) 22 rfl _ _ _ _ rfl rfl hrun ?_
          refine hK _ _ ?_
          clear hK K
          (try simp only [Act.put, List.getElem_toArray, List.getElem_cons_zero, List.getElem_cons_succ, List.setIfInBounds_toArray, List.set_cons_zero, List.set_cons_succ])
          have hr2 := hid hr0
          replace hp := hid (hkp _ _ _ hp.out (by decide))
          replace hcur := hid (hcur.out.trans hbW)
          clear hr0 hrun hbW hkp hr hx
          refine wpAny_ready (rs := [11]) (by kernel_rfl) (by simp) ?_
          refine AllReady.cons rfl (fun K hK => ?_) AllReady.nil
          go_simp
          (with_reducible refine (join_any (s0 :: t ++ [last]) _ _ (own_strs hr2.out hlen2.out)).mono ?_)
          rw [hmore2.out last]
          rintro e V6 ⟨rfl, b9⟩
          unfold frV zeroFr
          dsimp only
          refine hK _ _ ?_
          clear hK K
          (try simp only [Act.put, List.getElem_toArray, List.getElem_cons_zero, List.getElem_cons_succ, List.setIfInBounds_toArray, List.set_cons_zero, List.set_cons_succ])
          replace hp := hid (hp.out.below b9 hp.out.lt)
          replace hcur := hid (bt hcur.out b9)
          clear b9 hr2
          refine wpAny_take (i := 12) (v := ?_) rfl (by kernel_rfl) (by kernel_rfl) (by kernel_rfl) (fun _ _ _ h => h) (Or.inl ⟨by rfl, ?_⟩) ?_
          rotate_left 1
          (intro w; go_simp; try with_reducible rfl)
          (try simp only [Act.put, List.getElem_toArray, List.getElem_cons_zero, List.getElem_cons_succ, List.setIfInBounds_toArray, List.set_cons_zero, List.set_cons_succ])
          refine wpAny_take (i := 13) (v := ?_) rfl (by kernel_rfl) (by kernel_rfl) (by kernel_rfl) (fun _ _ _ h => h) (Or.inl ⟨by rfl, ?_⟩) ?_
          rotate_left 1
          (intro w; go_simp; try with_reducible rfl)
          (try simp only [Act.put, List.getElem_toArray, List.getElem_cons_zero, List.getElem_cons_succ, List.setIfInBounds_toArray, List.set_cons_zero, List.set_cons_succ])
          refine wpAny_take (i := 14) (v := ?_) rfl (by kernel_rfl) (by kernel_rfl) (by kernel_rfl) (fun _ _ _ h => h) (Or.inl ⟨by rfl, ?_⟩) ?_
          rotate_left 1
          (intro w; go_simp; try with_reducible rfl)
          (try simp only [Act.put, List.getElem_toArray, List.getElem_cons_zero, List.getElem_cons_succ, List.setIfInBounds_toArray, List.set_cons_zero, List.set_cons_succ])
          refine wpAny_ready (rs := [16]) (by kernel_rfl) (by simp) ?_
          refine AllReady.cons rfl (fun K hK => ?_) AllReady.nil
          obtain ⟨p0, p1, p2, p3, pf⟩ := hp.out.four
          go_simp
          clear p0 p1 p2 p3 pf
          refine hK _ _ ?_
          clear hK K
          (try simp only [Act.put, List.getElem_toArray, List.getElem_cons_zero, List.getElem_cons_succ, List.setIfInBounds_toArray, List.set_cons_zero, List.set_cons_succ])
          refine wpAny_take (i := 17) (v := ?_) rfl (by kernel_rfl) (by kernel_rfl) (by kernel_rfl) (fun _ _ _ h => h) (Or.inl ⟨by rfl, ?_⟩) ?_
          rotate_left 1
          (intro w; go_simp; try with_reducible rfl)
          (try simp only [Act.put, List.getElem_toArray, List.getElem_cons_zero, List.getElem_cons_succ, List.setIfInBounds_toArray, List.set_cons_zero, List.set_cons_succ])
          refine wpAny_done (by kernel_rfl) ?_ _
          go_wp2_with fail
          go_meet
          exact ⟨rfl, hfin.out _ _ hpB.out hcur.out⟩
        refine AllReady.cons rfl (fun K hK => ?_) AllReady.nil
        go_simp
        refine hK _ _ ?_
        clear hK K
        (try simp only [Act.put, List.getElem_toArray, List.getElem_cons_zero, List.getElem_cons_succ, List.setIfInBounds_toArray, List.set_cons_zero, List.set_cons_succ])
        replace hp := hid (hp.out.alloc (.cells #[.string last] 9))
        have hx := hid (Blk.new V1 [.string last] 9)
        have hxB := hid hcur.out.size
        replace hcur := hid (hcur.out.alloc hcur.out.size (.cells #[.string last] 9))
        generalize V1.alloc (.cells #[.string last] 9) = V2 at hp hx hcur ⊢
        refine wpAny_ready (rs := [0]) (by kernel_rfl) (by simp) ?_
        refine AllReady.cons rfl (fun K hK => ?_) AllReady.nil
        go_simp
        refine hK _ _ ?_
        clear hK K
        (try simp only [Act.put, List.getElem_toArray, List.getElem_cons_zero, List.getElem_cons_succ, List.setIfInBounds_toArray, List.set_cons_zero, List.set_cons_succ])
        have hpg := hid (Nat.ne_of_lt hp.out.lt)
        have hxg := hid (Nat.ne_of_lt hx.out.lt)
        replace hx := hid (hx.out.alloc (.cells #[] 9))
        replace hp := hid (hp.out.alloc (.cells #[] 9))
        have hg := hid (Blk.new V2 [] 9)
        have hgB := hid hcur.out.size
        replace hcur := hid (hcur.out.alloc hcur.out.size (.cells #[] 9))
        generalize V2.alloc (.cells #[] 9) = V3 at hx hp hg hcur ⊢
        refine wpAny_ready (rs := [2]) (by kernel_rfl) (by simp) ?_
        refine AllReady.cons rfl (fun K hK => ?_) AllReady.nil
        obtain ⟨so, sc, V4, hrun, hr0, hbW, hkp⟩ := app_list W8.heap.size V3 _ (s0 :: t) _ _ _ (hsv8.out.below hcur.out) hlen.out hl17.out hm1000.out hg.out hgB.out
        refine step_append_run rfl (.tmp 97) (.tmp 98) 22 rfl _ _ _ _ rfl rfl hrun ?_
        refine hK _ _ ?_
        clear hK K
        (try simp only [Act.put, List.getElem_toArray, List.getElem_cons_zero, List.getElem_cons_succ, List.setIfInBounds_toArray, List.set_cons_zero, List.set_cons_succ])
        have hr := hid hr0
        replace hx := hid (hkp _ _ _ hx.out hxg.out)
        replace hp := hid (hkp _ _ _ hp.out hpg.out)
        replace hcur := hid (hcur.out.trans hbW)
        clear hr0 hrun hbW hkp hg hgB
        refine wpAny_ready (rs := [10]) (by kernel_rfl) (by simp) ?_
        refine AllReady.cons rfl (fun K hK => ?_) AllReady.nil
        obtain ⟨so2, sc2, V5, hrun, hr0, hbW, hkp⟩ := app_last W8.heap.size V4 _ (s0 :: t) last _ _ hr.out hx.out hm1001.out hcur.out.size
        refine step_append_run rfl (.tmp 99) (.tmp 106) 22 rfl _ _ _ _ rfl rfl hrun ?_
        refine hK _ _ ?_
        clear hK K
        (try simp only [Act.put, List.getElem_toArray, List.getElem_cons_zero, List.getElem_cons_succ, List.setIfInBounds_toArray, List.set_cons_zero, List.set_cons_succ])
        have hr2 := hid hr0
        replace hp := hid (hkp _ _ _ hp.out (by decide))
        replace hcur := hid (hcur.out.trans hbW)
        clear hr0 hrun hbW hkp hr hx
        refine wpAny_ready (rs := [11]) (by kernel_rfl) (by simp) ?_
        refine AllReady.cons rfl (fun K hK => ?_) AllReady.nil
        go_simp
        (with_reducible refine (join_any (s0 :: t ++ [last]) _ _ (own_strs hr2.out hlen2.out)).mono ?_)
        rw [hmore2.out last]
        rintro e V6 ⟨rfl, b9⟩
        unfold frV zeroFr
        dsimp only
        refine hK _ _ ?_
        clear hK K
        (try simp only [Act.put, List.getElem_toArray, List.getElem_cons_zero, List.getElem_cons_succ, List.setIfInBounds_toArray, List.set_cons_zero, List.set_cons_succ])
        replace hp := hid (hp.out.below b9 hp.out.lt)
        replace hcur := hid (bt hcur.out b9)
        clear b9 hr2
        refine wpAny_take (i := 12) (v := ?_) rfl (by kernel_rfl) (by kernel_rfl) (by kernel_rfl) (fun _ _ _ h => h) (Or.inl ⟨by rfl, ?_⟩) ?_
        rotate_left 1
        (intro w; go_simp; try with_reducible rfl)
        (try simp only [Act.put, List.getElem_toArray, List.getElem_cons_zero, List.getElem_cons_succ, List.setIfInBounds_toArray, List.set_cons_zero, List.set_cons_succ])
        refine wpAny_take (i := 13) (v := ?_) rfl (by kernel_rfl) (by kernel_rfl) (by kernel_rfl) (fun _ _ _ h => h) (Or.inl ⟨by rfl, ?_⟩) ?_
        rotate_left 1
        (intro w; go_simp; try with_reducible rfl)
        (try simp only [Act.put, List.getElem_toArray, List.getElem_cons_zero, List.getElem_cons_succ, List.setIfInBounds_toArray, List.set_cons_zero, List.set_cons_succ])
        refine wpAny_take (i := 14) (v := ?_) rfl (by kernel_rfl) (by kernel_rfl) (by kernel_rfl) (fun _ _ _ h => h) (Or.inl ⟨by rfl, ?_⟩) ?_
        rotate_left 1
        (intro w; go_simp; try with_reducible rfl)
        (try simp only [Act.put, List.getElem_toArray, List.getElem_cons_zero, List.getElem_cons_succ, List.setIfInBounds_toArray, List.set_cons_zero, List.set_cons_succ])
        refine wpAny_ready (rs := [16]) (by kernel_rfl) (by simp) ?_
        refine AllReady.cons rfl (fun K hK => ?_) AllReady.nil
        obtain ⟨p0, p1, p2, p3, pf⟩ := hp.out.four
        go_simp
        clear p0 p1 p2 p3 pf
        refine hK _ _ ?_
        clear hK K
        (try simp only [Act.put, List.getElem_toArray, List.getElem_cons_zero, List.getElem_cons_succ, List.setIfInBounds_toArray, List.set_cons_zero, List.set_cons_succ])
        refine wpAny_take (i := 17) (v := ?_) rfl (by kernel_rfl) (by kernel_rfl) (by kernel_rfl) (fun _ _ _ h => h) (Or.inl ⟨by rfl, ?_⟩) ?_
        rotate_left 1
        (intro w; go_simp; try with_reducible rfl)
        (try simp only [Act.put, List.getElem_toArray, List.getElem_cons_zero, List.getElem_cons_succ, List.setIfInBounds_toArray, List.set_cons_zero, List.set_cons_succ])
        refine wpAny_done (by kernel_rfl) ?_ _
        go_wp2_with fail
        go_meet
        exact ⟨rfl, hfin.out _ _ hpB.out hcur.out⟩
    case rest =>
      obtain ⟨rfl, hbc⟩ := hcut
      have hBX := hid hbc
      clear hbc hB8 hsv8 hlast
      go_wp2_with fail
      refine (join_any l1 _ _ (hv1.out.below hBX.out)).mono ?_
      rintro e wj ⟨rfl, bj⟩
      have hBj := hid (bt hBX.out bj)
      have hvj := hid (hv1.out.below hBj.out)
      clear bj hBX
      rcases join_two l1 with hj | ⟨g, hj, hg1, hg2, hg3, hg4, hg5⟩
      · rw [hj]
        clear hj
        unfold frV zeroFr
        dsimp only
        go_wp2_with fail
        go_ret
        exact ⟨rfl, hBj.out.alloc hBj.out.size _⟩
      · rw [hj]
        have hgs := hid (fun w => secs_any g w ⟨hg3, hg4, hg5, by have := (fchk_zero hg2).2; omega⟩)
        have hge : Hid (sectorsE g = (l1, 0)) := hid (by unfold sectorsE; rw [if_pos hg2, hg1])
        clear hj hg1 hg2 hg3 hg4 hg5
        obtain ⟨gk, ge, gq, gp⟩ := g
        unfold frV at hgs ⊢
        dsimp only at hgs ⊢
        go_wp2_with fail
        refine (hgs.out _).mono ?_
        rintro e wk ⟨mo, mn, mcap, hmn, rfl, hmown, bk⟩
        have hms := hid (SecTold.strs hmown hmn)
        have hBk := hid (bt (hBj.out.alloc hBj.out.size (.cells #[.int .u8 gk, .int .u64 ge, .int .u64 gq, .string gp] 40)) bk)
        have hvk := hid (hv1.out.below hBk.out)
        rw [hge.out] at hms hmn ⊢
        dsimp only at hms hmn ⊢
        subst hmn
        have hse : strsEq l1 l1 = true := by simp [strsEq]
        have hse' := hid hse
        clear hmown bk hse hgs hge
        go_wp2_with fail
        refine (rsame_any l1 l1 _ _ _ hms.out hvk.out).mono ?_
        rw [hse'.out]
        rintro e wl ⟨rfl, bl⟩
        have hBl := hid (bt hBk.out bl)
        clear bl
        go_wp2_with fail
        go_ret
        exact ⟨rfl, hBl.out⟩
  · have he : sectorsE ⟨k, ep, sq, p⟩ = ([], fchk k p.size) := by unfold sectorsE; rw [if_neg hc]
    have hq : (fchk k p.size != 0) = true := by simpa using hc
    rw [he] at hnh hsv ⊢
    generalize fchk k p.size = c at hq ⊢
    have hn0 : n = 0 := hnh.out
    clear hc he hsv hnh hsl hless hmore hhead hback
    subst hn0
    go_wp2_with fail
    have hBX := hid hB2.out
    clear hB2 c0 c1 c2 c3 cf F2'
    refine (join_any l1 _ _ (hv1.out.below hBX.out)).mono ?_
    rintro e wj ⟨rfl, bj⟩
    have hBj := hid (bt hBX.out bj)
    have hvj := hid (hv1.out.below hBj.out)
    clear bj hBX
    rcases join_two l1 with hj | ⟨g, hj, hg1, hg2, hg3, hg4, hg5⟩
    · rw [hj]
      clear hj
      unfold frV zeroFr
      dsimp only
      go_wp2_with fail
      go_ret
      exact ⟨rfl, hBj.out.alloc hBj.out.size _⟩
    · rw [hj]
      have hgs := hid (fun w => secs_any g w ⟨hg3, hg4, hg5, by have := (fchk_zero hg2).2; omega⟩)
      have hge : Hid (sectorsE g = (l1, 0)) := hid (by unfold sectorsE; rw [if_pos hg2, hg1])
      clear hj hg1 hg2 hg3 hg4 hg5
      obtain ⟨gk, ge, gq, gp⟩ := g
      unfold frV at hgs ⊢
      dsimp only at hgs ⊢
      go_wp2_with fail
      refine (hgs.out _).mono ?_
      rintro e wk ⟨mo, mn, mcap, hmn, rfl, hmown, bk⟩
      have hms := hid (SecTold.strs hmown hmn)
      have hBk := hid (bt (hBj.out.alloc hBj.out.size (.cells #[.int .u8 gk, .int .u64 ge, .int .u64 gq, .string gp] 40)) bk)
      have hvk := hid (hv1.out.below hBk.out)
      rw [hge.out] at hms hmn ⊢
      dsimp only at hms hmn ⊢
      subst hmn
      have hse : strsEq l1 l1 = true := by simp [strsEq]
      have hse' := hid hse
      clear hmown bk hse hgs hge
      go_wp2_with fail
      refine (rsame_any l1 l1 _ _ _ hms.out hvk.out).mono ?_
      rw [hse'.out]
      rintro e wl ⟨rfl, bl⟩
      have hBl := hid (bt hBk.out bl)
      clear bl
      go_wp2_with fail
      go_ret
      exact ⟨rfl, hBl.out⟩
end Go.Proofs.Ytgplioocnbjhaaa.recordBack
