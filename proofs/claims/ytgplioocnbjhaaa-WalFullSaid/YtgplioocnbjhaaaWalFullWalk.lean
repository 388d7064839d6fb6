/-
  WalFull: the walk.
-/
import Derived.Test.YtgplioocnbjhaaaWalLives
import Derived.Test.YtgplioocnbjhaaaWalArgs
import Derived.Test.YtgplioocnbjhaaaSectorSame
namespace Go.Proofs.Ytgplioocnbjhaaa.walFull
open Go.ChangeShapes Go.WideShapes Go.ChangeAt Go.RowKit
open Go.Proofs.Ytgplioocnbjhaaa.Mem Go.Proofs.Ytgplioocnbjhaaa.Rec Go.Proofs.Ytgplioocnbjhaaa.Sector Go.Proofs.Ytgplioocnbjhaaa.Wal
set_option linter.unusedVariables false
set_option maxRecDepth 100000
theorem full_code {d : Disk} {r : Rg} {f : Fr} (h : walChk d r = 0) : (f.kind = 0 ∧ appE d r r.s f = ⟨d, 0, 1⟩) ∨ (f.kind ≠ 0 ∧ 16384 < f.pay.size ∧ appE d r r.s f = ⟨d, 0, 3⟩) ∨ appE d r r.s f = ⟨d, 0, 16⟩ := by
  obtain ⟨k1, k2, k3, k4, k5⟩ := walChk_zero h
  unfold appE
  rw [if_neg (by simpa using h)]
  by_cases h1 : (sectorsE f).2 = 0
  · obtain ⟨hc, hs⟩ := sectorsE_zero h1
    rw [if_neg (by simpa using h1), hs, if_neg (by omega), if_pos (by dsimp only; rw [secsL_len]; push_cast; omega)]
    exact .inr (.inr rfl)
  · rw [if_pos h1]
    have hc : fchk f.kind f.pay.size ≠ 0 := fun hc => h1 (by unfold sectorsE; rw [if_pos hc])
    have hv : (sectorsE f).2 = fchk f.kind f.pay.size := by unfold sectorsE; rw [if_neg hc]
    rw [hv]
    unfold fchk at hc ⊢
    by_cases hk : f.kind = 0
    · rw [if_pos hk]; exact .inl ⟨hk, rfl⟩
    · rw [if_neg hk] at hc ⊢
      by_cases hl : 16384 < f.pay.size
      · rw [if_pos hl]; exact .inr (.inl ⟨hk, hl, rfl⟩)
      · rw [if_neg hl] at hc; exact absurd rfl hc
set_option maxHeartbeats 4000000 in
theorem walk (v0 : Value) (a0 : Disk) (r : Rg) (f : Fr) (w : World) (h0 : DiskV w v0 a0) (f0 : (Lit.int .i64 a0.fuse).wf = true) (w1 : r.has) (w2 : f.has) :
    Calls Try.prog 11 #[v0, rgV r, frV f] w fun e w' => e = .returned (.bool true) ∧ Below w.heap.size w w' := by
  have hv := hid h0
  obtain ⟨sv, pv, rfl, hs, hp⟩ := h0
  obtain ⟨so, scap, rfl, _⟩ := hs.form
  obtain ⟨po, pcap, rfl, _⟩ := hp.form
  have hcheck := hid (fun v W (h : DiskV W v a0) => wcheck_any a0 v r W h w1)
  have hap := hid (fun v W (h : DiskV W v a0) => append_any a0 v r r.s f W h f0 w1 (WalkArith.wf_i64 ⟨w1.s0, w1.s1⟩) w2)
  have hps := hid w2.2.2.2
  clear hs hp f0 w1 w2
  rw [show rgV r = .agg #[.int .i64 r.f, .int .i64 r.s] from rfl] at hcheck hap ⊢
  rw [show frV f = .agg #[.int .u8 f.kind, .int .u64 f.epoch, .int .u64 f.seq, .string f.pay] from rfl] at hap ⊢
  go_enter Try.func11, Try.ntmps11
  go_wp2_with fail
  have D0 := ((Blk.new w [.slice so a0.secs.length scap, .slice po a0.pend.length pcap, .bool a0.off, .int .i64 a0.fuse] 25).alloc (.cells #[.int .i64 r.f, .int .i64 r.s] 54)).alloc (.cells #[.int .u8 f.kind, .int .u64 f.epoch, .int .u64 f.seq, .string f.pay] 40)
  have R0 := (Blk.new' (w.alloc (.cells #[.slice so a0.secs.length scap, .slice po a0.pend.length pcap, .bool a0.off, .int .i64 a0.fuse] 25)) [.int .i64 r.f, .int .i64 r.s] 54 (w.heap.size + 1) (by simp)).alloc (.cells #[.int .u8 f.kind, .int .u64 f.epoch, .int .u64 f.seq, .string f.pay] 40)
  have F0 := Blk.new' ((w.alloc (.cells #[.slice so a0.secs.length scap, .slice po a0.pend.length pcap, .bool a0.off, .int .i64 a0.fuse] 25)).alloc (.cells #[.int .i64 r.f, .int .i64 r.s] 54)) [.int .u8 f.kind, .int .u64 f.epoch, .int .u64 f.seq, .string f.pay] 40 (w.heap.size + 2) (by simp)
  have b0 : Below w.heap.size w (((w.alloc (.cells #[.slice so a0.secs.length scap, .slice po a0.pend.length pcap, .bool a0.off, .int .i64 a0.fuse] 25)).alloc (.cells #[.int .i64 r.f, .int .i64 r.s] 54)).alloc (.cells #[.int .u8 f.kind, .int .u64 f.epoch, .int .u64 f.seq, .string f.pay] 40)) := by go_grown
  generalize ((w.alloc (.cells #[.slice so a0.secs.length scap, .slice po a0.pend.length pcap, .bool a0.off, .int .i64 a0.fuse] 25)).alloc (.cells #[.int .i64 r.f, .int .i64 r.s] 54)).alloc (.cells #[.int .u8 f.kind, .int .u64 f.epoch, .int .u64 f.seq, .string f.pay] 40) = X0 at D0 R0 F0 b0 ⊢
  refine (Wal.lives_any _).mono ?_
  rintro e w1 ⟨rfl, b1⟩
  have D1 := hid (D0.below b1 D0.lt)
  have R1 := hid (R0.below b1 R0.lt)
  have F1 := hid (F0.below b1 F0.lt)
  have hb1 := hid (bt b0 b1)
  clear D0 R0 F0 b0 b1
  obtain ⟨d0, d1, d2, d3, df⟩ := D1.out.four
  obtain ⟨r0, r1, rf⟩ := R1.out.two
  obtain ⟨f0, f1, f2, f3, ff⟩ := F1.out.four
  go_wp2_with fail
  refine (hcheck.out _ _ (hv.out.below hb1.out)).mono ?_
  rintro e w2 ⟨rfl, b2⟩
  have D2 := hid (D1.out.below b2 D1.out.lt)
  have R2 := hid (R1.out.below b2 R1.out.lt)
  have F2 := hid (F1.out.below b2 F1.out.lt)
  have hb2 := hid (bt hb1.out b2)
  clear d0 d1 d2 d3 df r0 r1 rf f0 f1 f2 f3 ff
  clear D1 R1 F1 hb1 b2 hcheck
  obtain ⟨d0, d1, d2, d3, df⟩ := D2.out.four
  obtain ⟨r0, r1, rf⟩ := R2.out.two
  obtain ⟨f0, f1, f2, f3, ff⟩ := F2.out.four
  by_cases hc : walChk a0 r = 0
  · have hcode := hid (full_code (f := f) hc)
    have hz1 : (walChk a0 r != 0) = false := by rw [hc]; rfl
    clear hc
    go_wp2_with fail
    clear hz1
    rcases hcode.out with ⟨hk, hE'⟩ | ⟨hk, hl, hE'⟩ | hE'
    · have hE := hid hE'
      have hk2 := hid (show ((f.kind : Int) == 0) = true by rw [hk]; rfl)
      clear hE' hk hcode
      replace hap := hid (fun v W h => hE.out ▸ hap.out v W h)
      refine (hap.out _ _ (hv.out.below hb2.out)).mono ?_
      rintro e w3 hr
      obtain ⟨so3, sc3, po3, pc3, rfl, o3, b3⟩ := hr.open
      dsimp only at o3
      clear hr hap
      clear d0 d1 d2 d3 df r0 r1 rf f0 f1 f2 f3 ff
      have hal : Below w3.heap.size w3 (w3.alloc (.cells #[.slice so3 a0.secs.length sc3, .slice po3 a0.pend.length pc3, .bool a0.off, .int .i64 a0.fuse] 25)) := (Below.refl _ w3).alloc (Nat.le_refl _) _
      have D3 := hid ((D2.out.below b3 D2.out.lt).below hal (Nat.lt_of_lt_of_le D2.out.lt b3.size))
      have R3 := hid ((R2.out.below b3 R2.out.lt).below hal (Nat.lt_of_lt_of_le R2.out.lt b3.size))
      have F3 := hid ((F2.out.below b3 F2.out.lt).below hal (Nat.lt_of_lt_of_le F2.out.lt b3.size))
      have E3 := hid (Blk.new w3 [.slice so3 a0.secs.length sc3, .slice po3 a0.pend.length pc3, .bool a0.off, .int .i64 a0.fuse] 25)
      have u3 := hid (o3.v.below hal)
      have hb3 := hid (bt (bt hb2.out b3) hal)
      clear D2 R2 F2 hb2 b3 o3
      dsimp only
      go_upto_region 6 with fail
      generalize w3.alloc (.cells #[.slice so3 a0.secs.length sc3, .slice po3 a0.pend.length pc3, .bool a0.off, .int .i64 a0.fuse] 25) = X3 at hal D3 R3 F3 E3 u3 hb3 ⊢
      clear hal
      obtain ⟨d0, d1, d2, d3, df⟩ := D3.out.four
      obtain ⟨r0, r1, rf⟩ := R3.out.two
      obtain ⟨f0, f1, f2, f3, ff⟩ := F3.out.four
      obtain ⟨e0, e1, e2, e3, ef⟩ := E3.out.four
      have hu := hid (hv.out.below hb3.out)
      have hkk := hk2.out
      go_wp2_with fail
      refine (same_self a0 _ _ _ hu.out u3.out).mono ?_
      rintro e w4 ⟨rfl, b4⟩
      have F4 := hid (F3.out.below b4 F3.out.lt)
      have hb4 := hid (bt hb3.out b4)
      clear d0 d1 d2 d3 df r0 r1 rf f0 f1 f2 f3 ff
      clear e0 e1 e2 e3 ef D3 R3 F3 E3 u3 hu hb3 b4
      obtain ⟨f0, f1, f2, f3, ff⟩ := F4.out.four
      go_wp2_with fail
      go_ret
      exact ⟨rfl, hb4.out⟩
    · have hE := hid hE'
      have hk2 := hid (show ((f.kind : Int) == 0) = false by rw [beq_eq_false_iff_ne]; omega)
      have hl2 := hid (show (16384 : Int) < (f.pay.size : Int) by omega)
      clear hE' hk hl hcode
      replace hap := hid (fun v W h => hE.out ▸ hap.out v W h)
      refine (hap.out _ _ (hv.out.below hb2.out)).mono ?_
      rintro e w3 hr
      obtain ⟨so3, sc3, po3, pc3, rfl, o3, b3⟩ := hr.open
      dsimp only at o3
      clear hr hap
      clear d0 d1 d2 d3 df r0 r1 rf f0 f1 f2 f3 ff
      have hal : Below w3.heap.size w3 (w3.alloc (.cells #[.slice so3 a0.secs.length sc3, .slice po3 a0.pend.length pc3, .bool a0.off, .int .i64 a0.fuse] 25)) := (Below.refl _ w3).alloc (Nat.le_refl _) _
      have D3 := hid ((D2.out.below b3 D2.out.lt).below hal (Nat.lt_of_lt_of_le D2.out.lt b3.size))
      have R3 := hid ((R2.out.below b3 R2.out.lt).below hal (Nat.lt_of_lt_of_le R2.out.lt b3.size))
      have F3 := hid ((F2.out.below b3 F2.out.lt).below hal (Nat.lt_of_lt_of_le F2.out.lt b3.size))
      have E3 := hid (Blk.new w3 [.slice so3 a0.secs.length sc3, .slice po3 a0.pend.length pc3, .bool a0.off, .int .i64 a0.fuse] 25)
      have u3 := hid (o3.v.below hal)
      have hb3 := hid (bt (bt hb2.out b3) hal)
      clear D2 R2 F2 hb2 b3 o3
      dsimp only
      go_upto_region 6 with fail
      generalize w3.alloc (.cells #[.slice so3 a0.secs.length sc3, .slice po3 a0.pend.length pc3, .bool a0.off, .int .i64 a0.fuse] 25) = X3 at hal D3 R3 F3 E3 u3 hb3 ⊢
      clear hal
      obtain ⟨d0, d1, d2, d3, df⟩ := D3.out.four
      obtain ⟨r0, r1, rf⟩ := R3.out.two
      obtain ⟨f0, f1, f2, f3, ff⟩ := F3.out.four
      obtain ⟨e0, e1, e2, e3, ef⟩ := E3.out.four
      have hu := hid (hv.out.below hb3.out)
      have hkk := hk2.out
      have hll := hl2.out
      go_wp2_with fail
      refine (same_self a0 _ _ _ hu.out u3.out).mono ?_
      rintro e w4 ⟨rfl, b4⟩
      have F4 := hid (F3.out.below b4 F3.out.lt)
      have hb4 := hid (bt hb3.out b4)
      clear d0 d1 d2 d3 df r0 r1 rf f0 f1 f2 f3 ff
      clear e0 e1 e2 e3 ef D3 R3 F3 E3 u3 hu hb3 b4
      obtain ⟨f0, f1, f2, f3, ff⟩ := F4.out.four
      go_wp2_with fail
      go_ret
      exact ⟨rfl, hb4.out⟩
    · have hE := hid hE'
      clear hE' hcode
      replace hap := hid (fun v W h => hE.out ▸ hap.out v W h)
      refine (hap.out _ _ (hv.out.below hb2.out)).mono ?_
      rintro e w3 hr
      obtain ⟨so3, sc3, po3, pc3, rfl, o3, b3⟩ := hr.open
      dsimp only at o3
      clear hr hap
      clear d0 d1 d2 d3 df r0 r1 rf f0 f1 f2 f3 ff
      have hal : Below w3.heap.size w3 (w3.alloc (.cells #[.slice so3 a0.secs.length sc3, .slice po3 a0.pend.length pc3, .bool a0.off, .int .i64 a0.fuse] 25)) := (Below.refl _ w3).alloc (Nat.le_refl _) _
      have D3 := hid ((D2.out.below b3 D2.out.lt).below hal (Nat.lt_of_lt_of_le D2.out.lt b3.size))
      have R3 := hid ((R2.out.below b3 R2.out.lt).below hal (Nat.lt_of_lt_of_le R2.out.lt b3.size))
      have F3 := hid ((F2.out.below b3 F2.out.lt).below hal (Nat.lt_of_lt_of_le F2.out.lt b3.size))
      have E3 := hid (Blk.new w3 [.slice so3 a0.secs.length sc3, .slice po3 a0.pend.length pc3, .bool a0.off, .int .i64 a0.fuse] 25)
      have u3 := hid (o3.v.below hal)
      have hb3 := hid (bt (bt hb2.out b3) hal)
      clear D2 R2 F2 hb2 b3 o3
      dsimp only
      go_upto_region 6 with fail
      generalize w3.alloc (.cells #[.slice so3 a0.secs.length sc3, .slice po3 a0.pend.length pc3, .bool a0.off, .int .i64 a0.fuse] 25) = X3 at hal D3 R3 F3 E3 u3 hb3 ⊢
      clear hal
      obtain ⟨d0, d1, d2, d3, df⟩ := D3.out.four
      obtain ⟨r0, r1, rf⟩ := R3.out.two
      obtain ⟨f0, f1, f2, f3, ff⟩ := F3.out.four
      obtain ⟨e0, e1, e2, e3, ef⟩ := E3.out.four
      have hu := hid (hv.out.below hb3.out)
      go_wp2_with fail
      refine (same_self a0 _ _ _ hu.out u3.out).mono ?_
      rintro e w4 ⟨rfl, b4⟩
      have F4 := hid (F3.out.below b4 F3.out.lt)
      have hb4 := hid (bt hb3.out b4)
      clear d0 d1 d2 d3 df r0 r1 rf f0 f1 f2 f3 ff
      clear e0 e1 e2 e3 ef D3 R3 F3 E3 u3 hu hb3 b4
      obtain ⟨f0, f1, f2, f3, ff⟩ := F4.out.four
      go_wp2_with fail
      go_ret
      exact ⟨rfl, hb4.out⟩
  · have hz1 : (walChk a0 r != 0) = true := by simpa using hc
    clear hc
    go_wp2_with fail
    go_ret
    exact ⟨rfl, hb2.out⟩
end Go.Proofs.Ytgplioocnbjhaaa.walFull
