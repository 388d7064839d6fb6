/-
  SectorCrashes: the walk.
-/
import Derived.Test.YtgplioocnbjhaaaSectorLives
import Derived.Test.YtgplioocnbjhaaaSectorSame
import Derived.Test.YtgplioocnbjhaaaSectorCopyRef
import Derived.Test.YtgplioocnbjhaaaSectorRefCrash
import Derived.Test.YtgplioocnbjhaaaSectorRefNew
namespace Go.Proofs.Ytgplioocnbjhaaa.sectorCrashes
open Go.ChangeShapes Go.WideShapes Go.ChangeAt Go.RowKit
open Go.Proofs.Ytgplioocnbjhaaa.Mem Go.Proofs.Ytgplioocnbjhaaa.Sector
set_option linter.unusedVariables false
set_option maxRecDepth 100000
set_option maxHeartbeats 4000000 in
theorem walk (v0 : Value) (a0 : Disk) (v1 : Value) (a1 : List Bool) (a2 : Int) (w : World) (h0 : DiskV w v0 a0) (f0 : (Lit.int .i64 a0.fuse).wf = true) (b0 : a0.secs.length * 16 ≤ 140737488355328 ∧ a0.pend.length * 24 ≤ 140737488355328) (w1 : BoolsV w v1 a1) (w2 : (Lit.int .i64 a2).wf = true) :
    Calls Try.prog 4 #[v0, v1, .int .i64 a2] w fun e w' => e = .returned (.bool true) ∧ Below w.heap.size w w' := by
  obtain ⟨r, hr⟩ : ∃ r, crashE a0 a1 = r := ⟨_, rfl⟩
  obtain ⟨q, hq⟩ : ∃ q, newE a2 = q := ⟨_, rfl⟩
  obtain ⟨ko, kcap, rfl, _⟩ := w1.form
  have hcr := hid (fun v W (h : DiskV W v a0) (hb : Below w.heap.size w W) => hr ▸ crash_any a0 v _ a1 W h (BoolsV.below w1 hb))
  have hrcr := hid (fun v W (h : DiskV W v a0) (hb : Below w.heap.size w W) => hr ▸ rcrash_any a0 v _ a1 W h (BoolsV.below w1 hb))
  have hnew := hid (fun W => hq ▸ new_any a2 W)
  have hrnew := hid (fun W => hq ▸ rnew_any a2 W)
  have hcp := hid (fun v W (h : DiskV W v a0) => rcopy_any a0 v W h b0.1 b0.2)
  clear hr hq
  have hv := hid h0
  obtain ⟨sv, pv, rfl, hs, hp⟩ := h0
  obtain ⟨so0, sc0, rfl, _⟩ := hs.form
  obtain ⟨po0, pc0, rfl, _⟩ := hp.form
  clear hs hp f0 b0 w1 w2
  go_enter Try.func4, Try.ntmps4
  go_wp2_with fail
  have K0 := hid (Blk.new w [.slice so0 a0.secs.length sc0, .slice po0 a0.pend.length pc0, .bool a0.off, .int .i64 a0.fuse] 25)
  have hb := hid ((Below.refl w.heap.size w).alloc (Nat.le_refl _) (.cells #[.slice so0 a0.secs.length sc0, .slice po0 a0.pend.length pc0, .bool a0.off, .int .i64 a0.fuse] 25))
  have u0 := hid (hv.out.below hb.out)
  clear hv
  generalize hX : w.alloc (.cells #[.slice so0 a0.secs.length sc0, .slice po0 a0.pend.length pc0, .bool a0.off, .int .i64 a0.fuse] 25) = X0 at K0 hb u0 ⊢
  clear hX
  obtain ⟨c0_0, c0_1, c0_2, c0_3, c0_f⟩ := K0.out.four
  refine (hcp.out _ _ u0.out).mono ?_
  rintro e w1 ⟨sv, pv, rfl, o1, b1⟩
  obtain ⟨so1, sc1, rfl, _⟩ := ownsRow_form o1.secs
  obtain ⟨po1, pc1, rfl, _⟩ := ownsRow_form o1.pend
  have hal : Below w1.heap.size w1 (w1.alloc (.cells #[.slice so1 a0.secs.length sc1, .slice po1 a0.pend.length pc1, .bool a0.off, .int .i64 a0.fuse] 25)) := (Below.refl _ w1).alloc (Nat.le_refl _) _
  have k0 := K0.out.below b1 K0.out.lt
  replace K0 := hid (k0.below hal k0.lt)
  clear k0
  replace u0 := hid ((u0.out.below b1).below hal)
  replace hb := hid (bt (bt hb.out b1) hal)
  have K1 := hid (Blk.new w1 [.slice so1 a0.secs.length sc1, .slice po1 a0.pend.length pc1, .bool a0.off, .int .i64 a0.fuse] 25)
  have u1 := hid (o1.v.below hal)
  clear hal b1 o1 c0_0 c0_1 c0_2 c0_3 c0_f
  skip
  obtain ⟨c0_0, c0_1, c0_2, c0_3, c0_f⟩ := K0.out.four
  go_wp2_with fail
  clear c0_0 c0_1 c0_2 c0_3 c0_f
  generalize hX : w1.alloc (.cells #[.slice so1 a0.secs.length sc1, .slice po1 a0.pend.length pc1, .bool a0.off, .int .i64 a0.fuse] 25) = X1 at K0 u0 K1 u1 hb ⊢
  clear hX
  obtain ⟨c0_0, c0_1, c0_2, c0_3, c0_f⟩ := K0.out.four
  obtain ⟨c1_0, c1_1, c1_2, c1_3, c1_f⟩ := K1.out.four
  refine (hcr.out _ _ u1.out hb.out).mono ?_
  rintro e w2 hr
  obtain ⟨so2, sc2, po2, pc2, rfl, o2, b2⟩ := hr.open
  clear hr
  have hal : Below w2.heap.size w2 (w2.alloc (.cells #[.slice so2 r.1.secs.length sc2, .slice po2 r.1.pend.length pc2, .bool r.1.off, .int .i64 r.1.fuse] 25)) := (Below.refl _ w2).alloc (Nat.le_refl _) _
  have k0 := K0.out.below b2 K0.out.lt
  replace K0 := hid (k0.below hal k0.lt)
  clear k0
  replace u0 := hid ((u0.out.below b2).below hal)
  have k1 := K1.out.below b2 K1.out.lt
  replace K1 := hid (k1.below hal k1.lt)
  clear k1
  replace u1 := hid ((u1.out.below b2).below hal)
  replace hb := hid (bt (bt hb.out b2) hal)
  have K2 := hid (Blk.new w2 [.slice so2 r.1.secs.length sc2, .slice po2 r.1.pend.length pc2, .bool r.1.off, .int .i64 r.1.fuse] 25)
  have u2 := hid (o2.v.below hal)
  clear hal b2 o2 c0_0 c0_1 c0_2 c0_3 c0_f c1_0 c1_1 c1_2 c1_3 c1_f
  skip
  obtain ⟨c0_0, c0_1, c0_2, c0_3, c0_f⟩ := K0.out.four
  obtain ⟨c1_0, c1_1, c1_2, c1_3, c1_f⟩ := K1.out.four
  go_wp2_with fail
  clear c0_0 c0_1 c0_2 c0_3 c0_f c1_0 c1_1 c1_2 c1_3 c1_f
  generalize hX : w2.alloc (.cells #[.slice so2 r.1.secs.length sc2, .slice po2 r.1.pend.length pc2, .bool r.1.off, .int .i64 r.1.fuse] 25) = X2 at K0 u0 K1 u1 K2 u2 hb ⊢
  clear hX
  obtain ⟨c0_0, c0_1, c0_2, c0_3, c0_f⟩ := K0.out.four
  obtain ⟨c1_0, c1_1, c1_2, c1_3, c1_f⟩ := K1.out.four
  obtain ⟨c2_0, c2_1, c2_2, c2_3, c2_f⟩ := K2.out.four
  refine (hrcr.out _ _ u0.out hb.out).mono ?_
  rintro e w3 hr
  obtain ⟨so3, sc3, po3, pc3, rfl, o3, b3⟩ := hr.open
  clear hr
  have hal : Below w3.heap.size w3 (w3.alloc (.cells #[.slice so3 r.1.secs.length sc3, .slice po3 r.1.pend.length pc3, .bool r.1.off, .int .i64 r.1.fuse] 25)) := (Below.refl _ w3).alloc (Nat.le_refl _) _
  have k0 := K0.out.below b3 K0.out.lt
  replace K0 := hid (k0.below hal k0.lt)
  clear k0
  replace u0 := hid ((u0.out.below b3).below hal)
  have k1 := K1.out.below b3 K1.out.lt
  replace K1 := hid (k1.below hal k1.lt)
  clear k1
  replace u1 := hid ((u1.out.below b3).below hal)
  have k2 := K2.out.below b3 K2.out.lt
  replace K2 := hid (k2.below hal k2.lt)
  clear k2
  replace u2 := hid ((u2.out.below b3).below hal)
  replace hb := hid (bt (bt hb.out b3) hal)
  have K3 := hid (Blk.new w3 [.slice so3 r.1.secs.length sc3, .slice po3 r.1.pend.length pc3, .bool r.1.off, .int .i64 r.1.fuse] 25)
  have u3 := hid (o3.v.below hal)
  clear hal b3 o3 c0_0 c0_1 c0_2 c0_3 c0_f c1_0 c1_1 c1_2 c1_3 c1_f c2_0 c2_1 c2_2 c2_3 c2_f
  skip
  obtain ⟨c0_0, c0_1, c0_2, c0_3, c0_f⟩ := K0.out.four
  obtain ⟨c1_0, c1_1, c1_2, c1_3, c1_f⟩ := K1.out.four
  obtain ⟨c2_0, c2_1, c2_2, c2_3, c2_f⟩ := K2.out.four
  go_wp2_with fail
  clear c0_0 c0_1 c0_2 c0_3 c0_f c1_0 c1_1 c1_2 c1_3 c1_f c2_0 c2_1 c2_2 c2_3 c2_f
  generalize hX : w3.alloc (.cells #[.slice so3 r.1.secs.length sc3, .slice po3 r.1.pend.length pc3, .bool r.1.off, .int .i64 r.1.fuse] 25) = X3 at K0 u0 K1 u1 K2 u2 K3 u3 hb ⊢
  clear hX
  obtain ⟨c0_0, c0_1, c0_2, c0_3, c0_f⟩ := K0.out.four
  obtain ⟨c1_0, c1_1, c1_2, c1_3, c1_f⟩ := K1.out.four
  obtain ⟨c2_0, c2_1, c2_2, c2_3, c2_f⟩ := K2.out.four
  obtain ⟨c3_0, c3_1, c3_2, c3_3, c3_f⟩ := K3.out.four
  refine (hnew.out _).mono ?_
  rintro e w4 hr
  obtain ⟨so4, sc4, po4, pc4, rfl, o4, b4⟩ := hr.open
  clear hr
  have hal : Below w4.heap.size w4 (w4.alloc (.cells #[.slice so4 q.1.secs.length sc4, .slice po4 q.1.pend.length pc4, .bool q.1.off, .int .i64 q.1.fuse] 25)) := (Below.refl _ w4).alloc (Nat.le_refl _) _
  have k0 := K0.out.below b4 K0.out.lt
  replace K0 := hid (k0.below hal k0.lt)
  clear k0
  replace u0 := hid ((u0.out.below b4).below hal)
  have k1 := K1.out.below b4 K1.out.lt
  replace K1 := hid (k1.below hal k1.lt)
  clear k1
  replace u1 := hid ((u1.out.below b4).below hal)
  have k2 := K2.out.below b4 K2.out.lt
  replace K2 := hid (k2.below hal k2.lt)
  clear k2
  replace u2 := hid ((u2.out.below b4).below hal)
  have k3 := K3.out.below b4 K3.out.lt
  replace K3 := hid (k3.below hal k3.lt)
  clear k3
  replace u3 := hid ((u3.out.below b4).below hal)
  replace hb := hid (bt (bt hb.out b4) hal)
  have K4 := hid (Blk.new w4 [.slice so4 q.1.secs.length sc4, .slice po4 q.1.pend.length pc4, .bool q.1.off, .int .i64 q.1.fuse] 25)
  have u4 := hid (o4.v.below hal)
  clear hal b4 o4 c0_0 c0_1 c0_2 c0_3 c0_f c1_0 c1_1 c1_2 c1_3 c1_f c2_0 c2_1 c2_2 c2_3 c2_f c3_0 c3_1 c3_2 c3_3 c3_f
  skip
  obtain ⟨c0_0, c0_1, c0_2, c0_3, c0_f⟩ := K0.out.four
  obtain ⟨c1_0, c1_1, c1_2, c1_3, c1_f⟩ := K1.out.four
  obtain ⟨c2_0, c2_1, c2_2, c2_3, c2_f⟩ := K2.out.four
  obtain ⟨c3_0, c3_1, c3_2, c3_3, c3_f⟩ := K3.out.four
  go_wp2_with fail
  clear c0_0 c0_1 c0_2 c0_3 c0_f c1_0 c1_1 c1_2 c1_3 c1_f c2_0 c2_1 c2_2 c2_3 c2_f c3_0 c3_1 c3_2 c3_3 c3_f
  generalize hX : w4.alloc (.cells #[.slice so4 q.1.secs.length sc4, .slice po4 q.1.pend.length pc4, .bool q.1.off, .int .i64 q.1.fuse] 25) = X4 at K0 u0 K1 u1 K2 u2 K3 u3 K4 u4 hb ⊢
  clear hX
  obtain ⟨c0_0, c0_1, c0_2, c0_3, c0_f⟩ := K0.out.four
  obtain ⟨c1_0, c1_1, c1_2, c1_3, c1_f⟩ := K1.out.four
  obtain ⟨c2_0, c2_1, c2_2, c2_3, c2_f⟩ := K2.out.four
  obtain ⟨c3_0, c3_1, c3_2, c3_3, c3_f⟩ := K3.out.four
  obtain ⟨c4_0, c4_1, c4_2, c4_3, c4_f⟩ := K4.out.four
  refine (hrnew.out _).mono ?_
  rintro e w5 hr
  obtain ⟨so5, sc5, po5, pc5, rfl, o5, b5⟩ := hr.open
  clear hr
  have hal : Below w5.heap.size w5 (w5.alloc (.cells #[.slice so5 q.1.secs.length sc5, .slice po5 q.1.pend.length pc5, .bool q.1.off, .int .i64 q.1.fuse] 25)) := (Below.refl _ w5).alloc (Nat.le_refl _) _
  have k0 := K0.out.below b5 K0.out.lt
  replace K0 := hid (k0.below hal k0.lt)
  clear k0
  replace u0 := hid ((u0.out.below b5).below hal)
  have k1 := K1.out.below b5 K1.out.lt
  replace K1 := hid (k1.below hal k1.lt)
  clear k1
  replace u1 := hid ((u1.out.below b5).below hal)
  have k2 := K2.out.below b5 K2.out.lt
  replace K2 := hid (k2.below hal k2.lt)
  clear k2
  replace u2 := hid ((u2.out.below b5).below hal)
  have k3 := K3.out.below b5 K3.out.lt
  replace K3 := hid (k3.below hal k3.lt)
  clear k3
  replace u3 := hid ((u3.out.below b5).below hal)
  have k4 := K4.out.below b5 K4.out.lt
  replace K4 := hid (k4.below hal k4.lt)
  clear k4
  replace u4 := hid ((u4.out.below b5).below hal)
  replace hb := hid (bt (bt hb.out b5) hal)
  have K5 := hid (Blk.new w5 [.slice so5 q.1.secs.length sc5, .slice po5 q.1.pend.length pc5, .bool q.1.off, .int .i64 q.1.fuse] 25)
  have u5 := hid (o5.v.below hal)
  clear hal b5 o5 c0_0 c0_1 c0_2 c0_3 c0_f c1_0 c1_1 c1_2 c1_3 c1_f c2_0 c2_1 c2_2 c2_3 c2_f c3_0 c3_1 c3_2 c3_3 c3_f c4_0 c4_1 c4_2 c4_3 c4_f
  skip
  obtain ⟨c0_0, c0_1, c0_2, c0_3, c0_f⟩ := K0.out.four
  obtain ⟨c1_0, c1_1, c1_2, c1_3, c1_f⟩ := K1.out.four
  obtain ⟨c2_0, c2_1, c2_2, c2_3, c2_f⟩ := K2.out.four
  obtain ⟨c3_0, c3_1, c3_2, c3_3, c3_f⟩ := K3.out.four
  obtain ⟨c4_0, c4_1, c4_2, c4_3, c4_f⟩ := K4.out.four
  go_wp2_with fail
  clear c0_0 c0_1 c0_2 c0_3 c0_f c1_0 c1_1 c1_2 c1_3 c1_f c2_0 c2_1 c2_2 c2_3 c2_f c3_0 c3_1 c3_2 c3_3 c3_f c4_0 c4_1 c4_2 c4_3 c4_f
  generalize hX : w5.alloc (.cells #[.slice so5 q.1.secs.length sc5, .slice po5 q.1.pend.length pc5, .bool q.1.off, .int .i64 q.1.fuse] 25) = X5 at K0 u0 K1 u1 K2 u2 K3 u3 K4 u4 K5 u5 hb ⊢
  clear hX
  obtain ⟨c0_0, c0_1, c0_2, c0_3, c0_f⟩ := K0.out.four
  obtain ⟨c1_0, c1_1, c1_2, c1_3, c1_f⟩ := K1.out.four
  obtain ⟨c2_0, c2_1, c2_2, c2_3, c2_f⟩ := K2.out.four
  obtain ⟨c3_0, c3_1, c3_2, c3_3, c3_f⟩ := K3.out.four
  obtain ⟨c4_0, c4_1, c4_2, c4_3, c4_f⟩ := K4.out.four
  obtain ⟨c5_0, c5_1, c5_2, c5_3, c5_f⟩ := K5.out.four
  refine (lives_any _).mono ?_
  rintro e z0 ⟨rfl, b⟩
  replace K0 := hid (K0.out.below b K0.out.lt)
  replace u0 := hid (u0.out.below b)
  replace K1 := hid (K1.out.below b K1.out.lt)
  replace u1 := hid (u1.out.below b)
  replace K2 := hid (K2.out.below b K2.out.lt)
  replace u2 := hid (u2.out.below b)
  replace K3 := hid (K3.out.below b K3.out.lt)
  replace u3 := hid (u3.out.below b)
  replace K4 := hid (K4.out.below b K4.out.lt)
  replace u4 := hid (u4.out.below b)
  replace K5 := hid (K5.out.below b K5.out.lt)
  replace u5 := hid (u5.out.below b)
  replace hb := hid (bt hb.out b)
  clear b c0_0 c0_1 c0_2 c0_3 c0_f c1_0 c1_1 c1_2 c1_3 c1_f c2_0 c2_1 c2_2 c2_3 c2_f c3_0 c3_1 c3_2 c3_3 c3_f c4_0 c4_1 c4_2 c4_3 c4_f c5_0 c5_1 c5_2 c5_3 c5_f
  obtain ⟨c0_0, c0_1, c0_2, c0_3, c0_f⟩ := K0.out.four
  obtain ⟨c1_0, c1_1, c1_2, c1_3, c1_f⟩ := K1.out.four
  obtain ⟨c2_0, c2_1, c2_2, c2_3, c2_f⟩ := K2.out.four
  obtain ⟨c3_0, c3_1, c3_2, c3_3, c3_f⟩ := K3.out.four
  obtain ⟨c4_0, c4_1, c4_2, c4_3, c4_f⟩ := K4.out.four
  obtain ⟨c5_0, c5_1, c5_2, c5_3, c5_f⟩ := K5.out.four
  go_wp2_with fail
  refine (same_self r.1 _ _ _ u2.out u3.out).mono ?_
  rintro e z1 ⟨rfl, b⟩
  replace K0 := hid (K0.out.below b K0.out.lt)
  replace u0 := hid (u0.out.below b)
  replace K1 := hid (K1.out.below b K1.out.lt)
  replace u1 := hid (u1.out.below b)
  replace K2 := hid (K2.out.below b K2.out.lt)
  replace u2 := hid (u2.out.below b)
  replace K3 := hid (K3.out.below b K3.out.lt)
  replace u3 := hid (u3.out.below b)
  replace K4 := hid (K4.out.below b K4.out.lt)
  replace u4 := hid (u4.out.below b)
  replace K5 := hid (K5.out.below b K5.out.lt)
  replace u5 := hid (u5.out.below b)
  replace hb := hid (bt hb.out b)
  clear b c0_0 c0_1 c0_2 c0_3 c0_f c1_0 c1_1 c1_2 c1_3 c1_f c2_0 c2_1 c2_2 c2_3 c2_f c3_0 c3_1 c3_2 c3_3 c3_f c4_0 c4_1 c4_2 c4_3 c4_f c5_0 c5_1 c5_2 c5_3 c5_f
  obtain ⟨c0_0, c0_1, c0_2, c0_3, c0_f⟩ := K0.out.four
  obtain ⟨c1_0, c1_1, c1_2, c1_3, c1_f⟩ := K1.out.four
  obtain ⟨c2_0, c2_1, c2_2, c2_3, c2_f⟩ := K2.out.four
  obtain ⟨c3_0, c3_1, c3_2, c3_3, c3_f⟩ := K3.out.four
  obtain ⟨c4_0, c4_1, c4_2, c4_3, c4_f⟩ := K4.out.four
  obtain ⟨c5_0, c5_1, c5_2, c5_3, c5_f⟩ := K5.out.four
  go_wp2_with fail
  refine (same_self q.1 _ _ _ u4.out u5.out).mono ?_
  rintro e z2 ⟨rfl, b⟩
  replace K0 := hid (K0.out.below b K0.out.lt)
  replace u0 := hid (u0.out.below b)
  replace K1 := hid (K1.out.below b K1.out.lt)
  replace u1 := hid (u1.out.below b)
  replace K2 := hid (K2.out.below b K2.out.lt)
  replace u2 := hid (u2.out.below b)
  replace K3 := hid (K3.out.below b K3.out.lt)
  replace u3 := hid (u3.out.below b)
  replace K4 := hid (K4.out.below b K4.out.lt)
  replace u4 := hid (u4.out.below b)
  replace K5 := hid (K5.out.below b K5.out.lt)
  replace u5 := hid (u5.out.below b)
  replace hb := hid (bt hb.out b)
  clear b c0_0 c0_1 c0_2 c0_3 c0_f c1_0 c1_1 c1_2 c1_3 c1_f c2_0 c2_1 c2_2 c2_3 c2_f c3_0 c3_1 c3_2 c3_3 c3_f c4_0 c4_1 c4_2 c4_3 c4_f c5_0 c5_1 c5_2 c5_3 c5_f
  obtain ⟨c0_0, c0_1, c0_2, c0_3, c0_f⟩ := K0.out.four
  obtain ⟨c1_0, c1_1, c1_2, c1_3, c1_f⟩ := K1.out.four
  obtain ⟨c2_0, c2_1, c2_2, c2_3, c2_f⟩ := K2.out.four
  obtain ⟨c3_0, c3_1, c3_2, c3_3, c3_f⟩ := K3.out.four
  obtain ⟨c4_0, c4_1, c4_2, c4_3, c4_f⟩ := K4.out.four
  obtain ⟨c5_0, c5_1, c5_2, c5_3, c5_f⟩ := K5.out.four
  go_wp2_with fail
  refine (same_self a0 _ _ _ u1.out u0.out).mono ?_
  rintro e z3 ⟨rfl, b⟩
  replace K0 := hid (K0.out.below b K0.out.lt)
  replace u0 := hid (u0.out.below b)
  replace K1 := hid (K1.out.below b K1.out.lt)
  replace u1 := hid (u1.out.below b)
  replace K2 := hid (K2.out.below b K2.out.lt)
  replace u2 := hid (u2.out.below b)
  replace K3 := hid (K3.out.below b K3.out.lt)
  replace u3 := hid (u3.out.below b)
  replace K4 := hid (K4.out.below b K4.out.lt)
  replace u4 := hid (u4.out.below b)
  replace K5 := hid (K5.out.below b K5.out.lt)
  replace u5 := hid (u5.out.below b)
  replace hb := hid (bt hb.out b)
  clear b c0_0 c0_1 c0_2 c0_3 c0_f c1_0 c1_1 c1_2 c1_3 c1_f c2_0 c2_1 c2_2 c2_3 c2_f c3_0 c3_1 c3_2 c3_3 c3_f c4_0 c4_1 c4_2 c4_3 c4_f c5_0 c5_1 c5_2 c5_3 c5_f
  obtain ⟨c0_0, c0_1, c0_2, c0_3, c0_f⟩ := K0.out.four
  obtain ⟨c1_0, c1_1, c1_2, c1_3, c1_f⟩ := K1.out.four
  obtain ⟨c2_0, c2_1, c2_2, c2_3, c2_f⟩ := K2.out.four
  obtain ⟨c3_0, c3_1, c3_2, c3_3, c3_f⟩ := K3.out.four
  obtain ⟨c4_0, c4_1, c4_2, c4_3, c4_f⟩ := K4.out.four
  obtain ⟨c5_0, c5_1, c5_2, c5_3, c5_f⟩ := K5.out.four
  go_wp2_with fail
  go_ret
  exact ⟨rfl, hb.out⟩
end Go.Proofs.Ytgplioocnbjhaaa.sectorCrashes
