/-
  wire's calls: contracts. Written by wip/wiretopgen.py.
-/
import Derived.Test.YtldlkoiekdlmhaaWireRefI
import Derived.Test.YtldlkoiekdlmhaaPkWireRefJ
namespace Go.Proofs.Ytldlkoiekdlmhaa.Wi
open Go.ChangeShapes Go.WideShapes Go.ChangeAt Go.RowKit
open Go.Proofs.Ytldlkoiekdlmhaa.Mem
open Go.Proofs.Ytldlkoiekdlmhaa.Lik (Kept)
open Go.Proofs.Ytldlkoiekdlmhaa.Crc hiding hid bt
set_option linter.unusedVariables false
set_option linter.unusedSimpArgs false
set_option maxRecDepth 100000
set_option maxHeartbeats 16000000 in
theorem asks_walk (a : Ask) (s : ByteArray) (w : World) (ha : askF a) (hs : s.size ≤ 16777216) : Calls Try.prog 3 #[.agg #[.int .u8 (a.k : Nat), .int .u64 (a.tx : Nat), .int .u8 (a.c.k : Nat), .string a.c.i, .string a.c.t, .string a.c.ut, .string a.c.ui, .int .u64 (a.v : Nat), .string a.s0, .string a.s1, .string a.s2, .string a.s3, .string a.s4, .string a.s5, .string a.s6], .string s] w fun e w' => e = .returned (.bool true) ∧ Below w.heap.size w w' := by
  go_enter Try.func3, Try.ntmps3
  go_upto_region 1 with fail
  have K := hid (Blk.new w [.int .u8 (a.k : Nat), .int .u64 (a.tx : Nat), .int .u8 (a.c.k : Nat), .string a.c.i, .string a.c.t, .string a.c.ut, .string a.c.ui, .int .u64 (a.v : Nat), .string a.s0, .string a.s1, .string a.s2, .string a.s3, .string a.s4, .string a.s5, .string a.s6] 30)
  have bw := hid ((Below.refl w.heap.size w).alloc (Nat.le_refl _) (.cells #[.int .u8 (a.k : Nat), .int .u64 (a.tx : Nat), .int .u8 (a.c.k : Nat), .string a.c.i, .string a.c.t, .string a.c.ut, .string a.c.ui, .int .u64 (a.v : Nat), .string a.s0, .string a.s1, .string a.s2, .string a.s3, .string a.s4, .string a.s5, .string a.s6] 30))
  change Hid (Blk (w.alloc (.cells #[.int .u8 (a.k : Nat), .int .u64 (a.tx : Nat), .int .u8 (a.c.k : Nat), .string a.c.i, .string a.c.t, .string a.c.ut, .string a.c.ui, .int .u64 (a.v : Nat), .string a.s0, .string a.s1, .string a.s2, .string a.s3, .string a.s4, .string a.s5, .string a.s6] 30)) _ _ _) at K
  generalize w.alloc (.cells #[.int .u8 (a.k : Nat), .int .u64 (a.tx : Nat), .int .u8 (a.c.k : Nat), .string a.c.i, .string a.c.t, .string a.c.ut, .string a.c.ui, .int .u64 (a.v : Nat), .string a.s0, .string a.s1, .string a.s2, .string a.s3, .string a.s4, .string a.s5, .string a.s6] 30) = X at K bw ⊢
  obtain ⟨pb, hpb⟩ : ∃ pb, w.heap.size = pb := ⟨_, rfl⟩
  rw [hpb] at K ⊢
  clear hpb
  obtain ⟨k0, k1, k2, k3, k4, k5, k6, k7, k8, k9, k10, k11, k12, k13, k14, kf⟩ := fifteen K.out
  go_wp2_with fail
  refine (writeask_any a _ ha).mono ?_
  rintro e w2 ⟨⟨x, z, rfl, hz⟩, b2⟩
  replace K := hid (K.out.below b2 K.out.lt)
  replace bw := hid (bw.out.trans (b2.mono bw.out.size))
  clear b2 k0 k1 k2 k3 k4 k5 k6 k7 k8 k9 k10 k11 k12 k13 k14 kf
  obtain ⟨k0, k1, k2, k3, k4, k5, k6, k7, k8, k9, k10, k11, k12, k13, k14, kf⟩ := fifteen K.out
  replace hz := hid hz
  go_wp2_with fail
  refine (writeask_ref a _ ha).mono ?_
  rintro e w3 ⟨⟨x2, z2, rfl, hz2⟩, b2⟩
  obtain ⟨e1, e2⟩ := hz2.one hz.out
  rw [e1, e2]
  replace bw := hid (bw.out.trans (b2.mono bw.out.size))
  clear b2 k0 k1 k2 k3 k4 k5 k6 k7 k8 k9 k10 k11 k12 k13 k14 kf hz hz2 e1 e2 K
  go_wp2_with fail
  refine (readask_any s _ hs).mono ?_
  rintro e w4 ⟨⟨b, y, rfl, hF, hb⟩, b2⟩
  replace bw := hid (bw.out.trans (b2.mono bw.out.size))
  replace hb := hid hb
  clear b2 hF
  go_upto_region 4 with fail
  have K := hid (Blk.new w4 [.int .u8 (b.k : Nat), .int .u64 (b.tx : Nat), .int .u8 (b.c.k : Nat), .string b.c.i, .string b.c.t, .string b.c.ut, .string b.c.ui, .int .u64 (b.v : Nat), .string b.s0, .string b.s1, .string b.s2, .string b.s3, .string b.s4, .string b.s5, .string b.s6] 30)
  replace bw := hid (bw.out.alloc bw.out.size (.cells #[.int .u8 (b.k : Nat), .int .u64 (b.tx : Nat), .int .u8 (b.c.k : Nat), .string b.c.i, .string b.c.t, .string b.c.ut, .string b.c.ui, .int .u64 (b.v : Nat), .string b.s0, .string b.s1, .string b.s2, .string b.s3, .string b.s4, .string b.s5, .string b.s6] 30))
  change Hid (Blk (w4.alloc (.cells #[.int .u8 (b.k : Nat), .int .u64 (b.tx : Nat), .int .u8 (b.c.k : Nat), .string b.c.i, .string b.c.t, .string b.c.ut, .string b.c.ui, .int .u64 (b.v : Nat), .string b.s0, .string b.s1, .string b.s2, .string b.s3, .string b.s4, .string b.s5, .string b.s6] 30)) _ _ _) at K
  generalize w4.alloc (.cells #[.int .u8 (b.k : Nat), .int .u64 (b.tx : Nat), .int .u8 (b.c.k : Nat), .string b.c.i, .string b.c.t, .string b.c.ut, .string b.c.ui, .int .u64 (b.v : Nat), .string b.s0, .string b.s1, .string b.s2, .string b.s3, .string b.s4, .string b.s5, .string b.s6] 30) = X1 at K bw ⊢
  obtain ⟨kb, hkb⟩ : ∃ kb, w4.heap.size = kb := ⟨_, rfl⟩
  rw [hkb] at K ⊢
  clear hkb
  go_wp2_with fail
  refine (readask_ref s _ hs).mono ?_
  rintro e w5 ⟨⟨b2', y2, rfl, hb2⟩, b2⟩
  obtain ⟨e1, e2⟩ := hb2.one hb.out
  rw [e1, e2]
  replace K := hid (K.out.below b2 K.out.lt)
  replace bw := hid (bw.out.trans (b2.mono bw.out.size))
  clear b2 hb hb2 e1 e2
  go_upto_region 5 with fail
  have J := hid (Blk.new w5 [.int .u8 (b.k : Nat), .int .u64 (b.tx : Nat), .int .u8 (b.c.k : Nat), .string b.c.i, .string b.c.t, .string b.c.ut, .string b.c.ui, .int .u64 (b.v : Nat), .string b.s0, .string b.s1, .string b.s2, .string b.s3, .string b.s4, .string b.s5, .string b.s6] 30)
  replace K := hid (K.out.alloc (.cells #[.int .u8 (b.k : Nat), .int .u64 (b.tx : Nat), .int .u8 (b.c.k : Nat), .string b.c.i, .string b.c.t, .string b.c.ut, .string b.c.ui, .int .u64 (b.v : Nat), .string b.s0, .string b.s1, .string b.s2, .string b.s3, .string b.s4, .string b.s5, .string b.s6] 30))
  replace bw := hid (bw.out.alloc bw.out.size (.cells #[.int .u8 (b.k : Nat), .int .u64 (b.tx : Nat), .int .u8 (b.c.k : Nat), .string b.c.i, .string b.c.t, .string b.c.ut, .string b.c.ui, .int .u64 (b.v : Nat), .string b.s0, .string b.s1, .string b.s2, .string b.s3, .string b.s4, .string b.s5, .string b.s6] 30))
  change Hid (Blk (w5.alloc (.cells #[.int .u8 (b.k : Nat), .int .u64 (b.tx : Nat), .int .u8 (b.c.k : Nat), .string b.c.i, .string b.c.t, .string b.c.ut, .string b.c.ui, .int .u64 (b.v : Nat), .string b.s0, .string b.s1, .string b.s2, .string b.s3, .string b.s4, .string b.s5, .string b.s6] 30)) _ _ _) at J
  generalize w5.alloc (.cells #[.int .u8 (b.k : Nat), .int .u64 (b.tx : Nat), .int .u8 (b.c.k : Nat), .string b.c.i, .string b.c.t, .string b.c.ut, .string b.c.ui, .int .u64 (b.v : Nat), .string b.s0, .string b.s1, .string b.s2, .string b.s3, .string b.s4, .string b.s5, .string b.s6] 30) = X2 at K J bw ⊢
  obtain ⟨jb, hjb⟩ : ∃ jb, w5.heap.size = jb := ⟨_, rfl⟩
  rw [hjb] at J ⊢
  clear hjb
  go_wp2_with fail
  refine (wlives_any _).mono ?_
  rintro e w6 ⟨rfl, b1⟩
  replace K := hid (K.out.below b1 K.out.lt)
  replace J := hid (J.out.below b1 J.out.lt)
  replace bw := hid (bw.out.trans (b1.mono bw.out.size))
  clear b1
  obtain ⟨k0, k1, k2, k3, k4, k5, k6, k7, k8, k9, k10, k11, k12, k13, k14, kf⟩ := fifteen K.out
  obtain ⟨j0, j1, j2, j3, j4, j5, j6, j7, j8, j9, j10, j11, j12, j13, j14, jf⟩ := fifteen J.out
  go_wp2_with fail
  go_ret
  exact ⟨rfl, bw.out⟩
end Go.Proofs.Ytldlkoiekdlmhaa.Wi
