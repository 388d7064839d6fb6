/-
  wire.walkAsk through a writer: contract. Written by wip/wirewgen.py.
-/
import Derived.Test.YtldlkoiekdlmhaaPkWireRR
namespace Go.Proofs.Ytldlkoiekdlmhaa.Wi
open Go.ChangeShapes Go.WideShapes Go.ChangeAt Go.RowKit
open Go.Proofs.Ytldlkoiekdlmhaa.Mem
open Go.Proofs.Ytldlkoiekdlmhaa.Lik (Kept)
open Go.Proofs.Ytldlkoiekdlmhaa.Crc hiding hid bt
set_option linter.unusedVariables false
set_option linter.unusedSimpArgs false
set_option maxRecDepth 100000
set_option maxHeartbeats 16000000 in
theorem wask3 (B b n m : Nat) (o : Option (List UInt8)) (a : Ask) (w : World) (h : Wr w B b o n m) (hF : askF ({ a with k := 3 })) (hm : m ≤ 20000000) (hBw : B ≤ w.heap.size) :
    Calls Try.prog 19 #[.iface 53 (.pointer (some ⟨b, 0, none⟩)), .agg #[.int .u8 3, .int .u64 (a.tx : Nat), .int .u8 (a.c.k : Nat), .string a.c.i, .string a.c.t, .string a.c.ut, .string a.c.ui, .int .u64 (a.v : Nat), .string a.s0, .string a.s1, .string a.s2, .string a.s3, .string a.s4, .string a.s5, .string a.s6]] w fun e w' => e = .returned (.agg #[.int .u8 3, .int .u64 (a.tx : Nat), .int .u8 (a.c.k : Nat), .string a.c.i, .string a.c.t, .string a.c.ut, .string a.c.ui, .int .u64 (a.v : Nat), .string a.s0, .string a.s1, .string a.s2, .string a.s3, .string a.s4, .string a.s5, .string a.s6]) ∧ WrP w B b (wA ({ a with k := 3 }) o) (n + 1) (m + 9000000) w' := by
  have hF' := hid hF
  obtain ⟨⟨fk, ftx, fv, fck⟩, fc, f0, f1, f2, f3, f4, f5, f6⟩ := hF
  dsimp only at fk ftx fv fck fc f0 f1 f2 f3 f4 f5 f6
  go_enter Try.func19, Try.ntmps19
  go_upto_region 1 with fail
  have S := hid (WX.new h hBw 30 [.int .u8 3, .int .u64 (a.tx : Nat), .int .u8 (a.c.k : Nat), .string a.c.i, .string a.c.t, .string a.c.ut, .string a.c.ui, .int .u64 (a.v : Nat), .string a.s0, .string a.s1, .string a.s2, .string a.s3, .string a.s4, .string a.s5, .string a.s6] [.int .u8 0, .int .u64 0, .int .u8 0, .string ⟨#[]⟩, .string ⟨#[]⟩, .string ⟨#[]⟩, .string ⟨#[]⟩, .int .u64 0, .string ⟨#[]⟩, .string ⟨#[]⟩, .string ⟨#[]⟩, .string ⟨#[]⟩, .string ⟨#[]⟩, .string ⟨#[]⟩, .string ⟨#[]⟩])
  change Hid (WX w B b _ _ _ _ _ _ _ _ ((w.alloc (.cells #[.int .u8 3, .int .u64 (a.tx : Nat), .int .u8 (a.c.k : Nat), .string a.c.i, .string a.c.t, .string a.c.ut, .string a.c.ui, .int .u64 (a.v : Nat), .string a.s0, .string a.s1, .string a.s2, .string a.s3, .string a.s4, .string a.s5, .string a.s6] 30)).alloc (.cells #[.int .u8 0, .int .u64 0, .int .u8 0, .string ⟨#[]⟩, .string ⟨#[]⟩, .string ⟨#[]⟩, .string ⟨#[]⟩, .int .u64 0, .string ⟨#[]⟩, .string ⟨#[]⟩, .string ⟨#[]⟩, .string ⟨#[]⟩, .string ⟨#[]⟩, .string ⟨#[]⟩, .string ⟨#[]⟩] 30))) at S
  generalize (w.alloc (.cells #[.int .u8 3, .int .u64 (a.tx : Nat), .int .u8 (a.c.k : Nat), .string a.c.i, .string a.c.t, .string a.c.ut, .string a.c.ui, .int .u64 (a.v : Nat), .string a.s0, .string a.s1, .string a.s2, .string a.s3, .string a.s4, .string a.s5, .string a.s6] 30)).alloc (.cells #[.int .u8 0, .int .u64 0, .int .u8 0, .string ⟨#[]⟩, .string ⟨#[]⟩, .string ⟨#[]⟩, .string ⟨#[]⟩, .int .u64 0, .string ⟨#[]⟩, .string ⟨#[]⟩, .string ⟨#[]⟩, .string ⟨#[]⟩, .string ⟨#[]⟩, .string ⟨#[]⟩, .string ⟨#[]⟩] 30) = X at S ⊢
  obtain ⟨pb, hpb⟩ : ∃ pb, w.heap.size = pb := ⟨_, rfl⟩
  obtain ⟨rb, hrb⟩ : ∃ rb, w.heap.size + 1 = rb := ⟨_, rfl⟩
  rw [hrb] at S ⊢
  rw [hpb] at S ⊢
  clear hpb hrb h
  obtain ⟨k0, k1, k2, k3, k4, k5, k6, k7, k8, k9, k10, k11, k12, k13, k14, kf⟩ := fifteen S.out.K
  have hc := hid (wsmall_any B b n m o 3 X S.out.wr (by omega) (by have := S.out.bel.size; have := S.out.hB; omega))
  go_wp2_with fail
  refine hc.out.mono ?_
  rintro e w1x ⟨rfl, hP⟩
  replace S := hid (S.out.call (by decide) hP)
  clear hc hP k0 k1 k2 k3 k4 k5 k6 k7 k8 k9 k10 k11 k12 k13 k14 kf
  obtain ⟨k0, k1, k2, k3, k4, k5, k6, k7, k8, k9, k10, k11, k12, k13, k14, kf⟩ := fifteen S.out.K
  go_upto_region 2 with fail
  replace S := hid ((S.out).set (by decide) 0 (.int .u8 3))
  change Hid (WX w B b pb rb _ _ _ _ [.int .u8 3, .int .u64 (a.tx : Nat), .int .u8 (a.c.k : Nat), .string a.c.i, .string a.c.t, .string a.c.ut, .string a.c.ui, .int .u64 (a.v : Nat), .string a.s0, .string a.s1, .string a.s2, .string a.s3, .string a.s4, .string a.s5, .string a.s6] _ ((w1x).setCell ⟨pb, 0, none⟩ (.int .u8 3))) at S
  clear k0 k1 k2 k3 k4 k5 k6 k7 k8 k9 k10 k11 k12 k13 k14 kf
  generalize (w1x).setCell ⟨pb, 0, none⟩ (.int .u8 3) = X1 at S ⊢
  obtain ⟨k0, k1, k2, k3, k4, k5, k6, k7, k8, k9, k10, k11, k12, k13, k14, kf⟩ := fifteen S.out.K
  have hc := hid (wnumber_any B b (n + 1) _ _ a.tx X1 S.out.wr (by omega) (by omega) (by have := S.out.bel.size; have := S.out.hB; omega))
  go_wp2_with fail
  refine hc.out.mono ?_
  rintro e w2x ⟨rfl, hP⟩
  replace S := hid (S.out.call (by decide) hP)
  clear hc hP k0 k1 k2 k3 k4 k5 k6 k7 k8 k9 k10 k11 k12 k13 k14 kf
  obtain ⟨k0, k1, k2, k3, k4, k5, k6, k7, k8, k9, k10, k11, k12, k13, k14, kf⟩ := fifteen S.out.K
  go_upto_region 14 with fail
  replace S := hid ((S.out).set (by decide) 1 (.int .u64 (a.tx : Nat)))
  change Hid (WX w B b pb rb _ _ _ _ [.int .u8 3, .int .u64 (a.tx : Nat), .int .u8 (a.c.k : Nat), .string a.c.i, .string a.c.t, .string a.c.ut, .string a.c.ui, .int .u64 (a.v : Nat), .string a.s0, .string a.s1, .string a.s2, .string a.s3, .string a.s4, .string a.s5, .string a.s6] _ ((w2x).setCell ⟨pb, 1, none⟩ (.int .u64 (a.tx : Nat)))) at S
  clear k0 k1 k2 k3 k4 k5 k6 k7 k8 k9 k10 k11 k12 k13 k14 kf
  generalize (w2x).setCell ⟨pb, 1, none⟩ (.int .u64 (a.tx : Nat)) = X2 at S ⊢
  obtain ⟨k0, k1, k2, k3, k4, k5, k6, k7, k8, k9, k10, k11, k12, k13, k14, kf⟩ := fifteen S.out.K
  obtain ⟨z0, z1, z2, z3, z4, z5, z6, z7, z8, z9, z10, z11, z12, z13, z14, zf⟩ := fifteen S.out.R
  obtain ⟨F1, F2⟩ := S.out.fin (by decide) [.int .u8 3, .int .u64 (a.tx : Nat), .int .u8 (a.c.k : Nat), .string a.c.i, .string a.c.t, .string a.c.ut, .string a.c.ui, .int .u64 (a.v : Nat), .string a.s0, .string a.s1, .string a.s2, .string a.s3, .string a.s4, .string a.s5, .string a.s6] rfl
  replace F1 := hid F1
  replace F2 := hid F2
  clear S
  go_wp2_with fail
  obtain ⟨q0, q1, q2, q3, q4, q5, q6, q7, q8, q9, q10, q11, q12, q13, q14, -⟩ := fifteen F1.out
  refine bodyPost_ret (v := .agg #[.int .u8 3, .int .u64 (a.tx : Nat), .int .u8 (a.c.k : Nat), .string a.c.i, .string a.c.t, .string a.c.ut, .string a.c.ui, .int .u64 (a.v : Nat), .string a.s0, .string a.s1, .string a.s2, .string a.s3, .string a.s4, .string a.s5, .string a.s6]) ?_ rfl ?_
  · simp only [stL] at q0 q1 q2 q3 q4 q5 q6 q7 q8 q9 q10 q11 q12 q13 q14
    simp [results, Try.results19, go_sem, q0, q1, q2, q3, q4, q5, q6, q7, q8, q9, q10, q11, q12, q13, q14]
  · refine ⟨rfl, ?_⟩
    have e : wA ({ a with k := 3 }) o = wN a.tx (w1 3 o) := by unfold wA; rw [if_neg (by show ¬ (3 : Nat) = 2; decide), if_pos (by show (3 : Nat) = 3 ∨ (3 : Nat) = 4; decide)]; rfl
    rw [e]
    exact ⟨F2.out.1.mono (by omega) (by omega), F2.out.2⟩
set_option maxHeartbeats 16000000 in
theorem wask4 (B b n m : Nat) (o : Option (List UInt8)) (a : Ask) (w : World) (h : Wr w B b o n m) (hF : askF ({ a with k := 4 })) (hm : m ≤ 20000000) (hBw : B ≤ w.heap.size) :
    Calls Try.prog 19 #[.iface 53 (.pointer (some ⟨b, 0, none⟩)), .agg #[.int .u8 4, .int .u64 (a.tx : Nat), .int .u8 (a.c.k : Nat), .string a.c.i, .string a.c.t, .string a.c.ut, .string a.c.ui, .int .u64 (a.v : Nat), .string a.s0, .string a.s1, .string a.s2, .string a.s3, .string a.s4, .string a.s5, .string a.s6]] w fun e w' => e = .returned (.agg #[.int .u8 4, .int .u64 (a.tx : Nat), .int .u8 (a.c.k : Nat), .string a.c.i, .string a.c.t, .string a.c.ut, .string a.c.ui, .int .u64 (a.v : Nat), .string a.s0, .string a.s1, .string a.s2, .string a.s3, .string a.s4, .string a.s5, .string a.s6]) ∧ WrP w B b (wA ({ a with k := 4 }) o) (n + 1) (m + 9000000) w' := by
  have hF' := hid hF
  obtain ⟨⟨fk, ftx, fv, fck⟩, fc, f0, f1, f2, f3, f4, f5, f6⟩ := hF
  dsimp only at fk ftx fv fck fc f0 f1 f2 f3 f4 f5 f6
  go_enter Try.func19, Try.ntmps19
  go_upto_region 1 with fail
  have S := hid (WX.new h hBw 30 [.int .u8 4, .int .u64 (a.tx : Nat), .int .u8 (a.c.k : Nat), .string a.c.i, .string a.c.t, .string a.c.ut, .string a.c.ui, .int .u64 (a.v : Nat), .string a.s0, .string a.s1, .string a.s2, .string a.s3, .string a.s4, .string a.s5, .string a.s6] [.int .u8 0, .int .u64 0, .int .u8 0, .string ⟨#[]⟩, .string ⟨#[]⟩, .string ⟨#[]⟩, .string ⟨#[]⟩, .int .u64 0, .string ⟨#[]⟩, .string ⟨#[]⟩, .string ⟨#[]⟩, .string ⟨#[]⟩, .string ⟨#[]⟩, .string ⟨#[]⟩, .string ⟨#[]⟩])
  change Hid (WX w B b _ _ _ _ _ _ _ _ ((w.alloc (.cells #[.int .u8 4, .int .u64 (a.tx : Nat), .int .u8 (a.c.k : Nat), .string a.c.i, .string a.c.t, .string a.c.ut, .string a.c.ui, .int .u64 (a.v : Nat), .string a.s0, .string a.s1, .string a.s2, .string a.s3, .string a.s4, .string a.s5, .string a.s6] 30)).alloc (.cells #[.int .u8 0, .int .u64 0, .int .u8 0, .string ⟨#[]⟩, .string ⟨#[]⟩, .string ⟨#[]⟩, .string ⟨#[]⟩, .int .u64 0, .string ⟨#[]⟩, .string ⟨#[]⟩, .string ⟨#[]⟩, .string ⟨#[]⟩, .string ⟨#[]⟩, .string ⟨#[]⟩, .string ⟨#[]⟩] 30))) at S
  generalize (w.alloc (.cells #[.int .u8 4, .int .u64 (a.tx : Nat), .int .u8 (a.c.k : Nat), .string a.c.i, .string a.c.t, .string a.c.ut, .string a.c.ui, .int .u64 (a.v : Nat), .string a.s0, .string a.s1, .string a.s2, .string a.s3, .string a.s4, .string a.s5, .string a.s6] 30)).alloc (.cells #[.int .u8 0, .int .u64 0, .int .u8 0, .string ⟨#[]⟩, .string ⟨#[]⟩, .string ⟨#[]⟩, .string ⟨#[]⟩, .int .u64 0, .string ⟨#[]⟩, .string ⟨#[]⟩, .string ⟨#[]⟩, .string ⟨#[]⟩, .string ⟨#[]⟩, .string ⟨#[]⟩, .string ⟨#[]⟩] 30) = X at S ⊢
  obtain ⟨pb, hpb⟩ : ∃ pb, w.heap.size = pb := ⟨_, rfl⟩
  obtain ⟨rb, hrb⟩ : ∃ rb, w.heap.size + 1 = rb := ⟨_, rfl⟩
  rw [hrb] at S ⊢
  rw [hpb] at S ⊢
  clear hpb hrb h
  obtain ⟨k0, k1, k2, k3, k4, k5, k6, k7, k8, k9, k10, k11, k12, k13, k14, kf⟩ := fifteen S.out.K
  have hc := hid (wsmall_any B b n m o 4 X S.out.wr (by omega) (by have := S.out.bel.size; have := S.out.hB; omega))
  go_wp2_with fail
  refine hc.out.mono ?_
  rintro e w1x ⟨rfl, hP⟩
  replace S := hid (S.out.call (by decide) hP)
  clear hc hP k0 k1 k2 k3 k4 k5 k6 k7 k8 k9 k10 k11 k12 k13 k14 kf
  obtain ⟨k0, k1, k2, k3, k4, k5, k6, k7, k8, k9, k10, k11, k12, k13, k14, kf⟩ := fifteen S.out.K
  go_upto_region 2 with fail
  replace S := hid ((S.out).set (by decide) 0 (.int .u8 4))
  change Hid (WX w B b pb rb _ _ _ _ [.int .u8 4, .int .u64 (a.tx : Nat), .int .u8 (a.c.k : Nat), .string a.c.i, .string a.c.t, .string a.c.ut, .string a.c.ui, .int .u64 (a.v : Nat), .string a.s0, .string a.s1, .string a.s2, .string a.s3, .string a.s4, .string a.s5, .string a.s6] _ ((w1x).setCell ⟨pb, 0, none⟩ (.int .u8 4))) at S
  clear k0 k1 k2 k3 k4 k5 k6 k7 k8 k9 k10 k11 k12 k13 k14 kf
  generalize (w1x).setCell ⟨pb, 0, none⟩ (.int .u8 4) = X1 at S ⊢
  obtain ⟨k0, k1, k2, k3, k4, k5, k6, k7, k8, k9, k10, k11, k12, k13, k14, kf⟩ := fifteen S.out.K
  have hc := hid (wnumber_any B b (n + 1) _ _ a.tx X1 S.out.wr (by omega) (by omega) (by have := S.out.bel.size; have := S.out.hB; omega))
  go_wp2_with fail
  refine hc.out.mono ?_
  rintro e w2x ⟨rfl, hP⟩
  replace S := hid (S.out.call (by decide) hP)
  clear hc hP k0 k1 k2 k3 k4 k5 k6 k7 k8 k9 k10 k11 k12 k13 k14 kf
  obtain ⟨k0, k1, k2, k3, k4, k5, k6, k7, k8, k9, k10, k11, k12, k13, k14, kf⟩ := fifteen S.out.K
  go_upto_region 14 with fail
  replace S := hid ((S.out).set (by decide) 1 (.int .u64 (a.tx : Nat)))
  change Hid (WX w B b pb rb _ _ _ _ [.int .u8 4, .int .u64 (a.tx : Nat), .int .u8 (a.c.k : Nat), .string a.c.i, .string a.c.t, .string a.c.ut, .string a.c.ui, .int .u64 (a.v : Nat), .string a.s0, .string a.s1, .string a.s2, .string a.s3, .string a.s4, .string a.s5, .string a.s6] _ ((w2x).setCell ⟨pb, 1, none⟩ (.int .u64 (a.tx : Nat)))) at S
  clear k0 k1 k2 k3 k4 k5 k6 k7 k8 k9 k10 k11 k12 k13 k14 kf
  generalize (w2x).setCell ⟨pb, 1, none⟩ (.int .u64 (a.tx : Nat)) = X2 at S ⊢
  obtain ⟨k0, k1, k2, k3, k4, k5, k6, k7, k8, k9, k10, k11, k12, k13, k14, kf⟩ := fifteen S.out.K
  obtain ⟨z0, z1, z2, z3, z4, z5, z6, z7, z8, z9, z10, z11, z12, z13, z14, zf⟩ := fifteen S.out.R
  obtain ⟨F1, F2⟩ := S.out.fin (by decide) [.int .u8 4, .int .u64 (a.tx : Nat), .int .u8 (a.c.k : Nat), .string a.c.i, .string a.c.t, .string a.c.ut, .string a.c.ui, .int .u64 (a.v : Nat), .string a.s0, .string a.s1, .string a.s2, .string a.s3, .string a.s4, .string a.s5, .string a.s6] rfl
  replace F1 := hid F1
  replace F2 := hid F2
  clear S
  go_wp2_with fail
  obtain ⟨q0, q1, q2, q3, q4, q5, q6, q7, q8, q9, q10, q11, q12, q13, q14, -⟩ := fifteen F1.out
  refine bodyPost_ret (v := .agg #[.int .u8 4, .int .u64 (a.tx : Nat), .int .u8 (a.c.k : Nat), .string a.c.i, .string a.c.t, .string a.c.ut, .string a.c.ui, .int .u64 (a.v : Nat), .string a.s0, .string a.s1, .string a.s2, .string a.s3, .string a.s4, .string a.s5, .string a.s6]) ?_ rfl ?_
  · simp only [stL] at q0 q1 q2 q3 q4 q5 q6 q7 q8 q9 q10 q11 q12 q13 q14
    simp [results, Try.results19, go_sem, q0, q1, q2, q3, q4, q5, q6, q7, q8, q9, q10, q11, q12, q13, q14]
  · refine ⟨rfl, ?_⟩
    have e : wA ({ a with k := 4 }) o = wN a.tx (w1 4 o) := by unfold wA; rw [if_neg (by show ¬ (4 : Nat) = 2; decide), if_pos (by show (4 : Nat) = 3 ∨ (4 : Nat) = 4; decide)]; rfl
    rw [e]
    exact ⟨F2.out.1.mono (by omega) (by omega), F2.out.2⟩
end Go.Proofs.Ytldlkoiekdlmhaa.Wi
