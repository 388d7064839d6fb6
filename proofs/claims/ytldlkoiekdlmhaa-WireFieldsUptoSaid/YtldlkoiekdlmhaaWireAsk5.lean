/-
  wire.walkAsk through a reader, by kinds: contract. Written by wip/wireaskgen.py.
-/
import Derived.Test.YtldlkoiekdlmhaaWireAskS
namespace Go.Proofs.Ytldlkoiekdlmhaa.Wi
open Go.ChangeShapes Go.WideShapes Go.ChangeAt Go.RowKit
open Go.Proofs.Ytldlkoiekdlmhaa.Mem
open Go.Proofs.Ytldlkoiekdlmhaa.Crc hiding hid bt
set_option linter.unusedVariables false
set_option linter.unusedSimpArgs false
set_option maxRecDepth 100000
set_option maxHeartbeats 16000000 in
theorem rask5 (b : Nat) (s : ByteArray) (wr : Bool) (w : World) (h0 : Blk w b [.string s, .bool wr] 67) (hs : s.size ≤ 16777216) (hsm : SmallAt b s wr 5) :
    Calls Try.prog 19 #[.iface 65 (.pointer (some ⟨b, 0, none⟩)), .agg #[.int .u8 0, .int .u64 0, .int .u8 0, .string ⟨#[]⟩, .string ⟨#[]⟩, .string ⟨#[]⟩, .string ⟨#[]⟩, .int .u64 0, .string ⟨#[]⟩, .string ⟨#[]⟩, .string ⟨#[]⟩, .string ⟨#[]⟩, .string ⟨#[]⟩, .string ⟨#[]⟩, .string ⟨#[]⟩]] w fun e w' => ∃ a' : Ask, e = .returned (.agg #[.int .u8 (a'.k : Nat), .int .u64 (a'.tx : Nat), .int .u8 (a'.c.k : Nat), .string a'.c.i, .string a'.c.t, .string a'.c.ut, .string a'.c.ui, .int .u64 (a'.v : Nat), .string a'.s0, .string a'.s1, .string a'.s2, .string a'.s3, .string a'.s4, .string a'.s5, .string a'.s6]) ∧ askF a' ∧ RdP w b pA (left s wr) a' w' := by
  have h : Rd w b (left s wr) := ⟨s, wr, h0, hs, rfl⟩
  go_enter Try.func19, Try.ntmps19
  go_upto_region 1 with fail
  have S := hid (WS.new h 30 [.int .u8 0, .int .u64 0, .int .u8 0, .string ⟨#[]⟩, .string ⟨#[]⟩, .string ⟨#[]⟩, .string ⟨#[]⟩, .int .u64 0, .string ⟨#[]⟩, .string ⟨#[]⟩, .string ⟨#[]⟩, .string ⟨#[]⟩, .string ⟨#[]⟩, .string ⟨#[]⟩, .string ⟨#[]⟩] [.int .u8 0, .int .u64 0, .int .u8 0, .string ⟨#[]⟩, .string ⟨#[]⟩, .string ⟨#[]⟩, .string ⟨#[]⟩, .int .u64 0, .string ⟨#[]⟩, .string ⟨#[]⟩, .string ⟨#[]⟩, .string ⟨#[]⟩, .string ⟨#[]⟩, .string ⟨#[]⟩, .string ⟨#[]⟩])
  change Hid (WS w b _ _ _ _ _ _ ((w.alloc (.cells #[.int .u8 0, .int .u64 0, .int .u8 0, .string ⟨#[]⟩, .string ⟨#[]⟩, .string ⟨#[]⟩, .string ⟨#[]⟩, .int .u64 0, .string ⟨#[]⟩, .string ⟨#[]⟩, .string ⟨#[]⟩, .string ⟨#[]⟩, .string ⟨#[]⟩, .string ⟨#[]⟩, .string ⟨#[]⟩] 30)).alloc (.cells #[.int .u8 0, .int .u64 0, .int .u8 0, .string ⟨#[]⟩, .string ⟨#[]⟩, .string ⟨#[]⟩, .string ⟨#[]⟩, .int .u64 0, .string ⟨#[]⟩, .string ⟨#[]⟩, .string ⟨#[]⟩, .string ⟨#[]⟩, .string ⟨#[]⟩, .string ⟨#[]⟩, .string ⟨#[]⟩] 30))) at S
  have hsx := hid (hsm ((w.alloc (.cells #[.int .u8 0, .int .u64 0, .int .u8 0, .string ⟨#[]⟩, .string ⟨#[]⟩, .string ⟨#[]⟩, .string ⟨#[]⟩, .int .u64 0, .string ⟨#[]⟩, .string ⟨#[]⟩, .string ⟨#[]⟩, .string ⟨#[]⟩, .string ⟨#[]⟩, .string ⟨#[]⟩, .string ⟨#[]⟩] 30)).alloc (.cells #[.int .u8 0, .int .u64 0, .int .u8 0, .string ⟨#[]⟩, .string ⟨#[]⟩, .string ⟨#[]⟩, .string ⟨#[]⟩, .int .u64 0, .string ⟨#[]⟩, .string ⟨#[]⟩, .string ⟨#[]⟩, .string ⟨#[]⟩, .string ⟨#[]⟩, .string ⟨#[]⟩, .string ⟨#[]⟩] 30)) ((h0.alloc _).alloc _))
  generalize (w.alloc (.cells #[.int .u8 0, .int .u64 0, .int .u8 0, .string ⟨#[]⟩, .string ⟨#[]⟩, .string ⟨#[]⟩, .string ⟨#[]⟩, .int .u64 0, .string ⟨#[]⟩, .string ⟨#[]⟩, .string ⟨#[]⟩, .string ⟨#[]⟩, .string ⟨#[]⟩, .string ⟨#[]⟩, .string ⟨#[]⟩] 30)).alloc (.cells #[.int .u8 0, .int .u64 0, .int .u8 0, .string ⟨#[]⟩, .string ⟨#[]⟩, .string ⟨#[]⟩, .string ⟨#[]⟩, .int .u64 0, .string ⟨#[]⟩, .string ⟨#[]⟩, .string ⟨#[]⟩, .string ⟨#[]⟩, .string ⟨#[]⟩, .string ⟨#[]⟩, .string ⟨#[]⟩] 30) = X at S hsx ⊢
  obtain ⟨pb, hpb⟩ : ∃ pb, w.heap.size = pb := ⟨_, rfl⟩
  obtain ⟨rb, hrb⟩ : ∃ rb, w.heap.size + 1 = rb := ⟨_, rfl⟩
  rw [hrb] at S ⊢
  rw [hpb] at S ⊢
  clear hpb hrb
  obtain ⟨k0, k1, k2, k3, k4, k5, k6, k7, k8, k9, k10, k11, k12, k13, k14, kf⟩ := fifteen S.out.K
  clear h h0
  go_wp2_with fail
  refine hsx.out.mono ?_
  rintro e w1 ⟨rfl, o1, r1, r2, r3⟩
  replace S := hid (S.out.call r1 r3)
  have g1 := hid r2
  clear hsx hsm r1 r2 r3 k0 k1 k2 k3 k4 k5 k6 k7 k8 k9 k10 k11 k12 k13 k14 kf
  obtain ⟨k0, k1, k2, k3, k4, k5, k6, k7, k8, k9, k10, k11, k12, k13, k14, kf⟩ := fifteen S.out.K
  go_upto_region 2 with fail
  replace S := hid (S.out.set 0 (.int .u8 5))
  change Hid (WS w b pb rb _ o1 [.int .u8 5, .int .u64 0, .int .u8 0, .string ⟨#[]⟩, .string ⟨#[]⟩, .string ⟨#[]⟩, .string ⟨#[]⟩, .int .u64 0, .string ⟨#[]⟩, .string ⟨#[]⟩, .string ⟨#[]⟩, .string ⟨#[]⟩, .string ⟨#[]⟩, .string ⟨#[]⟩, .string ⟨#[]⟩] _ (w1.setCell ⟨pb, 0, none⟩ (.int .u8 5))) at S
  clear k0 k1 k2 k3 k4 k5 k6 k7 k8 k9 k10 k11 k12 k13 k14 kf
  generalize w1.setCell ⟨pb, 0, none⟩ (.int .u8 5) = X1 at S ⊢
  have hA := hid (show ∀ (x : Ask) (o2 : Option (List UInt8)), Res (pK 5 { askZ with k := 5 }) o1 x o2 → Res pA (left s wr) x o2 from fun x o2 hr => g1.out.bind (q := fun k => pK k { askZ with k := k }) hr)
  clear g1
  obtain ⟨k0, k1, k2, k3, k4, k5, k6, k7, k8, k9, k10, k11, k12, k13, k14, kf⟩ := fifteen S.out.K
  have hc := hid (rquery_any b o1 ({ askZ with k := 5 }) X1 S.out.rd)
  go_wp2_with fail
  refine hc.out.mono ?_
  rintro e w2 ⟨a', rfl, ha', hq', o2, r1, r2, r3⟩
  have hf := hid (show askF a' from by
    obtain ⟨s0, s1, s2, s3, s4, s5, s6⟩ := hq'
    rw [ha']
    exact ⟨⟨by show (5 : Nat) < 256; decide, (by show (0 : Nat) < 18446744073709551616; decide), (by show (0 : Nat) < 18446744073709551616; decide), (by show (0 : Nat) < 256; decide)⟩, chF1_zero, by show a'.s0.size ≤ _; omega, by show a'.s1.size ≤ _; omega, by show a'.s2.size ≤ _; omega, by show a'.s3.size ≤ _; omega, by show a'.s4.size ≤ _; omega, by show a'.s5.size ≤ _; omega, by show a'.s6.size ≤ _; omega⟩)
  replace ha' := hid ha'
  replace S := hid (S.out.call r1 r3)
  have g2 := hid r2
  clear hc r1 r2 r3 k0 k1 k2 k3 k4 k5 k6 k7 k8 k9 k10 k11 k12 k13 k14 kf
  obtain ⟨k0, k1, k2, k3, k4, k5, k6, k7, k8, k9, k10, k11, k12, k13, k14, kf⟩ := fifteen S.out.K
  go_upto_region 14 with fail
  replace S := hid ((((((((((((((((S.out).set 0 (.int .u8 (a'.k : Nat))).set 1 (.int .u64 (a'.tx : Nat))).set 2 (.int .u8 (a'.c.k : Nat))).set 3 (.string a'.c.i)).set 4 (.string a'.c.t)).set 5 (.string a'.c.ut)).set 6 (.string a'.c.ui)).set 7 (.int .u64 (a'.v : Nat))).set 8 (.string a'.s0)).set 9 (.string a'.s1)).set 10 (.string a'.s2)).set 11 (.string a'.s3)).set 12 (.string a'.s4)).set 13 (.string a'.s5)).set 14 (.string a'.s6))
  change Hid (WS w b pb rb _ o2 [.int .u8 (a'.k : Nat), .int .u64 (a'.tx : Nat), .int .u8 (a'.c.k : Nat), .string a'.c.i, .string a'.c.t, .string a'.c.ut, .string a'.c.ui, .int .u64 (a'.v : Nat), .string a'.s0, .string a'.s1, .string a'.s2, .string a'.s3, .string a'.s4, .string a'.s5, .string a'.s6] _ ((((((((((((((((w2).setCell ⟨pb, 0, none⟩ (.int .u8 (a'.k : Nat))).setCell ⟨pb, 1, none⟩ (.int .u64 (a'.tx : Nat))).setCell ⟨pb, 2, none⟩ (.int .u8 (a'.c.k : Nat))).setCell ⟨pb, 3, none⟩ (.string a'.c.i)).setCell ⟨pb, 4, none⟩ (.string a'.c.t)).setCell ⟨pb, 5, none⟩ (.string a'.c.ut)).setCell ⟨pb, 6, none⟩ (.string a'.c.ui)).setCell ⟨pb, 7, none⟩ (.int .u64 (a'.v : Nat))).setCell ⟨pb, 8, none⟩ (.string a'.s0)).setCell ⟨pb, 9, none⟩ (.string a'.s1)).setCell ⟨pb, 10, none⟩ (.string a'.s2)).setCell ⟨pb, 11, none⟩ (.string a'.s3)).setCell ⟨pb, 12, none⟩ (.string a'.s4)).setCell ⟨pb, 13, none⟩ (.string a'.s5)).setCell ⟨pb, 14, none⟩ (.string a'.s6))) at S
  clear k0 k1 k2 k3 k4 k5 k6 k7 k8 k9 k10 k11 k12 k13 k14 kf
  generalize (((((((((((((((w2).setCell ⟨pb, 0, none⟩ (.int .u8 (a'.k : Nat))).setCell ⟨pb, 1, none⟩ (.int .u64 (a'.tx : Nat))).setCell ⟨pb, 2, none⟩ (.int .u8 (a'.c.k : Nat))).setCell ⟨pb, 3, none⟩ (.string a'.c.i)).setCell ⟨pb, 4, none⟩ (.string a'.c.t)).setCell ⟨pb, 5, none⟩ (.string a'.c.ut)).setCell ⟨pb, 6, none⟩ (.string a'.c.ui)).setCell ⟨pb, 7, none⟩ (.int .u64 (a'.v : Nat))).setCell ⟨pb, 8, none⟩ (.string a'.s0)).setCell ⟨pb, 9, none⟩ (.string a'.s1)).setCell ⟨pb, 10, none⟩ (.string a'.s2)).setCell ⟨pb, 11, none⟩ (.string a'.s3)).setCell ⟨pb, 12, none⟩ (.string a'.s4)).setCell ⟨pb, 13, none⟩ (.string a'.s5)).setCell ⟨pb, 14, none⟩ (.string a'.s6) = X2 at S ⊢
  obtain ⟨k0, k1, k2, k3, k4, k5, k6, k7, k8, k9, k10, k11, k12, k13, k14, kf⟩ := fifteen S.out.K
  obtain ⟨z0, z1, z2, z3, z4, z5, z6, z7, z8, z9, z10, z11, z12, z13, z14, zf⟩ := fifteen S.out.R
  obtain ⟨F1, F2, F3⟩ := S.out.fin [.int .u8 (a'.k : Nat), .int .u64 (a'.tx : Nat), .int .u8 (a'.c.k : Nat), .string a'.c.i, .string a'.c.t, .string a'.c.ut, .string a'.c.ui, .int .u64 (a'.v : Nat), .string a'.s0, .string a'.s1, .string a'.s2, .string a'.s3, .string a'.s4, .string a'.s5, .string a'.s6] rfl
  have hfin := hid (show RdP w b pA (left s wr) (a') (stL X2 rb [.int .u8 (a'.k : Nat), .int .u64 (a'.tx : Nat), .int .u8 (a'.c.k : Nat), .string a'.c.i, .string a'.c.t, .string a'.c.ut, .string a'.c.ui, .int .u64 (a'.v : Nat), .string a'.s0, .string a'.s1, .string a'.s2, .string a'.s3, .string a'.s4, .string a'.s5, .string a'.s6] 0) from ⟨o2, F2, hA.out _ _ (show Res (pK 5 { askZ with k := 5 }) o1 _ o2 from by unfold pK; rw [if_neg (by decide), if_neg (by decide), if_pos rfl]; exact g2.out), F3⟩)
  replace F1 := hid F1
  clear F2 F3 S
  go_wp2_with fail
  obtain ⟨q0, q1, q2, q3, q4, q5, q6, q7, q8, q9, q10, q11, q12, q13, q14, -⟩ := fifteen F1.out
  refine bodyPost_ret (v := .agg #[.int .u8 (a'.k : Nat), .int .u64 (a'.tx : Nat), .int .u8 (a'.c.k : Nat), .string a'.c.i, .string a'.c.t, .string a'.c.ut, .string a'.c.ui, .int .u64 (a'.v : Nat), .string a'.s0, .string a'.s1, .string a'.s2, .string a'.s3, .string a'.s4, .string a'.s5, .string a'.s6]) ?_ rfl ?_
  · simp only [stL] at q0 q1 q2 q3 q4 q5 q6 q7 q8 q9 q10 q11 q12 q13 q14
    simp [results, Try.results19, go_sem, q0, q1, q2, q3, q4, q5, q6, q7, q8, q9, q10, q11, q12, q13, q14]
  · exact ⟨a', rfl, hf.out, hfin.out⟩
end Go.Proofs.Ytldlkoiekdlmhaa.Wi
