/-
  wire.walkQuery, walkAsk through a reader: contracts. Written by wip/wirewalkgen.py.
-/
import Derived.Test.YtldlkoiekdlmhaaPkWireAskV
namespace Go.Proofs.Ytldlkoiekdlmhaa.Wi
open Go.ChangeShapes Go.WideShapes Go.ChangeAt Go.RowKit
open Go.Proofs.Ytldlkoiekdlmhaa.Mem
open Go.Proofs.Ytldlkoiekdlmhaa.Crc hiding hid bt
set_option linter.unusedVariables false
set_option linter.unusedSimpArgs false
set_option maxRecDepth 100000
set_option maxHeartbeats 8000000 in
theorem rquery_any (b : Nat) (o : Option (List UInt8)) (a : Ask) (w : World) (h : Rd w b o) :
    Calls Try.prog 32 #[.iface 65 (.pointer (some ⟨b, 0, none⟩)), .agg #[.int .u8 (a.k : Nat), .int .u64 (a.tx : Nat), .int .u8 (a.c.k : Nat), .string a.c.i, .string a.c.t, .string a.c.ut, .string a.c.ui, .int .u64 (a.v : Nat), .string a.s0, .string a.s1, .string a.s2, .string a.s3, .string a.s4, .string a.s5, .string a.s6]] w fun e w' => ∃ a' : Ask, e = .returned (.agg #[.int .u8 (a'.k : Nat), .int .u64 (a'.tx : Nat), .int .u8 (a'.c.k : Nat), .string a'.c.i, .string a'.c.t, .string a'.c.ut, .string a'.c.ui, .int .u64 (a'.v : Nat), .string a'.s0, .string a'.s1, .string a'.s2, .string a'.s3, .string a'.s4, .string a'.s5, .string a'.s6]) ∧ a' = { a with s0 := a'.s0, s1 := a'.s1, s2 := a'.s2, s3 := a'.s3, s4 := a'.s4, s5 := a'.s5, s6 := a'.s6 } ∧ qS a' ∧ RdP w b (pQ a) o a' w' := by
  go_enter Try.func32, Try.ntmps32
  go_upto_region 1 with fail
  have S := hid (WS.new h 30 [.int .u8 (a.k : Nat), .int .u64 (a.tx : Nat), .int .u8 (a.c.k : Nat), .string a.c.i, .string a.c.t, .string a.c.ut, .string a.c.ui, .int .u64 (a.v : Nat), .string a.s0, .string a.s1, .string a.s2, .string a.s3, .string a.s4, .string a.s5, .string a.s6] [.int .u8 0, .int .u64 0, .int .u8 0, .string ⟨#[]⟩, .string ⟨#[]⟩, .string ⟨#[]⟩, .string ⟨#[]⟩, .int .u64 0, .string ⟨#[]⟩, .string ⟨#[]⟩, .string ⟨#[]⟩, .string ⟨#[]⟩, .string ⟨#[]⟩, .string ⟨#[]⟩, .string ⟨#[]⟩])
  change Hid (WS w b _ _ _ _ _ _ ((w.alloc (.cells #[.int .u8 (a.k : Nat), .int .u64 (a.tx : Nat), .int .u8 (a.c.k : Nat), .string a.c.i, .string a.c.t, .string a.c.ut, .string a.c.ui, .int .u64 (a.v : Nat), .string a.s0, .string a.s1, .string a.s2, .string a.s3, .string a.s4, .string a.s5, .string a.s6] 30)).alloc (.cells #[.int .u8 0, .int .u64 0, .int .u8 0, .string ⟨#[]⟩, .string ⟨#[]⟩, .string ⟨#[]⟩, .string ⟨#[]⟩, .int .u64 0, .string ⟨#[]⟩, .string ⟨#[]⟩, .string ⟨#[]⟩, .string ⟨#[]⟩, .string ⟨#[]⟩, .string ⟨#[]⟩, .string ⟨#[]⟩] 30))) at S
  generalize (w.alloc (.cells #[.int .u8 (a.k : Nat), .int .u64 (a.tx : Nat), .int .u8 (a.c.k : Nat), .string a.c.i, .string a.c.t, .string a.c.ut, .string a.c.ui, .int .u64 (a.v : Nat), .string a.s0, .string a.s1, .string a.s2, .string a.s3, .string a.s4, .string a.s5, .string a.s6] 30)).alloc (.cells #[.int .u8 0, .int .u64 0, .int .u8 0, .string ⟨#[]⟩, .string ⟨#[]⟩, .string ⟨#[]⟩, .string ⟨#[]⟩, .int .u64 0, .string ⟨#[]⟩, .string ⟨#[]⟩, .string ⟨#[]⟩, .string ⟨#[]⟩, .string ⟨#[]⟩, .string ⟨#[]⟩, .string ⟨#[]⟩] 30) = X at S ⊢
  obtain ⟨pb, hpb⟩ : ∃ pb, w.heap.size = pb := ⟨_, rfl⟩
  obtain ⟨rb, hrb⟩ : ∃ rb, w.heap.size + 1 = rb := ⟨_, rfl⟩
  rw [hrb] at S ⊢
  rw [hpb] at S ⊢
  clear hpb hrb
  obtain ⟨k0, k1, k2, k3, k4, k5, k6, k7, k8, k9, k10, k11, k12, k13, k14, kf⟩ := fifteen S.out.K
  have hc := hid (ruid_any b o a.s0 a.s1 X S.out.rd)
  go_wp2_with fail
  refine hc.out.mono ?_
  rintro e w1 ⟨x1, y1, rfl, hx1, hy1, o1, r1, r2, r3⟩
  replace S := hid (S.out.call r1 r3)
  have g1 := hid r2
  clear hc r1 r2 r3 k0 k1 k2 k3 k4 k5 k6 k7 k8 k9 k10 k11 k12 k13 k14 kf
  obtain ⟨k0, k1, k2, k3, k4, k5, k6, k7, k8, k9, k10, k11, k12, k13, k14, kf⟩ := fifteen S.out.K
  go_upto_region 2 with fail
  replace S := hid (((S.out).set 8 (.string x1)).set 9 (.string y1))
  change Hid (WS w b pb rb _ o1 [.int .u8 (a.k : Nat), .int .u64 (a.tx : Nat), .int .u8 (a.c.k : Nat), .string a.c.i, .string a.c.t, .string a.c.ut, .string a.c.ui, .int .u64 (a.v : Nat), .string x1, .string y1, .string a.s2, .string a.s3, .string a.s4, .string a.s5, .string a.s6] _ (((w1).setCell ⟨pb, 8, none⟩ (.string x1)).setCell ⟨pb, 9, none⟩ (.string y1))) at S
  clear k0 k1 k2 k3 k4 k5 k6 k7 k8 k9 k10 k11 k12 k13 k14 kf
  generalize ((w1).setCell ⟨pb, 8, none⟩ (.string x1)).setCell ⟨pb, 9, none⟩ (.string y1) = X1 at S ⊢
  obtain ⟨k0, k1, k2, k3, k4, k5, k6, k7, k8, k9, k10, k11, k12, k13, k14, kf⟩ := fifteen S.out.K
  have hc := hid (ruid_any b o1 a.s2 a.s3 X1 S.out.rd)
  go_wp2_with fail
  refine hc.out.mono ?_
  rintro e w2 ⟨x2, y2, rfl, hx2, hy2, o2, r1, r2, r3⟩
  replace S := hid (S.out.call r1 r3)
  have g2 := hid r2
  clear hc r1 r2 r3 k0 k1 k2 k3 k4 k5 k6 k7 k8 k9 k10 k11 k12 k13 k14 kf
  obtain ⟨k0, k1, k2, k3, k4, k5, k6, k7, k8, k9, k10, k11, k12, k13, k14, kf⟩ := fifteen S.out.K
  go_upto_region 3 with fail
  replace S := hid (((S.out).set 10 (.string x2)).set 11 (.string y2))
  change Hid (WS w b pb rb _ o2 [.int .u8 (a.k : Nat), .int .u64 (a.tx : Nat), .int .u8 (a.c.k : Nat), .string a.c.i, .string a.c.t, .string a.c.ut, .string a.c.ui, .int .u64 (a.v : Nat), .string x1, .string y1, .string x2, .string y2, .string a.s4, .string a.s5, .string a.s6] _ (((w2).setCell ⟨pb, 10, none⟩ (.string x2)).setCell ⟨pb, 11, none⟩ (.string y2))) at S
  clear k0 k1 k2 k3 k4 k5 k6 k7 k8 k9 k10 k11 k12 k13 k14 kf
  generalize ((w2).setCell ⟨pb, 10, none⟩ (.string x2)).setCell ⟨pb, 11, none⟩ (.string y2) = X2 at S ⊢
  obtain ⟨k0, k1, k2, k3, k4, k5, k6, k7, k8, k9, k10, k11, k12, k13, k14, kf⟩ := fifteen S.out.K
  have hc := hid (ruid_any b o2 a.s4 a.s5 X2 S.out.rd)
  go_wp2_with fail
  refine hc.out.mono ?_
  rintro e w3 ⟨x3, y3, rfl, hx3, hy3, o3, r1, r2, r3⟩
  replace S := hid (S.out.call r1 r3)
  have g3 := hid r2
  clear hc r1 r2 r3 k0 k1 k2 k3 k4 k5 k6 k7 k8 k9 k10 k11 k12 k13 k14 kf
  obtain ⟨k0, k1, k2, k3, k4, k5, k6, k7, k8, k9, k10, k11, k12, k13, k14, kf⟩ := fifteen S.out.K
  go_upto_region 4 with fail
  replace S := hid (((S.out).set 12 (.string x3)).set 13 (.string y3))
  change Hid (WS w b pb rb _ o3 [.int .u8 (a.k : Nat), .int .u64 (a.tx : Nat), .int .u8 (a.c.k : Nat), .string a.c.i, .string a.c.t, .string a.c.ut, .string a.c.ui, .int .u64 (a.v : Nat), .string x1, .string y1, .string x2, .string y2, .string x3, .string y3, .string a.s6] _ (((w3).setCell ⟨pb, 12, none⟩ (.string x3)).setCell ⟨pb, 13, none⟩ (.string y3))) at S
  clear k0 k1 k2 k3 k4 k5 k6 k7 k8 k9 k10 k11 k12 k13 k14 kf
  generalize ((w3).setCell ⟨pb, 12, none⟩ (.string x3)).setCell ⟨pb, 13, none⟩ (.string y3) = X3 at S ⊢
  obtain ⟨k0, k1, k2, k3, k4, k5, k6, k7, k8, k9, k10, k11, k12, k13, k14, kf⟩ := fifteen S.out.K
  have hc := hid (text_any b o3 a.s6 X3 S.out.rd)
  go_wp2_with fail
  refine hc.out.mono ?_
  rintro e w4 ⟨x4, rfl, hx4, o4, r1, r2, r3⟩
  replace S := hid (S.out.call r1 r3)
  have g4 := hid r2
  clear hc r1 r2 r3 k0 k1 k2 k3 k4 k5 k6 k7 k8 k9 k10 k11 k12 k13 k14 kf
  obtain ⟨k0, k1, k2, k3, k4, k5, k6, k7, k8, k9, k10, k11, k12, k13, k14, kf⟩ := fifteen S.out.K
  go_upto_region 5 with fail
  replace S := hid ((S.out).set 14 (.string x4))
  change Hid (WS w b pb rb _ o4 [.int .u8 (a.k : Nat), .int .u64 (a.tx : Nat), .int .u8 (a.c.k : Nat), .string a.c.i, .string a.c.t, .string a.c.ut, .string a.c.ui, .int .u64 (a.v : Nat), .string x1, .string y1, .string x2, .string y2, .string x3, .string y3, .string x4] _ ((w4).setCell ⟨pb, 14, none⟩ (.string x4))) at S
  clear k0 k1 k2 k3 k4 k5 k6 k7 k8 k9 k10 k11 k12 k13 k14 kf
  generalize (w4).setCell ⟨pb, 14, none⟩ (.string x4) = X4 at S ⊢
  obtain ⟨k0, k1, k2, k3, k4, k5, k6, k7, k8, k9, k10, k11, k12, k13, k14, kf⟩ := fifteen S.out.K
  obtain ⟨z0, z1, z2, z3, z4, z5, z6, z7, z8, z9, z10, z11, z12, z13, z14, zf⟩ := fifteen S.out.R
  obtain ⟨F1, F2, F3⟩ := S.out.fin [.int .u8 (a.k : Nat), .int .u64 (a.tx : Nat), .int .u8 (a.c.k : Nat), .string a.c.i, .string a.c.t, .string a.c.ut, .string a.c.ui, .int .u64 (a.v : Nat), .string x1, .string y1, .string x2, .string y2, .string x3, .string y3, .string x4] rfl
  have hfin := hid (show RdP w b (pQ a) o ({ a with s0 := x1, s1 := y1, s2 := x2, s3 := y2, s4 := x3, s5 := y3, s6 := x4 }) (stL X4 rb [.int .u8 (a.k : Nat), .int .u64 (a.tx : Nat), .int .u8 (a.c.k : Nat), .string a.c.i, .string a.c.t, .string a.c.ut, .string a.c.ui, .int .u64 (a.v : Nat), .string x1, .string y1, .string x2, .string y2, .string x3, .string y3, .string x4] 0) from ⟨o4, F2, by
    rw [← pQ2_eq]
    exact g1.out.bind (q := fun x => pBind pU fun y => pBind pU fun z => pBind pT fun c => pRet { a with s0 := x.1, s1 := x.2, s2 := y.1, s3 := y.2, s4 := z.1, s5 := z.2, s6 := c }) (g2.out.bind (q := fun y => pBind pU fun z => pBind pT fun c => pRet { a with s0 := x1, s1 := y1, s2 := y.1, s3 := y.2, s4 := z.1, s5 := z.2, s6 := c }) (g3.out.bind (q := fun z => pBind pT fun c => pRet { a with s0 := x1, s1 := y1, s2 := x2, s3 := y2, s4 := z.1, s5 := z.2, s6 := c }) (g4.out.bind (q := fun c => pRet { a with s0 := x1, s1 := y1, s2 := x2, s3 := y2, s4 := x3, s5 := y3, s6 := c }) (Res.ret _ _)))), F3⟩)
  replace F1 := hid F1
  clear F2 F3 S
  go_wp2_with fail
  obtain ⟨q0, q1, q2, q3, q4, q5, q6, q7, q8, q9, q10, q11, q12, q13, q14, -⟩ := fifteen F1.out
  refine bodyPost_ret (v := .agg #[.int .u8 (a.k : Nat), .int .u64 (a.tx : Nat), .int .u8 (a.c.k : Nat), .string a.c.i, .string a.c.t, .string a.c.ut, .string a.c.ui, .int .u64 (a.v : Nat), .string x1, .string y1, .string x2, .string y2, .string x3, .string y3, .string x4]) ?_ rfl ?_
  · simp only [stL] at q0 q1 q2 q3 q4 q5 q6 q7 q8 q9 q10 q11 q12 q13 q14
    simp [results, Try.results32, go_sem, q0, q1, q2, q3, q4, q5, q6, q7, q8, q9, q10, q11, q12, q13, q14]
  · exact ⟨{ a with s0 := x1, s1 := y1, s2 := x2, s3 := y2, s4 := x3, s5 := y3, s6 := x4 }, rfl, rfl, ⟨hx1, hy1, hx2, hy2, hx3, hy3, hx4⟩, hfin.out⟩
end Go.Proofs.Ytldlkoiekdlmhaa.Wi
