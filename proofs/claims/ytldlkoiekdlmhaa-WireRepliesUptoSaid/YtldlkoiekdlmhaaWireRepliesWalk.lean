/-
  wire's calls: contracts. Written by wip/wiretopgen.py.
-/
import Derived.Test.YtldlkoiekdlmhaaWireRefC
import Derived.Test.YtldlkoiekdlmhaaWireRefD
namespace Go.Proofs.Ytldlkoiekdlmhaa.Wi
open Go.ChangeShapes Go.WideShapes Go.ChangeAt Go.RowKit
open Go.Proofs.Ytldlkoiekdlmhaa.Mem
open Go.Proofs.Ytldlkoiekdlmhaa.Lik (Kept)
open Go.Proofs.Ytldlkoiekdlmhaa.Crc hiding hid bt
set_option linter.unusedVariables false
set_option linter.unusedSimpArgs false
set_option maxRecDepth 100000
theorem RepW.one {r : Rep} {s s2 : ByteArray} {z z2 : Int} (h : RepW r s z) (g : RepW r s2 z2) : s = s2 ∧ z = z2 := by
  rcases h with ⟨rfl, h1, rfl⟩ | ⟨rfl, hn, rfl⟩
  · rcases g with ⟨rfl, _, rfl⟩ | ⟨_, gn, _⟩
    · exact ⟨rfl, rfl⟩
    · exact absurd h1 gn
  · rcases g with ⟨_, g1, _⟩ | ⟨rfl, _, rfl⟩
    · exact absurd g1 hn
    · exact ⟨rfl, rfl⟩
set_option maxHeartbeats 16000000 in
theorem replies_walk (r : Rep) (so tp : Option Addr) (sc tc : Nat) (x : ByteArray) (w : World) (hV1 : StrsV w (.slice so r.ids.length sc) r.ids) (hV2 : StrsV w (.slice tp r.errs.length tc) r.errs) (hn : repN r) (hl1 : r.ids.length ≤ 1048576) (hl2 : r.errs.length ≤ 1048576) (hm : repT r ≤ 90000000) (hx : x.size ≤ 1048576) :
    Calls Try.prog 4 #[.agg #[.int .i64 r.why, .int .u64 (r.n : Nat), .int .i64 r.place, .bool r.allow, .slice so r.ids.length sc, .slice tp r.errs.length tc], .string x] w fun e w' => e = .returned (.bool true) ∧ Below w.heap.size w w' := by
  have v1 := hid (fun W (b : Below w.heap.size w W) => hV1.below b)
  have v2 := hid (fun W (b : Below w.heap.size w W) => hV2.below b)
  clear hV1 hV2
  go_enter Try.func4, Try.ntmps4
  go_upto_region 1 with fail
  have K := hid (Blk.new w [.int .i64 r.why, .int .u64 (r.n : Nat), .int .i64 r.place, .bool r.allow, .slice so r.ids.length sc, .slice tp r.errs.length tc] 42)
  have bw := hid ((Below.refl w.heap.size w).alloc (Nat.le_refl _) (.cells #[.int .i64 r.why, .int .u64 (r.n : Nat), .int .i64 r.place, .bool r.allow, .slice so r.ids.length sc, .slice tp r.errs.length tc] 42))
  change Hid (Blk (w.alloc (.cells #[.int .i64 r.why, .int .u64 (r.n : Nat), .int .i64 r.place, .bool r.allow, .slice so r.ids.length sc, .slice tp r.errs.length tc] 42)) _ _ _) at K
  generalize w.alloc (.cells #[.int .i64 r.why, .int .u64 (r.n : Nat), .int .i64 r.place, .bool r.allow, .slice so r.ids.length sc, .slice tp r.errs.length tc] 42) = X at K bw ⊢
  obtain ⟨pb, hpb⟩ : ∃ pb, w.heap.size = pb := ⟨_, rfl⟩
  rw [hpb] at K ⊢
  clear hpb
  obtain ⟨k0, k1, k2, k3, k4, k5, kf⟩ := sixc K.out
  have vv1 := v1.out X bw.out
  have vv2 := v2.out X bw.out
  go_wp2_with fail
  refine (writereply_any r so tp sc tc X vv1 vv2 hn hl1 hl2 hm).mono ?_
  rintro e w2 ⟨⟨s, z, rfl, hz⟩, q2⟩
  replace K := hid (K.out.below q2 K.out.lt)
  replace bw := hid (bw.out.trans (q2.mono bw.out.size))
  clear q2 k0 k1 k2 k3 k4 k5 kf vv1 vv2
  obtain ⟨k0, k1, k2, k3, k4, k5, kf⟩ := sixc K.out
  have vv1 := v1.out w2 bw.out
  have vv2 := v2.out w2 bw.out
  go_wp2_with fail
  refine (writereply_ref r so tp sc tc w2 vv1 vv2 hn hl1 hl2 hm).mono ?_
  rintro e w3 ⟨⟨s', z', rfl, hz'⟩, q3⟩
  replace bw := hid (bw.out.trans (q3.mono bw.out.size))
  obtain ⟨e1, e2⟩ := hz'.one hz
  rw [e1, e2]
  clear q3 k0 k1 k2 k3 k4 k5 kf vv1 vv2 v1 v2 hz hz' e1 e2 K hn hl1 hl2 hm
  go_wp2_with fail
  refine (readreply_any x w3 (by omega)).mono ?_
  rintro e w4 ⟨⟨q, so2, sc2, tp2, tc2, y, rfl, V3, V4, -, -, -, hP⟩, q4⟩
  replace bw := hid (bw.out.trans (q4.mono bw.out.size))
  clear q4
  go_upto_region 4 with fail
  have J := hid (Blk.new w4 [.int .i64 q.why, .int .u64 (q.n : Nat), .int .i64 q.place, .bool q.allow, .slice so2 q.ids.length sc2, .slice tp2 q.errs.length tc2] 42)
  have ba := hid ((Below.refl w4.heap.size w4).alloc (Nat.le_refl _) (.cells #[.int .i64 q.why, .int .u64 (q.n : Nat), .int .i64 q.place, .bool q.allow, .slice so2 q.ids.length sc2, .slice tp2 q.errs.length tc2] 42))
  replace bw := hid (bw.out.alloc bw.out.size (.cells #[.int .i64 q.why, .int .u64 (q.n : Nat), .int .i64 q.place, .bool q.allow, .slice so2 q.ids.length sc2, .slice tp2 q.errs.length tc2] 42))
  replace V3 := hid (V3.below ba.out)
  replace V4 := hid (V4.below ba.out)
  change Hid (Blk (w4.alloc (.cells #[.int .i64 q.why, .int .u64 (q.n : Nat), .int .i64 q.place, .bool q.allow, .slice so2 q.ids.length sc2, .slice tp2 q.errs.length tc2] 42)) _ _ _) at J
  clear ba
  generalize w4.alloc (.cells #[.int .i64 q.why, .int .u64 (q.n : Nat), .int .i64 q.place, .bool q.allow, .slice so2 q.ids.length sc2, .slice tp2 q.errs.length tc2] 42) = X5 at J bw V3 V4 ⊢
  obtain ⟨jb, hjb⟩ : ∃ jb, w4.heap.size = jb := ⟨_, rfl⟩
  rw [hjb] at J ⊢
  clear hjb
  go_wp2_with fail
  refine (readreply_ref x X5 (by omega)).mono ?_
  rintro e w6 ⟨⟨q3, so3, sc3, tp3, tc3, y3, rfl, V5, V6, -, -, -, hP3⟩, q6⟩
  replace bw := hid (bw.out.trans (q6.mono bw.out.size))
  replace J := hid (J.out.below q6 J.out.lt)
  replace V3 := hid (V3.out.below q6)
  replace V4 := hid (V4.out.below q6)
  obtain ⟨e1, e2⟩ := hP3.one hP
  rw [e1] at V5 V6 ⊢
  rw [e2]
  clear e1 e2
  clear q6 hP hP3 hx
  go_upto_region 5 with fail
  have I := hid (Blk.new w6 [.int .i64 q.why, .int .u64 (q.n : Nat), .int .i64 q.place, .bool q.allow, .slice so3 q.ids.length sc3, .slice tp3 q.errs.length tc3] 42)
  have ba := hid ((Below.refl w6.heap.size w6).alloc (Nat.le_refl _) (.cells #[.int .i64 q.why, .int .u64 (q.n : Nat), .int .i64 q.place, .bool q.allow, .slice so3 q.ids.length sc3, .slice tp3 q.errs.length tc3] 42))
  replace J := hid (J.out.alloc (.cells #[.int .i64 q.why, .int .u64 (q.n : Nat), .int .i64 q.place, .bool q.allow, .slice so3 q.ids.length sc3, .slice tp3 q.errs.length tc3] 42))
  replace bw := hid (bw.out.alloc bw.out.size (.cells #[.int .i64 q.why, .int .u64 (q.n : Nat), .int .i64 q.place, .bool q.allow, .slice so3 q.ids.length sc3, .slice tp3 q.errs.length tc3] 42))
  replace V3 := hid (V3.out.below ba.out)
  replace V4 := hid (V4.out.below ba.out)
  replace V5 := hid (V5.below ba.out)
  replace V6 := hid (V6.below ba.out)
  change Hid (Blk (w6.alloc (.cells #[.int .i64 q.why, .int .u64 (q.n : Nat), .int .i64 q.place, .bool q.allow, .slice so3 q.ids.length sc3, .slice tp3 q.errs.length tc3] 42)) _ _ _) at I
  clear ba
  generalize w6.alloc (.cells #[.int .i64 q.why, .int .u64 (q.n : Nat), .int .i64 q.place, .bool q.allow, .slice so3 q.ids.length sc3, .slice tp3 q.errs.length tc3] 42) = X7 at J I bw V3 V4 V5 V6 ⊢
  obtain ⟨ib, hib⟩ : ∃ ib, w6.heap.size = ib := ⟨_, rfl⟩
  rw [hib] at I ⊢
  clear hib
  go_wp2_with fail
  refine (wlives_any _).mono ?_
  rintro e w8 ⟨rfl, q8⟩
  replace J := hid (J.out.below q8 J.out.lt)
  replace I := hid (I.out.below q8 I.out.lt)
  replace bw := hid (bw.out.trans (q8.mono bw.out.size))
  replace V3 := hid (V3.out.below q8)
  replace V4 := hid (V4.out.below q8)
  replace V5 := hid (V5.out.below q8)
  replace V6 := hid (V6.out.below q8)
  clear q8
  obtain ⟨k0, k1, k2, k3, k4, k5, kf⟩ := sixc J.out
  obtain ⟨j0, j1, j2, j3, j4, j5, jf⟩ := sixc I.out
  go_wp2_with fail
  refine (same_yes q so2 tp2 so3 tp3 sc2 tc2 sc3 tc3 w8 V3.out V4.out V5.out V6.out).mono ?_
  rintro e w9 ⟨rfl, q9⟩
  replace bw := hid (bw.out.trans (q9.mono bw.out.size))
  clear q9 k0 k1 k2 k3 k4 k5 kf j0 j1 j2 j3 j4 j5 jf
  go_wp2_with fail
  go_ret
  exact ⟨rfl, bw.out⟩
end Go.Proofs.Ytldlkoiekdlmhaa.Wi
