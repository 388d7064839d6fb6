/-
  wire.walkReply through a reader and through a writer: contracts. Written by wip/wirerepgen.py.
-/
import Derived.Test.YtldlkoiekdlmhaaWireTexts
namespace Go.Proofs.Ytldlkoiekdlmhaa.Wi
open Go.ChangeShapes Go.WideShapes Go.ChangeAt Go.RowKit
open Go.Proofs.Ytldlkoiekdlmhaa.Mem
open Go.Proofs.Ytldlkoiekdlmhaa.Lik (Kept)
open Go.Proofs.Ytldlkoiekdlmhaa.Crc hiding hid bt
set_option linter.unusedVariables false
set_option linter.unusedSimpArgs false
set_option maxRecDepth 100000
theorem sixc {w : World} {b : Nat} {v0 v1 v2 v3 v4 v5 : Value} {t : TypeId} (h : Blk w b [v0, v1, v2, v3, v4, v5] t) :
    w.cell? ⟨b, 0, none⟩ = some v0 ∧ w.cell? ⟨b, 1, none⟩ = some v1 ∧ w.cell? ⟨b, 2, none⟩ = some v2 ∧ w.cell? ⟨b, 3, none⟩ = some v3 ∧ w.cell? ⟨b, 4, none⟩ = some v4 ∧ w.cell? ⟨b, 5, none⟩ = some v5 ∧ ∀ o, w.frozen? ⟨b, o, none⟩ = false :=
  ⟨h.cell 0 (by simp), h.cell 1 (by simp), h.cell 2 (by simp), h.cell 3 (by simp), h.cell 4 (by simp), h.cell 5 (by simp), h.free⟩
theorem pR_res {o o1 o2 o3 o4 o5 o6 : Option (List UInt8)} {x1 x2 x3 : Nat} {x4 : Bool} {l1 l2 : List ByteArray} (g1 : Res pB o x1 o1) (g2 : Res pN o1 x2 o2) (g3 : Res pB o2 x3 o3) (g4 : Res pF o3 x4 o4) (g5 : Res pL o4 l1 o5) (g6 : Res pL o5 l2 o6) : Res pR o (⟨(x1 : Nat), x2, (x3 : Nat), x4, l1, l2⟩ : Rep) o6 := by
  unfold pR
  refine g1.bind (g2.bind (g3.bind (g4.bind (g5.bind (g6.bind ?_)))))
  exact Res.ret _ _
set_option maxHeartbeats 16000000 in
theorem rreply_any (b : Nat) (o : Option (List UInt8)) (w : World) (h : Rd w b o) :
    Calls Try.prog 28 #[.iface 65 (.pointer (some ⟨b, 0, none⟩)), .agg #[.int .i64 0, .int .u64 0, .int .i64 0, .bool false, .slice none 0 0, .slice none 0 0]] w fun e w' => ∃ (r : Rep) (so : Option Addr) (sc : Nat) (to : Option Addr) (tc : Nat), e = .returned (.agg #[.int .i64 r.why, .int .u64 (r.n : Nat), .int .i64 r.place, .bool r.allow, .slice so r.ids.length sc, .slice to r.errs.length tc]) ∧ w'.ownsRow w.heap.size 9 1 (.slice so r.ids.length sc) r.ids.length (strC r.ids) ∧ w'.ownsRow w.heap.size 9 1 (.slice to r.errs.length tc) r.errs.length (strC r.errs) ∧ lR r.ids ∧ lR r.errs ∧ repN r ∧ RdP w b pR o r w' := by
  go_enter Try.func28, Try.ntmps28
  go_upto_region 1 with fail
  have S := hid (WS.new h 42 [.int .i64 0, .int .u64 0, .int .i64 0, .bool false, .slice none 0 0, .slice none 0 0] [.int .i64 0, .int .u64 0, .int .i64 0, .bool false, .slice none 0 0, .slice none 0 0])
  change Hid (WS w b _ _ _ _ _ _ ((w.alloc (.cells #[.int .i64 0, .int .u64 0, .int .i64 0, .bool false, .slice none 0 0, .slice none 0 0] 42)).alloc (.cells #[.int .i64 0, .int .u64 0, .int .i64 0, .bool false, .slice none 0 0, .slice none 0 0] 42))) at S
  generalize (w.alloc (.cells #[.int .i64 0, .int .u64 0, .int .i64 0, .bool false, .slice none 0 0, .slice none 0 0] 42)).alloc (.cells #[.int .i64 0, .int .u64 0, .int .i64 0, .bool false, .slice none 0 0, .slice none 0 0] 42) = X at S ⊢
  obtain ⟨pb, hpb⟩ : ∃ pb, w.heap.size = pb := ⟨_, rfl⟩
  obtain ⟨rb, hrb⟩ : ∃ rb, w.heap.size + 1 = rb := ⟨_, rfl⟩
  have hpr := hid (show w.heap.size ≤ pb ∧ w.heap.size ≤ rb by omega)
  rw [hrb] at S ⊢
  rw [hpb] at S ⊢
  clear hpb hrb
  obtain ⟨k0, k1, k2, k3, k4, k5, kf⟩ := sixc S.out.K
  have hc := hid (small_any b o 0 X S.out.rd)
  go_wp2_with fail
  refine hc.out.mono ?_
  rintro e w1' ⟨x1, rfl, hx1, o1, r1, r2, r3⟩
  replace S := hid (S.out.call r1 r3)
  have g1 := hid r2
  clear hc r1 r2 r3 k0 k1 k2 k3 k4 k5 kf
  obtain ⟨k0, k1, k2, k3, k4, k5, kf⟩ := sixc S.out.K
  go_upto_region 2 with fail
  replace S := hid (S.out.set 0 (.int .i64 (x1 : Nat)))
  change Hid (WS w b pb rb _ o1 [.int .i64 (x1 : Nat), .int .u64 0, .int .i64 0, .bool false, .slice none 0 0, .slice none 0 0] _ (w1'.setCell ⟨pb, 0, none⟩ (.int .i64 (x1 : Nat)))) at S
  clear k0 k1 k2 k3 k4 k5 kf
  generalize hX1 : w1'.setCell ⟨pb, 0, none⟩ (.int .i64 (x1 : Nat)) = X1 at S ⊢
  clear hX1
  obtain ⟨k0, k1, k2, k3, k4, k5, kf⟩ := sixc S.out.K
  have hc := hid (number_any b o1 0 X1 S.out.rd)
  go_wp2_with fail
  refine hc.out.mono ?_
  rintro e w2' ⟨x2, rfl, hx2, o2, r1, r2, r3⟩
  replace S := hid (S.out.call r1 r3)
  have g2 := hid r2
  clear hc r1 r2 r3 k0 k1 k2 k3 k4 k5 kf
  obtain ⟨k0, k1, k2, k3, k4, k5, kf⟩ := sixc S.out.K
  go_upto_region 3 with fail
  replace S := hid (S.out.set 1 (.int .u64 (x2 : Nat)))
  change Hid (WS w b pb rb _ o2 [.int .i64 (x1 : Nat), .int .u64 (x2 : Nat), .int .i64 0, .bool false, .slice none 0 0, .slice none 0 0] _ (w2'.setCell ⟨pb, 1, none⟩ (.int .u64 (x2 : Nat)))) at S
  clear k0 k1 k2 k3 k4 k5 kf
  generalize hX2 : w2'.setCell ⟨pb, 1, none⟩ (.int .u64 (x2 : Nat)) = X2 at S ⊢
  clear hX2
  obtain ⟨k0, k1, k2, k3, k4, k5, kf⟩ := sixc S.out.K
  have hc := hid (small_any b o2 0 X2 S.out.rd)
  go_wp2_with fail
  refine hc.out.mono ?_
  rintro e w3' ⟨x3, rfl, hx3, o3, r1, r2, r3⟩
  replace S := hid (S.out.call r1 r3)
  have g3 := hid r2
  clear hc r1 r2 r3 k0 k1 k2 k3 k4 k5 kf
  obtain ⟨k0, k1, k2, k3, k4, k5, kf⟩ := sixc S.out.K
  go_upto_region 4 with fail
  replace S := hid (S.out.set 2 (.int .i64 (x3 : Nat)))
  change Hid (WS w b pb rb _ o3 [.int .i64 (x1 : Nat), .int .u64 (x2 : Nat), .int .i64 (x3 : Nat), .bool false, .slice none 0 0, .slice none 0 0] _ (w3'.setCell ⟨pb, 2, none⟩ (.int .i64 (x3 : Nat)))) at S
  clear k0 k1 k2 k3 k4 k5 kf
  generalize hX3 : w3'.setCell ⟨pb, 2, none⟩ (.int .i64 (x3 : Nat)) = X3 at S ⊢
  clear hX3
  obtain ⟨k0, k1, k2, k3, k4, k5, kf⟩ := sixc S.out.K
  have hc := hid (flag_any b o3 false X3 S.out.rd)
  go_wp2_with fail
  refine hc.out.mono ?_
  rintro e w4' ⟨x4, rfl, o4, r1, r2, r3⟩
  replace S := hid (S.out.call r1 r3)
  have g4 := hid r2
  clear hc r1 r2 r3 k0 k1 k2 k3 k4 k5 kf
  obtain ⟨k0, k1, k2, k3, k4, k5, kf⟩ := sixc S.out.K
  go_upto_region 5 with fail
  replace S := hid (S.out.set 3 (.bool x4))
  change Hid (WS w b pb rb _ o4 [.int .i64 (x1 : Nat), .int .u64 (x2 : Nat), .int .i64 (x3 : Nat), .bool x4, .slice none 0 0, .slice none 0 0] _ (w4'.setCell ⟨pb, 3, none⟩ (.bool x4))) at S
  clear k0 k1 k2 k3 k4 k5 kf
  generalize hX4 : w4'.setCell ⟨pb, 3, none⟩ (.bool x4) = X4 at S ⊢
  clear hX4
  have hs4 := hid (show w.heap.size ≤ X4.heap.size ∧ pb < X4.heap.size ∧ rb < X4.heap.size from ⟨S.out.but.size, S.out.K.lt, S.out.R.lt⟩)
  obtain ⟨k0, k1, k2, k3, k4, k5, kf⟩ := sixc S.out.K
  have hc := hid (rtexts_any b o4 X4 S.out.rd)
  go_wp2_with fail
  refine hc.out.mono ?_
  rintro e w5' ⟨so, sc, l1, rfl, hown1, hl1, o5, r1, r2, r3⟩
  have hown1 := hid hown1
  replace S := hid (S.out.call r1 r3)
  have g5 := hid r2
  clear hc r1 r2 r3 k0 k1 k2 k3 k4 k5 kf
  obtain ⟨k0, k1, k2, k3, k4, k5, kf⟩ := sixc S.out.K
  go_upto_region 6 with fail
  replace S := hid (S.out.set 4 (.slice so l1.length sc))
  change Hid (WS w b pb rb _ o5 [.int .i64 (x1 : Nat), .int .u64 (x2 : Nat), .int .i64 (x3 : Nat), .bool x4, .slice so l1.length sc, .slice none 0 0] _ (w5'.setCell ⟨pb, 4, none⟩ (.slice so l1.length sc))) at S
  clear k0 k1 k2 k3 k4 k5 kf
  generalize hX5 : w5'.setCell ⟨pb, 4, none⟩ (.slice so l1.length sc) = X5 at S ⊢
  replace hown1 := hid (show X5.ownsRow X4.heap.size 9 1 (.slice so l1.length sc) l1.length (strC l1) from by
    rw [← hX5]
    exact Mem.ownsRow_store hown1.out (fun g hg e => by have := hown1.out.lt g hg; have := hs4.out; omega) _ _)
  clear hX5
  have hs5 := hid (show w.heap.size ≤ X5.heap.size ∧ pb < X5.heap.size ∧ rb < X5.heap.size from ⟨S.out.but.size, S.out.K.lt, S.out.R.lt⟩)
  obtain ⟨k0, k1, k2, k3, k4, k5, kf⟩ := sixc S.out.K
  have hc := hid (rtexts_any b o5 X5 S.out.rd)
  go_wp2_with fail
  refine hc.out.mono ?_
  rintro e w6' ⟨to, tc, l2, rfl, hown2, hl2, o6, r1, r2, r3⟩
  have hown2 := hid hown2
  replace hown1 := hid (ownsRow_but hown1.out r3 (by intro e; have := hown1.out.lt b e; have := S.out.hb; have := hs4.out; omega))
  replace S := hid (S.out.call r1 r3)
  have g6 := hid r2
  clear hc r1 r2 r3 k0 k1 k2 k3 k4 k5 kf
  obtain ⟨k0, k1, k2, k3, k4, k5, kf⟩ := sixc S.out.K
  go_upto_region 7 with fail
  replace S := hid (S.out.set 5 (.slice to l2.length tc))
  change Hid (WS w b pb rb _ o6 [.int .i64 (x1 : Nat), .int .u64 (x2 : Nat), .int .i64 (x3 : Nat), .bool x4, .slice so l1.length sc, .slice to l2.length tc] _ (w6'.setCell ⟨pb, 5, none⟩ (.slice to l2.length tc))) at S
  clear k0 k1 k2 k3 k4 k5 kf
  generalize hX6 : w6'.setCell ⟨pb, 5, none⟩ (.slice to l2.length tc) = X6 at S ⊢
  replace hown2 := hid (show X6.ownsRow X5.heap.size 9 1 (.slice to l2.length tc) l2.length (strC l2) from by
    rw [← hX6]
    exact Mem.ownsRow_store hown2.out (fun g hg e => by have := hown2.out.lt g hg; have := hs5.out; omega) _ _)
  replace hown1 := hid (show X6.ownsRow X4.heap.size 9 1 (.slice so l1.length sc) l1.length (strC l1) from by
    rw [← hX6]
    exact Mem.ownsRow_store hown1.out (fun g hg e => by have := hown1.out.lt g hg; have := hs4.out; omega) _ _)
  clear hX6
  obtain ⟨k0, k1, k2, k3, k4, k5, kf⟩ := sixc S.out.K
  obtain ⟨z0, z1, z2, z3, z4, z5, zf⟩ := sixc S.out.R
  obtain ⟨F1, F2, F3⟩ := S.out.fin [.int .i64 (x1 : Nat), .int .u64 (x2 : Nat), .int .i64 (x3 : Nat), .bool x4, .slice so l1.length sc, .slice to l2.length tc] rfl
  have v1 := hid (show (stL X6 rb [.int .i64 (x1 : Nat), .int .u64 (x2 : Nat), .int .i64 (x3 : Nat), .bool x4, .slice so l1.length sc, .slice to l2.length tc] 0).ownsRow w.heap.size 9 1 (.slice so l1.length sc) l1.length (strC l1) from ownsRow_mono (ownsRow_at hown1.out (fun g hg => heap_stL rb _ X6 0 g (fun e => by have := hown1.out.lt g hg; have := hs4.out; omega))) hs4.out.1)
  have v2 := hid (show (stL X6 rb [.int .i64 (x1 : Nat), .int .u64 (x2 : Nat), .int .i64 (x3 : Nat), .bool x4, .slice so l1.length sc, .slice to l2.length tc] 0).ownsRow w.heap.size 9 1 (.slice to l2.length tc) l2.length (strC l2) from ownsRow_mono (ownsRow_at hown2.out (fun g hg => heap_stL rb _ X6 0 g (fun e => by have := hown2.out.lt g hg; have := hs5.out; omega))) hs5.out.1)
  have hfin := hid (show RdP w b pR o ⟨(x1 : Nat), x2, (x3 : Nat), x4, l1, l2⟩ (stL X6 rb [.int .i64 (x1 : Nat), .int .u64 (x2 : Nat), .int .i64 (x3 : Nat), .bool x4, .slice so l1.length sc, .slice to l2.length tc] 0) from ⟨o6, F2, pR_res g1.out g2.out g3.out g4.out g5.out g6.out, F3⟩)
  replace F1 := hid F1
  clear F2 F3 S hown1 hown2
  go_wp2_with fail
  obtain ⟨q0, q1, q2, q3, q4, q5, -⟩ := sixc F1.out
  refine bodyPost_ret (v := .agg #[.int .i64 (x1 : Nat), .int .u64 (x2 : Nat), .int .i64 (x3 : Nat), .bool x4, .slice so l1.length sc, .slice to l2.length tc]) ?_ rfl ?_
  · simp only [stL] at q0 q1 q2 q3 q4 q5
    simp [results, Try.results28, go_sem, q0, q1, q2, q3, q4, q5]
  · exact ⟨⟨(x1 : Nat), x2, (x3 : Nat), x4, l1, l2⟩, so, sc, to, tc, rfl, v1.out, v2.out, hl1, hl2, hx2, hfin.out⟩
def wR (r : Rep) (o : Option (List UInt8)) : Option (List UInt8) := wL r.errs (wL r.ids (wF r.allow (w1 r.place (wN r.n (w1 r.why o)))))
def repT (r : Rep) : Nat := 13 + tot r.ids + tot r.errs
set_option maxHeartbeats 16000000 in
theorem wreply_any (B b n m : Nat) (o : Option (List UInt8)) (r : Rep) (so to : Option Addr) (sc tc : Nat) (w wB : World) (h : Wr w B b o n m) (hV1 : StrsV wB (.slice so r.ids.length sc) r.ids) (hV2 : StrsV wB (.slice to r.errs.length tc) r.errs) (hwB : wB.heap.size = B) (hb0 : Below B wB w) (hn : repN r) (hl1 : r.ids.length ≤ 1048576) (hl2 : r.errs.length ≤ 1048576) (hm : m + repT r ≤ 90000000) (hBw : B ≤ w.heap.size) :
    Calls Try.prog 28 #[.iface 53 (.pointer (some ⟨b, 0, none⟩)), .agg #[.int .i64 r.why, .int .u64 (r.n : Nat), .int .i64 r.place, .bool r.allow, .slice so r.ids.length sc, .slice to r.errs.length tc]] w fun e w' => (∃ v, e = .returned v) ∧ WrP w B b (wR r o) (n + 1) (m + repT r) w' := by
  have hm' : m + (13 + tot r.ids + tot r.errs) ≤ 90000000 := hm
  go_enter Try.func28, Try.ntmps28
  go_upto_region 1 with fail
  have S := hid (WX.new h hBw 42 [.int .i64 r.why, .int .u64 (r.n : Nat), .int .i64 r.place, .bool r.allow, .slice so r.ids.length sc, .slice to r.errs.length tc] [.int .i64 0, .int .u64 0, .int .i64 0, .bool false, .slice none 0 0, .slice none 0 0])
  change Hid (WX w B b _ _ _ _ _ _ _ _ ((w.alloc (.cells #[.int .i64 r.why, .int .u64 (r.n : Nat), .int .i64 r.place, .bool r.allow, .slice so r.ids.length sc, .slice to r.errs.length tc] 42)).alloc (.cells #[.int .i64 0, .int .u64 0, .int .i64 0, .bool false, .slice none 0 0, .slice none 0 0] 42))) at S
  generalize (w.alloc (.cells #[.int .i64 r.why, .int .u64 (r.n : Nat), .int .i64 r.place, .bool r.allow, .slice so r.ids.length sc, .slice to r.errs.length tc] 42)).alloc (.cells #[.int .i64 0, .int .u64 0, .int .i64 0, .bool false, .slice none 0 0, .slice none 0 0] 42) = X at S ⊢
  obtain ⟨pb, hpb⟩ : ∃ pb, w.heap.size = pb := ⟨_, rfl⟩
  obtain ⟨rb, hrb⟩ : ∃ rb, w.heap.size + 1 = rb := ⟨_, rfl⟩
  have hpr := hid (show w.heap.size ≤ pb ∧ w.heap.size ≤ rb by omega)
  rw [hrb] at S ⊢
  rw [hpb] at S ⊢
  clear hpb hrb
  have hV1 := hid hV1
  have hV2 := hid hV2
  have hb0 := hid hb0
  obtain ⟨k0, k1, k2, k3, k4, k5, kf⟩ := sixc S.out.K
  have hc := hid (wsmall_any B b n m o r.why X S.out.wr (by omega) (by have := S.out.bel.size; have := S.out.hB; omega))
  go_wp2_with fail
  refine hc.out.mono ?_
  rintro e w1' ⟨rfl, hP⟩
  replace S := hid (S.out.call (by decide) hP)
  clear hc hP k0 k1 k2 k3 k4 k5 kf
  obtain ⟨k0, k1, k2, k3, k4, k5, kf⟩ := sixc S.out.K
  go_upto_region 2 with fail
  replace S := hid (S.out.set (by decide) 0 (.int .i64 r.why))
  change Hid (WX w B b pb rb _ _ _ _ [.int .i64 r.why, .int .u64 (r.n : Nat), .int .i64 r.place, .bool r.allow, .slice so r.ids.length sc, .slice to r.errs.length tc] _ (w1'.setCell ⟨pb, 0, none⟩ (.int .i64 r.why))) at S
  clear k0 k1 k2 k3 k4 k5 kf
  generalize w1'.setCell ⟨pb, 0, none⟩ (.int .i64 r.why) = X1 at S ⊢
  obtain ⟨k0, k1, k2, k3, k4, k5, kf⟩ := sixc S.out.K
  have hc := hid (wnumber_any B b (n + 1) _ _ r.n X1 S.out.wr (by omega) hn (by have := S.out.bel.size; have := S.out.hB; omega))
  go_wp2_with fail
  refine hc.out.mono ?_
  rintro e w2' ⟨rfl, hP⟩
  replace S := hid (S.out.call (by decide) hP)
  clear hc hP k0 k1 k2 k3 k4 k5 kf
  obtain ⟨k0, k1, k2, k3, k4, k5, kf⟩ := sixc S.out.K
  go_upto_region 3 with fail
  replace S := hid (S.out.set (by decide) 1 (.int .u64 (r.n : Nat)))
  change Hid (WX w B b pb rb _ _ _ _ [.int .i64 r.why, .int .u64 (r.n : Nat), .int .i64 r.place, .bool r.allow, .slice so r.ids.length sc, .slice to r.errs.length tc] _ (w2'.setCell ⟨pb, 1, none⟩ (.int .u64 (r.n : Nat)))) at S
  clear k0 k1 k2 k3 k4 k5 kf
  generalize w2'.setCell ⟨pb, 1, none⟩ (.int .u64 (r.n : Nat)) = X2 at S ⊢
  obtain ⟨k0, k1, k2, k3, k4, k5, kf⟩ := sixc S.out.K
  have hc := hid (wsmall_any B b (n + 1) _ _ r.place X2 S.out.wr (by omega) (by have := S.out.bel.size; have := S.out.hB; omega))
  go_wp2_with fail
  refine hc.out.mono ?_
  rintro e w3' ⟨rfl, hP⟩
  replace S := hid (S.out.call (by decide) hP)
  clear hc hP k0 k1 k2 k3 k4 k5 kf
  obtain ⟨k0, k1, k2, k3, k4, k5, kf⟩ := sixc S.out.K
  go_upto_region 4 with fail
  replace S := hid (S.out.set (by decide) 2 (.int .i64 r.place))
  change Hid (WX w B b pb rb _ _ _ _ [.int .i64 r.why, .int .u64 (r.n : Nat), .int .i64 r.place, .bool r.allow, .slice so r.ids.length sc, .slice to r.errs.length tc] _ (w3'.setCell ⟨pb, 2, none⟩ (.int .i64 r.place))) at S
  clear k0 k1 k2 k3 k4 k5 kf
  generalize w3'.setCell ⟨pb, 2, none⟩ (.int .i64 r.place) = X3 at S ⊢
  obtain ⟨k0, k1, k2, k3, k4, k5, kf⟩ := sixc S.out.K
  have hc := hid (wflag_any B b (n + 1 + 1) _ _ r.allow X3 S.out.wr (by omega) (by have := S.out.bel.size; have := S.out.hB; omega))
  go_wp2_with fail
  refine hc.out.mono ?_
  rintro e w4' ⟨rfl, hP⟩
  replace S := hid (S.out.call (by decide) hP)
  clear hc hP k0 k1 k2 k3 k4 k5 kf
  obtain ⟨k0, k1, k2, k3, k4, k5, kf⟩ := sixc S.out.K
  go_upto_region 5 with fail
  replace S := hid (S.out.set (by decide) 3 (.bool r.allow))
  change Hid (WX w B b pb rb _ _ _ _ [.int .i64 r.why, .int .u64 (r.n : Nat), .int .i64 r.place, .bool r.allow, .slice so r.ids.length sc, .slice to r.errs.length tc] _ (w4'.setCell ⟨pb, 3, none⟩ (.bool r.allow))) at S
  clear k0 k1 k2 k3 k4 k5 kf
  generalize w4'.setCell ⟨pb, 3, none⟩ (.bool r.allow) = X4 at S ⊢
  obtain ⟨k0, k1, k2, k3, k4, k5, kf⟩ := sixc S.out.K
  have hc := hid (wtexts_any B b (n + 1 + 1) _ _ r.ids _ X4 wB S.out.wr hV1.out hwB (hb0.out.trans S.out.bel) hl1 (by omega) (by have := S.out.bel.size; have := S.out.hB; omega))
  go_wp2_with fail
  refine hc.out.mono ?_
  rintro e w5' ⟨⟨so1, cap1, rfl, -⟩, hP⟩
  replace S := hid (S.out.call (by decide) hP)
  clear hc hP k0 k1 k2 k3 k4 k5 kf
  obtain ⟨k0, k1, k2, k3, k4, k5, kf⟩ := sixc S.out.K
  go_upto_region 6 with fail
  replace S := hid (S.out.set (by decide) 4 (.slice so1 r.ids.length cap1))
  change Hid (WX w B b pb rb _ _ _ _ [.int .i64 r.why, .int .u64 (r.n : Nat), .int .i64 r.place, .bool r.allow, .slice so1 r.ids.length cap1, .slice to r.errs.length tc] _ (w5'.setCell ⟨pb, 4, none⟩ (.slice so1 r.ids.length cap1))) at S
  clear k0 k1 k2 k3 k4 k5 kf
  generalize w5'.setCell ⟨pb, 4, none⟩ (.slice so1 r.ids.length cap1) = X5 at S ⊢
  obtain ⟨k0, k1, k2, k3, k4, k5, kf⟩ := sixc S.out.K
  have hc := hid (wtexts_any B b (n + 1 + 1) _ _ r.errs _ X5 wB S.out.wr hV2.out hwB (hb0.out.trans S.out.bel) hl2 (by omega) (by have := S.out.bel.size; have := S.out.hB; omega))
  go_wp2_with fail
  refine hc.out.mono ?_
  rintro e w6' ⟨⟨so2, cap2, rfl, -⟩, hP⟩
  replace S := hid (S.out.call (by decide) hP)
  clear hc hP k0 k1 k2 k3 k4 k5 kf
  obtain ⟨k0, k1, k2, k3, k4, k5, kf⟩ := sixc S.out.K
  go_upto_region 7 with fail
  replace S := hid (S.out.set (by decide) 5 (.slice so2 r.errs.length cap2))
  change Hid (WX w B b pb rb _ _ _ _ [.int .i64 r.why, .int .u64 (r.n : Nat), .int .i64 r.place, .bool r.allow, .slice so1 r.ids.length cap1, .slice so2 r.errs.length cap2] _ (w6'.setCell ⟨pb, 5, none⟩ (.slice so2 r.errs.length cap2))) at S
  clear k0 k1 k2 k3 k4 k5 kf
  generalize w6'.setCell ⟨pb, 5, none⟩ (.slice so2 r.errs.length cap2) = X6 at S ⊢
  obtain ⟨k0, k1, k2, k3, k4, k5, kf⟩ := sixc S.out.K
  obtain ⟨z0, z1, z2, z3, z4, z5, zf⟩ := sixc S.out.R
  obtain ⟨F1, F2⟩ := S.out.fin (by decide) [.int .i64 r.why, .int .u64 (r.n : Nat), .int .i64 r.place, .bool r.allow, .slice so1 r.ids.length cap1, .slice so2 r.errs.length cap2] rfl
  replace F1 := hid F1
  replace F2 := hid F2
  clear S
  go_wp2_with fail
  obtain ⟨q0, q1, q2, q3, q4, q5, -⟩ := sixc F1.out
  refine bodyPost_ret (v := .agg #[.int .i64 r.why, .int .u64 (r.n : Nat), .int .i64 r.place, .bool r.allow, .slice so1 r.ids.length cap1, .slice so2 r.errs.length cap2]) ?_ rfl ?_
  · simp only [stL] at q0 q1 q2 q3 q4 q5
    simp [results, Try.results28, go_sem, q0, q1, q2, q3, q4, q5]
  · exact ⟨⟨_, rfl⟩, F2.out.1.mono (by omega) (by unfold repT; omega), F2.out.2⟩
end Go.Proofs.Ytldlkoiekdlmhaa.Wi
