/-
  lictorref15.texts, SameDecision, lictorlaw19.same: replies that are alike are the same.
-/
import Derived.Test.YtldlkoiekdlmhaaWireWA
import Derived.Test.YtldlkoiekdlmhaaPkWireRR
import Derived.Deep.RegionHeld3
namespace Go.Proofs.Ytldlkoiekdlmhaa.Wi
open Go.ChangeShapes Go.WideShapes Go.ChangeAt Go.RowKit
open Go.Proofs.Ytldlkoiekdlmhaa.Mem
open Go.Proofs.Ytldlkoiekdlmhaa.Lik (Kept)
open Go.Proofs.Ytldlkoiekdlmhaa.Crc hiding hid bt
set_option linter.unusedVariables false
set_option linter.unusedSimpArgs false
set_option maxRecDepth 100000
def a32 : Ask := { askZ with k := 3, tx := 2 }
def a10 : Ask := { askZ with k := 1 }
def r71 : Rep := { repZ with why := 7, n := 1 }
theorem askR_32 : askR a32 := by decide
theorem askR_10 : askR a10 := by decide
theorem askF_32 : askF a32 := ⟨⟨by decide, by decide, by decide, by decide⟩, chF1_zero, by decide, by decide, by decide, by decide, by decide, by decide, by decide⟩
theorem repR_71 : repR r71 := ⟨by decide, by decide, ⟨by decide, by simp [r71, repZ]⟩, ⟨by decide, by simp [r71, repZ]⟩⟩
theorem lw (w : World) : Calls Try.prog 9 #[.agg #[.int .u8 3, .int .u64 2, .int .u8 0, .string ⟨#[]⟩, .string ⟨#[]⟩, .string ⟨#[]⟩, .string ⟨#[]⟩, .int .u64 0, .string ⟨#[]⟩, .string ⟨#[]⟩, .string ⟨#[]⟩, .string ⟨#[]⟩, .string ⟨#[]⟩, .string ⟨#[]⟩, .string ⟨#[]⟩]] w fun e w' => e = .returned (.tuple #[.string ⟨#[3, 2, 0, 0, 0, 0, 0, 0, 0]⟩, .int .i64 0]) ∧ Below w.heap.size w w' := by
  refine (show Calls Try.prog 9 #[.agg #[.int .u8 3, .int .u64 2, .int .u8 0, .string ⟨#[]⟩, .string ⟨#[]⟩, .string ⟨#[]⟩, .string ⟨#[]⟩, .int .u64 0, .string ⟨#[]⟩, .string ⟨#[]⟩, .string ⟨#[]⟩, .string ⟨#[]⟩, .string ⟨#[]⟩, .string ⟨#[]⟩, .string ⟨#[]⟩]] w _ from writeask_any a32 w askF_32).mono ?_
  rintro e w' ⟨⟨s, z, rfl, h⟩, b⟩
  rcases h with ⟨rfl, _, rfl⟩ | ⟨_, hr, _⟩
  · exact ⟨rfl, b⟩
  · exact absurd askR_32 hr
theorem lr (w : World) : Calls Try.prog 11 #[.string ⟨#[1]⟩] w fun e w' => e = .returned (.tuple #[.agg #[.int .u8 1, .int .u64 0, .int .u8 0, .string ⟨#[]⟩, .string ⟨#[]⟩, .string ⟨#[]⟩, .string ⟨#[]⟩, .int .u64 0, .string ⟨#[]⟩, .string ⟨#[]⟩, .string ⟨#[]⟩, .string ⟨#[]⟩, .string ⟨#[]⟩, .string ⟨#[]⟩, .string ⟨#[]⟩], .int .i64 0]) ∧ Below w.heap.size w w' := by
  refine (readask_any ⟨#[1]⟩ w (by decide)).mono ?_
  rintro e w' ⟨⟨a, z, rfl, hF, h⟩, b⟩
  rcases h with ⟨rfl, hr, hn, he⟩ | ⟨_, _, hno⟩
  · obtain rfl : a = a10 := askE_inj hr askR_10 hn ⟨by decide, by decide, by decide, by decide⟩ (he.trans rfl)
    exact ⟨rfl, b⟩
  · exact absurd rfl (hno a10 askR_10 ⟨by decide, by decide, by decide, by decide⟩)
theorem lp (w : World) : Calls Try.prog 14 #[.agg #[.int .i64 7, .int .u64 1, .int .i64 0, .bool false, .slice none 0 0, .slice none 0 0]] w fun e w' => e = .returned (.tuple #[.string ⟨#[7, 1, 0, 0, 0, 0, 0, 0, 0, 0, 0, 0, 0]⟩, .int .i64 0]) ∧ Below w.heap.size w w' := by
  refine (show Calls Try.prog 14 #[.agg #[.int .i64 7, .int .u64 1, .int .i64 0, .bool false, .slice none 0 0, .slice none 0 0]] w _ from writereply_any r71 none none 0 0 w (SlV.nil _) (SlV.nil _) (by show (1 : Nat) < 18446744073709551616; decide) (by decide) (by decide) (by decide)).mono ?_
  rintro e w' ⟨⟨s, z, rfl, h⟩, b⟩
  rcases h with ⟨rfl, _, rfl⟩ | ⟨_, hr, _⟩
  · exact ⟨rfl, b⟩
  · exact absurd repR_71 hr
set_option maxHeartbeats 8000000 in
theorem wlives_any (w : World) : Calls Try.prog 13 #[] w fun e w' => e = .returned (.bool true) ∧ Below w.heap.size w w' := by
  go_enter Try.func13, Try.ntmps13
  go_wp2_with fail
  refine (lw _).mono ?_
  rintro e w1' ⟨rfl, b1⟩
  replace b1 := hid b1
  go_wp2_with fail
  refine (lr _).mono ?_
  rintro e w2 ⟨rfl, b2⟩
  replace b1 := hid (b1.out.trans (b2.mono b1.out.size))
  clear b2
  go_upto_region 3 with fail
  have K := hid (Blk.new w2 [.int .u8 1, .int .u64 0, .int .u8 0, .string ⟨#[]⟩, .string ⟨#[]⟩, .string ⟨#[]⟩, .string ⟨#[]⟩, .int .u64 0, .string ⟨#[]⟩, .string ⟨#[]⟩, .string ⟨#[]⟩, .string ⟨#[]⟩, .string ⟨#[]⟩, .string ⟨#[]⟩, .string ⟨#[]⟩] 30)
  replace b1 := hid (b1.out.alloc b1.out.size (.cells #[.int .u8 1, .int .u64 0, .int .u8 0, .string ⟨#[]⟩, .string ⟨#[]⟩, .string ⟨#[]⟩, .string ⟨#[]⟩, .int .u64 0, .string ⟨#[]⟩, .string ⟨#[]⟩, .string ⟨#[]⟩, .string ⟨#[]⟩, .string ⟨#[]⟩, .string ⟨#[]⟩, .string ⟨#[]⟩] 30))
  change Hid (Blk (w2.alloc (.cells #[.int .u8 1, .int .u64 0, .int .u8 0, .string ⟨#[]⟩, .string ⟨#[]⟩, .string ⟨#[]⟩, .string ⟨#[]⟩, .int .u64 0, .string ⟨#[]⟩, .string ⟨#[]⟩, .string ⟨#[]⟩, .string ⟨#[]⟩, .string ⟨#[]⟩, .string ⟨#[]⟩, .string ⟨#[]⟩] 30)) _ _ _) at K
  generalize w2.alloc (.cells #[.int .u8 1, .int .u64 0, .int .u8 0, .string ⟨#[]⟩, .string ⟨#[]⟩, .string ⟨#[]⟩, .string ⟨#[]⟩, .int .u64 0, .string ⟨#[]⟩, .string ⟨#[]⟩, .string ⟨#[]⟩, .string ⟨#[]⟩, .string ⟨#[]⟩, .string ⟨#[]⟩, .string ⟨#[]⟩] 30) = X at K b1 ⊢
  obtain ⟨pb, hpb⟩ : ∃ pb, w2.heap.size = pb := ⟨_, rfl⟩
  rw [hpb] at K ⊢
  clear hpb
  go_wp2_with fail
  refine (lp _).mono ?_
  rintro e w3 ⟨rfl, b3⟩
  replace K := hid (K.out.below b3 K.out.lt)
  replace b1 := hid (b1.out.trans (b3.mono b1.out.size))
  clear b3
  obtain ⟨k0, k1, k2, k3, k4, k5, k6, k7, k8, k9, k10, k11, k12, k13, k14, kf⟩ := fifteen K.out
  go_wp2_with fail
  go_ret
  exact ⟨rfl, b1.out⟩
theorem askF_of {a : Ask} (hN : askN a) (hB : a.c.i.size + a.c.t.size + a.c.ut.size + a.c.ui.size + a.s0.size + a.s1.size + a.s2.size + a.s3.size + a.s4.size + a.s5.size + a.s6.size ≤ 1048576) : askF a :=
  ⟨hN, ⟨hN.2.2.2, by omega, by omega, by omega, by omega⟩, by omega, by omega, by omega, by omega, by omega, by omega, by omega⟩
end Go.Proofs.Ytldlkoiekdlmhaa.Wi
namespace Go.Proofs.Ytldlkoiekdlmhaa.Wi
open Go.ChangeShapes Go.WideShapes Go.ChangeAt Go.RowKit
open Go.Proofs.Ytldlkoiekdlmhaa.Mem
open Go.Proofs.Ytldlkoiekdlmhaa.Crc hiding hid bt
set_option linter.unusedVariables false
set_option linter.unusedSimpArgs false
set_option maxRecDepth 100000
set_option maxHeartbeats 4000000 in
theorem texts_yes (l : List ByteArray) (v1 v2 : Value) (w : World) (h1 : StrsV w v1 l) (h2 : StrsV w v2 l) :
    Calls Try.prog 40 #[v1, v2] w fun e w' => e = .returned (.bool true) ∧ Below w.heap.size w w' := by
  obtain ⟨ao, ac, rfl, _, hm⟩ := h1.form
  obtain ⟨bo, bc, rfl, _, _⟩ := h2.form
  obtain ⟨n, hn⟩ : ∃ n, l.length = n := ⟨_, rfl⟩
  have h1' := hid h1
  have h2' := hid h2
  have hn' := hid hn
  have hni : (n : Int) ≤ 9223372036854775807 := by have := h1.len; unfold maxLen at this; omega
  rw [hn]
  clear h1 h2 hn hm
  go_enter Try.func40, Try.ntmps40
  go_wp2_with fail
  go_loopw [13] (fun i wr => ∃ k : Nat, k ≤ n ∧ i = .int .i64 k ∧ Hid (Below w.heap.size w wr)) (fun i _ => n - (intOf i).toNat)
  case atStart => exact ⟨0, by omega, rfl, hid (Below.refl _ _)⟩
  case round =>
    obtain ⟨k, hk, rfl, bw⟩ := hrel
    by_cases hkn : k < n
    · have hki : (k : Int) < (n : Int) := by omega
      have hkl : k < l.length := by rw [hn'.out]; exact hkn
      obtain ⟨b1, o1, c1, e1, -, -, -, q1⟩ := (h1'.out.below bw.out).open (by omega)
      obtain ⟨b2, o2, c2, e2, -, -, -, q2⟩ := (h2'.out.below bw.out).open (by omega)
      simp only [Value.slice.injEq] at e1 e2
      obtain ⟨rfl, -, -⟩ := e1
      obtain ⟨rfl, -, -⟩ := e2
      have x1 := q1 k hkl
      have x2 := q2 k hkl
      generalize l[k] = s at x1 x2
      clear q1 q2
      have bd := hid ((bw.out.drew))
      go_wp2_with fail
      go_quiet (fail)
      rename_i nq
      have bq := hid (show Below w.heap.size w (wr.drewN nq) from ⟨bw.out.os, bw.out.tape, bw.out.output, bw.out.size, fun j hj => bw.out.block j hj⟩)
      clear bd bw x1 x2
      generalize wr.drewN nq = W at bq ⊢
      go_wp2_with fail
      go_roundw
      case rel => exact ⟨k + 1, by omega, by go_num, bq⟩
      case measure => simp [intOf]; omega
    · obtain rfl : k = n := by omega
      have hki : ¬ (k : Int) < (k : Int) := by omega
      go_wp2_with fail
      go_ret
      exact ⟨rfl, bw.out⟩
set_option maxHeartbeats 4000000 in
theorem samedec_yes (al : Bool) (l1 l2 : List ByteArray) (so to so2 to2 : Option Addr) (sc tc sc2 tc2 : Nat) (w : World) (h1 : StrsV w (.slice so l1.length sc) l1) (h2 : StrsV w (.slice to l2.length tc) l2) (g1 : StrsV w (.slice so2 l1.length sc2) l1) (g2 : StrsV w (.slice to2 l2.length tc2) l2) :
    Calls Try.prog 31 #[.agg #[.bool al, .slice so l1.length sc, .slice to l2.length tc], .agg #[.bool al, .slice so2 l1.length sc2, .slice to2 l2.length tc2]] w fun e w' => e = .returned (.bool true) ∧ Below w.heap.size w w' := by
  have q1 := hid (fun W (b : Below w.heap.size w W) => texts_yes l1 _ _ W (h1.below b) (g1.below b))
  have q2 := hid (fun W (b : Below w.heap.size w W) => texts_yes l2 _ _ W (h2.below b) (g2.below b))
  clear h1 h2 g1 g2
  go_enter Try.func31, Try.ntmps31
  go_upto_region 1 with fail
  have K := hid ((Blk.new w [.bool al, .slice so l1.length sc, .slice to l2.length tc] 40).alloc (.cells #[.bool al, .slice so2 l1.length sc2, .slice to2 l2.length tc2] 40))
  have J := hid (Blk.new' (w.alloc (.cells #[.bool al, .slice so l1.length sc, .slice to l2.length tc] 40)) [.bool al, .slice so2 l1.length sc2, .slice to2 l2.length tc2] 40 (w.heap.size + 1) (by simp))
  have bw := hid (((Below.refl w.heap.size w).alloc (Nat.le_refl _) (.cells #[.bool al, .slice so l1.length sc, .slice to l2.length tc] 40)).alloc (by simp) (.cells #[.bool al, .slice so2 l1.length sc2, .slice to2 l2.length tc2] 40))
  change Hid (Blk ((w.alloc (.cells #[.bool al, .slice so l1.length sc, .slice to l2.length tc] 40)).alloc (.cells #[.bool al, .slice so2 l1.length sc2, .slice to2 l2.length tc2] 40)) _ _ _) at K
  change Hid (Blk ((w.alloc (.cells #[.bool al, .slice so l1.length sc, .slice to l2.length tc] 40)).alloc (.cells #[.bool al, .slice so2 l1.length sc2, .slice to2 l2.length tc2] 40)) _ _ _) at J
  generalize (w.alloc (.cells #[.bool al, .slice so l1.length sc, .slice to l2.length tc] 40)).alloc (.cells #[.bool al, .slice so2 l1.length sc2, .slice to2 l2.length tc2] 40) = X at K J bw ⊢
  obtain ⟨pb, hpb⟩ : ∃ pb, w.heap.size = pb := ⟨_, rfl⟩
  obtain ⟨qb, hqb⟩ : ∃ qb, w.heap.size + 1 = qb := ⟨_, rfl⟩
  rw [hqb] at J ⊢
  rw [hpb] at K ⊢
  clear hpb hqb
  obtain ⟨k0, k1, k2, kf⟩ := K.out.three
  obtain ⟨j0, j1, j2, jf⟩ := J.out.three
  have qa : (al == al) = true := by simp
  go_wp2_with fail
  refine (q1.out X bw.out).mono ?_
  rintro e w1' ⟨rfl, b1⟩
  replace K := hid (K.out.below b1 K.out.lt)
  replace J := hid (J.out.below b1 J.out.lt)
  replace bw := hid (bw.out.trans (b1.mono bw.out.size))
  clear b1 k0 k1 k2 kf j0 j1 j2 jf
  obtain ⟨k0, k1, k2, kf⟩ := K.out.three
  obtain ⟨j0, j1, j2, jf⟩ := J.out.three
  go_wp2_with fail
  refine (q2.out w1' bw.out).mono ?_
  rintro e w2 ⟨rfl, b1⟩
  replace bw := hid (bw.out.trans (b1.mono bw.out.size))
  clear b1
  go_wp2_with fail
  go_ret
  exact ⟨rfl, bw.out⟩
set_option maxHeartbeats 4000000 in
theorem same_yes (r : Rep) (so to so2 to2 : Option Addr) (sc tc sc2 tc2 : Nat) (w : World) (h1 : StrsV w (.slice so r.ids.length sc) r.ids) (h2 : StrsV w (.slice to r.errs.length tc) r.errs) (g1 : StrsV w (.slice so2 r.ids.length sc2) r.ids) (g2 : StrsV w (.slice to2 r.errs.length tc2) r.errs) :
    Calls Try.prog 18 #[.agg #[.int .i64 r.why, .int .u64 (r.n : Nat), .int .i64 r.place, .bool r.allow, .slice so r.ids.length sc, .slice to r.errs.length tc], .agg #[.int .i64 r.why, .int .u64 (r.n : Nat), .int .i64 r.place, .bool r.allow, .slice so2 r.ids.length sc2, .slice to2 r.errs.length tc2]] w fun e w' => e = .returned (.bool true) ∧ Below w.heap.size w w' := by
  have q1 := hid (fun W (b : Below w.heap.size w W) => samedec_yes r.allow r.ids r.errs so to so2 to2 sc tc sc2 tc2 W (h1.below b) (h2.below b) (g1.below b) (g2.below b))
  clear h1 h2 g1 g2
  go_enter Try.func18, Try.ntmps18
  go_upto_region 1 with fail
  have K := hid ((Blk.new w [.int .i64 r.why, .int .u64 (r.n : Nat), .int .i64 r.place, .bool r.allow, .slice so r.ids.length sc, .slice to r.errs.length tc] 42).alloc (.cells #[.int .i64 r.why, .int .u64 (r.n : Nat), .int .i64 r.place, .bool r.allow, .slice so2 r.ids.length sc2, .slice to2 r.errs.length tc2] 42))
  have J := hid (Blk.new' (w.alloc (.cells #[.int .i64 r.why, .int .u64 (r.n : Nat), .int .i64 r.place, .bool r.allow, .slice so r.ids.length sc, .slice to r.errs.length tc] 42)) [.int .i64 r.why, .int .u64 (r.n : Nat), .int .i64 r.place, .bool r.allow, .slice so2 r.ids.length sc2, .slice to2 r.errs.length tc2] 42 (w.heap.size + 1) (by simp))
  have bw := hid (((Below.refl w.heap.size w).alloc (Nat.le_refl _) (.cells #[.int .i64 r.why, .int .u64 (r.n : Nat), .int .i64 r.place, .bool r.allow, .slice so r.ids.length sc, .slice to r.errs.length tc] 42)).alloc (by simp) (.cells #[.int .i64 r.why, .int .u64 (r.n : Nat), .int .i64 r.place, .bool r.allow, .slice so2 r.ids.length sc2, .slice to2 r.errs.length tc2] 42))
  change Hid (Blk ((w.alloc (.cells #[.int .i64 r.why, .int .u64 (r.n : Nat), .int .i64 r.place, .bool r.allow, .slice so r.ids.length sc, .slice to r.errs.length tc] 42)).alloc (.cells #[.int .i64 r.why, .int .u64 (r.n : Nat), .int .i64 r.place, .bool r.allow, .slice so2 r.ids.length sc2, .slice to2 r.errs.length tc2] 42)) _ _ _) at K
  change Hid (Blk ((w.alloc (.cells #[.int .i64 r.why, .int .u64 (r.n : Nat), .int .i64 r.place, .bool r.allow, .slice so r.ids.length sc, .slice to r.errs.length tc] 42)).alloc (.cells #[.int .i64 r.why, .int .u64 (r.n : Nat), .int .i64 r.place, .bool r.allow, .slice so2 r.ids.length sc2, .slice to2 r.errs.length tc2] 42)) _ _ _) at J
  generalize (w.alloc (.cells #[.int .i64 r.why, .int .u64 (r.n : Nat), .int .i64 r.place, .bool r.allow, .slice so r.ids.length sc, .slice to r.errs.length tc] 42)).alloc (.cells #[.int .i64 r.why, .int .u64 (r.n : Nat), .int .i64 r.place, .bool r.allow, .slice so2 r.ids.length sc2, .slice to2 r.errs.length tc2] 42) = X at K J bw ⊢
  obtain ⟨pb, hpb⟩ : ∃ pb, w.heap.size = pb := ⟨_, rfl⟩
  obtain ⟨qb, hqb⟩ : ∃ qb, w.heap.size + 1 = qb := ⟨_, rfl⟩
  rw [hqb] at J ⊢
  rw [hpb] at K ⊢
  clear hpb hqb
  obtain ⟨k0, k1, k2, k3, k4, k5, kf⟩ := sixc K.out
  obtain ⟨j0, j1, j2, j3, j4, j5, jf⟩ := sixc J.out
  go_wp2_with fail
  refine (q1.out X bw.out).mono ?_
  rintro e w1' ⟨rfl, b1⟩
  replace bw := hid (bw.out.trans (b1.mono bw.out.size))
  clear b1
  go_wp2_with fail
  go_ret
  exact ⟨rfl, bw.out⟩
end Go.Proofs.Ytldlkoiekdlmhaa.Wi
