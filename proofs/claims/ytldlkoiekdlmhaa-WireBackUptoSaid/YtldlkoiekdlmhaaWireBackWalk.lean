/-
  wire's calls: contracts. Written by wip/wiretopgen.py.
-/
import Derived.Test.YtldlkoiekdlmhaaWireSame
import Derived.Deep.Cut
import Derived.Deep.CutRange
namespace Go.Proofs.Ytldlkoiekdlmhaa.Wi
open Go.ChangeShapes Go.WideShapes Go.ChangeAt Go.RowKit
open Go.Proofs.Ytldlkoiekdlmhaa.Mem
open Go.Proofs.Ytldlkoiekdlmhaa.Lik (Kept)
open Go.Proofs.Ytldlkoiekdlmhaa.Crc hiding hid bt
set_option linter.unusedVariables false
set_option linter.unusedSimpArgs false
set_option maxRecDepth 100000
theorem rep_T {r : Rep} (h1 : lR r.ids) (h2 : lR r.errs) : r.ids.length ≤ 1048576 ∧ r.errs.length ≤ 1048576 ∧ repT r ≤ 90000000 := by
  have key : ∀ l : List ByteArray, (∀ s ∈ l, s.size ≤ 2048) → tot l ≤ l.length * 2052 := by
    intro l
    induction l with
    | nil => intro _; exact Nat.le_refl _
    | cons s l ih =>
      intro h
      have h1 := h s (by simp)
      have h2 := ih (fun x hx => h x (by simp [hx]))
      unfold tot at *
      simp only [List.map_cons, List.sum_cons, List.length_cons]; omega
  have a1 := key r.ids h1.2
  have a2 := key r.errs h2.2
  have b1 := h1.1
  have b2 := h2.1
  have c1 : r.ids.length * 2052 ≤ 255 * 2052 := Nat.mul_le_mul_right _ b1
  have c2 : r.errs.length * 2052 ≤ 255 * 2052 := Nat.mul_le_mul_right _ b2
  unfold repT
  omega
set_option maxHeartbeats 16000000 in
theorem back_walk (a : Ask) (r : Rep) (so tp : Option Addr) (sc tc : Nat) (x : ByteArray) (w : World) (ha : askF a) (hV1 : StrsV w (.slice so r.ids.length sc) r.ids) (hV2 : StrsV w (.slice tp r.errs.length tc) r.errs) (hn : repN r) (hl1 : r.ids.length ≤ 1048576) (hl2 : r.errs.length ≤ 1048576) (hm : repT r ≤ 90000000) (hx : x.size ≤ 1048576) :
    Calls Try.prog 5 #[.agg #[.int .u8 (a.k : Nat), .int .u64 (a.tx : Nat), .int .u8 (a.c.k : Nat), .string a.c.i, .string a.c.t, .string a.c.ut, .string a.c.ui, .int .u64 (a.v : Nat), .string a.s0, .string a.s1, .string a.s2, .string a.s3, .string a.s4, .string a.s5, .string a.s6], .agg #[.int .i64 r.why, .int .u64 (r.n : Nat), .int .i64 r.place, .bool r.allow, .slice so r.ids.length sc, .slice tp r.errs.length tc], .string x] w fun e w' => e = .returned (.bool true) ∧ Below w.heap.size w w' := by
  have v1 := hid (fun W (b : Below w.heap.size w W) => hV1.below b)
  have v2 := hid (fun W (b : Below w.heap.size w W) => hV2.below b)
  clear hV1 hV2
  go_enter Try.func5, Try.ntmps5
  go_upto_region 1 with fail
  have K := hid ((Blk.new w [.int .u8 (a.k : Nat), .int .u64 (a.tx : Nat), .int .u8 (a.c.k : Nat), .string a.c.i, .string a.c.t, .string a.c.ut, .string a.c.ui, .int .u64 (a.v : Nat), .string a.s0, .string a.s1, .string a.s2, .string a.s3, .string a.s4, .string a.s5, .string a.s6] 30).alloc (.cells #[.int .i64 r.why, .int .u64 (r.n : Nat), .int .i64 r.place, .bool r.allow, .slice so r.ids.length sc, .slice tp r.errs.length tc] 42))
  have J := hid (Blk.new' (w.alloc (.cells #[.int .u8 (a.k : Nat), .int .u64 (a.tx : Nat), .int .u8 (a.c.k : Nat), .string a.c.i, .string a.c.t, .string a.c.ut, .string a.c.ui, .int .u64 (a.v : Nat), .string a.s0, .string a.s1, .string a.s2, .string a.s3, .string a.s4, .string a.s5, .string a.s6] 30)) [.int .i64 r.why, .int .u64 (r.n : Nat), .int .i64 r.place, .bool r.allow, .slice so r.ids.length sc, .slice tp r.errs.length tc] 42 (w.heap.size + 1) (by simp))
  have bw := hid (((Below.refl w.heap.size w).alloc (Nat.le_refl _) (.cells #[.int .u8 (a.k : Nat), .int .u64 (a.tx : Nat), .int .u8 (a.c.k : Nat), .string a.c.i, .string a.c.t, .string a.c.ut, .string a.c.ui, .int .u64 (a.v : Nat), .string a.s0, .string a.s1, .string a.s2, .string a.s3, .string a.s4, .string a.s5, .string a.s6] 30)).alloc (by simp) (.cells #[.int .i64 r.why, .int .u64 (r.n : Nat), .int .i64 r.place, .bool r.allow, .slice so r.ids.length sc, .slice tp r.errs.length tc] 42))
  change Hid (Blk ((w.alloc (.cells #[.int .u8 (a.k : Nat), .int .u64 (a.tx : Nat), .int .u8 (a.c.k : Nat), .string a.c.i, .string a.c.t, .string a.c.ut, .string a.c.ui, .int .u64 (a.v : Nat), .string a.s0, .string a.s1, .string a.s2, .string a.s3, .string a.s4, .string a.s5, .string a.s6] 30)).alloc (.cells #[.int .i64 r.why, .int .u64 (r.n : Nat), .int .i64 r.place, .bool r.allow, .slice so r.ids.length sc, .slice tp r.errs.length tc] 42)) _ _ _) at K
  change Hid (Blk ((w.alloc (.cells #[.int .u8 (a.k : Nat), .int .u64 (a.tx : Nat), .int .u8 (a.c.k : Nat), .string a.c.i, .string a.c.t, .string a.c.ut, .string a.c.ui, .int .u64 (a.v : Nat), .string a.s0, .string a.s1, .string a.s2, .string a.s3, .string a.s4, .string a.s5, .string a.s6] 30)).alloc (.cells #[.int .i64 r.why, .int .u64 (r.n : Nat), .int .i64 r.place, .bool r.allow, .slice so r.ids.length sc, .slice tp r.errs.length tc] 42)) _ _ _) at J
  generalize (w.alloc (.cells #[.int .u8 (a.k : Nat), .int .u64 (a.tx : Nat), .int .u8 (a.c.k : Nat), .string a.c.i, .string a.c.t, .string a.c.ut, .string a.c.ui, .int .u64 (a.v : Nat), .string a.s0, .string a.s1, .string a.s2, .string a.s3, .string a.s4, .string a.s5, .string a.s6] 30)).alloc (.cells #[.int .i64 r.why, .int .u64 (r.n : Nat), .int .i64 r.place, .bool r.allow, .slice so r.ids.length sc, .slice tp r.errs.length tc] 42) = X at K J bw ⊢
  obtain ⟨pb, hpb⟩ : ∃ pb, w.heap.size = pb := ⟨_, rfl⟩
  obtain ⟨qb, hqb⟩ : ∃ qb, w.heap.size + 1 = qb := ⟨_, rfl⟩
  rw [hqb] at J ⊢
  rw [hpb] at K ⊢
  clear hpb hqb
  go_wp2_with fail
  refine (wlives_any _).mono ?_
  rintro e w1' ⟨rfl, q1⟩
  replace K := hid (K.out.below q1 K.out.lt)
  replace J := hid (J.out.below q1 J.out.lt)
  replace bw := hid (bw.out.trans (q1.mono bw.out.size))
  clear q1
  obtain ⟨k0, k1, k2, k3, k4, k5, k6, k7, k8, k9, k10, k11, k12, k13, k14, kf⟩ := fifteen K.out
  go_wp2_with fail
  refine (writeask_any a w1' ha).mono ?_
  rintro e w2 ⟨⟨s, z, rfl, hz⟩, q2⟩
  replace K := hid (K.out.below q2 K.out.lt)
  replace J := hid (J.out.below q2 J.out.lt)
  replace bw := hid (bw.out.trans (q2.mono bw.out.size))
  replace hz := hid hz
  clear q2 k0 k1 k2 k3 k4 k5 k6 k7 k8 k9 k10 k11 k12 k13 k14 kf
  go_upto_if 28 with fail
  go_cut [8, 9, 10] from 22 to 40 (fun s8 s9 s10 wx => Hid (Blk wx pb [.int .u8 (a.k : Nat), .int .u64 (a.tx : Nat), .int .u8 (a.c.k : Nat), .string a.c.i, .string a.c.t, .string a.c.ut, .string a.c.ui, .int .u64 (a.v : Nat), .string a.s0, .string a.s1, .string a.s2, .string a.s3, .string a.s4, .string a.s5, .string a.s6] 30) ∧ Hid (Blk wx qb [.int .i64 r.why, .int .u64 (r.n : Nat), .int .i64 r.place, .bool r.allow, .slice so r.ids.length sc, .slice tp r.errs.length tc] 42) ∧ Hid (Below w.heap.size w wx))
  case first =>
    by_cases h0 : z = 0
    case neg =>
      have h0b : (z == 0) = false := by simpa using h0
      clear hz
      go_wp2_with fail
      go_meet
      exact ⟨K, J, bw⟩
    obtain ⟨hra, hs⟩ : askR a ∧ s = bs (askE a) := by
      rcases hz.out with ⟨_, h, e⟩ | ⟨h, _⟩
      · exact ⟨h, e⟩
      · rw [h0] at h; exact absurd h (by decide)
    have h0b : (z == 0) = true := by simpa using h0
    have hlen : s.size ≤ 16777216 := by
      rw [hs, bs_size]
      obtain ⟨⟨h1, h2, h3, h4⟩, ⟨_, h5, h6, h7, h8⟩, f0, f1, f2, f3, f4, f5, f6⟩ := ha
      have hq : (askE a).length ≤ 20000 := by
        unfold askE askT
        have hc := hra.2.2.1
        have hsq := hra.2.2.2.2
        have hp : ∀ c, cR c → (packE [c]).length ≤ 8300 := fun c hc => by
          have := chE_len c hc.2
          simp [packE]; omega
        rw [List.length_cons]
        split
        · rename_i hk
          rw [if_pos hk] at hc
          have := hp _ hc
          rw [List.length_append, leb_len]; omega
        · split
          · rw [leb_len]; omega
          · have hqe : qS a → (qE a).length ≤ 16000 := fun ⟨h0, h1, h2, h3, h4, h5, h6⟩ => by
              unfold qE
              simp only [List.length_append, txt_len]; omega
            split
            · rename_i hk
              rw [if_pos (.inl hk)] at hsq
              have := hqe hsq; omega
            · split
              · rename_i hk
                rw [if_pos (.inr hk)] at hsq
                have := hqe hsq
                rw [List.length_append, leb_len]; omega
              · simp
      omega
    have hP0 := hid (show ∀ b y, AskP s.data.toList b y → y = 0 ∧ b = a from fun b y h => by
      rw [hs, bs_list] at h
      rcases h with ⟨hy, hr, hN, he⟩ | ⟨_, _, hno⟩
      · exact ⟨hy, askE_inj hr hra hN ha.1 he⟩
      · exact absurd rfl (hno a hra ha.1))
    clear hz hs hra
    go_wp2_with fail
    refine (readask_any s w2 hlen).mono ?_
    rintro e w3 ⟨⟨b, y, rfl, -, hP⟩, q3⟩
    obtain ⟨rfl, rfl⟩ := hP0.out b y hP
    replace K := hid (K.out.below q3 K.out.lt)
    replace J := hid (J.out.below q3 J.out.lt)
    replace bw := hid (bw.out.trans (q3.mono bw.out.size))
    clear q3 hP hP0
    go_upto_region 6 with fail
    have I := hid (Blk.new w3 [.int .u8 (b.k : Nat), .int .u64 (b.tx : Nat), .int .u8 (b.c.k : Nat), .string b.c.i, .string b.c.t, .string b.c.ut, .string b.c.ui, .int .u64 (b.v : Nat), .string b.s0, .string b.s1, .string b.s2, .string b.s3, .string b.s4, .string b.s5, .string b.s6] 30)
    replace K := hid (K.out.alloc (.cells #[.int .u8 (b.k : Nat), .int .u64 (b.tx : Nat), .int .u8 (b.c.k : Nat), .string b.c.i, .string b.c.t, .string b.c.ut, .string b.c.ui, .int .u64 (b.v : Nat), .string b.s0, .string b.s1, .string b.s2, .string b.s3, .string b.s4, .string b.s5, .string b.s6] 30))
    replace J := hid (J.out.alloc (.cells #[.int .u8 (b.k : Nat), .int .u64 (b.tx : Nat), .int .u8 (b.c.k : Nat), .string b.c.i, .string b.c.t, .string b.c.ut, .string b.c.ui, .int .u64 (b.v : Nat), .string b.s0, .string b.s1, .string b.s2, .string b.s3, .string b.s4, .string b.s5, .string b.s6] 30))
    replace bw := hid (bw.out.alloc bw.out.size (.cells #[.int .u8 (b.k : Nat), .int .u64 (b.tx : Nat), .int .u8 (b.c.k : Nat), .string b.c.i, .string b.c.t, .string b.c.ut, .string b.c.ui, .int .u64 (b.v : Nat), .string b.s0, .string b.s1, .string b.s2, .string b.s3, .string b.s4, .string b.s5, .string b.s6] 30))
    change Hid (Blk (w3.alloc (.cells #[.int .u8 (b.k : Nat), .int .u64 (b.tx : Nat), .int .u8 (b.c.k : Nat), .string b.c.i, .string b.c.t, .string b.c.ut, .string b.c.ui, .int .u64 (b.v : Nat), .string b.s0, .string b.s1, .string b.s2, .string b.s3, .string b.s4, .string b.s5, .string b.s6] 30)) _ _ _) at I
    generalize w3.alloc (.cells #[.int .u8 (b.k : Nat), .int .u64 (b.tx : Nat), .int .u8 (b.c.k : Nat), .string b.c.i, .string b.c.t, .string b.c.ut, .string b.c.ui, .int .u64 (b.v : Nat), .string b.s0, .string b.s1, .string b.s2, .string b.s3, .string b.s4, .string b.s5, .string b.s6] 30) = X4 at K J I bw ⊢
    obtain ⟨ib, hib⟩ : ∃ ib, w3.heap.size = ib := ⟨_, rfl⟩
    rw [hib] at I ⊢
    clear hib
    obtain ⟨k0, k1, k2, k3, k4, k5, k6, k7, k8, k9, k10, k11, k12, k13, k14, kf⟩ := fifteen K.out
    obtain ⟨j0, j1, j2, j3, j4, j5, j6, j7, j8, j9, j10, j11, j12, j13, j14, jf⟩ := fifteen I.out
    go_wp2_with fail
    go_meet
    exact ⟨K, J, bw⟩
  case rest =>
    clear K J bw
    obtain ⟨K, J, bw⟩ := hcut
    obtain ⟨j0, j1, j2, j3, j4, j5, jf⟩ := sixc J.out
    have vv1 := v1.out wc bw.out
    have vv2 := v2.out wc bw.out
    go_wp2_with fail
    refine (writereply_any r so tp sc tc wc vv1 vv2 hn hl1 hl2 hm).mono ?_
    rintro e w5 ⟨⟨t, y, rfl, hy⟩, q5⟩
    replace J := hid (J.out.below q5 J.out.lt)
    replace bw := hid (bw.out.trans (q5.mono bw.out.size))
    replace hy := hid hy
    clear q5 j0 j1 j2 j3 j4 j5 jf vv1 vv2 K
    go_upto_if 47 with fail
    go_cut [8, 12, 13] from 41 to 60 (fun s8 s12 s13 wx => Hid (Below w.heap.size w wx))
    case first =>
      by_cases h0 : y = 0
      case neg =>
        have h0b : (y == 0) = false := by simpa using h0
        clear hy
        go_wp2_with fail
        go_meet
        exact bw
      obtain ⟨hr, ht⟩ : repR r ∧ t = bs (repE r) := by
        rcases hy.out with ⟨_, h, e⟩ | ⟨h, _⟩
        · exact ⟨h, e⟩
        · rw [h0] at h; exact absurd h (by decide)
      have h0b : (y == 0) = true := by simpa using h0
      have hlen : t.size ≤ 16777216 := by
        rw [ht, bs_size]
        unfold repE
        have key : ∀ l, lR l → (lE l).length ≤ 530000 := by
          intro l h
          unfold lE
          have key : ∀ l : List ByteArray, (∀ s ∈ l, s.size ≤ 2048) → (l.flatMap txt).length ≤ l.length * 2052 := by
            intro l
            induction l with
            | nil => simp
            | cons s l ih =>
              intro h
              have h1 := h s (by simp)
              have h2 := ih (fun x hx => h x (by simp [hx]))
              rw [List.flatMap_cons, List.length_append, txt_len, List.length_cons]; omega
          have h1 := key l h.2
          have h2 := h.1
          rw [List.length_cons]
          have h3 : l.length * 2052 ≤ 255 * 2052 := Nat.mul_le_mul_right _ h2
          omega
        have k1 := key _ hr.2.2.1
        have k2 := key _ hr.2.2.2
        simp only [List.length_cons, List.length_append, leb_len]; omega
      have hP0 := hid (show ∀ q y, RepP t.data.toList q y → y = 0 ∧ q = r from fun q y h => by
        rw [ht, bs_list] at h
        rcases h with ⟨hy, hr2, hN, he⟩ | ⟨_, _, hno⟩
        · exact ⟨hy, repE_inj hr2 hr hN hn he⟩
        · exact absurd rfl (hno r hr hn))
      clear hy ht hr
      go_wp2_with fail
      refine (readreply_any t w5 hlen).mono ?_
      rintro e w6 ⟨⟨q, so2, sc2, to2, tc2, y2, rfl, V3, V4, -, -, -, hP⟩, q6⟩
      obtain ⟨rfl, hqr⟩ := hP0.out q y2 hP
      rw [hqr] at V3 V4 ⊢
      replace J := hid (J.out.below q6 J.out.lt)
      replace bw := hid (bw.out.trans (q6.mono bw.out.size))
      clear q6 hP hP0 hqr
      go_upto_region 11 with fail
      have ba := hid ((Below.refl w6.heap.size w6).alloc (Nat.le_refl _) (.cells #[.int .i64 r.why, .int .u64 (r.n : Nat), .int .i64 r.place, .bool r.allow, .slice so2 r.ids.length sc2, .slice to2 r.errs.length tc2] 42))
      have I := hid (Blk.new w6 [.int .i64 r.why, .int .u64 (r.n : Nat), .int .i64 r.place, .bool r.allow, .slice so2 r.ids.length sc2, .slice to2 r.errs.length tc2] 42)
      replace J := hid (J.out.alloc (.cells #[.int .i64 r.why, .int .u64 (r.n : Nat), .int .i64 r.place, .bool r.allow, .slice so2 r.ids.length sc2, .slice to2 r.errs.length tc2] 42))
      replace bw := hid (bw.out.alloc bw.out.size (.cells #[.int .i64 r.why, .int .u64 (r.n : Nat), .int .i64 r.place, .bool r.allow, .slice so2 r.ids.length sc2, .slice to2 r.errs.length tc2] 42))
      replace V3 := hid (V3.below ba.out)
      replace V4 := hid (V4.below ba.out)
      change Hid (Blk (w6.alloc (.cells #[.int .i64 r.why, .int .u64 (r.n : Nat), .int .i64 r.place, .bool r.allow, .slice so2 r.ids.length sc2, .slice to2 r.errs.length tc2] 42)) _ _ _) at I
      clear ba
      generalize w6.alloc (.cells #[.int .i64 r.why, .int .u64 (r.n : Nat), .int .i64 r.place, .bool r.allow, .slice so2 r.ids.length sc2, .slice to2 r.errs.length tc2] 42) = X7 at J I bw V3 V4 ⊢
      obtain ⟨ib, hib⟩ : ∃ ib, w6.heap.size = ib := ⟨_, rfl⟩
      rw [hib] at I ⊢
      clear hib
      obtain ⟨k0, k1, k2, k3, k4, k5, kf⟩ := sixc J.out
      obtain ⟨j0, j1, j2, j3, j4, j5, jf⟩ := sixc I.out
      go_wp2_with fail
      refine (same_yes r so tp so2 to2 sc tc sc2 tc2 X7 (v1.out X7 bw.out) (v2.out X7 bw.out) V3.out V4.out).mono ?_
      rintro e w8 ⟨rfl, q8⟩
      replace bw := hid (bw.out.trans (q8.mono bw.out.size))
      clear q8 k0 k1 k2 k3 k4 k5 kf j0 j1 j2 j3 j4 j5 jf
      go_wp2_with fail
      go_meet
      exact bw
    case rest =>
      clear J bw v1 v2
      have bw := hcut
      clear hcut
      go_wp2_with fail
      refine (readask_any x _ (by omega)).mono ?_
      rintro e w3 ⟨⟨b, y3, rfl, hF3, hP3⟩, q3⟩
      replace bw := hid (bw.out.trans (q3.mono bw.out.size))
      replace hP3 := hid hP3
      replace hF3 := hid hF3
      clear q3
      go_upto_region 14 with fail
      have K := hid (Blk.new w3 [.int .u8 (b.k : Nat), .int .u64 (b.tx : Nat), .int .u8 (b.c.k : Nat), .string b.c.i, .string b.c.t, .string b.c.ut, .string b.c.ui, .int .u64 (b.v : Nat), .string b.s0, .string b.s1, .string b.s2, .string b.s3, .string b.s4, .string b.s5, .string b.s6] 30)
      replace bw := hid (bw.out.alloc bw.out.size (.cells #[.int .u8 (b.k : Nat), .int .u64 (b.tx : Nat), .int .u8 (b.c.k : Nat), .string b.c.i, .string b.c.t, .string b.c.ut, .string b.c.ui, .int .u64 (b.v : Nat), .string b.s0, .string b.s1, .string b.s2, .string b.s3, .string b.s4, .string b.s5, .string b.s6] 30))
      change Hid (Blk (w3.alloc (.cells #[.int .u8 (b.k : Nat), .int .u64 (b.tx : Nat), .int .u8 (b.c.k : Nat), .string b.c.i, .string b.c.t, .string b.c.ut, .string b.c.ui, .int .u64 (b.v : Nat), .string b.s0, .string b.s1, .string b.s2, .string b.s3, .string b.s4, .string b.s5, .string b.s6] 30)) _ _ _) at K
      generalize w3.alloc (.cells #[.int .u8 (b.k : Nat), .int .u64 (b.tx : Nat), .int .u8 (b.c.k : Nat), .string b.c.i, .string b.c.t, .string b.c.ut, .string b.c.ui, .int .u64 (b.v : Nat), .string b.s0, .string b.s1, .string b.s2, .string b.s3, .string b.s4, .string b.s5, .string b.s6] 30) = X8 at K bw ⊢
      obtain ⟨ib, hib⟩ : ∃ ib, w3.heap.size = ib := ⟨_, rfl⟩
      rw [hib] at K ⊢
      clear hib
      go_upto_if 67 with fail
      go_cut [8, 15, 16] from 61 to 79 (fun s8 s15 s16 wx => Hid (Below w.heap.size w wx))
      case first =>
        by_cases h0 : y3 = 0
        case neg =>
          have h0b : (y3 == 0) = false := by simpa using h0
          clear hP3 hF3 K
          go_wp2_with fail
          go_meet
          exact bw
        subst h0
        obtain ⟨hr, he⟩ : askR b ∧ askE b = x.data.toList := by
          rcases hP3.out with ⟨_, h, _, e⟩ | ⟨h, _⟩
          · exact ⟨h, e⟩
          · exact absurd h (by decide)
        clear hP3
        obtain ⟨k0, k1, k2, k3, k4, k5, k6, k7, k8, k9, k10, k11, k12, k13, k14, kf⟩ := fifteen K.out
        go_wp2_with fail
        refine (writeask_any b X8 hF3.out).mono ?_
        rintro e w5 ⟨⟨t, z, rfl, hz⟩, q5⟩
        obtain ⟨rfl, htx⟩ : z = 0 ∧ t = x := by
          rcases hz with ⟨h, _, ht⟩ | ⟨_, h, _⟩
          · exact ⟨h, by rw [ht, he, bs_of]⟩
          · exact absurd hr h
        replace bw := hid (bw.out.trans (q5.mono bw.out.size))
        clear q5 k0 k1 k2 k3 k4 k5 k6 k7 k8 k9 k10 k11 k12 k13 k14 kf K hF3 hr he hz
        rw [htx]
        clear htx
        go_wp2_with fail
        go_meet
        exact bw
      case rest =>
        clear K bw hP3 hF3
        have bw := hcut
        clear hcut
        go_wp2_with fail
        refine (readreply_any x _ (by omega)).mono ?_
        rintro e w6 ⟨⟨q, so3, sc3, to3, tc3, y2, rfl, V3, V4, L3, L4, hqN, hP⟩, q6⟩
        replace bw := hid (bw.out.trans (q6.mono bw.out.size))
        clear q6
        replace hP := hid hP
        have hqT := hid (rep_T L3 L4)
        clear L3 L4
        go_upto_region 19 with fail
        have ba := hid ((Below.refl w6.heap.size w6).alloc (Nat.le_refl _) (.cells #[.int .i64 q.why, .int .u64 (q.n : Nat), .int .i64 q.place, .bool q.allow, .slice so3 q.ids.length sc3, .slice to3 q.errs.length tc3] 42))
        have I := hid (Blk.new w6 [.int .i64 q.why, .int .u64 (q.n : Nat), .int .i64 q.place, .bool q.allow, .slice so3 q.ids.length sc3, .slice to3 q.errs.length tc3] 42)
        replace bw := hid (bw.out.alloc bw.out.size (.cells #[.int .i64 q.why, .int .u64 (q.n : Nat), .int .i64 q.place, .bool q.allow, .slice so3 q.ids.length sc3, .slice to3 q.errs.length tc3] 42))
        replace V3 := hid (V3.below ba.out)
        replace V4 := hid (V4.below ba.out)
        change Hid (Blk (w6.alloc (.cells #[.int .i64 q.why, .int .u64 (q.n : Nat), .int .i64 q.place, .bool q.allow, .slice so3 q.ids.length sc3, .slice to3 q.errs.length tc3] 42)) _ _ _) at I
        clear ba
        generalize w6.alloc (.cells #[.int .i64 q.why, .int .u64 (q.n : Nat), .int .i64 q.place, .bool q.allow, .slice so3 q.ids.length sc3, .slice to3 q.errs.length tc3] 42) = X9 at I bw V3 V4 ⊢
        obtain ⟨ib, hib⟩ : ∃ ib, w6.heap.size = ib := ⟨_, rfl⟩
        rw [hib] at I ⊢
        clear hib
        obtain ⟨j0, j1, j2, j3, j4, j5, jf⟩ := sixc I.out
        by_cases h0 : y2 = 0
        case neg =>
          have h0b : (y2 != 0) = true := by simpa using h0
          obtain hq : q = repZ := by
            rcases hP.out with ⟨h, _⟩ | ⟨_, h, _⟩
            · exact absurd h h0
            · exact h
          subst hq
          clear hP hqT hqN
          go_wp2_with fail
          refine (show Calls Try.prog 18 #[.agg #[.int .i64 repZ.why, .int .u64 (repZ.n : Nat), .int .i64 repZ.place, .bool repZ.allow, .slice so3 repZ.ids.length sc3, .slice to3 repZ.errs.length tc3], .agg #[.int .i64 0, .int .u64 0, .int .i64 0, .bool false, .slice none 0 0, .slice none 0 0]] X9 _ from same_yes repZ so3 to3 none none sc3 tc3 0 0 X9 V3.out V4.out (SlV.nil _) (SlV.nil _)).mono ?_
          rintro e w8 ⟨rfl, q8⟩
          replace bw := hid (bw.out.trans (q8.mono bw.out.size))
          clear q8 j0 j1 j2 j3 j4 j5 jf
          go_wp2_with fail
          go_ret
          exact ⟨rfl, bw.out⟩
        subst h0
        obtain ⟨hr, he⟩ : repR q ∧ repE q = x.data.toList := by
          rcases hP.out with ⟨_, h, _, e⟩ | ⟨h, _⟩
          · exact ⟨h, e⟩
          · exact absurd h (by decide)
        clear hP
        go_wp2_with fail
        refine (writereply_any q so3 to3 sc3 tc3 X9 V3.out V4.out hqN hqT.out.1 hqT.out.2.1 hqT.out.2.2).mono ?_
        rintro e w7 ⟨⟨t, z, rfl, hz⟩, q7⟩
        obtain ⟨rfl, htx⟩ : z = 0 ∧ t = x := by
          rcases hz with ⟨h, _, ht⟩ | ⟨_, h, _⟩
          · exact ⟨h, by rw [ht, he, bs_of]⟩
          · exact absurd hr h
        replace bw := hid (bw.out.trans (q7.mono bw.out.size))
        clear q7 j0 j1 j2 j3 j4 j5 jf I hr he hz hqT hqN V3 V4
        rw [htx]
        clear htx
        go_wp2_with fail
        go_ret
        exact ⟨rfl, bw.out⟩
end Go.Proofs.Ytldlkoiekdlmhaa.Wi
