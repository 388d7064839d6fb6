/-
  wire's calls: contracts. Written by wip/wiretopgen.py.
-/
import Derived.Test.YtldlkoiekdlmhaaWireLives
namespace Go.Proofs.Ytldlkoiekdlmhaa.Wi
open Go.ChangeShapes Go.WideShapes Go.ChangeAt Go.RowKit
open Go.Proofs.Ytldlkoiekdlmhaa.Mem
open Go.Proofs.Ytldlkoiekdlmhaa.Lik (Kept)
open Go.Proofs.Ytldlkoiekdlmhaa.Crc hiding hid bt
set_option linter.unusedVariables false
set_option linter.unusedSimpArgs false
set_option maxRecDepth 100000
set_option maxHeartbeats 16000000 in
theorem apart_walk (a b : Ask) (w : World) (ha : askF a) (hb : askF b) : Calls Try.prog 7 #[.agg #[.int .u8 (a.k : Nat), .int .u64 (a.tx : Nat), .int .u8 (a.c.k : Nat), .string a.c.i, .string a.c.t, .string a.c.ut, .string a.c.ui, .int .u64 (a.v : Nat), .string a.s0, .string a.s1, .string a.s2, .string a.s3, .string a.s4, .string a.s5, .string a.s6], .agg #[.int .u8 (b.k : Nat), .int .u64 (b.tx : Nat), .int .u8 (b.c.k : Nat), .string b.c.i, .string b.c.t, .string b.c.ut, .string b.c.ui, .int .u64 (b.v : Nat), .string b.s0, .string b.s1, .string b.s2, .string b.s3, .string b.s4, .string b.s5, .string b.s6]] w fun e w' => e = .returned (.bool true) ∧ Below w.heap.size w w' := by
  go_enter Try.func7, Try.ntmps7
  go_upto_region 1 with fail
  have K := hid ((Blk.new w [.int .u8 (a.k : Nat), .int .u64 (a.tx : Nat), .int .u8 (a.c.k : Nat), .string a.c.i, .string a.c.t, .string a.c.ut, .string a.c.ui, .int .u64 (a.v : Nat), .string a.s0, .string a.s1, .string a.s2, .string a.s3, .string a.s4, .string a.s5, .string a.s6] 30).alloc (.cells #[.int .u8 (b.k : Nat), .int .u64 (b.tx : Nat), .int .u8 (b.c.k : Nat), .string b.c.i, .string b.c.t, .string b.c.ut, .string b.c.ui, .int .u64 (b.v : Nat), .string b.s0, .string b.s1, .string b.s2, .string b.s3, .string b.s4, .string b.s5, .string b.s6] 30))
  have J := hid (Blk.new' (w.alloc (.cells #[.int .u8 (a.k : Nat), .int .u64 (a.tx : Nat), .int .u8 (a.c.k : Nat), .string a.c.i, .string a.c.t, .string a.c.ut, .string a.c.ui, .int .u64 (a.v : Nat), .string a.s0, .string a.s1, .string a.s2, .string a.s3, .string a.s4, .string a.s5, .string a.s6] 30)) [.int .u8 (b.k : Nat), .int .u64 (b.tx : Nat), .int .u8 (b.c.k : Nat), .string b.c.i, .string b.c.t, .string b.c.ut, .string b.c.ui, .int .u64 (b.v : Nat), .string b.s0, .string b.s1, .string b.s2, .string b.s3, .string b.s4, .string b.s5, .string b.s6] 30 (w.heap.size + 1) (by simp))
  have bw := hid (((Below.refl w.heap.size w).alloc (Nat.le_refl _) (.cells #[.int .u8 (a.k : Nat), .int .u64 (a.tx : Nat), .int .u8 (a.c.k : Nat), .string a.c.i, .string a.c.t, .string a.c.ut, .string a.c.ui, .int .u64 (a.v : Nat), .string a.s0, .string a.s1, .string a.s2, .string a.s3, .string a.s4, .string a.s5, .string a.s6] 30)).alloc (by simp) (.cells #[.int .u8 (b.k : Nat), .int .u64 (b.tx : Nat), .int .u8 (b.c.k : Nat), .string b.c.i, .string b.c.t, .string b.c.ut, .string b.c.ui, .int .u64 (b.v : Nat), .string b.s0, .string b.s1, .string b.s2, .string b.s3, .string b.s4, .string b.s5, .string b.s6] 30))
  change Hid (Blk ((w.alloc (.cells #[.int .u8 (a.k : Nat), .int .u64 (a.tx : Nat), .int .u8 (a.c.k : Nat), .string a.c.i, .string a.c.t, .string a.c.ut, .string a.c.ui, .int .u64 (a.v : Nat), .string a.s0, .string a.s1, .string a.s2, .string a.s3, .string a.s4, .string a.s5, .string a.s6] 30)).alloc (.cells #[.int .u8 (b.k : Nat), .int .u64 (b.tx : Nat), .int .u8 (b.c.k : Nat), .string b.c.i, .string b.c.t, .string b.c.ut, .string b.c.ui, .int .u64 (b.v : Nat), .string b.s0, .string b.s1, .string b.s2, .string b.s3, .string b.s4, .string b.s5, .string b.s6] 30)) _ _ _) at K
  change Hid (Blk ((w.alloc (.cells #[.int .u8 (a.k : Nat), .int .u64 (a.tx : Nat), .int .u8 (a.c.k : Nat), .string a.c.i, .string a.c.t, .string a.c.ut, .string a.c.ui, .int .u64 (a.v : Nat), .string a.s0, .string a.s1, .string a.s2, .string a.s3, .string a.s4, .string a.s5, .string a.s6] 30)).alloc (.cells #[.int .u8 (b.k : Nat), .int .u64 (b.tx : Nat), .int .u8 (b.c.k : Nat), .string b.c.i, .string b.c.t, .string b.c.ut, .string b.c.ui, .int .u64 (b.v : Nat), .string b.s0, .string b.s1, .string b.s2, .string b.s3, .string b.s4, .string b.s5, .string b.s6] 30)) _ _ _) at J
  generalize (w.alloc (.cells #[.int .u8 (a.k : Nat), .int .u64 (a.tx : Nat), .int .u8 (a.c.k : Nat), .string a.c.i, .string a.c.t, .string a.c.ut, .string a.c.ui, .int .u64 (a.v : Nat), .string a.s0, .string a.s1, .string a.s2, .string a.s3, .string a.s4, .string a.s5, .string a.s6] 30)).alloc (.cells #[.int .u8 (b.k : Nat), .int .u64 (b.tx : Nat), .int .u8 (b.c.k : Nat), .string b.c.i, .string b.c.t, .string b.c.ut, .string b.c.ui, .int .u64 (b.v : Nat), .string b.s0, .string b.s1, .string b.s2, .string b.s3, .string b.s4, .string b.s5, .string b.s6] 30) = X at K J bw ⊢
  obtain ⟨pb, hpb⟩ : ∃ pb, w.heap.size = pb := ⟨_, rfl⟩
  obtain ⟨qb, hqb⟩ : ∃ qb, w.heap.size + 1 = qb := ⟨_, rfl⟩
  rw [hqb] at J ⊢
  rw [hpb] at K ⊢
  clear hpb hqb
  go_wp2_with fail
  refine (wlives_any _).mono ?_
  rintro e w1' ⟨rfl, b1⟩
  replace K := hid (K.out.below b1 K.out.lt)
  replace J := hid (J.out.below b1 J.out.lt)
  replace bw := hid (bw.out.trans (b1.mono bw.out.size))
  clear b1
  obtain ⟨k0, k1, k2, k3, k4, k5, k6, k7, k8, k9, k10, k11, k12, k13, k14, kf⟩ := fifteen K.out
  go_wp2_with fail
  refine (writeask_any a w1' ha).mono ?_
  rintro e w2 ⟨⟨s, z, rfl, hz⟩, b2⟩
  replace K := hid (K.out.below b2 K.out.lt)
  replace J := hid (J.out.below b2 J.out.lt)
  replace bw := hid (bw.out.trans (b2.mono bw.out.size))
  replace hz := hid hz
  clear b2 k0 k1 k2 k3 k4 k5 k6 k7 k8 k9 k10 k11 k12 k13 k14 kf
  obtain ⟨k0, k1, k2, k3, k4, k5, k6, k7, k8, k9, k10, k11, k12, k13, k14, kf⟩ := fifteen J.out
  go_wp2_with fail
  refine (writeask_any b w2 hb).mono ?_
  rintro e w3 ⟨⟨t, y, rfl, hy⟩, b3⟩
  replace K := hid (K.out.below b3 K.out.lt)
  replace J := hid (J.out.below b3 J.out.lt)
  replace bw := hid (bw.out.trans (b3.mono bw.out.size))
  replace hy := hid hy
  clear b3 k0 k1 k2 k3 k4 k5 k6 k7 k8 k9 k10 k11 k12 k13 k14 kf
  by_cases h0 : z = 0
  case neg =>
    have h0b : (z != 0) = true := by simpa using h0
    clear hz hy
    go_wp2_with fail
    go_ret
    exact ⟨rfl, bw.out⟩
  by_cases h1 : y = 0
  case neg =>
    subst h0
    have h1b : (y != 0) = true := by simpa using h1
    clear hz hy
    go_wp2_with fail
    go_ret
    exact ⟨rfl, bw.out⟩
  subst h0 h1
  obtain ⟨ra, rfl⟩ : askR a ∧ s = bs (askE a) := by
    rcases hz.out with ⟨_, h, e⟩ | ⟨h, _⟩
    · exact ⟨h, e⟩
    · exact absurd h (by decide)
  obtain ⟨rb, rfl⟩ : askR b ∧ t = bs (askE b) := by
    rcases hy.out with ⟨_, h, e⟩ | ⟨h, _⟩
    · exact ⟨h, e⟩
    · exact absurd h (by decide)
  clear hz hy
  obtain ⟨k0, k1, k2, k3, k4, k5, k6, k7, k8, k9, k10, k11, k12, k13, k14, kf⟩ := fifteen K.out
  obtain ⟨j0, j1, j2, j3, j4, j5, j6, j7, j8, j9, j10, j11, j12, j13, j14, jf⟩ := fifteen J.out
  by_cases hab : a = b
  · as_aux_lemma =>
    subst hab
    clear ra rb
    generalize bs (askE a) = s
    go_wp2_with fail
    go_ret
    exact ⟨rfl, bw.out⟩
  · as_aux_lemma =>
    have hst : ¬ (bs (askE a)).toList = (bs (askE b)).toList := by
      rw [tl_eq]
      intro e
      exact hab (askE_inj ra rb ha.1 hb.1 (by rw [← bs_list (askE a), e, bs_list]))
    have hst' : ((bs (askE a)).toList == (bs (askE b)).toList) = false := by simpa using hst
    have heq := fun W => eql_ask b a hab W
    clear ra rb ha hb
    generalize bs (askE a) = s at hst hst' ⊢
    generalize bs (askE b) = t at hst hst' ⊢
    go_wp2_with fail
    go_ret
    exact ⟨rfl, bw.out⟩
end Go.Proofs.Ytldlkoiekdlmhaa.Wi
