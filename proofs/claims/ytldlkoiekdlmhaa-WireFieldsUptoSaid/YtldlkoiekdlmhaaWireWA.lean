/-
  wire's calls: contracts. Written by wip/wiretopgen.py.
-/
import Derived.Test.YtldlkoiekdlmhaaPkWireRA
import Derived.Test.YtldlkoiekdlmhaaWireAskWR
import Derived.Test.YtldlkoiekdlmhaaPkWireRR
import Derived.Test.YtldlkoiekdlmhaaWireEq
namespace Go.Proofs.Ytldlkoiekdlmhaa.Wi
open Go.ChangeShapes Go.WideShapes Go.ChangeAt Go.RowKit
open Go.Proofs.Ytldlkoiekdlmhaa.Mem
open Go.Proofs.Ytldlkoiekdlmhaa.Lik (Kept)
open Go.Proofs.Ytldlkoiekdlmhaa.Crc hiding hid bt
set_option linter.unusedVariables false
set_option linter.unusedSimpArgs false
set_option maxRecDepth 100000
/-- what WriteAsk answers of a request -/
def AskW (a : Ask) (s : ByteArray) (z : Int) : Prop := z = 0 ∧ askR a ∧ s = bs (askE a) ∨ z = 14 ∧ ¬ askR a ∧ s = ⟨#[]⟩
set_option maxHeartbeats 16000000 in
theorem writeask_any (a : Ask) (w : World) (hF : askF a) :
    Calls Try.prog 9 #[.agg #[.int .u8 (a.k : Nat), .int .u64 (a.tx : Nat), .int .u8 (a.c.k : Nat), .string a.c.i, .string a.c.t, .string a.c.ut, .string a.c.ui, .int .u64 (a.v : Nat), .string a.s0, .string a.s1, .string a.s2, .string a.s3, .string a.s4, .string a.s5, .string a.s6]] w fun e w' => (∃ (s : ByteArray) (z : Int), e = .returned (.tuple #[.string s, .int .i64 z]) ∧ AskW a s z) ∧ Below w.heap.size w w' := by
  have hF' := hid hF
  have hN := hid hF.1
  clear hF
  go_enter Try.func9, Try.ntmps9
  go_upto_region 2 with fail
  have K := hid ((Blk.new w [.int .u8 (a.k : Nat), .int .u64 (a.tx : Nat), .int .u8 (a.c.k : Nat), .string a.c.i, .string a.c.t, .string a.c.ut, .string a.c.ui, .int .u64 (a.v : Nat), .string a.s0, .string a.s1, .string a.s2, .string a.s3, .string a.s4, .string a.s5, .string a.s6] 30).alloc (.cells #[.pointer none, .slice none 0 0, .bool false] 58))
  have bw := hid (((Below.refl w.heap.size w).alloc (Nat.le_refl _) (.cells #[.int .u8 (a.k : Nat), .int .u64 (a.tx : Nat), .int .u8 (a.c.k : Nat), .string a.c.i, .string a.c.t, .string a.c.ut, .string a.c.ui, .int .u64 (a.v : Nat), .string a.s0, .string a.s1, .string a.s2, .string a.s3, .string a.s4, .string a.s5, .string a.s6] 30)).alloc (by simp) (.cells #[.pointer none, .slice none 0 0, .bool false] 58))
  have D := hid (show Wr ((w.alloc (.cells #[.int .u8 (a.k : Nat), .int .u64 (a.tx : Nat), .int .u8 (a.c.k : Nat), .string a.c.i, .string a.c.t, .string a.c.ut, .string a.c.ui, .int .u64 (a.v : Nat), .string a.s0, .string a.s1, .string a.s2, .string a.s3, .string a.s4, .string a.s5, .string a.s6] 30)).alloc (.cells #[.pointer none, .slice none 0 0, .bool false] 58)) (w.heap.size + 1) (w.heap.size + 1) (some []) 0 0 from by
    have h := Bld.Is.new 58 [.bool false] (w.alloc (.cells #[.int .u8 (a.k : Nat), .int .u64 (a.tx : Nat), .int .u8 (a.c.k : Nat), .string a.c.i, .string a.c.t, .string a.c.ut, .string a.c.ui, .int .u64 (a.v : Nat), .string a.s0, .string a.s1, .string a.s2, .string a.s3, .string a.s4, .string a.s5, .string a.s6] 30))
    rw [show (w.alloc (.cells #[.int .u8 (a.k : Nat), .int .u64 (a.tx : Nat), .int .u8 (a.c.k : Nat), .string a.c.i, .string a.c.t, .string a.c.ut, .string a.c.ui, .int .u64 (a.v : Nat), .string a.s0, .string a.s1, .string a.s2, .string a.s3, .string a.s4, .string a.s5, .string a.s6] 30)).heap.size = w.heap.size + 1 by simp] at h
    exact ⟨[], false, h, Nat.le_refl _, Nat.le_refl _, rfl⟩)
  change Hid (Blk ((w.alloc (.cells #[.int .u8 (a.k : Nat), .int .u64 (a.tx : Nat), .int .u8 (a.c.k : Nat), .string a.c.i, .string a.c.t, .string a.c.ut, .string a.c.ui, .int .u64 (a.v : Nat), .string a.s0, .string a.s1, .string a.s2, .string a.s3, .string a.s4, .string a.s5, .string a.s6] 30)).alloc (.cells #[.pointer none, .slice none 0 0, .bool false] 58)) _ _ _) at K
  have hsz := hid (show w.heap.size + 1 < ((w.alloc (.cells #[.int .u8 (a.k : Nat), .int .u64 (a.tx : Nat), .int .u8 (a.c.k : Nat), .string a.c.i, .string a.c.t, .string a.c.ut, .string a.c.ui, .int .u64 (a.v : Nat), .string a.s0, .string a.s1, .string a.s2, .string a.s3, .string a.s4, .string a.s5, .string a.s6] 30)).alloc (.cells #[.pointer none, .slice none 0 0, .bool false] 58)).heap.size by simp)
  generalize (w.alloc (.cells #[.int .u8 (a.k : Nat), .int .u64 (a.tx : Nat), .int .u8 (a.c.k : Nat), .string a.c.i, .string a.c.t, .string a.c.ut, .string a.c.ui, .int .u64 (a.v : Nat), .string a.s0, .string a.s1, .string a.s2, .string a.s3, .string a.s4, .string a.s5, .string a.s6] 30)).alloc (.cells #[.pointer none, .slice none 0 0, .bool false] 58) = X at K D bw hsz ⊢
  obtain ⟨b, hb⟩ : ∃ b, w.heap.size + 1 = b := ⟨_, rfl⟩
  obtain ⟨pb, hpb⟩ : ∃ pb, w.heap.size = pb := ⟨_, rfl⟩
  have hpp := hid (show pb < b ∧ w.heap.size ≤ pb ∧ w.heap.size ≤ b by omega)
  rw [hb] at D hsz ⊢
  rw [hpb] at K ⊢
  clear hb hpb
  obtain ⟨k0, k1, k2, k3, k4, k5, k6, k7, k8, k9, k10, k11, k12, k13, k14, kf⟩ := fifteen K.out
  have hc := hid (wask_any b b 0 0 (some []) a X D.out hF'.out (by decide) (by have := hsz.out; omega))
  go_wp2_with fail
  refine hc.out.mono ?_
  rintro e w1' ⟨rfl, hW, b1, kk1⟩
  replace K := hid (K.out.below b1 hpp.out.1)
  replace bw := hid (bw.out.trans (b1.mono hpp.out.2.2))
  obtain ⟨l, wr, I, hn, hl, ho⟩ := hW
  replace ho := hid ho
  clear hc b1 kk1 D k0 k1 k2 k3 k4 k5 k6 k7 k8 k9 k10 k11 k12 k13 k14 kf
  have hne : l ≠ [] := by rintro rfl; simp at hn
  have hbB := hid (show b ≤ w1'.heap.size from by have := I.lt; omega)
  have hc := hid (Bld.bstring_any 58 [.bool wr] htW b b l w1' I hne)
  go_wp2_with fail
  refine hc.out.mono ?_
  rintro e w2 ⟨rfl, I2, b2, kk2⟩
  replace K := hid (K.out.below b2 hpp.out.1)
  replace bw := hid (bw.out.trans (b2.mono hpp.out.2.2))
  clear hc kk2 I b2
  replace I2 := hid I2
  have hc := hid (readask_any (bs l) w2 (by rw [bs_size]; omega))
  rw [bs_list] at hc
  go_wp2_with fail
  refine hc.out.mono ?_
  rintro e w3 ⟨⟨a', z, rfl, hF2, hP⟩, b3⟩
  replace K := hid (K.out.below b3 K.out.lt)
  replace bw := hid (bw.out.trans (b3.mono bw.out.size))
  replace I2 := hid (I2.out.below b3)
  clear hc b3 hF2
  have hlen := hid (show 1 ≤ l.length ∧ l.length ≤ 9000000 by omega)
  clear hn hl hne
  obtain ⟨p0, v0, c0, c1, c2, cf⟩ := is_cells I2.out
  go_upto_region 4 with fail
  have K2 := hid (Blk.new w3 [.int .u8 (a'.k : Nat), .int .u64 (a'.tx : Nat), .int .u8 (a'.c.k : Nat), .string a'.c.i, .string a'.c.t, .string a'.c.ut, .string a'.c.ui, .int .u64 (a'.v : Nat), .string a'.s0, .string a'.s1, .string a'.s2, .string a'.s3, .string a'.s4, .string a'.s5, .string a'.s6] 30)
  replace K := hid (K.out.alloc (.cells #[.int .u8 (a'.k : Nat), .int .u64 (a'.tx : Nat), .int .u8 (a'.c.k : Nat), .string a'.c.i, .string a'.c.t, .string a'.c.ut, .string a'.c.ui, .int .u64 (a'.v : Nat), .string a'.s0, .string a'.s1, .string a'.s2, .string a'.s3, .string a'.s4, .string a'.s5, .string a'.s6] 30))
  replace I2 := hid (I2.out.alloc (.cells #[.int .u8 (a'.k : Nat), .int .u64 (a'.tx : Nat), .int .u8 (a'.c.k : Nat), .string a'.c.i, .string a'.c.t, .string a'.c.ut, .string a'.c.ui, .int .u64 (a'.v : Nat), .string a'.s0, .string a'.s1, .string a'.s2, .string a'.s3, .string a'.s4, .string a'.s5, .string a'.s6] 30))
  replace bw := hid (bw.out.alloc bw.out.size (.cells #[.int .u8 (a'.k : Nat), .int .u64 (a'.tx : Nat), .int .u8 (a'.c.k : Nat), .string a'.c.i, .string a'.c.t, .string a'.c.ut, .string a'.c.ui, .int .u64 (a'.v : Nat), .string a'.s0, .string a'.s1, .string a'.s2, .string a'.s3, .string a'.s4, .string a'.s5, .string a'.s6] 30))
  change Hid (Blk (w3.alloc (.cells #[.int .u8 (a'.k : Nat), .int .u64 (a'.tx : Nat), .int .u8 (a'.c.k : Nat), .string a'.c.i, .string a'.c.t, .string a'.c.ut, .string a'.c.ui, .int .u64 (a'.v : Nat), .string a'.s0, .string a'.s1, .string a'.s2, .string a'.s3, .string a'.s4, .string a'.s5, .string a'.s6] 30)) _ _ _) at K2
  clear c0 c1 c2 cf
  generalize w3.alloc (.cells #[.int .u8 (a'.k : Nat), .int .u64 (a'.tx : Nat), .int .u8 (a'.c.k : Nat), .string a'.c.i, .string a'.c.t, .string a'.c.ut, .string a'.c.ui, .int .u64 (a'.v : Nat), .string a'.s0, .string a'.s1, .string a'.s2, .string a'.s3, .string a'.s4, .string a'.s5, .string a'.s6] 30) = X3 at K K2 I2 bw ⊢
  obtain ⟨qb, hqb⟩ : ∃ qb, w3.heap.size = qb := ⟨_, rfl⟩
  rw [hqb] at K2 ⊢
  clear hqb
  obtain ⟨p1, v1, c0, c1, c2, cf⟩ := is_cells I2.out
  by_cases hr : askR a
  · as_aux_lemma =>
    have hA := wA_right a hN.out hr
    rw [ho.out] at hA
    cases wr with
    | true => cases hA
    | false =>
      have hle : l = askE a := by simpa using hA
      subst hle
      rcases hP with ⟨rfl, hr2, hn2, he2⟩ | ⟨_, _, hno⟩
      case inr => exact absurd rfl (hno a hr hN.out)
      obtain rfl := askE_inj hr2 hr hn2 hN.out he2
      have hfin := hid (show AskW a' (bs (askE a')) 0 from .inl ⟨rfl, hr, rfl⟩)
      clear hA ho he2 hn2 hr2 hr
      obtain ⟨k0, k1, k2, k3, k4, k5, k6, k7, k8, k9, k10, k11, k12, k13, k14, kf⟩ := fifteen K.out
      obtain ⟨j0, j1, j2, j3, j4, j5, j6, j7, j8, j9, j10, j11, j12, j13, j14, jf⟩ := fifteen K2.out
      have hc := hid (Bld.bstring_any 58 [.bool false] htW b b (askE a') X3 I2.out (by unfold askE; simp))
      go_wp2_with fail
      refine hc.out.mono ?_
      rintro e w4 ⟨rfl, -, b4, -⟩
      replace bw := hid (bw.out.trans (b4.mono hpp.out.2.2))
      clear hc b4
      go_wp2_with fail
      go_ret2
      exact ⟨⟨_, _, rfl, hfin.out⟩, bw.out⟩
  · have hfin := hid (show AskW a ⟨#[]⟩ 14 from .inr ⟨rfl, hr, rfl⟩)
    cases wr with
    | true =>
      clear hP ho
      as_aux_lemma =>
      go_wp2_with fail
      go_ret2
      exact ⟨⟨_, _, rfl, hfin.out⟩, bw.out⟩
    | false =>
      by_cases hz : z = 0
      · subst hz
        have hna : a' ≠ a := by
          rintro rfl
          rcases hP with ⟨_, hr2, _⟩ | ⟨h14, _⟩
          · exact hr hr2
          · exact absurd h14 (by decide)
        have hneq := fun W => neq_ask a a' hna W
        clear hP ho hr hna
        obtain ⟨k0, k1, k2, k3, k4, k5, k6, k7, k8, k9, k10, k11, k12, k13, k14, kf⟩ := fifteen K.out
        obtain ⟨j0, j1, j2, j3, j4, j5, j6, j7, j8, j9, j10, j11, j12, j13, j14, jf⟩ := fifteen K2.out
        as_aux_lemma =>
        go_wp2_with fail
        go_ret2
        exact ⟨⟨_, _, rfl, hfin.out⟩, bw.out⟩
      · have hz' : (z != 0) = true := by simpa using hz
        have hz2 : ¬ z = 0 := hz
        clear hP ho
        as_aux_lemma =>
        go_wp2_with fail
        go_ret2
        exact ⟨⟨_, _, rfl, hfin.out⟩, bw.out⟩
end Go.Proofs.Ytldlkoiekdlmhaa.Wi
