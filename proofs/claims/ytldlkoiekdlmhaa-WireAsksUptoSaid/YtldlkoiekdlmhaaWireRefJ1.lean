/-
  wire's calls: contracts. Written by wip/wiretopgen.py.
-/
import Derived.Test.YtldlkoiekdlmhaaPkWireRefK
import Derived.Test.YtldlkoiekdlmhaaPkWireRA
import Derived.Test.YtldlkoiekdlmhaaWireRefI
import Derived.Deep.RegionHeld3
import Derived.Deep.RegionWith
import Derived.BigRegion
namespace Go.Proofs.Ytldlkoiekdlmhaa.Wi
open Go.ChangeShapes Go.WideShapes Go.ChangeAt Go.RowKit
open Go.Proofs.Ytldlkoiekdlmhaa.Mem
open Go.Proofs.Ytldlkoiekdlmhaa.Lik (Kept)
open Go.Proofs.Ytldlkoiekdlmhaa.Crc hiding hid bt
set_option linter.unusedVariables false
set_option linter.unusedSimpArgs false
set_option maxRecDepth 100000
set_option maxHeartbeats 16000000 in
theorem readask_ref1 (s s1 : ByteArray) (c0 : UInt8) (w : World) (hs : s.size ≤ 16777216) (hpos : 0 < s.size) (he0 : s[0] = c0) (he1 : s.extract 1 s.size = s1) (hl : s.data.toList = c0 :: s1.data.toList) (hxs : s1.size ≤ 16777216) (hk : ¬ (2 ≤ c0.toNat ∧ c0.toNat ≤ 6)) :
    Calls Try.prog 12 #[.string s] w fun e w' => (∃ (a : Ask) (z : Int), e = .returned (.tuple #[.agg #[.int .u8 (a.k : Nat), .int .u64 (a.tx : Nat), .int .u8 (a.c.k : Nat), .string a.c.i, .string a.c.t, .string a.c.ut, .string a.c.ui, .int .u64 (a.v : Nat), .string a.s0, .string a.s1, .string a.s2, .string a.s3, .string a.s4, .string a.s5, .string a.s6], .int .i64 z]) ∧ AskP s.data.toList a z) ∧ Below w.heap.size w w' := by
  have hne : s.toList.isEmpty = false := by
    rw [ByteArray.toList_eq, hl]; rfl
  have hk' := hid hk
  clear hk
  have hposi : (0 : Int) < (s.size : Int) := by omega
  have hone : (1 : Int) ≤ (s.size : Int) := by omega
  go_enter Try.func12, Try.ntmps12
  go_upto_region 1 with fail
  have R := hid (Blk.new w [.int .u8 0, .int .u64 0, .int .u8 0, .string ⟨#[]⟩, .string ⟨#[]⟩, .string ⟨#[]⟩, .string ⟨#[]⟩, .int .u64 0, .string ⟨#[]⟩, .string ⟨#[]⟩, .string ⟨#[]⟩, .string ⟨#[]⟩, .string ⟨#[]⟩, .string ⟨#[]⟩, .string ⟨#[]⟩] 30)
  have bw := hid ((Below.refl w.heap.size w).alloc (Nat.le_refl _) (.cells #[.int .u8 0, .int .u64 0, .int .u8 0, .string ⟨#[]⟩, .string ⟨#[]⟩, .string ⟨#[]⟩, .string ⟨#[]⟩, .int .u64 0, .string ⟨#[]⟩, .string ⟨#[]⟩, .string ⟨#[]⟩, .string ⟨#[]⟩, .string ⟨#[]⟩, .string ⟨#[]⟩, .string ⟨#[]⟩] 30))
  change Hid (Blk (w.alloc (.cells #[.int .u8 0, .int .u64 0, .int .u8 0, .string ⟨#[]⟩, .string ⟨#[]⟩, .string ⟨#[]⟩, .string ⟨#[]⟩, .int .u64 0, .string ⟨#[]⟩, .string ⟨#[]⟩, .string ⟨#[]⟩, .string ⟨#[]⟩, .string ⟨#[]⟩, .string ⟨#[]⟩, .string ⟨#[]⟩] 30)) _ _ _) at R
  generalize w.alloc (.cells #[.int .u8 0, .int .u64 0, .int .u8 0, .string ⟨#[]⟩, .string ⟨#[]⟩, .string ⟨#[]⟩, .string ⟨#[]⟩, .int .u64 0, .string ⟨#[]⟩, .string ⟨#[]⟩, .string ⟨#[]⟩, .string ⟨#[]⟩, .string ⟨#[]⟩, .string ⟨#[]⟩, .string ⟨#[]⟩] 30) = X at R bw ⊢
  obtain ⟨rb, hr⟩ : ∃ rb, w.heap.size = rb := ⟨_, rfl⟩
  have hrb := hid (show w.heap.size ≤ rb by omega)
  rw [hr] at R ⊢
  clear hr
  go_upto_region 4 with fail
  have hrlt := hid R.out.lt
  have hXs := hid bw.out.size
  have K := hid (Blk.new X [.int .u8 (c0.toNat : Nat), .int .u64 0, .int .u8 0, .string ⟨#[]⟩, .string ⟨#[]⟩, .string ⟨#[]⟩, .string ⟨#[]⟩, .int .u64 0, .string ⟨#[]⟩, .string ⟨#[]⟩, .string ⟨#[]⟩, .string ⟨#[]⟩, .string ⟨#[]⟩, .string ⟨#[]⟩, .string ⟨#[]⟩] 30)
  replace R := hid (R.out.alloc (.cells #[.int .u8 (c0.toNat : Nat), .int .u64 0, .int .u8 0, .string ⟨#[]⟩, .string ⟨#[]⟩, .string ⟨#[]⟩, .string ⟨#[]⟩, .int .u64 0, .string ⟨#[]⟩, .string ⟨#[]⟩, .string ⟨#[]⟩, .string ⟨#[]⟩, .string ⟨#[]⟩, .string ⟨#[]⟩, .string ⟨#[]⟩] 30))
  replace bw := hid (bw.out.alloc bw.out.size (.cells #[.int .u8 (c0.toNat : Nat), .int .u64 0, .int .u8 0, .string ⟨#[]⟩, .string ⟨#[]⟩, .string ⟨#[]⟩, .string ⟨#[]⟩, .int .u64 0, .string ⟨#[]⟩, .string ⟨#[]⟩, .string ⟨#[]⟩, .string ⟨#[]⟩, .string ⟨#[]⟩, .string ⟨#[]⟩, .string ⟨#[]⟩] 30))
  change Hid (Blk (X.alloc (.cells #[.int .u8 (c0.toNat : Nat), .int .u64 0, .int .u8 0, .string ⟨#[]⟩, .string ⟨#[]⟩, .string ⟨#[]⟩, .string ⟨#[]⟩, .int .u64 0, .string ⟨#[]⟩, .string ⟨#[]⟩, .string ⟨#[]⟩, .string ⟨#[]⟩, .string ⟨#[]⟩, .string ⟨#[]⟩, .string ⟨#[]⟩] 30)) _ _ _) at K
  generalize X.alloc (.cells #[.int .u8 (c0.toNat : Nat), .int .u64 0, .int .u8 0, .string ⟨#[]⟩, .string ⟨#[]⟩, .string ⟨#[]⟩, .string ⟨#[]⟩, .int .u64 0, .string ⟨#[]⟩, .string ⟨#[]⟩, .string ⟨#[]⟩, .string ⟨#[]⟩, .string ⟨#[]⟩, .string ⟨#[]⟩, .string ⟨#[]⟩] 30) = V at K R bw ⊢
  obtain ⟨cb, hcb⟩ : ∃ cb, X.heap.size = cb := ⟨_, rfl⟩
  rw [hcb] at K ⊢
  have hne2 := hid (show cb ≠ rb ∧ w.heap.size ≤ cb by have := hrlt.out; have := hXs.out; omega)
  clear hcb hrlt hXs
  go_upto_region 6 with fail
  clear he1 he0 hs hne hposi hone
  have hk := hk'.out
  clear hk'
  replace hl := hid hl
  replace hxs := hid hxs
  have h2 : c0.toNat ≠ 2 := by omega
  have h3 : c0.toNat ≠ 3 := by omega
  have h4 : c0.toNat ≠ 4 := by omega
  have h5 : c0.toNat ≠ 5 := by omega
  have h6 : c0.toNat ≠ 6 := by omega
  have hc8 : c0.toNat < 256 := UInt8.toNat_lt c0
  have hit1 := hid (hit_1 (s1 := s1.data.toList) h2 h3 h4 h5 h6)
  obtain ⟨kk, hkk⟩ : ∃ kk : Int, (c0.toNat : Int) = kk := ⟨_, rfl⟩
  have g2 : ¬ kk = 2 := by omega
  have g3 : ¬ kk = 3 := by omega
  have g4 : ¬ kk = 4 := by omega
  have g5 : ¬ kk = 5 := by omega
  have g6 : ¬ kk = 6 := by omega
  obtain ⟨k0, k1, k2, k3, k4, k5, k6, k7, k8, k9, k10, k11, k12, k13, k14, kf⟩ := fifteen K.out
  rw [hkk] at k0
  replace hkk := hid hkk
  replace hk := hid hk
  clear h2 h3 h4 h5 h6
  replace hc8 := hid hc8
  go_upto_region 30 with fail
  clear k0 k1 k2 k3 k4 k5 k6 k7 k8 k9 k10 k11 k12 k13 k14 kf g2 g3 g4 g5 g6
  obtain ⟨b, hb⟩ : ∃ b : Ask, { askZ with k := c0.toNat } = b := ⟨_, rfl⟩
  have hFb := hid (show askF b from by rw [← hb]; exact ⟨⟨hc8.out, (show (0 : Nat) < 18446744073709551616 by decide), (show (0 : Nat) < 18446744073709551616 by decide), (show (0 : Nat) < 256 by decide)⟩, chF1_zero, (show (0 : Nat) ≤ 1048576 by decide), (show (0 : Nat) ≤ 1048576 by decide), (show (0 : Nat) ≤ 1048576 by decide), (show (0 : Nat) ≤ 1048576 by decide), (show (0 : Nat) ≤ 1048576 by decide), (show (0 : Nat) ≤ 1048576 by decide), (show (0 : Nat) ≤ 1048576 by decide)⟩)
  have hit := hid (show Hit s.data.toList b true from by rw [← hb, hl.out]; exact hit1.out)
  change Hid (Blk _ cb [.int .u8 (({ askZ with k := c0.toNat } : Ask).k : Nat), .int .u64 (({ askZ with k := c0.toNat } : Ask).tx : Nat), .int .u8 (({ askZ with k := c0.toNat } : Ask).c.k : Nat), .string ({ askZ with k := c0.toNat } : Ask).c.i, .string ({ askZ with k := c0.toNat } : Ask).c.t, .string ({ askZ with k := c0.toNat } : Ask).c.ut, .string ({ askZ with k := c0.toNat } : Ask).c.ui, .int .u64 (({ askZ with k := c0.toNat } : Ask).v : Nat), .string ({ askZ with k := c0.toNat } : Ask).s0, .string ({ askZ with k := c0.toNat } : Ask).s1, .string ({ askZ with k := c0.toNat } : Ask).s2, .string ({ askZ with k := c0.toNat } : Ask).s3, .string ({ askZ with k := c0.toNat } : Ask).s4, .string ({ askZ with k := c0.toNat } : Ask).s5, .string ({ askZ with k := c0.toNat } : Ask).s6] 30) at K
  rw [hb] at K
  clear hb
  clear hit1 hkk hk hc8
  obtain ⟨k0, k1, k2, k3, k4, k5, k6, k7, k8, k9, k10, k11, k12, k13, k14, kf⟩ := fifteen K.out
  go_wp2_with fail
  refine (writeask_ref b _ hFb.out).mono ?_
  rintro e w2 ⟨⟨t, z, rfl, hW⟩, q3⟩
  replace K := hid (K.out.below q3 K.out.lt)
  replace R := hid (R.out.below q3 R.out.lt)
  replace bw := hid (bw.out.trans (q3.mono bw.out.size))
  clear q3 k0 k1 k2 k3 k4 k5 k6 k7 k8 k9 k10 k11 k12 k13 k14 kf
  by_cases hgood : true = true ∧ z = 0 ∧ t = s
  · obtain ⟨g1, rfl, rfl⟩ := hgood
    clear g1
    have hP := hid (hit_yes hFb.out.1 hW rfl rfl)
    have F1 := hid (R.out.row [.int .u8 (b.k : Nat), .int .u64 (b.tx : Nat), .int .u8 (b.c.k : Nat), .string b.c.i, .string b.c.t, .string b.c.ut, .string b.c.ui, .int .u64 (b.v : Nat), .string b.s0, .string b.s1, .string b.s2, .string b.s3, .string b.s4, .string b.s5, .string b.s6])
    have F2 := hid (below_row bw.out hrb.out #[.int .u8 (b.k : Nat), .int .u64 (b.tx : Nat), .int .u8 (b.c.k : Nat), .string b.c.i, .string b.c.t, .string b.c.ut, .string b.c.ui, .int .u64 (b.v : Nat), .string b.s0, .string b.s1, .string b.s2, .string b.s3, .string b.s4, .string b.s5, .string b.s6])
    clear hW hit hFb
    have hss : (t.toList != t.toList) = false := by simp
    obtain ⟨k0, k1, k2, k3, k4, k5, k6, k7, k8, k9, k10, k11, k12, k13, k14, kf⟩ := fifteen K.out
    go_upto_region 33 with fail
    refine wp_region_lit ?_
    refine wpList_load_row rfl 30 (.tmp 4) rfl cb rfl 30 _ (0, 0) _ K.out.at' Try.underlying30 rfl (by kernel_rfl) ?_
    refine wpList_store_row rfl 30 (.tmp 2) (.tmp 138) rfl rb #[.int .u8 (b.k : Nat), .int .u64 (b.tx : Nat), .int .u8 (b.c.k : Nat), .string b.c.i, .string b.c.t, .string b.c.ut, .string b.c.ui, .int .u64 (b.v : Nat), .string b.s0, .string b.s1, .string b.s2, .string b.s3, .string b.s4, .string b.s5, .string b.s6] rfl rfl 30 _ R.out.at' (by kernel_rfl) rfl (by simp [Value.oneCell']) ?_
    generalize w2.setRow rb #[.int .u8 (b.k : Nat), .int .u64 (b.tx : Nat), .int .u8 (b.c.k : Nat), .string b.c.i, .string b.c.t, .string b.c.ut, .string b.c.ui, .int .u64 (b.v : Nat), .string b.s0, .string b.s1, .string b.s2, .string b.s3, .string b.s4, .string b.s5, .string b.s6] = W3 at F1 F2 ⊢
    go_wp2_with fail
    refine bodyPost_ret (v := .tuple #[.agg #[.int .u8 (b.k : Nat), .int .u64 (b.tx : Nat), .int .u8 (b.c.k : Nat), .string b.c.i, .string b.c.t, .string b.c.ut, .string b.c.ui, .int .u64 (b.v : Nat), .string b.s0, .string b.s1, .string b.s2, .string b.s3, .string b.s4, .string b.s5, .string b.s6], .int .i64 0]) (results_ct Try.results12 _ _ rb 30 _ (0, 0) _ rfl F1.out.at' Try.underlying30 rfl (by kernel_rfl)) rfl ?_
    exact ⟨⟨b, 0, rfl, hP.out⟩, F2.out⟩
  · have hP := hid (hit_no hit.out hW hgood)
    have F1 := hid (R.out.row [.int .u8 0, .int .u64 0, .int .u8 0, .string ⟨#[]⟩, .string ⟨#[]⟩, .string ⟨#[]⟩, .string ⟨#[]⟩, .int .u64 0, .string ⟨#[]⟩, .string ⟨#[]⟩, .string ⟨#[]⟩, .string ⟨#[]⟩, .string ⟨#[]⟩, .string ⟨#[]⟩, .string ⟨#[]⟩])
    have F2 := hid (below_row bw.out hrb.out #[.int .u8 0, .int .u64 0, .int .u8 0, .string ⟨#[]⟩, .string ⟨#[]⟩, .string ⟨#[]⟩, .string ⟨#[]⟩, .int .u64 0, .string ⟨#[]⟩, .string ⟨#[]⟩, .string ⟨#[]⟩, .string ⟨#[]⟩, .string ⟨#[]⟩, .string ⟨#[]⟩, .string ⟨#[]⟩])
    have hor : true = false ∨ true = true ∧ ¬ z = 0 ∨ true = true ∧ z = 0 ∧ (t.toList == s.toList) = false := by
      by_cases h1 : true = true
      · by_cases h2 : z = 0
        · refine .inr (.inr ⟨h1, h2, ?_⟩)
          rw [beq_eq_false_iff_ne, ne_eq, ByteArray.toList_eq, ByteArray.toList_eq]
          intro h3
          exact hgood ⟨h1, h2, by rw [← bs_of t, h3, bs_of]⟩
        · exact .inr (.inl ⟨h1, h2⟩)
      · exact .inl (absurd rfl h1)
    clear hgood hW hit hFb K
    rcases hor with h1 | ⟨_, hz⟩ | ⟨_, rfl, ht⟩
    · cases h1
    · skip
      go_upto_region 32 with fail
      refine wp_region_lit ?_
      refine wpList_build0 rfl 30 rfl #[.int .u8 0, .int .u64 0, .int .u8 0, .string ⟨#[]⟩, .string ⟨#[]⟩, .string ⟨#[]⟩, .string ⟨#[]⟩, .int .u64 0, .string ⟨#[]⟩, .string ⟨#[]⟩, .string ⟨#[]⟩, .string ⟨#[]⟩, .string ⟨#[]⟩, .string ⟨#[]⟩, .string ⟨#[]⟩] (by kernel_rfl) ?_
      refine wpList_store_row rfl 30 (.tmp 2) (.tmp 137) rfl rb #[.int .u8 0, .int .u64 0, .int .u8 0, .string ⟨#[]⟩, .string ⟨#[]⟩, .string ⟨#[]⟩, .string ⟨#[]⟩, .int .u64 0, .string ⟨#[]⟩, .string ⟨#[]⟩, .string ⟨#[]⟩, .string ⟨#[]⟩, .string ⟨#[]⟩, .string ⟨#[]⟩, .string ⟨#[]⟩] rfl rfl 30 _ R.out.at' (by kernel_rfl) rfl (by simp [Value.oneCell']) ?_
      generalize w2.setRow rb #[.int .u8 0, .int .u64 0, .int .u8 0, .string ⟨#[]⟩, .string ⟨#[]⟩, .string ⟨#[]⟩, .string ⟨#[]⟩, .int .u64 0, .string ⟨#[]⟩, .string ⟨#[]⟩, .string ⟨#[]⟩, .string ⟨#[]⟩, .string ⟨#[]⟩, .string ⟨#[]⟩, .string ⟨#[]⟩] = W3 at F1 F2 ⊢
      go_wp2_with fail
      refine bodyPost_ret (v := .tuple #[.agg #[.int .u8 0, .int .u64 0, .int .u8 0, .string ⟨#[]⟩, .string ⟨#[]⟩, .string ⟨#[]⟩, .string ⟨#[]⟩, .int .u64 0, .string ⟨#[]⟩, .string ⟨#[]⟩, .string ⟨#[]⟩, .string ⟨#[]⟩, .string ⟨#[]⟩, .string ⟨#[]⟩, .string ⟨#[]⟩], .int .i64 14]) (results_ct Try.results12 _ _ rb 30 _ (0, 0) _ rfl F1.out.at' Try.underlying30 rfl (by kernel_rfl)) rfl ?_
      exact ⟨⟨askZ, 14, rfl, hP.out⟩, F2.out⟩
    · skip
      go_upto_region 32 with fail
      refine wp_region_lit ?_
      refine wpList_build0 rfl 30 rfl #[.int .u8 0, .int .u64 0, .int .u8 0, .string ⟨#[]⟩, .string ⟨#[]⟩, .string ⟨#[]⟩, .string ⟨#[]⟩, .int .u64 0, .string ⟨#[]⟩, .string ⟨#[]⟩, .string ⟨#[]⟩, .string ⟨#[]⟩, .string ⟨#[]⟩, .string ⟨#[]⟩, .string ⟨#[]⟩] (by kernel_rfl) ?_
      refine wpList_store_row rfl 30 (.tmp 2) (.tmp 137) rfl rb #[.int .u8 0, .int .u64 0, .int .u8 0, .string ⟨#[]⟩, .string ⟨#[]⟩, .string ⟨#[]⟩, .string ⟨#[]⟩, .int .u64 0, .string ⟨#[]⟩, .string ⟨#[]⟩, .string ⟨#[]⟩, .string ⟨#[]⟩, .string ⟨#[]⟩, .string ⟨#[]⟩, .string ⟨#[]⟩] rfl rfl 30 _ R.out.at' (by kernel_rfl) rfl (by simp [Value.oneCell']) ?_
      generalize w2.setRow rb #[.int .u8 0, .int .u64 0, .int .u8 0, .string ⟨#[]⟩, .string ⟨#[]⟩, .string ⟨#[]⟩, .string ⟨#[]⟩, .int .u64 0, .string ⟨#[]⟩, .string ⟨#[]⟩, .string ⟨#[]⟩, .string ⟨#[]⟩, .string ⟨#[]⟩, .string ⟨#[]⟩, .string ⟨#[]⟩] = W3 at F1 F2 ⊢
      go_wp2_with fail
      refine bodyPost_ret (v := .tuple #[.agg #[.int .u8 0, .int .u64 0, .int .u8 0, .string ⟨#[]⟩, .string ⟨#[]⟩, .string ⟨#[]⟩, .string ⟨#[]⟩, .int .u64 0, .string ⟨#[]⟩, .string ⟨#[]⟩, .string ⟨#[]⟩, .string ⟨#[]⟩, .string ⟨#[]⟩, .string ⟨#[]⟩, .string ⟨#[]⟩], .int .i64 14]) (results_ct Try.results12 _ _ rb 30 _ (0, 0) _ rfl F1.out.at' Try.underlying30 rfl (by kernel_rfl)) rfl ?_
      exact ⟨⟨askZ, 14, rfl, hP.out⟩, F2.out⟩
end Go.Proofs.Ytldlkoiekdlmhaa.Wi
