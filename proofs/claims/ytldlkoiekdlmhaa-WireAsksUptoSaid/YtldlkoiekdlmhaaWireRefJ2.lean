/-
  wire's calls: contracts. Written by wip/wiretopgen.py.
-/
import Derived.Test.YtldlkoiekdlmhaaPkWireRefK
import Derived.Test.YtldlkoiekdlmhaaPkWireRA
import Derived.Test.YtldlkoiekdlmhaaWireRefI
import Derived.Deep.RegionHeld3
import Derived.Deep.RegionWith
import Derived.BigRegion
namespace Go.Proofs.Ytldlkoiekdlmhaa.Wi
open Go.ChangeShapes Go.WideShapes Go.ChangeAt Go.RowKit
open Go.Proofs.Ytldlkoiekdlmhaa.Mem
open Go.Proofs.Ytldlkoiekdlmhaa.Lik (Kept)
open Go.Proofs.Ytldlkoiekdlmhaa.Crc hiding hid bt
set_option linter.unusedVariables false
set_option linter.unusedSimpArgs false
set_option maxRecDepth 100000
set_option maxHeartbeats 16000000 in
theorem readask_ref2 (s s1 : ByteArray) (c0 : UInt8) (w : World) (hs : s.size ≤ 16777216) (hpos : 0 < s.size) (he0 : s[0] = c0) (he1 : s.extract 1 s.size = s1) (hl : s.data.toList = c0 :: s1.data.toList) (hxs : s1.size ≤ 16777216) (hk : c0.toNat = 2) :
    Calls Try.prog 12 #[.string s] w fun e w' => (∃ (a : Ask) (z : Int), e = .returned (.tuple #[.agg #[.int .u8 (a.k : Nat), .int .u64 (a.tx : Nat), .int .u8 (a.c.k : Nat), .string a.c.i, .string a.c.t, .string a.c.ut, .string a.c.ui, .int .u64 (a.v : Nat), .string a.s0, .string a.s1, .string a.s2, .string a.s3, .string a.s4, .string a.s5, .string a.s6], .int .i64 z]) ∧ AskP s.data.toList a z) ∧ Below w.heap.size w w' := by
  have hne : s.toList.isEmpty = false := by
    rw [ByteArray.toList_eq, hl]; rfl
  have hk' := hid hk
  clear hk
  have hposi : (0 : Int) < (s.size : Int) := by omega
  have hone : (1 : Int) ≤ (s.size : Int) := by omega
  go_enter Try.func12, Try.ntmps12
  go_upto_region 1 with fail
  have R := hid (Blk.new w [.int .u8 0, .int .u64 0, .int .u8 0, .string ⟨#[]⟩, .string ⟨#[]⟩, .string ⟨#[]⟩, .string ⟨#[]⟩, .int .u64 0, .string ⟨#[]⟩, .string ⟨#[]⟩, .string ⟨#[]⟩, .string ⟨#[]⟩, .string ⟨#[]⟩, .string ⟨#[]⟩, .string ⟨#[]⟩] 30)
  have bw := hid ((Below.refl w.heap.size w).alloc (Nat.le_refl _) (.cells #[.int .u8 0, .int .u64 0, .int .u8 0, .string ⟨#[]⟩, .string ⟨#[]⟩, .string ⟨#[]⟩, .string ⟨#[]⟩, .int .u64 0, .string ⟨#[]⟩, .string ⟨#[]⟩, .string ⟨#[]⟩, .string ⟨#[]⟩, .string ⟨#[]⟩, .string ⟨#[]⟩, .string ⟨#[]⟩] 30))
  change Hid (Blk (w.alloc (.cells #[.int .u8 0, .int .u64 0, .int .u8 0, .string ⟨#[]⟩, .string ⟨#[]⟩, .string ⟨#[]⟩, .string ⟨#[]⟩, .int .u64 0, .string ⟨#[]⟩, .string ⟨#[]⟩, .string ⟨#[]⟩, .string ⟨#[]⟩, .string ⟨#[]⟩, .string ⟨#[]⟩, .string ⟨#[]⟩] 30)) _ _ _) at R
  generalize w.alloc (.cells #[.int .u8 0, .int .u64 0, .int .u8 0, .string ⟨#[]⟩, .string ⟨#[]⟩, .string ⟨#[]⟩, .string ⟨#[]⟩, .int .u64 0, .string ⟨#[]⟩, .string ⟨#[]⟩, .string ⟨#[]⟩, .string ⟨#[]⟩, .string ⟨#[]⟩, .string ⟨#[]⟩, .string ⟨#[]⟩] 30) = X at R bw ⊢
  obtain ⟨rb, hr⟩ : ∃ rb, w.heap.size = rb := ⟨_, rfl⟩
  have hrb := hid (show w.heap.size ≤ rb by omega)
  rw [hr] at R ⊢
  clear hr
  go_upto_region 4 with fail
  have hrlt := hid R.out.lt
  have hXs := hid bw.out.size
  have K := hid (Blk.new X [.int .u8 (c0.toNat : Nat), .int .u64 0, .int .u8 0, .string ⟨#[]⟩, .string ⟨#[]⟩, .string ⟨#[]⟩, .string ⟨#[]⟩, .int .u64 0, .string ⟨#[]⟩, .string ⟨#[]⟩, .string ⟨#[]⟩, .string ⟨#[]⟩, .string ⟨#[]⟩, .string ⟨#[]⟩, .string ⟨#[]⟩] 30)
  replace R := hid (R.out.alloc (.cells #[.int .u8 (c0.toNat : Nat), .int .u64 0, .int .u8 0, .string ⟨#[]⟩, .string ⟨#[]⟩, .string ⟨#[]⟩, .string ⟨#[]⟩, .int .u64 0, .string ⟨#[]⟩, .string ⟨#[]⟩, .string ⟨#[]⟩, .string ⟨#[]⟩, .string ⟨#[]⟩, .string ⟨#[]⟩, .string ⟨#[]⟩] 30))
  replace bw := hid (bw.out.alloc bw.out.size (.cells #[.int .u8 (c0.toNat : Nat), .int .u64 0, .int .u8 0, .string ⟨#[]⟩, .string ⟨#[]⟩, .string ⟨#[]⟩, .string ⟨#[]⟩, .int .u64 0, .string ⟨#[]⟩, .string ⟨#[]⟩, .string ⟨#[]⟩, .string ⟨#[]⟩, .string ⟨#[]⟩, .string ⟨#[]⟩, .string ⟨#[]⟩] 30))
  change Hid (Blk (X.alloc (.cells #[.int .u8 (c0.toNat : Nat), .int .u64 0, .int .u8 0, .string ⟨#[]⟩, .string ⟨#[]⟩, .string ⟨#[]⟩, .string ⟨#[]⟩, .int .u64 0, .string ⟨#[]⟩, .string ⟨#[]⟩, .string ⟨#[]⟩, .string ⟨#[]⟩, .string ⟨#[]⟩, .string ⟨#[]⟩, .string ⟨#[]⟩] 30)) _ _ _) at K
  generalize X.alloc (.cells #[.int .u8 (c0.toNat : Nat), .int .u64 0, .int .u8 0, .string ⟨#[]⟩, .string ⟨#[]⟩, .string ⟨#[]⟩, .string ⟨#[]⟩, .int .u64 0, .string ⟨#[]⟩, .string ⟨#[]⟩, .string ⟨#[]⟩, .string ⟨#[]⟩, .string ⟨#[]⟩, .string ⟨#[]⟩, .string ⟨#[]⟩] 30) = V at K R bw ⊢
  obtain ⟨cb, hcb⟩ : ∃ cb, X.heap.size = cb := ⟨_, rfl⟩
  rw [hcb] at K ⊢
  have hne2 := hid (show cb ≠ rb ∧ w.heap.size ≤ cb by have := hrlt.out; have := hXs.out; omega)
  clear hcb hrlt hXs
  go_upto_region 6 with fail
  clear he1 he0 hs hne hposi hone
  have hk := hk'.out
  clear hk'
  replace hl := hid hl
  replace hxs := hid hxs
  have hki : (c0.toNat : Int) = 2 := by omega
  replace hk := hid hk
  obtain ⟨k0, k1, k2, k3, k4, k5, k6, k7, k8, k9, k10, k11, k12, k13, k14, kf⟩ := fifteen K.out
  rw [hki] at k0
  go_wp2_with fail
  refine (number_ref s1 _ hxs.out).mono ?_
  rintro e w3 ⟨⟨n, r, ok, rfl, hN⟩, q3⟩
  replace K := hid (K.out.below q3 K.out.lt)
  replace R := hid (R.out.below q3 R.out.lt)
  replace bw := hid (bw.out.trans (q3.mono bw.out.size))
  clear q3 k0 k1 k2 k3 k4 k5 k6 k7 k8 k9 k10 k11 k12 k13 k14 kf
  have hn64 := hN.1
  replace hN := hid hN
  replace hn64 := hid hn64
  obtain ⟨k0, k1, k2, k3, k4, k5, k6, k7, k8, k9, k10, k11, k12, k13, k14, kf⟩ := fifteen K.out
  rw [hki] at k0
  replace hki := hid hki
  go_upto_region 10 with fail
  clear k0 k1 k2 k3 k4 k5 k6 k7 k8 k9 k10 k11 k12 k13 k14 kf
  replace K := hid (K.out.set 1 (.int .u64 (n : Nat)))
  replace R := hid (R.out.other (p := ⟨cb, 1, none⟩) (by exact hne2.out.1) (.int .u64 (n : Nat)))
  replace bw := hid (bel_stL hne2.out.2 [.int .u64 (n : Nat)] w3 1 bw.out)
  change Hid (Blk (w3.setCell ⟨cb, 1, none⟩ (.int .u64 (n : Nat))) cb [.int .u8 (c0.toNat : Nat), .int .u64 (n : Nat), .int .u8 0, .string ⟨#[]⟩, .string ⟨#[]⟩, .string ⟨#[]⟩, .string ⟨#[]⟩, .int .u64 0, .string ⟨#[]⟩, .string ⟨#[]⟩, .string ⟨#[]⟩, .string ⟨#[]⟩, .string ⟨#[]⟩, .string ⟨#[]⟩, .string ⟨#[]⟩] 30) at K
  change Hid (Below w.heap.size w (w3.setCell ⟨cb, 1, none⟩ (.int .u64 (n : Nat)))) at bw
  generalize w3.setCell ⟨cb, 1, none⟩ (.int .u64 (n : Nat)) = V3 at K R bw ⊢
  have hrs := hid (show r.size ≤ 16777216 by
    rcases hN.out.2 with ⟨_, h⟩ | ⟨_, _, rfl, _⟩
    · have := congrArg List.length (pN_of h).1
      rw [List.length_append, len_size, len_size] at this
      have := hxs.out
      omega
    · decide)
  go_wp2_with fail
  refine (unpack_ref r _ hrs.out).mono ?_
  rintro e w2 ⟨⟨so, cap, l, z, rfl, hown, hU⟩, q3⟩
  replace K := hid (K.out.below q3 K.out.lt)
  replace R := hid (R.out.below q3 R.out.lt)
  replace bw := hid (bw.out.trans (q3.mono bw.out.size))
  clear q3
  have h2 := hid (hit_2 hk.out hN.out hU)
  by_cases hgood : z = 0 ∧ l.length = 1
  case neg =>
    have hP := hid (show AskP s.data.toList askZ 14 from .inr ⟨rfl, rfl, fun a' hr hNa he => hgood (by
      obtain ⟨q1, _, _, q4, _⟩ := h2.out a' hr hNa (by rw [he, hl.out])
      exact ⟨q1, by rw [q4]; rfl⟩)⟩)
    have F1 := hid (R.out.row [.int .u8 0, .int .u64 0, .int .u8 0, .string ⟨#[]⟩, .string ⟨#[]⟩, .string ⟨#[]⟩, .string ⟨#[]⟩, .int .u64 0, .string ⟨#[]⟩, .string ⟨#[]⟩, .string ⟨#[]⟩, .string ⟨#[]⟩, .string ⟨#[]⟩, .string ⟨#[]⟩, .string ⟨#[]⟩])
    have F2 := hid (below_row bw.out hrb.out #[.int .u8 0, .int .u64 0, .int .u8 0, .string ⟨#[]⟩, .string ⟨#[]⟩, .string ⟨#[]⟩, .string ⟨#[]⟩, .int .u64 0, .string ⟨#[]⟩, .string ⟨#[]⟩, .string ⟨#[]⟩, .string ⟨#[]⟩, .string ⟨#[]⟩, .string ⟨#[]⟩, .string ⟨#[]⟩])
    obtain ⟨N, hNl⟩ : ∃ N, l.length = N := ⟨_, rfl⟩
    have hni : (N : Int) ≤ 9223372036854775807 := by
      obtain ⟨_, _, _, q1, q2⟩ := ownsRow_form hown
      unfold maxLen at q2; omega
    rw [hNl] at hgood ⊢
    clear hown hU hNl h2 K
    by_cases h0 : z = 0
    · subst h0
      have h1 : ¬ (N : Int) = 1 := fun h => hgood ⟨rfl, by omega⟩
      clear hgood
      go_upto_region 12 with fail
      refine wp_region_lit ?_
      refine wpList_build0 rfl 30 rfl #[.int .u8 0, .int .u64 0, .int .u8 0, .string ⟨#[]⟩, .string ⟨#[]⟩, .string ⟨#[]⟩, .string ⟨#[]⟩, .int .u64 0, .string ⟨#[]⟩, .string ⟨#[]⟩, .string ⟨#[]⟩, .string ⟨#[]⟩, .string ⟨#[]⟩, .string ⟨#[]⟩, .string ⟨#[]⟩] (by kernel_rfl) ?_
      refine wpList_store_row rfl 30 (.tmp 2) (.tmp 45) rfl rb #[.int .u8 0, .int .u64 0, .int .u8 0, .string ⟨#[]⟩, .string ⟨#[]⟩, .string ⟨#[]⟩, .string ⟨#[]⟩, .int .u64 0, .string ⟨#[]⟩, .string ⟨#[]⟩, .string ⟨#[]⟩, .string ⟨#[]⟩, .string ⟨#[]⟩, .string ⟨#[]⟩, .string ⟨#[]⟩] rfl rfl 30 _ R.out.at' (by kernel_rfl) rfl (by simp [Value.oneCell']) ?_
      generalize w2.setRow rb #[.int .u8 0, .int .u64 0, .int .u8 0, .string ⟨#[]⟩, .string ⟨#[]⟩, .string ⟨#[]⟩, .string ⟨#[]⟩, .int .u64 0, .string ⟨#[]⟩, .string ⟨#[]⟩, .string ⟨#[]⟩, .string ⟨#[]⟩, .string ⟨#[]⟩, .string ⟨#[]⟩, .string ⟨#[]⟩] = W3 at F1 F2 ⊢
      go_wp2_with fail
      refine bodyPost_ret (v := .tuple #[.agg #[.int .u8 0, .int .u64 0, .int .u8 0, .string ⟨#[]⟩, .string ⟨#[]⟩, .string ⟨#[]⟩, .string ⟨#[]⟩, .int .u64 0, .string ⟨#[]⟩, .string ⟨#[]⟩, .string ⟨#[]⟩, .string ⟨#[]⟩, .string ⟨#[]⟩, .string ⟨#[]⟩, .string ⟨#[]⟩], .int .i64 14]) (results_ct Try.results12 _ _ rb 30 _ (0, 0) _ rfl F1.out.at' Try.underlying30 rfl (by kernel_rfl)) rfl ?_
      exact ⟨⟨askZ, 14, rfl, hP.out⟩, F2.out⟩
    · clear hgood
      go_upto_region 12 with fail
      refine wp_region_lit ?_
      refine wpList_build0 rfl 30 rfl #[.int .u8 0, .int .u64 0, .int .u8 0, .string ⟨#[]⟩, .string ⟨#[]⟩, .string ⟨#[]⟩, .string ⟨#[]⟩, .int .u64 0, .string ⟨#[]⟩, .string ⟨#[]⟩, .string ⟨#[]⟩, .string ⟨#[]⟩, .string ⟨#[]⟩, .string ⟨#[]⟩, .string ⟨#[]⟩] (by kernel_rfl) ?_
      refine wpList_store_row rfl 30 (.tmp 2) (.tmp 45) rfl rb #[.int .u8 0, .int .u64 0, .int .u8 0, .string ⟨#[]⟩, .string ⟨#[]⟩, .string ⟨#[]⟩, .string ⟨#[]⟩, .int .u64 0, .string ⟨#[]⟩, .string ⟨#[]⟩, .string ⟨#[]⟩, .string ⟨#[]⟩, .string ⟨#[]⟩, .string ⟨#[]⟩, .string ⟨#[]⟩] rfl rfl 30 _ R.out.at' (by kernel_rfl) rfl (by simp [Value.oneCell']) ?_
      generalize w2.setRow rb #[.int .u8 0, .int .u64 0, .int .u8 0, .string ⟨#[]⟩, .string ⟨#[]⟩, .string ⟨#[]⟩, .string ⟨#[]⟩, .int .u64 0, .string ⟨#[]⟩, .string ⟨#[]⟩, .string ⟨#[]⟩, .string ⟨#[]⟩, .string ⟨#[]⟩, .string ⟨#[]⟩, .string ⟨#[]⟩] = W3 at F1 F2 ⊢
      go_wp2_with fail
      refine bodyPost_ret (v := .tuple #[.agg #[.int .u8 0, .int .u64 0, .int .u8 0, .string ⟨#[]⟩, .string ⟨#[]⟩, .string ⟨#[]⟩, .string ⟨#[]⟩, .int .u64 0, .string ⟨#[]⟩, .string ⟨#[]⟩, .string ⟨#[]⟩, .string ⟨#[]⟩, .string ⟨#[]⟩, .string ⟨#[]⟩, .string ⟨#[]⟩], .int .i64 14]) (results_ct Try.results12 _ _ rb 30 _ (0, 0) _ rfl F1.out.at' Try.underlying30 rfl (by kernel_rfl)) rfl ?_
      exact ⟨⟨askZ, 14, rfl, hP.out⟩, F2.out⟩
  obtain ⟨rfl, h1⟩ := hgood
  obtain ⟨c, rfl⟩ : ∃ c, l = [c] := List.length_eq_one_iff.1 h1
  have hcR := hid (show cR c by rcases hU with ⟨_, h, _⟩ | ⟨h, _⟩; exact packR_one.1 h; exact absurd h (by decide))
  have hV : ChsV w2 (.slice so 1 cap) [c] := SlV.own hown
  obtain ⟨sb, off, cp, e, -, hc⟩ := hV.open (by simp)
  simp only [Value.slice.injEq] at e
  obtain ⟨rfl, -, -⟩ := e
  obtain ⟨x0, x1, x2, x3, x4⟩ := hc 0 (by simp)
  simp only [Nat.zero_mul, Nat.add_zero, List.getElem_cons_zero] at x0 x1 x2 x3 x4
  clear hc hown hV h1 hU
  obtain ⟨k0, k1, k2, k3, k4, k5, k6, k7, k8, k9, k10, k11, k12, k13, k14, kf⟩ := fifteen K.out
  go_upto_region 30 with fail
  clear k0 k1 k2 k3 k4 k5 k6 k7 k8 k9 k10 k11 k12 k13 k14 kf x0 x1 x2 x3 x4
  replace K := hid (((((K.out.set 2 (.int .u8 (c.k : Nat))).set 3 (.string c.i)).set 4 (.string c.t)).set 5 (.string c.ut)).set 6 (.string c.ui))
  replace R := hid (oth_stL R.out hne2.out.1 [.int .u8 (c.k : Nat), .string c.i, .string c.t, .string c.ut, .string c.ui] 2)
  replace bw := hid (bel_stL hne2.out.2 [.int .u8 (c.k : Nat), .string c.i, .string c.t, .string c.ut, .string c.ui] w2 2 bw.out)
  change Hid (Blk (((((w2.setCell ⟨cb, 2, none⟩ (.int .u8 (c.k : Nat))).setCell ⟨cb, 3, none⟩ (.string c.i)).setCell ⟨cb, 4, none⟩ (.string c.t)).setCell ⟨cb, 5, none⟩ (.string c.ut)).setCell ⟨cb, 6, none⟩ (.string c.ui)) rb _ _) at R
  change Hid (Below w.heap.size w (((((w2.setCell ⟨cb, 2, none⟩ (.int .u8 (c.k : Nat))).setCell ⟨cb, 3, none⟩ (.string c.i)).setCell ⟨cb, 4, none⟩ (.string c.t)).setCell ⟨cb, 5, none⟩ (.string c.ut)).setCell ⟨cb, 6, none⟩ (.string c.ui))) at bw
  generalize (((((w2.setCell ⟨cb, 2, none⟩ (.int .u8 (c.k : Nat))).setCell ⟨cb, 3, none⟩ (.string c.i)).setCell ⟨cb, 4, none⟩ (.string c.t)).setCell ⟨cb, 5, none⟩ (.string c.ut)).setCell ⟨cb, 6, none⟩ (.string c.ui)) = V4 at K R bw ⊢
  have hit2 := hid (show Hit (c0 :: s1.data.toList) { askZ with k := c0.toNat, tx := n, c := c } ok from by
    intro a' hr hNa he
    obtain ⟨_, q2, q3, q4, q5⟩ := h2.out a' hr hNa he
    refine ⟨q2, ?_⟩
    have q6 : c = a'.c := by simpa using q4
    rw [q6, ← q3]; exact q5)
  obtain ⟨b, hb⟩ : ∃ b : Ask, { askZ with k := c0.toNat, tx := n, c := c } = b := ⟨_, rfl⟩
  have hFb := hid (show askF b from by rw [← hb]; exact ⟨⟨by have := UInt8.toNat_lt c0; exact this, hn64.out, (show (0 : Nat) < 18446744073709551616 by decide), chR_k hcR.out.1⟩, (show chF1 c from ⟨chR_k hcR.out.1, by have := hcR.out.2; unfold chS at this; omega⟩), (show (0 : Nat) ≤ 1048576 by decide), (show (0 : Nat) ≤ 1048576 by decide), (show (0 : Nat) ≤ 1048576 by decide), (show (0 : Nat) ≤ 1048576 by decide), (show (0 : Nat) ≤ 1048576 by decide), (show (0 : Nat) ≤ 1048576 by decide), (show (0 : Nat) ≤ 1048576 by decide)⟩)
  have hit := hid (show Hit s.data.toList b ok from by rw [← hb, hl.out]; exact hit2.out)
  change Hid (Blk _ cb [.int .u8 (({ askZ with k := c0.toNat, tx := n, c := c } : Ask).k : Nat), .int .u64 (({ askZ with k := c0.toNat, tx := n, c := c } : Ask).tx : Nat), .int .u8 (({ askZ with k := c0.toNat, tx := n, c := c } : Ask).c.k : Nat), .string ({ askZ with k := c0.toNat, tx := n, c := c } : Ask).c.i, .string ({ askZ with k := c0.toNat, tx := n, c := c } : Ask).c.t, .string ({ askZ with k := c0.toNat, tx := n, c := c } : Ask).c.ut, .string ({ askZ with k := c0.toNat, tx := n, c := c } : Ask).c.ui, .int .u64 (({ askZ with k := c0.toNat, tx := n, c := c } : Ask).v : Nat), .string ({ askZ with k := c0.toNat, tx := n, c := c } : Ask).s0, .string ({ askZ with k := c0.toNat, tx := n, c := c } : Ask).s1, .string ({ askZ with k := c0.toNat, tx := n, c := c } : Ask).s2, .string ({ askZ with k := c0.toNat, tx := n, c := c } : Ask).s3, .string ({ askZ with k := c0.toNat, tx := n, c := c } : Ask).s4, .string ({ askZ with k := c0.toNat, tx := n, c := c } : Ask).s5, .string ({ askZ with k := c0.toNat, tx := n, c := c } : Ask).s6] 30) at K
  rw [hb] at K
  clear hb
  clear hk hki hN hn64 hcR h2 hrs hit2
  obtain ⟨k0, k1, k2, k3, k4, k5, k6, k7, k8, k9, k10, k11, k12, k13, k14, kf⟩ := fifteen K.out
  go_wp2_with fail
  refine (writeask_ref b _ hFb.out).mono ?_
  rintro e w2 ⟨⟨t, z, rfl, hW⟩, q3⟩
  replace K := hid (K.out.below q3 K.out.lt)
  replace R := hid (R.out.below q3 R.out.lt)
  replace bw := hid (bw.out.trans (q3.mono bw.out.size))
  clear q3 k0 k1 k2 k3 k4 k5 k6 k7 k8 k9 k10 k11 k12 k13 k14 kf
  by_cases hgood : ok = true ∧ z = 0 ∧ t = s
  · obtain ⟨g1, rfl, rfl⟩ := hgood
    subst g1
    have hP := hid (hit_yes hFb.out.1 hW rfl rfl)
    have F1 := hid (R.out.row [.int .u8 (b.k : Nat), .int .u64 (b.tx : Nat), .int .u8 (b.c.k : Nat), .string b.c.i, .string b.c.t, .string b.c.ut, .string b.c.ui, .int .u64 (b.v : Nat), .string b.s0, .string b.s1, .string b.s2, .string b.s3, .string b.s4, .string b.s5, .string b.s6])
    have F2 := hid (below_row bw.out hrb.out #[.int .u8 (b.k : Nat), .int .u64 (b.tx : Nat), .int .u8 (b.c.k : Nat), .string b.c.i, .string b.c.t, .string b.c.ut, .string b.c.ui, .int .u64 (b.v : Nat), .string b.s0, .string b.s1, .string b.s2, .string b.s3, .string b.s4, .string b.s5, .string b.s6])
    clear hW hit hFb
    have hss : (t.toList != t.toList) = false := by simp
    obtain ⟨k0, k1, k2, k3, k4, k5, k6, k7, k8, k9, k10, k11, k12, k13, k14, kf⟩ := fifteen K.out
    go_upto_region 33 with fail
    refine wp_region_lit ?_
    refine wpList_load_row rfl 30 (.tmp 4) rfl cb rfl 30 _ (0, 0) _ K.out.at' Try.underlying30 rfl (by kernel_rfl) ?_
    refine wpList_store_row rfl 30 (.tmp 2) (.tmp 138) rfl rb #[.int .u8 (b.k : Nat), .int .u64 (b.tx : Nat), .int .u8 (b.c.k : Nat), .string b.c.i, .string b.c.t, .string b.c.ut, .string b.c.ui, .int .u64 (b.v : Nat), .string b.s0, .string b.s1, .string b.s2, .string b.s3, .string b.s4, .string b.s5, .string b.s6] rfl rfl 30 _ R.out.at' (by kernel_rfl) rfl (by simp [Value.oneCell']) ?_
    generalize w2.setRow rb #[.int .u8 (b.k : Nat), .int .u64 (b.tx : Nat), .int .u8 (b.c.k : Nat), .string b.c.i, .string b.c.t, .string b.c.ut, .string b.c.ui, .int .u64 (b.v : Nat), .string b.s0, .string b.s1, .string b.s2, .string b.s3, .string b.s4, .string b.s5, .string b.s6] = W3 at F1 F2 ⊢
    go_wp2_with fail
    refine bodyPost_ret (v := .tuple #[.agg #[.int .u8 (b.k : Nat), .int .u64 (b.tx : Nat), .int .u8 (b.c.k : Nat), .string b.c.i, .string b.c.t, .string b.c.ut, .string b.c.ui, .int .u64 (b.v : Nat), .string b.s0, .string b.s1, .string b.s2, .string b.s3, .string b.s4, .string b.s5, .string b.s6], .int .i64 0]) (results_ct Try.results12 _ _ rb 30 _ (0, 0) _ rfl F1.out.at' Try.underlying30 rfl (by kernel_rfl)) rfl ?_
    exact ⟨⟨b, 0, rfl, hP.out⟩, F2.out⟩
  · have hP := hid (hit_no hit.out hW hgood)
    have F1 := hid (R.out.row [.int .u8 0, .int .u64 0, .int .u8 0, .string ⟨#[]⟩, .string ⟨#[]⟩, .string ⟨#[]⟩, .string ⟨#[]⟩, .int .u64 0, .string ⟨#[]⟩, .string ⟨#[]⟩, .string ⟨#[]⟩, .string ⟨#[]⟩, .string ⟨#[]⟩, .string ⟨#[]⟩, .string ⟨#[]⟩])
    have F2 := hid (below_row bw.out hrb.out #[.int .u8 0, .int .u64 0, .int .u8 0, .string ⟨#[]⟩, .string ⟨#[]⟩, .string ⟨#[]⟩, .string ⟨#[]⟩, .int .u64 0, .string ⟨#[]⟩, .string ⟨#[]⟩, .string ⟨#[]⟩, .string ⟨#[]⟩, .string ⟨#[]⟩, .string ⟨#[]⟩, .string ⟨#[]⟩])
    have hor : ok = false ∨ ok = true ∧ ¬ z = 0 ∨ ok = true ∧ z = 0 ∧ (t.toList == s.toList) = false := by
      by_cases h1 : ok = true
      · by_cases h2 : z = 0
        · refine .inr (.inr ⟨h1, h2, ?_⟩)
          rw [beq_eq_false_iff_ne, ne_eq, ByteArray.toList_eq, ByteArray.toList_eq]
          intro h3
          exact hgood ⟨h1, h2, by rw [← bs_of t, h3, bs_of]⟩
        · exact .inr (.inl ⟨h1, h2⟩)
      · exact .inl (by simpa using h1)
    clear hgood hW hit hFb K
    rcases hor with rfl | ⟨rfl, hz⟩ | ⟨rfl, rfl, ht⟩
    · skip
      go_upto_region 32 with fail
      refine wp_region_lit ?_
      refine wpList_build0 rfl 30 rfl #[.int .u8 0, .int .u64 0, .int .u8 0, .string ⟨#[]⟩, .string ⟨#[]⟩, .string ⟨#[]⟩, .string ⟨#[]⟩, .int .u64 0, .string ⟨#[]⟩, .string ⟨#[]⟩, .string ⟨#[]⟩, .string ⟨#[]⟩, .string ⟨#[]⟩, .string ⟨#[]⟩, .string ⟨#[]⟩] (by kernel_rfl) ?_
      refine wpList_store_row rfl 30 (.tmp 2) (.tmp 137) rfl rb #[.int .u8 0, .int .u64 0, .int .u8 0, .string ⟨#[]⟩, .string ⟨#[]⟩, .string ⟨#[]⟩, .string ⟨#[]⟩, .int .u64 0, .string ⟨#[]⟩, .string ⟨#[]⟩, .string ⟨#[]⟩, .string ⟨#[]⟩, .string ⟨#[]⟩, .string ⟨#[]⟩, .string ⟨#[]⟩] rfl rfl 30 _ R.out.at' (by kernel_rfl) rfl (by simp [Value.oneCell']) ?_
      generalize w2.setRow rb #[.int .u8 0, .int .u64 0, .int .u8 0, .string ⟨#[]⟩, .string ⟨#[]⟩, .string ⟨#[]⟩, .string ⟨#[]⟩, .int .u64 0, .string ⟨#[]⟩, .string ⟨#[]⟩, .string ⟨#[]⟩, .string ⟨#[]⟩, .string ⟨#[]⟩, .string ⟨#[]⟩, .string ⟨#[]⟩] = W3 at F1 F2 ⊢
      go_wp2_with fail
      refine bodyPost_ret (v := .tuple #[.agg #[.int .u8 0, .int .u64 0, .int .u8 0, .string ⟨#[]⟩, .string ⟨#[]⟩, .string ⟨#[]⟩, .string ⟨#[]⟩, .int .u64 0, .string ⟨#[]⟩, .string ⟨#[]⟩, .string ⟨#[]⟩, .string ⟨#[]⟩, .string ⟨#[]⟩, .string ⟨#[]⟩, .string ⟨#[]⟩], .int .i64 14]) (results_ct Try.results12 _ _ rb 30 _ (0, 0) _ rfl F1.out.at' Try.underlying30 rfl (by kernel_rfl)) rfl ?_
      exact ⟨⟨askZ, 14, rfl, hP.out⟩, F2.out⟩
    · skip
      go_upto_region 32 with fail
      refine wp_region_lit ?_
      refine wpList_build0 rfl 30 rfl #[.int .u8 0, .int .u64 0, .int .u8 0, .string ⟨#[]⟩, .string ⟨#[]⟩, .string ⟨#[]⟩, .string ⟨#[]⟩, .int .u64 0, .string ⟨#[]⟩, .string ⟨#[]⟩, .string ⟨#[]⟩, .string ⟨#[]⟩, .string ⟨#[]⟩, .string ⟨#[]⟩, .string ⟨#[]⟩] (by kernel_rfl) ?_
      refine wpList_store_row rfl 30 (.tmp 2) (.tmp 137) rfl rb #[.int .u8 0, .int .u64 0, .int .u8 0, .string ⟨#[]⟩, .string ⟨#[]⟩, .string ⟨#[]⟩, .string ⟨#[]⟩, .int .u64 0, .string ⟨#[]⟩, .string ⟨#[]⟩, .string ⟨#[]⟩, .string ⟨#[]⟩, .string ⟨#[]⟩, .string ⟨#[]⟩, .string ⟨#[]⟩] rfl rfl 30 _ R.out.at' (by kernel_rfl) rfl (by simp [Value.oneCell']) ?_
      generalize w2.setRow rb #[.int .u8 0, .int .u64 0, .int .u8 0, .string ⟨#[]⟩, .string ⟨#[]⟩, .string ⟨#[]⟩, .string ⟨#[]⟩, .int .u64 0, .string ⟨#[]⟩, .string ⟨#[]⟩, .string ⟨#[]⟩, .string ⟨#[]⟩, .string ⟨#[]⟩, .string ⟨#[]⟩, .string ⟨#[]⟩] = W3 at F1 F2 ⊢
      go_wp2_with fail
      refine bodyPost_ret (v := .tuple #[.agg #[.int .u8 0, .int .u64 0, .int .u8 0, .string ⟨#[]⟩, .string ⟨#[]⟩, .string ⟨#[]⟩, .string ⟨#[]⟩, .int .u64 0, .string ⟨#[]⟩, .string ⟨#[]⟩, .string ⟨#[]⟩, .string ⟨#[]⟩, .string ⟨#[]⟩, .string ⟨#[]⟩, .string ⟨#[]⟩], .int .i64 14]) (results_ct Try.results12 _ _ rb 30 _ (0, 0) _ rfl F1.out.at' Try.underlying30 rfl (by kernel_rfl)) rfl ?_
      exact ⟨⟨askZ, 14, rfl, hP.out⟩, F2.out⟩
    · skip
      go_upto_region 32 with fail
      refine wp_region_lit ?_
      refine wpList_build0 rfl 30 rfl #[.int .u8 0, .int .u64 0, .int .u8 0, .string ⟨#[]⟩, .string ⟨#[]⟩, .string ⟨#[]⟩, .string ⟨#[]⟩, .int .u64 0, .string ⟨#[]⟩, .string ⟨#[]⟩, .string ⟨#[]⟩, .string ⟨#[]⟩, .string ⟨#[]⟩, .string ⟨#[]⟩, .string ⟨#[]⟩] (by kernel_rfl) ?_
      refine wpList_store_row rfl 30 (.tmp 2) (.tmp 137) rfl rb #[.int .u8 0, .int .u64 0, .int .u8 0, .string ⟨#[]⟩, .string ⟨#[]⟩, .string ⟨#[]⟩, .string ⟨#[]⟩, .int .u64 0, .string ⟨#[]⟩, .string ⟨#[]⟩, .string ⟨#[]⟩, .string ⟨#[]⟩, .string ⟨#[]⟩, .string ⟨#[]⟩, .string ⟨#[]⟩] rfl rfl 30 _ R.out.at' (by kernel_rfl) rfl (by simp [Value.oneCell']) ?_
      generalize w2.setRow rb #[.int .u8 0, .int .u64 0, .int .u8 0, .string ⟨#[]⟩, .string ⟨#[]⟩, .string ⟨#[]⟩, .string ⟨#[]⟩, .int .u64 0, .string ⟨#[]⟩, .string ⟨#[]⟩, .string ⟨#[]⟩, .string ⟨#[]⟩, .string ⟨#[]⟩, .string ⟨#[]⟩, .string ⟨#[]⟩] = W3 at F1 F2 ⊢
      go_wp2_with fail
      refine bodyPost_ret (v := .tuple #[.agg #[.int .u8 0, .int .u64 0, .int .u8 0, .string ⟨#[]⟩, .string ⟨#[]⟩, .string ⟨#[]⟩, .string ⟨#[]⟩, .int .u64 0, .string ⟨#[]⟩, .string ⟨#[]⟩, .string ⟨#[]⟩, .string ⟨#[]⟩, .string ⟨#[]⟩, .string ⟨#[]⟩, .string ⟨#[]⟩], .int .i64 14]) (results_ct Try.results12 _ _ rb 30 _ (0, 0) _ rfl F1.out.at' Try.underlying30 rfl (by kernel_rfl)) rfl ?_
      exact ⟨⟨askZ, 14, rfl, hP.out⟩, F2.out⟩
end Go.Proofs.Ytldlkoiekdlmhaa.Wi
