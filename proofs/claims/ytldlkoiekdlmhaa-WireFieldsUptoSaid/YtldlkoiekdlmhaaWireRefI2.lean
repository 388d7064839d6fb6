/-
  wire's calls: contracts. Written by wip/wiretopgen.py.
-/
import Derived.Test.YtldlkoiekdlmhaaWireRefH
import Derived.Test.YtldlkoiekdlmhaaPkWireSame
import Derived.Test.YtldlkoiekdlmhaaPkWireRefE
namespace Go.Proofs.Ytldlkoiekdlmhaa.Wi
open Go.ChangeShapes Go.WideShapes Go.ChangeAt Go.RowKit
open Go.Proofs.Ytldlkoiekdlmhaa.Mem
open Go.Proofs.Ytldlkoiekdlmhaa.Lik (Kept)
open Go.Proofs.Ytldlkoiekdlmhaa.Crc hiding hid bt
set_option linter.unusedVariables false
set_option linter.unusedSimpArgs false
set_option maxRecDepth 100000
set_option maxHeartbeats 16000000 in
theorem writeask_ref2 (a : Ask) (w : World) (hF : askF a) (hk : a.k = 2) :
    Calls Try.prog 10 #[.agg #[.int .u8 (a.k : Nat), .int .u64 (a.tx : Nat), .int .u8 (a.c.k : Nat), .string a.c.i, .string a.c.t, .string a.c.ut, .string a.c.ui, .int .u64 (a.v : Nat), .string a.s0, .string a.s1, .string a.s2, .string a.s3, .string a.s4, .string a.s5, .string a.s6]] w fun e w' => (∃ (s : ByteArray) (z : Int), e = .returned (.tuple #[.string s, .int .i64 z]) ∧ AskW a s z) ∧ Below w.heap.size w w' := by
  have hk' := hid hk
  clear hk
  go_enter Try.func10, Try.ntmps10
  go_upto_region 1 with fail
  have K := hid (Blk.new w [.int .u8 (a.k : Nat), .int .u64 (a.tx : Nat), .int .u8 (a.c.k : Nat), .string a.c.i, .string a.c.t, .string a.c.ut, .string a.c.ui, .int .u64 (a.v : Nat), .string a.s0, .string a.s1, .string a.s2, .string a.s3, .string a.s4, .string a.s5, .string a.s6] 30)
  have bw := hid ((Below.refl w.heap.size w).alloc (Nat.le_refl _) (.cells #[.int .u8 (a.k : Nat), .int .u64 (a.tx : Nat), .int .u8 (a.c.k : Nat), .string a.c.i, .string a.c.t, .string a.c.ut, .string a.c.ui, .int .u64 (a.v : Nat), .string a.s0, .string a.s1, .string a.s2, .string a.s3, .string a.s4, .string a.s5, .string a.s6] 30))
  change Hid (Blk (w.alloc (.cells #[.int .u8 (a.k : Nat), .int .u64 (a.tx : Nat), .int .u8 (a.c.k : Nat), .string a.c.i, .string a.c.t, .string a.c.ut, .string a.c.ui, .int .u64 (a.v : Nat), .string a.s0, .string a.s1, .string a.s2, .string a.s3, .string a.s4, .string a.s5, .string a.s6] 30)) _ _ _) at K
  generalize w.alloc (.cells #[.int .u8 (a.k : Nat), .int .u64 (a.tx : Nat), .int .u8 (a.c.k : Nat), .string a.c.i, .string a.c.t, .string a.c.ut, .string a.c.ui, .int .u64 (a.v : Nat), .string a.s0, .string a.s1, .string a.s2, .string a.s3, .string a.s4, .string a.s5, .string a.s6] 30) = X at K bw ⊢
  obtain ⟨pb, hpb⟩ : ∃ pb, w.heap.size = pb := ⟨_, rfl⟩
  have hpw := hid (show w.heap.size ≤ pb by omega)
  rw [hpb] at K ⊢
  clear hpb
  obtain ⟨k0, k1, k2, k3, k4, k5, k6, k7, k8, k9, k10, k11, k12, k13, k14, kf⟩ := fifteen K.out
  go_wp2_with fail
  rw [convOne _ _ a.k (Blk.new X [.int .u8 (a.k : Nat)] 5)]
  replace K := hid (K.out.alloc (.cells #[.int .u8 (a.k : Nat)] 5))
  replace bw := hid (bw.out.alloc bw.out.size (.cells #[.int .u8 (a.k : Nat)] 5))
  generalize X.alloc (.cells #[.int .u8 (a.k : Nat)] 5) = Y at K bw ⊢
  clear k0 k1 k2 k3 k4 k5 k6 k7 k8 k9 k10 k11 k12 k13 k14 kf
  obtain ⟨k0, k1, k2, k3, k4, k5, k6, k7, k8, k9, k10, k11, k12, k13, k14, kf⟩ := fifteen K.out
  go_upto_region 3 with fail
  have hlt := hid K.out.lt
  have hsz := hid bw.out.size
  have J := hid (Blk.new Y [.int .u8 (a.k : Nat), .int .u64 0, .int .u8 0, .string ⟨#[]⟩, .string ⟨#[]⟩, .string ⟨#[]⟩, .string ⟨#[]⟩, .int .u64 0, .string ⟨#[]⟩, .string ⟨#[]⟩, .string ⟨#[]⟩, .string ⟨#[]⟩, .string ⟨#[]⟩, .string ⟨#[]⟩, .string ⟨#[]⟩] 30)
  replace K := hid (K.out.alloc (.cells #[.int .u8 (a.k : Nat), .int .u64 0, .int .u8 0, .string ⟨#[]⟩, .string ⟨#[]⟩, .string ⟨#[]⟩, .string ⟨#[]⟩, .int .u64 0, .string ⟨#[]⟩, .string ⟨#[]⟩, .string ⟨#[]⟩, .string ⟨#[]⟩, .string ⟨#[]⟩, .string ⟨#[]⟩, .string ⟨#[]⟩] 30))
  replace bw := hid (bw.out.alloc bw.out.size (.cells #[.int .u8 (a.k : Nat), .int .u64 0, .int .u8 0, .string ⟨#[]⟩, .string ⟨#[]⟩, .string ⟨#[]⟩, .string ⟨#[]⟩, .int .u64 0, .string ⟨#[]⟩, .string ⟨#[]⟩, .string ⟨#[]⟩, .string ⟨#[]⟩, .string ⟨#[]⟩, .string ⟨#[]⟩, .string ⟨#[]⟩] 30))
  change Hid (Blk (Y.alloc (.cells #[.int .u8 (a.k : Nat), .int .u64 0, .int .u8 0, .string ⟨#[]⟩, .string ⟨#[]⟩, .string ⟨#[]⟩, .string ⟨#[]⟩, .int .u64 0, .string ⟨#[]⟩, .string ⟨#[]⟩, .string ⟨#[]⟩, .string ⟨#[]⟩, .string ⟨#[]⟩, .string ⟨#[]⟩, .string ⟨#[]⟩] 30)) _ _ _) at J
  clear k0 k1 k2 k3 k4 k5 k6 k7 k8 k9 k10 k11 k12 k13 k14 kf
  generalize Y.alloc (.cells #[.int .u8 (a.k : Nat), .int .u64 0, .int .u8 0, .string ⟨#[]⟩, .string ⟨#[]⟩, .string ⟨#[]⟩, .string ⟨#[]⟩, .int .u64 0, .string ⟨#[]⟩, .string ⟨#[]⟩, .string ⟨#[]⟩, .string ⟨#[]⟩, .string ⟨#[]⟩, .string ⟨#[]⟩, .string ⟨#[]⟩] 30) = V at K J bw ⊢
  obtain ⟨bb, hbb⟩ : ∃ bb, Y.heap.size = bb := ⟨_, rfl⟩
  rw [hbb] at J ⊢
  have hne := hid (show bb ≠ pb ∧ w.heap.size ≤ bb by have := hlt.out; have := hsz.out; omega)
  clear hbb hlt hsz
  have h : (a.k : Int) = 2 := by have := hk'.out; omega
  obtain ⟨b, hb⟩ : ∃ b : Ask, { askZ with k := a.k, tx := a.tx, c := a.c } = b := ⟨_, rfl⟩
  have hbk : b.k = a.k := by rw [← hb]
  have hck := hid hF.1.2.2.2
  have hcs := hid (show a.c.i.size ≤ 16777216 ∧ a.c.t.size ≤ 16777216 ∧ a.c.ut.size ≤ 16777216 ∧ a.c.ui.size ≤ 16777216 by have := hF.2.1; unfold chF1 at this; omega)
  obtain ⟨k0, k1, k2, k3, k4, k5, k6, k7, k8, k9, k10, k11, k12, k13, k14, kf⟩ := fifteen K.out
  rw [h] at k0
  go_wp2_with fail
  have C := hid (Blk.new V [.int .u8 (a.c.k : Nat), .string a.c.i, .string a.c.t, .string a.c.ut, .string a.c.ui] 28)
  replace K := hid (K.out.alloc (.cells #[.int .u8 (a.c.k : Nat), .string a.c.i, .string a.c.t, .string a.c.ut, .string a.c.ui] 28))
  replace J := hid (J.out.alloc (.cells #[.int .u8 (a.c.k : Nat), .string a.c.i, .string a.c.t, .string a.c.ut, .string a.c.ui] 28))
  replace bw := hid (bw.out.alloc bw.out.size (.cells #[.int .u8 (a.c.k : Nat), .string a.c.i, .string a.c.t, .string a.c.ut, .string a.c.ui] 28))
  change Hid (Blk (V.alloc (.cells #[.int .u8 (a.c.k : Nat), .string a.c.i, .string a.c.t, .string a.c.ut, .string a.c.ui] 28)) _ _ _) at C
  generalize V.alloc (.cells #[.int .u8 (a.c.k : Nat), .string a.c.i, .string a.c.t, .string a.c.ut, .string a.c.ui] 28) = V1 at C K J bw ⊢
  refine (pack1_ref a.c _ _ C.out hck.out hcs.out).mono ?_
  rintro e w3 ⟨⟨t, z, rfl, hP1⟩, q3⟩
  replace K := hid (K.out.below q3 K.out.lt)
  replace J := hid (J.out.below q3 J.out.lt)
  replace bw := hid (bw.out.trans (q3.mono bw.out.size))
  clear q3 C k0 k1 k2 k3 k4 k5 k6 k7 k8 k9 k10 k11 k12 k13 k14 kf hck hcs
  by_cases hc : cR a.c
  case neg =>
    have hz : ¬ z = 0 := by rcases hP1 with ⟨_, h1, _⟩ | ⟨h1, _⟩; exact absurd h1 hc; exact h1
    have hP := hid (ask2_bad hk'.out hc)
    clear hP1 hc hb hbk hF K J hk'
    go_wp2_with fail
    go_ret2
    exact ⟨⟨_, _, rfl, hP.out⟩, bw.out⟩
  obtain ⟨rfl, rfl⟩ : z = 0 ∧ t = bs (packE [a.c]) := by rcases hP1 with ⟨h1, _, h2⟩ | ⟨_, h1, _⟩; exact ⟨h1, h2⟩; exact absurd hc h1
  have n3 : (bs (packE [a.c])).size ≤ 8300 := by
    have hc2 := hc.2
    unfold chS at hc2
    rw [bs_size]
    simp only [packE, chE, List.flatMap_cons, List.flatMap_nil, List.append_nil, List.length_cons, List.length_append, txt_len]
    omega
  have n1 : (bOne a.k).size = 1 := rfl
  have n2 : (bs (leb 8 a.tx)).size = 8 := by rw [bs_size, leb_len]
  have hyes : a = b → AskW a (bOne a.k ++ (bs (leb 8 a.tx) ++ bs (packE [a.c]))) 0 := fun e => ask2_yes hk'.out hc (by rw [hb]; exact e)
  have hno : a ≠ b → AskW a ⟨#[]⟩ 14 := fun e => ask2_no hk'.out (by rw [hb]; exact e)
  have hput := hid (fun W => refput64_any a.tx W hF.1.2.1)
  rw [show (⟨(leb 8 a.tx).toArray⟩ : ByteArray) = bs (leb 8 a.tx) from rfl] at hput
  generalize bs (leb 8 a.tx) = P at hput hyes n2
  generalize bs (packE [a.c]) = Q at hyes n3 ⊢
  generalize bOne a.k = B0 at hyes n1 ⊢
  have s1 : ¬ 9223372036854775807 < P.size + Q.size := by omega
  have s2 : ¬ 9223372036854775807 < B0.size + (P ++ Q).size := by rw [ByteArray.size_append]; omega
  have s3 : ¬ 9223372036854775807 < B0.size + (P.size + Q.size) := by omega
  clear hc hP1 hF
  have h1 := hne.out.1
  obtain ⟨k0, k1, k2, k3, k4, k5, k6, k7, k8, k9, k10, k11, k12, k13, k14, kf⟩ := fifteen K.out
  obtain ⟨j0, j1, j2, j3, j4, j5, j6, j7, j8, j9, j10, j11, j12, j13, j14, jf⟩ := fifteen J.out
  rw [h] at k0
  have h1' : pb ≠ bb := fun e => h1 e.symm
  go_wp2_with fail
  go_region
  have J2 := hid ((((((J.out.set 1 (.int .u64 (a.tx : Nat))).set 2 (.int .u8 (a.c.k : Nat))).set 3 (.string a.c.i)).set 4 (.string a.c.t)).set 5 (.string a.c.ut)).set 6 (.string a.c.ui)).drew
  have K2 := hid (oth_stL K.out hne.out.1 [.int .u64 (a.tx : Nat), .int .u8 (a.c.k : Nat), .string a.c.i, .string a.c.t, .string a.c.ut, .string a.c.ui] 1).drew
  have b2 := hid (bel_stL hne.out.2 [.int .u64 (a.tx : Nat), .int .u8 (a.c.k : Nat), .string a.c.i, .string a.c.t, .string a.c.ut, .string a.c.ui] w3 1 bw.out).drew
  change Hid (Blk (((((((w3.setCell ⟨bb, 1, none⟩ (.int .u64 (a.tx : Nat))).setCell ⟨bb, 2, none⟩ (.int .u8 (a.c.k : Nat))).setCell ⟨bb, 3, none⟩ (.string a.c.i)).setCell ⟨bb, 4, none⟩ (.string a.c.t)).setCell ⟨bb, 5, none⟩ (.string a.c.ut)).setCell ⟨bb, 6, none⟩ (.string a.c.ui)).drew) bb [.int .u8 (({ askZ with k := a.k, tx := a.tx, c := a.c } : Ask).k : Nat), .int .u64 (({ askZ with k := a.k, tx := a.tx, c := a.c } : Ask).tx : Nat), .int .u8 (({ askZ with k := a.k, tx := a.tx, c := a.c } : Ask).c.k : Nat), .string ({ askZ with k := a.k, tx := a.tx, c := a.c } : Ask).c.i, .string ({ askZ with k := a.k, tx := a.tx, c := a.c } : Ask).c.t, .string ({ askZ with k := a.k, tx := a.tx, c := a.c } : Ask).c.ut, .string ({ askZ with k := a.k, tx := a.tx, c := a.c } : Ask).c.ui, .int .u64 (({ askZ with k := a.k, tx := a.tx, c := a.c } : Ask).v : Nat), .string ({ askZ with k := a.k, tx := a.tx, c := a.c } : Ask).s0, .string ({ askZ with k := a.k, tx := a.tx, c := a.c } : Ask).s1, .string ({ askZ with k := a.k, tx := a.tx, c := a.c } : Ask).s2, .string ({ askZ with k := a.k, tx := a.tx, c := a.c } : Ask).s3, .string ({ askZ with k := a.k, tx := a.tx, c := a.c } : Ask).s4, .string ({ askZ with k := a.k, tx := a.tx, c := a.c } : Ask).s5, .string ({ askZ with k := a.k, tx := a.tx, c := a.c } : Ask).s6] 30) at J2
  change Hid (Blk (((((((w3.setCell ⟨bb, 1, none⟩ (.int .u64 (a.tx : Nat))).setCell ⟨bb, 2, none⟩ (.int .u8 (a.c.k : Nat))).setCell ⟨bb, 3, none⟩ (.string a.c.i)).setCell ⟨bb, 4, none⟩ (.string a.c.t)).setCell ⟨bb, 5, none⟩ (.string a.c.ut)).setCell ⟨bb, 6, none⟩ (.string a.c.ui)).drew) pb _ _) at K2
  change Hid (Below w.heap.size w (((((((w3.setCell ⟨bb, 1, none⟩ (.int .u64 (a.tx : Nat))).setCell ⟨bb, 2, none⟩ (.int .u8 (a.c.k : Nat))).setCell ⟨bb, 3, none⟩ (.string a.c.i)).setCell ⟨bb, 4, none⟩ (.string a.c.t)).setCell ⟨bb, 5, none⟩ (.string a.c.ut)).setCell ⟨bb, 6, none⟩ (.string a.c.ui)).drew)) at b2
  clear k0 k1 k2 k3 k4 k5 k6 k7 k8 k9 k10 k11 k12 k13 k14 kf j0 j1 j2 j3 j4 j5 j6 j7 j8 j9 j10 j11 j12 j13 j14 jf K J bw
  generalize ((((((w3.setCell ⟨bb, 1, none⟩ (.int .u64 (a.tx : Nat))).setCell ⟨bb, 2, none⟩ (.int .u8 (a.c.k : Nat))).setCell ⟨bb, 3, none⟩ (.string a.c.i)).setCell ⟨bb, 4, none⟩ (.string a.c.t)).setCell ⟨bb, 5, none⟩ (.string a.c.ut)).setCell ⟨bb, 6, none⟩ (.string a.c.ui)).drew = V3 at K2 J2 b2 ⊢
  rw [hb] at J2
  rw [hbk] at J2
  clear hb
  obtain ⟨k0, k1, k2, k3, k4, k5, k6, k7, k8, k9, k10, k11, k12, k13, k14, kf⟩ := fifteen K2.out
  go_wp2_with fail
  refine (hput.out _).mono ?_
  rintro e w4 ⟨rfl, q3⟩
  replace K2 := hid (K2.out.below q3 K2.out.lt)
  replace J2 := hid (J2.out.below q3 J2.out.lt)
  replace b2 := hid (b2.out.trans (q3.mono b2.out.size))
  clear q3 k0 k1 k2 k3 k4 k5 k6 k7 k8 k9 k10 k11 k12 k13 k14 kf hput
  by_cases hab : a = b
  · have hP := hid (hyes hab)
    subst hab
    clear hyes hno hbk
    obtain ⟨k0, k1, k2, k3, k4, k5, k6, k7, k8, k9, k10, k11, k12, k13, k14, kf⟩ := fifteen K2.out
    obtain ⟨j0, j1, j2, j3, j4, j5, j6, j7, j8, j9, j10, j11, j12, j13, j14, jf⟩ := fifteen J2.out
    go_wp2_with fail
    go_ret2
    exact ⟨⟨_, _, rfl, hP.out⟩, b2.out⟩
  · have hP := hid (hno hab)
    have hneq := fun W => neq_ask b a hab W
    rw [hbk] at hneq
    rw [h] at hneq
    clear hyes hno hbk
    obtain ⟨k0, k1, k2, k3, k4, k5, k6, k7, k8, k9, k10, k11, k12, k13, k14, kf⟩ := fifteen K2.out
    obtain ⟨j0, j1, j2, j3, j4, j5, j6, j7, j8, j9, j10, j11, j12, j13, j14, jf⟩ := fifteen J2.out
    go_wp2_with fail
    go_ret2
    exact ⟨⟨_, _, rfl, hP.out⟩, b2.out⟩
end Go.Proofs.Ytldlkoiekdlmhaa.Wi
