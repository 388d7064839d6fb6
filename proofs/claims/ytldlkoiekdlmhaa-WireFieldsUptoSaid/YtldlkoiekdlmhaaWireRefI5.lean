/-
  wire's calls: contracts. Written by wip/wiretopgen.py.
-/
import Derived.Test.YtldlkoiekdlmhaaWireRefH
import Derived.Test.YtldlkoiekdlmhaaPkWireSame
import Derived.Test.YtldlkoiekdlmhaaPkWireRefE
namespace Go.Proofs.Ytldlkoiekdlmhaa.Wi
open Go.ChangeShapes Go.WideShapes Go.ChangeAt Go.RowKit
open Go.Proofs.Ytldlkoiekdlmhaa.Mem
open Go.Proofs.Ytldlkoiekdlmhaa.Lik (Kept)
open Go.Proofs.Ytldlkoiekdlmhaa.Crc hiding hid bt
set_option linter.unusedVariables false
set_option linter.unusedSimpArgs false
set_option maxRecDepth 100000
set_option maxHeartbeats 16000000 in
theorem writeask_ref5 (a : Ask) (w : World) (hF : askF a) (hk : a.k = 5) :
    Calls Try.prog 10 #[.agg #[.int .u8 (a.k : Nat), .int .u64 (a.tx : Nat), .int .u8 (a.c.k : Nat), .string a.c.i, .string a.c.t, .string a.c.ut, .string a.c.ui, .int .u64 (a.v : Nat), .string a.s0, .string a.s1, .string a.s2, .string a.s3, .string a.s4, .string a.s5, .string a.s6]] w fun e w' => (∃ (s : ByteArray) (z : Int), e = .returned (.tuple #[.string s, .int .i64 z]) ∧ AskW a s z) ∧ Below w.heap.size w w' := by
  have hk' := hid hk
  clear hk
  go_enter Try.func10, Try.ntmps10
  go_upto_region 1 with fail
  have K := hid (Blk.new w [.int .u8 (a.k : Nat), .int .u64 (a.tx : Nat), .int .u8 (a.c.k : Nat), .string a.c.i, .string a.c.t, .string a.c.ut, .string a.c.ui, .int .u64 (a.v : Nat), .string a.s0, .string a.s1, .string a.s2, .string a.s3, .string a.s4, .string a.s5, .string a.s6] 30)
  have bw := hid ((Below.refl w.heap.size w).alloc (Nat.le_refl _) (.cells #[.int .u8 (a.k : Nat), .int .u64 (a.tx : Nat), .int .u8 (a.c.k : Nat), .string a.c.i, .string a.c.t, .string a.c.ut, .string a.c.ui, .int .u64 (a.v : Nat), .string a.s0, .string a.s1, .string a.s2, .string a.s3, .string a.s4, .string a.s5, .string a.s6] 30))
  change Hid (Blk (w.alloc (.cells #[.int .u8 (a.k : Nat), .int .u64 (a.tx : Nat), .int .u8 (a.c.k : Nat), .string a.c.i, .string a.c.t, .string a.c.ut, .string a.c.ui, .int .u64 (a.v : Nat), .string a.s0, .string a.s1, .string a.s2, .string a.s3, .string a.s4, .string a.s5, .string a.s6] 30)) _ _ _) at K
  generalize w.alloc (.cells #[.int .u8 (a.k : Nat), .int .u64 (a.tx : Nat), .int .u8 (a.c.k : Nat), .string a.c.i, .string a.c.t, .string a.c.ut, .string a.c.ui, .int .u64 (a.v : Nat), .string a.s0, .string a.s1, .string a.s2, .string a.s3, .string a.s4, .string a.s5, .string a.s6] 30) = X at K bw ⊢
  obtain ⟨pb, hpb⟩ : ∃ pb, w.heap.size = pb := ⟨_, rfl⟩
  have hpw := hid (show w.heap.size ≤ pb by omega)
  rw [hpb] at K ⊢
  clear hpb
  obtain ⟨k0, k1, k2, k3, k4, k5, k6, k7, k8, k9, k10, k11, k12, k13, k14, kf⟩ := fifteen K.out
  go_wp2_with fail
  rw [convOne _ _ a.k (Blk.new X [.int .u8 (a.k : Nat)] 5)]
  replace K := hid (K.out.alloc (.cells #[.int .u8 (a.k : Nat)] 5))
  replace bw := hid (bw.out.alloc bw.out.size (.cells #[.int .u8 (a.k : Nat)] 5))
  generalize X.alloc (.cells #[.int .u8 (a.k : Nat)] 5) = Y at K bw ⊢
  clear k0 k1 k2 k3 k4 k5 k6 k7 k8 k9 k10 k11 k12 k13 k14 kf
  obtain ⟨k0, k1, k2, k3, k4, k5, k6, k7, k8, k9, k10, k11, k12, k13, k14, kf⟩ := fifteen K.out
  go_upto_region 3 with fail
  have hlt := hid K.out.lt
  have hsz := hid bw.out.size
  have J := hid (Blk.new Y [.int .u8 (a.k : Nat), .int .u64 0, .int .u8 0, .string ⟨#[]⟩, .string ⟨#[]⟩, .string ⟨#[]⟩, .string ⟨#[]⟩, .int .u64 0, .string ⟨#[]⟩, .string ⟨#[]⟩, .string ⟨#[]⟩, .string ⟨#[]⟩, .string ⟨#[]⟩, .string ⟨#[]⟩, .string ⟨#[]⟩] 30)
  replace K := hid (K.out.alloc (.cells #[.int .u8 (a.k : Nat), .int .u64 0, .int .u8 0, .string ⟨#[]⟩, .string ⟨#[]⟩, .string ⟨#[]⟩, .string ⟨#[]⟩, .int .u64 0, .string ⟨#[]⟩, .string ⟨#[]⟩, .string ⟨#[]⟩, .string ⟨#[]⟩, .string ⟨#[]⟩, .string ⟨#[]⟩, .string ⟨#[]⟩] 30))
  replace bw := hid (bw.out.alloc bw.out.size (.cells #[.int .u8 (a.k : Nat), .int .u64 0, .int .u8 0, .string ⟨#[]⟩, .string ⟨#[]⟩, .string ⟨#[]⟩, .string ⟨#[]⟩, .int .u64 0, .string ⟨#[]⟩, .string ⟨#[]⟩, .string ⟨#[]⟩, .string ⟨#[]⟩, .string ⟨#[]⟩, .string ⟨#[]⟩, .string ⟨#[]⟩] 30))
  change Hid (Blk (Y.alloc (.cells #[.int .u8 (a.k : Nat), .int .u64 0, .int .u8 0, .string ⟨#[]⟩, .string ⟨#[]⟩, .string ⟨#[]⟩, .string ⟨#[]⟩, .int .u64 0, .string ⟨#[]⟩, .string ⟨#[]⟩, .string ⟨#[]⟩, .string ⟨#[]⟩, .string ⟨#[]⟩, .string ⟨#[]⟩, .string ⟨#[]⟩] 30)) _ _ _) at J
  clear k0 k1 k2 k3 k4 k5 k6 k7 k8 k9 k10 k11 k12 k13 k14 kf
  generalize Y.alloc (.cells #[.int .u8 (a.k : Nat), .int .u64 0, .int .u8 0, .string ⟨#[]⟩, .string ⟨#[]⟩, .string ⟨#[]⟩, .string ⟨#[]⟩, .int .u64 0, .string ⟨#[]⟩, .string ⟨#[]⟩, .string ⟨#[]⟩, .string ⟨#[]⟩, .string ⟨#[]⟩, .string ⟨#[]⟩, .string ⟨#[]⟩] 30) = V at K J bw ⊢
  obtain ⟨bb, hbb⟩ : ∃ bb, Y.heap.size = bb := ⟨_, rfl⟩
  rw [hbb] at J ⊢
  have hne := hid (show bb ≠ pb ∧ w.heap.size ≤ bb by have := hlt.out; have := hsz.out; omega)
  clear hbb hlt hsz
  have h : (a.k : Int) = 5 := by have := hk'.out; omega
  obtain ⟨b, hb⟩ : ∃ b : Ask, { askZ with k := a.k, s0 := a.s0, s1 := a.s1, s2 := a.s2, s3 := a.s3, s4 := a.s4, s5 := a.s5, s6 := a.s6 } = b := ⟨_, rfl⟩
  have hbk : b.k = a.k := by rw [← hb]
  have heb : ({ askZ with k := a.k, v := if a.k = 6 then a.v else 0, s0 := a.s0, s1 := a.s1, s2 := a.s2, s3 := a.s3, s4 := a.s4, s5 := a.s5, s6 := a.s6 } : Ask) = b := by rw [← hb, if_neg (show ¬ a.k = 6 by have := hk'.out; omega)]; rfl
  have hno : a ≠ b → AskW a ⟨#[]⟩ 14 := fun e => ask56_no (.inl hk'.out) (by rw [heb]; exact e)
  have hyes : a = b → qS a → AskW a (bs (askE a)) 0 := fun e hq => ask56_yes (.inl hk'.out) hq (by rw [heb]; exact e)
  have hbad := hid (show ¬ qS a → AskW a ⟨#[]⟩ 14 from fun hq => ask56_bad (.inl hk'.out) hq)
  have hyes' := hid hyes
  have hno' := hid hno
  have hF7 := hid hF.2.2
  have hE := hid (show bs (askE a) = bs ([UInt8.ofNat 5] ++ qE a) by unfold askE askT; rw [if_neg (by have := hk'.out; omega), if_neg (by have := hk'.out; omega), if_pos hk'.out, hk'.out]; rfl)
  have hb' := hid hb
  have hbk' := hid hbk
  have hput := hid (fun W => refput64_any a.v W hF.1.2.2.1)
  rw [show (⟨(leb 8 a.v).toArray⟩ : ByteArray) = bs (leb 8 a.v) from rfl] at hput
  clear hyes hno hb hbk heb hF
  have hacc := hid (show bOne a.k = bs ([UInt8.ofNat 5]) by rw [hk'.out]; rfl)
  have hpre := hid (show ([UInt8.ofNat 5] : List UInt8).length ≤ 9 by simp [leb_len])
  generalize [UInt8.ofNat 5] = pre at hE hacc hpre
  obtain ⟨k0, k1, k2, k3, k4, k5, k6, k7, k8, k9, k10, k11, k12, k13, k14, kf⟩ := fifteen K.out
  obtain ⟨j0, j1, j2, j3, j4, j5, j6, j7, j8, j9, j10, j11, j12, j13, j14, jf⟩ := fifteen J.out
  rw [h] at k0
  have h1 := hne.out.1
  have h1' : pb ≠ bb := fun e => h1 e.symm
  go_wp2_with fail
  go_region
  have J2 := hid (((((((J.out.set 8 (.string a.s0)).set 9 (.string a.s1)).set 10 (.string a.s2)).set 11 (.string a.s3)).set 12 (.string a.s4)).set 13 (.string a.s5)).set 14 (.string a.s6)).drew
  have K2 := hid (oth_stL K.out hne.out.1 [.string a.s0, .string a.s1, .string a.s2, .string a.s3, .string a.s4, .string a.s5, .string a.s6] 8).drew
  have b2 := hid (bel_stL hne.out.2 [.string a.s0, .string a.s1, .string a.s2, .string a.s3, .string a.s4, .string a.s5, .string a.s6] V 8 bw.out).drew
  change Hid (Blk ((((((((V.setCell ⟨bb, 8, none⟩ (.string a.s0)).setCell ⟨bb, 9, none⟩ (.string a.s1)).setCell ⟨bb, 10, none⟩ (.string a.s2)).setCell ⟨bb, 11, none⟩ (.string a.s3)).setCell ⟨bb, 12, none⟩ (.string a.s4)).setCell ⟨bb, 13, none⟩ (.string a.s5)).setCell ⟨bb, 14, none⟩ (.string a.s6)).drew) bb [.int .u8 (({ askZ with k := a.k, s0 := a.s0, s1 := a.s1, s2 := a.s2, s3 := a.s3, s4 := a.s4, s5 := a.s5, s6 := a.s6 } : Ask).k : Nat), .int .u64 (({ askZ with k := a.k, s0 := a.s0, s1 := a.s1, s2 := a.s2, s3 := a.s3, s4 := a.s4, s5 := a.s5, s6 := a.s6 } : Ask).tx : Nat), .int .u8 (({ askZ with k := a.k, s0 := a.s0, s1 := a.s1, s2 := a.s2, s3 := a.s3, s4 := a.s4, s5 := a.s5, s6 := a.s6 } : Ask).c.k : Nat), .string ({ askZ with k := a.k, s0 := a.s0, s1 := a.s1, s2 := a.s2, s3 := a.s3, s4 := a.s4, s5 := a.s5, s6 := a.s6 } : Ask).c.i, .string ({ askZ with k := a.k, s0 := a.s0, s1 := a.s1, s2 := a.s2, s3 := a.s3, s4 := a.s4, s5 := a.s5, s6 := a.s6 } : Ask).c.t, .string ({ askZ with k := a.k, s0 := a.s0, s1 := a.s1, s2 := a.s2, s3 := a.s3, s4 := a.s4, s5 := a.s5, s6 := a.s6 } : Ask).c.ut, .string ({ askZ with k := a.k, s0 := a.s0, s1 := a.s1, s2 := a.s2, s3 := a.s3, s4 := a.s4, s5 := a.s5, s6 := a.s6 } : Ask).c.ui, .int .u64 (({ askZ with k := a.k, s0 := a.s0, s1 := a.s1, s2 := a.s2, s3 := a.s3, s4 := a.s4, s5 := a.s5, s6 := a.s6 } : Ask).v : Nat), .string ({ askZ with k := a.k, s0 := a.s0, s1 := a.s1, s2 := a.s2, s3 := a.s3, s4 := a.s4, s5 := a.s5, s6 := a.s6 } : Ask).s0, .string ({ askZ with k := a.k, s0 := a.s0, s1 := a.s1, s2 := a.s2, s3 := a.s3, s4 := a.s4, s5 := a.s5, s6 := a.s6 } : Ask).s1, .string ({ askZ with k := a.k, s0 := a.s0, s1 := a.s1, s2 := a.s2, s3 := a.s3, s4 := a.s4, s5 := a.s5, s6 := a.s6 } : Ask).s2, .string ({ askZ with k := a.k, s0 := a.s0, s1 := a.s1, s2 := a.s2, s3 := a.s3, s4 := a.s4, s5 := a.s5, s6 := a.s6 } : Ask).s3, .string ({ askZ with k := a.k, s0 := a.s0, s1 := a.s1, s2 := a.s2, s3 := a.s3, s4 := a.s4, s5 := a.s5, s6 := a.s6 } : Ask).s4, .string ({ askZ with k := a.k, s0 := a.s0, s1 := a.s1, s2 := a.s2, s3 := a.s3, s4 := a.s4, s5 := a.s5, s6 := a.s6 } : Ask).s5, .string ({ askZ with k := a.k, s0 := a.s0, s1 := a.s1, s2 := a.s2, s3 := a.s3, s4 := a.s4, s5 := a.s5, s6 := a.s6 } : Ask).s6] 30) at J2
  change Hid (Blk ((((((((V.setCell ⟨bb, 8, none⟩ (.string a.s0)).setCell ⟨bb, 9, none⟩ (.string a.s1)).setCell ⟨bb, 10, none⟩ (.string a.s2)).setCell ⟨bb, 11, none⟩ (.string a.s3)).setCell ⟨bb, 12, none⟩ (.string a.s4)).setCell ⟨bb, 13, none⟩ (.string a.s5)).setCell ⟨bb, 14, none⟩ (.string a.s6)).drew) pb _ _) at K2
  change Hid (Below w.heap.size w ((((((((V.setCell ⟨bb, 8, none⟩ (.string a.s0)).setCell ⟨bb, 9, none⟩ (.string a.s1)).setCell ⟨bb, 10, none⟩ (.string a.s2)).setCell ⟨bb, 11, none⟩ (.string a.s3)).setCell ⟨bb, 12, none⟩ (.string a.s4)).setCell ⟨bb, 13, none⟩ (.string a.s5)).setCell ⟨bb, 14, none⟩ (.string a.s6)).drew)) at b2
  clear k0 k1 k2 k3 k4 k5 k6 k7 k8 k9 k10 k11 k12 k13 k14 kf j0 j1 j2 j3 j4 j5 j6 j7 j8 j9 j10 j11 j12 j13 j14 jf K J bw
  generalize (((((((V.setCell ⟨bb, 8, none⟩ (.string a.s0)).setCell ⟨bb, 9, none⟩ (.string a.s1)).setCell ⟨bb, 10, none⟩ (.string a.s2)).setCell ⟨bb, 11, none⟩ (.string a.s3)).setCell ⟨bb, 12, none⟩ (.string a.s4)).setCell ⟨bb, 13, none⟩ (.string a.s5)).setCell ⟨bb, 14, none⟩ (.string a.s6)).drew = V3 at K2 J2 b2 ⊢
  rw [hb'.out] at J2
  rw [hbk'.out] at J2
  obtain ⟨k0, k1, k2, k3, k4, k5, k6, k7, k8, k9, k10, k11, k12, k13, k14, kf⟩ := fifteen K2.out
  go_wp2_with fail
  clear k0 k1 k2 k3 k4 k5 k6 k7 k8 k9 k10 k11 k12 k13 k14 kf
  have G := hid (Blk.new V3 [.string a.s0, .string a.s1, .string a.s2, .string a.s3, .string a.s4, .string a.s5, .string a.s6] 9)
  have K := hid (K2.out.alloc (.cells #[.string a.s0, .string a.s1, .string a.s2, .string a.s3, .string a.s4, .string a.s5, .string a.s6] 9))
  have J := hid (J2.out.alloc (.cells #[.string a.s0, .string a.s1, .string a.s2, .string a.s3, .string a.s4, .string a.s5, .string a.s6] 9))
  have bw := hid (b2.out.alloc b2.out.size (.cells #[.string a.s0, .string a.s1, .string a.s2, .string a.s3, .string a.s4, .string a.s5, .string a.s6] 9))
  change Hid (Blk (V3.alloc (.cells #[.string a.s0, .string a.s1, .string a.s2, .string a.s3, .string a.s4, .string a.s5, .string a.s6] 9)) _ (strC [a.s0, a.s1, a.s2, a.s3, a.s4, a.s5, a.s6]) _) at G
  clear K2 J2 b2
  generalize V3.alloc (.cells #[.string a.s0, .string a.s1, .string a.s2, .string a.s3, .string a.s4, .string a.s5, .string a.s6] 9) = V4 at G K J bw ⊢
  obtain ⟨g, hg⟩ : ∃ g, V3.heap.size = g := ⟨_, rfl⟩
  rw [hg] at G ⊢
  clear hg
  have hbnd := hid (show ∀ s ∈ [a.s0, a.s1, a.s2, a.s3, a.s4, a.s5, a.s6], s.size ≤ 1048576 by have := hF7.out; simp; omega)
  have hqi := hid (show qS a ↔ ∀ s ∈ [a.s0, a.s1, a.s2, a.s3, a.s4, a.s5, a.s6], s.size ≤ 2048 by simp [qS])
  have hqe := hid (show qE a = ([a.s0, a.s1, a.s2, a.s3, a.s4, a.s5, a.s6]).flatMap txt by simp [qE])
  have hl7 := hid (show ([a.s0, a.s1, a.s2, a.s3, a.s4, a.s5, a.s6]).length = 7 from rfl)
  generalize [a.s0, a.s1, a.s2, a.s3, a.s4, a.s5, a.s6] = LL at G hbnd hqi hqe hl7
  rw [hqe.out] at hE
  rw [hacc.out]
  go_loopw [4, 106] (fun v i wr => ∃ (j : Nat), j ≤ 7 ∧ i = .int .i64 j ∧ v = .string (bs (pre ++ (LL.take j).flatMap txt)) ∧ Hid ((pre ++ (LL.take j).flatMap txt).length ≤ 9 + j * 1048580) ∧ Hid (∀ s ∈ LL.take j, s.size ≤ 2048) ∧ Hid (Blk wr g (strC LL) 9) ∧ Hid (Blk wr pb [.int .u8 (a.k : Nat), .int .u64 (a.tx : Nat), .int .u8 (a.c.k : Nat), .string a.c.i, .string a.c.t, .string a.c.ut, .string a.c.ui, .int .u64 (a.v : Nat), .string a.s0, .string a.s1, .string a.s2, .string a.s3, .string a.s4, .string a.s5, .string a.s6] 30) ∧ Hid (Blk wr bb [.int .u8 (a.k : Nat), .int .u64 (b.tx : Nat), .int .u8 (b.c.k : Nat), .string b.c.i, .string b.c.t, .string b.c.ut, .string b.c.ui, .int .u64 (b.v : Nat), .string b.s0, .string b.s1, .string b.s2, .string b.s3, .string b.s4, .string b.s5, .string b.s6] 30) ∧ Hid (Below w.heap.size w wr)) (fun _ i _ => 7 - (intOf i).toNat)
  case atStart => exact ⟨0, by omega, rfl, by rw [List.take_zero, List.flatMap_nil, List.append_nil], hid (by rw [List.take_zero, List.flatMap_nil, List.append_nil]; have := hpre.out; omega), hid (by simp), G, K, J, bw⟩
  case round =>
    clear G K J bw hpre hacc
    obtain ⟨j, hj, rfl, rfl, hsz, hs, G, K, J, bw⟩ := hrel
    by_cases hjn : j < 7
    · have hji : (j : Int) < 7 := by omega
      have hji0 : (0 : Int) ≤ (j : Int) := by omega
      have hjl : j < LL.length := by rw [hl7.out]; exact hjn
      have hx : wr.cell? ⟨g, j, none⟩ = some (.string LL[j]) := by
        have := G.out.cell j (by rw [strC_len]; exact hjl)
        rw [this]
        simp [strC]
      have htk2 := hid (show LL.take (j + 1) = LL.take j ++ [LL[j]] from List.take_succ_eq_append_getElem hjl)
      have hmem := hid (show LL[j] ∈ LL from List.getElem_mem hjl)
      have hsb := hid (hbnd.out _ hmem.out)
      generalize LL[j] = s at hx htk2 hmem hsb
      have hsm : s.size ≤ 1048576 := hsb.out
      by_cases h2 : s.size ≤ 2048
      · have hi3 : ¬ (2048 : Int) < (s.size : Int) := by omega
        have htx := hid (bs_size (txt s))
        rw [txt_len] at htx
        have hfl := hid (show pre ++ (LL.take (j + 1)).flatMap txt = (pre ++ (LL.take j).flatMap txt) ++ txt s by rw [htk2.out, List.flatMap_append]; simp)
        have hnew := hid (show bs (pre ++ (LL.take j).flatMap txt) ++ bs (txt s) = bs (pre ++ (LL.take (j + 1)).flatMap txt) by rw [app_bs, hfl.out])
        have hst := hid (bs_size (pre ++ (LL.take j).flatMap txt))
        go_wp2_with fail
        refine (text_ref s wr (by omega)).mono ?_
        rintro e w3 ⟨rfl, q3⟩
        replace G := hid (G.out.below q3 G.out.lt)
        replace K := hid (K.out.below q3 K.out.lt)
        replace J := hid (J.out.below q3 J.out.lt)
        replace bw := hid (bw.out.trans (q3.mono bw.out.size))
        have hsum : ¬ 9223372036854775807 < (bs (pre ++ (LL.take j).flatMap txt)).size + (bs (txt s)).size := by have := hst.out; have := htx.out; have := hsz.out; omega
        have hl2 := hid (show (pre ++ (LL.take (j + 1)).flatMap txt).length ≤ 9 + (j + 1) * 1048580 by rw [hfl.out, List.length_append, txt_len]; have := hsz.out; omega)
        clear q3 hst hx
        generalize hA : bs (pre ++ (LL.take j).flatMap txt) = A at hsum hnew
        generalize hB : bs (txt s) = B at hsum hnew
        go_wp2_with fail
        go_roundw
        case rel => exact ⟨j + 1, by omega, by go_num, by rw [hnew.out], hl2, hid (by
          rw [htk2.out]
          intro x hx
          rcases List.mem_append.1 hx with hx | hx
          · exact hs.out x hx
          · rw [List.mem_singleton.1 hx]; exact h2), G, K, J, bw⟩
        case measure => simp [intOf]; omega
      · have hi3 : (2048 : Int) < (s.size : Int) := by omega
        have hP := hid (hbad.out (fun hq => h2 (hqi.out.1 hq _ hmem.out)))
        go_wp2_with fail
        go_ret2
        exact ⟨⟨_, _, rfl, hP.out⟩, bw.out⟩
    · obtain rfl : j = 7 := by omega
      have hji : ¬ (7 : Int) < 7 := by decide
      have hall : LL.take 7 = LL := List.take_of_length_le (by rw [hl7.out]; exact Nat.le_refl _)
      rw [hall] at hs ⊢
      rw [← hE.out]
      have hq := hid (hqi.out.2 hs.out)
      have hy := hid (fun e => hyes'.out e hq.out)
      generalize bs (askE a) = FS at hy ⊢
      clear hs hE hsz hall hyes' hq hbad hqi hqe hbnd hF7 G hput
      by_cases hab : a = b
      · have hP := hid (hy.out hab)
        subst hab
        clear hy hno' hbk' hb'
        obtain ⟨k0, k1, k2, k3, k4, k5, k6, k7, k8, k9, k10, k11, k12, k13, k14, kf⟩ := fifteen K.out
        obtain ⟨j0, j1, j2, j3, j4, j5, j6, j7, j8, j9, j10, j11, j12, j13, j14, jf⟩ := fifteen J.out
        go_wp2_with fail
        go_ret2
        exact ⟨⟨_, _, rfl, hP.out⟩, bw.out⟩
      · have hP := hid (hno'.out hab)
        have hneq := fun W => neq_ask b a hab W
        rw [hbk'.out] at hneq
        rw [h] at hneq
        clear hy hno' hbk' hb'
        obtain ⟨k0, k1, k2, k3, k4, k5, k6, k7, k8, k9, k10, k11, k12, k13, k14, kf⟩ := fifteen K.out
        obtain ⟨j0, j1, j2, j3, j4, j5, j6, j7, j8, j9, j10, j11, j12, j13, j14, jf⟩ := fifteen J.out
        go_wp2_with fail
        go_ret2
        exact ⟨⟨_, _, rfl, hP.out⟩, bw.out⟩
end Go.Proofs.Ytldlkoiekdlmhaa.Wi
