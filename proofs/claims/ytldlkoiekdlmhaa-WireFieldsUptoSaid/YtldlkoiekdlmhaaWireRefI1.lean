/-
  wire's calls: contracts. Written by wip/wiretopgen.py.
-/
import Derived.Test.YtldlkoiekdlmhaaWireRefH
import Derived.Test.YtldlkoiekdlmhaaPkWireSame
import Derived.Test.YtldlkoiekdlmhaaPkWireRefE
namespace Go.Proofs.Ytldlkoiekdlmhaa.Wi
open Go.ChangeShapes Go.WideShapes Go.ChangeAt Go.RowKit
open Go.Proofs.Ytldlkoiekdlmhaa.Mem
open Go.Proofs.Ytldlkoiekdlmhaa.Lik (Kept)
open Go.Proofs.Ytldlkoiekdlmhaa.Crc hiding hid bt
set_option linter.unusedVariables false
set_option linter.unusedSimpArgs false
set_option maxRecDepth 100000
set_option maxHeartbeats 16000000 in
theorem writeask_ref1 (a : Ask) (w : World) (hF : askF a) (hk : a.k = 1 ∨ a.k = 7 ∨ a.k = 8) :
    Calls Try.prog 10 #[.agg #[.int .u8 (a.k : Nat), .int .u64 (a.tx : Nat), .int .u8 (a.c.k : Nat), .string a.c.i, .string a.c.t, .string a.c.ut, .string a.c.ui, .int .u64 (a.v : Nat), .string a.s0, .string a.s1, .string a.s2, .string a.s3, .string a.s4, .string a.s5, .string a.s6]] w fun e w' => (∃ (s : ByteArray) (z : Int), e = .returned (.tuple #[.string s, .int .i64 z]) ∧ AskW a s z) ∧ Below w.heap.size w w' := by
  have hk' := hid hk
  clear hk
  go_enter Try.func10, Try.ntmps10
  go_upto_region 1 with fail
  have K := hid (Blk.new w [.int .u8 (a.k : Nat), .int .u64 (a.tx : Nat), .int .u8 (a.c.k : Nat), .string a.c.i, .string a.c.t, .string a.c.ut, .string a.c.ui, .int .u64 (a.v : Nat), .string a.s0, .string a.s1, .string a.s2, .string a.s3, .string a.s4, .string a.s5, .string a.s6] 30)
  have bw := hid ((Below.refl w.heap.size w).alloc (Nat.le_refl _) (.cells #[.int .u8 (a.k : Nat), .int .u64 (a.tx : Nat), .int .u8 (a.c.k : Nat), .string a.c.i, .string a.c.t, .string a.c.ut, .string a.c.ui, .int .u64 (a.v : Nat), .string a.s0, .string a.s1, .string a.s2, .string a.s3, .string a.s4, .string a.s5, .string a.s6] 30))
  change Hid (Blk (w.alloc (.cells #[.int .u8 (a.k : Nat), .int .u64 (a.tx : Nat), .int .u8 (a.c.k : Nat), .string a.c.i, .string a.c.t, .string a.c.ut, .string a.c.ui, .int .u64 (a.v : Nat), .string a.s0, .string a.s1, .string a.s2, .string a.s3, .string a.s4, .string a.s5, .string a.s6] 30)) _ _ _) at K
  generalize w.alloc (.cells #[.int .u8 (a.k : Nat), .int .u64 (a.tx : Nat), .int .u8 (a.c.k : Nat), .string a.c.i, .string a.c.t, .string a.c.ut, .string a.c.ui, .int .u64 (a.v : Nat), .string a.s0, .string a.s1, .string a.s2, .string a.s3, .string a.s4, .string a.s5, .string a.s6] 30) = X at K bw ⊢
  obtain ⟨pb, hpb⟩ : ∃ pb, w.heap.size = pb := ⟨_, rfl⟩
  have hpw := hid (show w.heap.size ≤ pb by omega)
  rw [hpb] at K ⊢
  clear hpb
  obtain ⟨k0, k1, k2, k3, k4, k5, k6, k7, k8, k9, k10, k11, k12, k13, k14, kf⟩ := fifteen K.out
  go_wp2_with fail
  rw [convOne _ _ a.k (Blk.new X [.int .u8 (a.k : Nat)] 5)]
  replace K := hid (K.out.alloc (.cells #[.int .u8 (a.k : Nat)] 5))
  replace bw := hid (bw.out.alloc bw.out.size (.cells #[.int .u8 (a.k : Nat)] 5))
  generalize X.alloc (.cells #[.int .u8 (a.k : Nat)] 5) = Y at K bw ⊢
  clear k0 k1 k2 k3 k4 k5 k6 k7 k8 k9 k10 k11 k12 k13 k14 kf
  obtain ⟨k0, k1, k2, k3, k4, k5, k6, k7, k8, k9, k10, k11, k12, k13, k14, kf⟩ := fifteen K.out
  go_upto_region 3 with fail
  have hlt := hid K.out.lt
  have hsz := hid bw.out.size
  have J := hid (Blk.new Y [.int .u8 (a.k : Nat), .int .u64 0, .int .u8 0, .string ⟨#[]⟩, .string ⟨#[]⟩, .string ⟨#[]⟩, .string ⟨#[]⟩, .int .u64 0, .string ⟨#[]⟩, .string ⟨#[]⟩, .string ⟨#[]⟩, .string ⟨#[]⟩, .string ⟨#[]⟩, .string ⟨#[]⟩, .string ⟨#[]⟩] 30)
  replace K := hid (K.out.alloc (.cells #[.int .u8 (a.k : Nat), .int .u64 0, .int .u8 0, .string ⟨#[]⟩, .string ⟨#[]⟩, .string ⟨#[]⟩, .string ⟨#[]⟩, .int .u64 0, .string ⟨#[]⟩, .string ⟨#[]⟩, .string ⟨#[]⟩, .string ⟨#[]⟩, .string ⟨#[]⟩, .string ⟨#[]⟩, .string ⟨#[]⟩] 30))
  replace bw := hid (bw.out.alloc bw.out.size (.cells #[.int .u8 (a.k : Nat), .int .u64 0, .int .u8 0, .string ⟨#[]⟩, .string ⟨#[]⟩, .string ⟨#[]⟩, .string ⟨#[]⟩, .int .u64 0, .string ⟨#[]⟩, .string ⟨#[]⟩, .string ⟨#[]⟩, .string ⟨#[]⟩, .string ⟨#[]⟩, .string ⟨#[]⟩, .string ⟨#[]⟩] 30))
  change Hid (Blk (Y.alloc (.cells #[.int .u8 (a.k : Nat), .int .u64 0, .int .u8 0, .string ⟨#[]⟩, .string ⟨#[]⟩, .string ⟨#[]⟩, .string ⟨#[]⟩, .int .u64 0, .string ⟨#[]⟩, .string ⟨#[]⟩, .string ⟨#[]⟩, .string ⟨#[]⟩, .string ⟨#[]⟩, .string ⟨#[]⟩, .string ⟨#[]⟩] 30)) _ _ _) at J
  clear k0 k1 k2 k3 k4 k5 k6 k7 k8 k9 k10 k11 k12 k13 k14 kf
  generalize Y.alloc (.cells #[.int .u8 (a.k : Nat), .int .u64 0, .int .u8 0, .string ⟨#[]⟩, .string ⟨#[]⟩, .string ⟨#[]⟩, .string ⟨#[]⟩, .int .u64 0, .string ⟨#[]⟩, .string ⟨#[]⟩, .string ⟨#[]⟩, .string ⟨#[]⟩, .string ⟨#[]⟩, .string ⟨#[]⟩, .string ⟨#[]⟩] 30) = V at K J bw ⊢
  obtain ⟨bb, hbb⟩ : ∃ bb, Y.heap.size = bb := ⟨_, rfl⟩
  rw [hbb] at J ⊢
  have hne := hid (show bb ≠ pb ∧ w.heap.size ≤ bb by have := hlt.out; have := hsz.out; omega)
  clear hbb hlt hsz
  have hk := hk'.out
  obtain ⟨b, hb⟩ : ∃ b : Ask, { askZ with k := a.k } = b := ⟨_, rfl⟩
  change Hid (Blk V bb [.int .u8 (({ askZ with k := a.k } : Ask).k : Nat), .int .u64 (({ askZ with k := a.k } : Ask).tx : Nat), .int .u8 (({ askZ with k := a.k } : Ask).c.k : Nat), .string ({ askZ with k := a.k } : Ask).c.i, .string ({ askZ with k := a.k } : Ask).c.t, .string ({ askZ with k := a.k } : Ask).c.ut, .string ({ askZ with k := a.k } : Ask).c.ui, .int .u64 (({ askZ with k := a.k } : Ask).v : Nat), .string ({ askZ with k := a.k } : Ask).s0, .string ({ askZ with k := a.k } : Ask).s1, .string ({ askZ with k := a.k } : Ask).s2, .string ({ askZ with k := a.k } : Ask).s3, .string ({ askZ with k := a.k } : Ask).s4, .string ({ askZ with k := a.k } : Ask).s5, .string ({ askZ with k := a.k } : Ask).s6] 30) at J
  rw [hb] at J
  have hbk : b.k = a.k := by rw [← hb]
  have hyes : a = b → AskW a (bOne a.k) 0 := fun e => ask178_yes hk (by rw [hb]; exact e)
  have hno : a ≠ b → AskW a ⟨#[]⟩ 14 := fun e => ask178_no hk (by rw [hb]; exact e)
  rw [hbk] at J
  clear hb hF
  have hk' : (a.k : Int) = 1 ∨ (a.k : Int) = 7 ∨ (a.k : Int) = 8 := by omega
  by_cases hab : a = b
  · have hP := hid (hyes hab)
    subst hab
    clear hyes hno hbk
    rcases hk' with h | h | h
    all_goals
      obtain ⟨k0, k1, k2, k3, k4, k5, k6, k7, k8, k9, k10, k11, k12, k13, k14, kf⟩ := fifteen K.out
      obtain ⟨j0, j1, j2, j3, j4, j5, j6, j7, j8, j9, j10, j11, j12, j13, j14, jf⟩ := fifteen J.out
      rw [h] at k0 j0
      go_wp2_with fail
      go_ret2
      exact ⟨⟨_, _, rfl, hP.out⟩, bw.out⟩
  · have hP := hid (hno hab)
    have hneq := fun W => neq_ask b a hab W
    rw [hbk] at hneq
    clear hyes hno hbk
    rcases hk' with h | h | h
    all_goals
      obtain ⟨k0, k1, k2, k3, k4, k5, k6, k7, k8, k9, k10, k11, k12, k13, k14, kf⟩ := fifteen K.out
      obtain ⟨j0, j1, j2, j3, j4, j5, j6, j7, j8, j9, j10, j11, j12, j13, j14, jf⟩ := fifteen J.out
      rw [h] at k0 j0 hneq
      go_wp2_with fail
      go_ret2
      exact ⟨⟨_, _, rfl, hP.out⟩, bw.out⟩
set_option maxHeartbeats 16000000 in
theorem writeask_ref9 (a : Ask) (w : World) (hF : askF a) (hk : ¬ (1 ≤ a.k ∧ a.k ≤ 8)) :
    Calls Try.prog 10 #[.agg #[.int .u8 (a.k : Nat), .int .u64 (a.tx : Nat), .int .u8 (a.c.k : Nat), .string a.c.i, .string a.c.t, .string a.c.ut, .string a.c.ui, .int .u64 (a.v : Nat), .string a.s0, .string a.s1, .string a.s2, .string a.s3, .string a.s4, .string a.s5, .string a.s6]] w fun e w' => (∃ (s : ByteArray) (z : Int), e = .returned (.tuple #[.string s, .int .i64 z]) ∧ AskW a s z) ∧ Below w.heap.size w w' := by
  have hk' := hid hk
  clear hk
  go_enter Try.func10, Try.ntmps10
  go_upto_region 1 with fail
  have K := hid (Blk.new w [.int .u8 (a.k : Nat), .int .u64 (a.tx : Nat), .int .u8 (a.c.k : Nat), .string a.c.i, .string a.c.t, .string a.c.ut, .string a.c.ui, .int .u64 (a.v : Nat), .string a.s0, .string a.s1, .string a.s2, .string a.s3, .string a.s4, .string a.s5, .string a.s6] 30)
  have bw := hid ((Below.refl w.heap.size w).alloc (Nat.le_refl _) (.cells #[.int .u8 (a.k : Nat), .int .u64 (a.tx : Nat), .int .u8 (a.c.k : Nat), .string a.c.i, .string a.c.t, .string a.c.ut, .string a.c.ui, .int .u64 (a.v : Nat), .string a.s0, .string a.s1, .string a.s2, .string a.s3, .string a.s4, .string a.s5, .string a.s6] 30))
  change Hid (Blk (w.alloc (.cells #[.int .u8 (a.k : Nat), .int .u64 (a.tx : Nat), .int .u8 (a.c.k : Nat), .string a.c.i, .string a.c.t, .string a.c.ut, .string a.c.ui, .int .u64 (a.v : Nat), .string a.s0, .string a.s1, .string a.s2, .string a.s3, .string a.s4, .string a.s5, .string a.s6] 30)) _ _ _) at K
  generalize w.alloc (.cells #[.int .u8 (a.k : Nat), .int .u64 (a.tx : Nat), .int .u8 (a.c.k : Nat), .string a.c.i, .string a.c.t, .string a.c.ut, .string a.c.ui, .int .u64 (a.v : Nat), .string a.s0, .string a.s1, .string a.s2, .string a.s3, .string a.s4, .string a.s5, .string a.s6] 30) = X at K bw ⊢
  obtain ⟨pb, hpb⟩ : ∃ pb, w.heap.size = pb := ⟨_, rfl⟩
  have hpw := hid (show w.heap.size ≤ pb by omega)
  rw [hpb] at K ⊢
  clear hpb
  obtain ⟨k0, k1, k2, k3, k4, k5, k6, k7, k8, k9, k10, k11, k12, k13, k14, kf⟩ := fifteen K.out
  go_wp2_with fail
  rw [convOne _ _ a.k (Blk.new X [.int .u8 (a.k : Nat)] 5)]
  replace K := hid (K.out.alloc (.cells #[.int .u8 (a.k : Nat)] 5))
  replace bw := hid (bw.out.alloc bw.out.size (.cells #[.int .u8 (a.k : Nat)] 5))
  generalize X.alloc (.cells #[.int .u8 (a.k : Nat)] 5) = Y at K bw ⊢
  clear k0 k1 k2 k3 k4 k5 k6 k7 k8 k9 k10 k11 k12 k13 k14 kf
  obtain ⟨k0, k1, k2, k3, k4, k5, k6, k7, k8, k9, k10, k11, k12, k13, k14, kf⟩ := fifteen K.out
  go_upto_region 3 with fail
  have hlt := hid K.out.lt
  have hsz := hid bw.out.size
  have J := hid (Blk.new Y [.int .u8 (a.k : Nat), .int .u64 0, .int .u8 0, .string ⟨#[]⟩, .string ⟨#[]⟩, .string ⟨#[]⟩, .string ⟨#[]⟩, .int .u64 0, .string ⟨#[]⟩, .string ⟨#[]⟩, .string ⟨#[]⟩, .string ⟨#[]⟩, .string ⟨#[]⟩, .string ⟨#[]⟩, .string ⟨#[]⟩] 30)
  replace K := hid (K.out.alloc (.cells #[.int .u8 (a.k : Nat), .int .u64 0, .int .u8 0, .string ⟨#[]⟩, .string ⟨#[]⟩, .string ⟨#[]⟩, .string ⟨#[]⟩, .int .u64 0, .string ⟨#[]⟩, .string ⟨#[]⟩, .string ⟨#[]⟩, .string ⟨#[]⟩, .string ⟨#[]⟩, .string ⟨#[]⟩, .string ⟨#[]⟩] 30))
  replace bw := hid (bw.out.alloc bw.out.size (.cells #[.int .u8 (a.k : Nat), .int .u64 0, .int .u8 0, .string ⟨#[]⟩, .string ⟨#[]⟩, .string ⟨#[]⟩, .string ⟨#[]⟩, .int .u64 0, .string ⟨#[]⟩, .string ⟨#[]⟩, .string ⟨#[]⟩, .string ⟨#[]⟩, .string ⟨#[]⟩, .string ⟨#[]⟩, .string ⟨#[]⟩] 30))
  change Hid (Blk (Y.alloc (.cells #[.int .u8 (a.k : Nat), .int .u64 0, .int .u8 0, .string ⟨#[]⟩, .string ⟨#[]⟩, .string ⟨#[]⟩, .string ⟨#[]⟩, .int .u64 0, .string ⟨#[]⟩, .string ⟨#[]⟩, .string ⟨#[]⟩, .string ⟨#[]⟩, .string ⟨#[]⟩, .string ⟨#[]⟩, .string ⟨#[]⟩] 30)) _ _ _) at J
  clear k0 k1 k2 k3 k4 k5 k6 k7 k8 k9 k10 k11 k12 k13 k14 kf
  generalize Y.alloc (.cells #[.int .u8 (a.k : Nat), .int .u64 0, .int .u8 0, .string ⟨#[]⟩, .string ⟨#[]⟩, .string ⟨#[]⟩, .string ⟨#[]⟩, .int .u64 0, .string ⟨#[]⟩, .string ⟨#[]⟩, .string ⟨#[]⟩, .string ⟨#[]⟩, .string ⟨#[]⟩, .string ⟨#[]⟩, .string ⟨#[]⟩] 30) = V at K J bw ⊢
  obtain ⟨bb, hbb⟩ : ∃ bb, Y.heap.size = bb := ⟨_, rfl⟩
  rw [hbb] at J ⊢
  have hne := hid (show bb ≠ pb ∧ w.heap.size ≤ bb by have := hlt.out; have := hsz.out; omega)
  clear hbb hlt hsz
  have hk := hk'.out
  have hP := hid (show AskW a ⟨#[]⟩ 14 from .inr ⟨rfl, fun h => hk h.1, rfl⟩)
  obtain ⟨kk, hkk⟩ : ∃ kk : Int, (a.k : Int) = kk := ⟨_, rfl⟩
  have h1 : ¬ kk = 1 := by omega
  have h2 : ¬ kk = 2 := by omega
  have h3 : ¬ kk = 3 := by omega
  have h4 : ¬ kk = 4 := by omega
  have h5 : ¬ kk = 5 := by omega
  have h6 : ¬ kk = 6 := by omega
  have h7 : ¬ kk = 7 := by omega
  have h8 : ¬ kk = 8 := by omega
  clear hk hF
  obtain ⟨k0, k1, k2, k3, k4, k5, k6, k7, k8, k9, k10, k11, k12, k13, k14, kf⟩ := fifteen K.out
  rw [hkk] at k0
  clear hkk
  go_wp2_with fail
  go_ret2
  exact ⟨⟨_, _, rfl, hP.out⟩, bw.out⟩
end Go.Proofs.Ytldlkoiekdlmhaa.Wi
