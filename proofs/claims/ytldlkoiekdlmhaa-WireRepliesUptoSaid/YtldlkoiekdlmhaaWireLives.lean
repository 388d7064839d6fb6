/-
  wire's calls: contracts. Written by wip/wiretopgen.py.
-/
import Derived.Test.YtldlkoiekdlmhaaWireWA
import Derived.Test.YtldlkoiekdlmhaaWireRR
namespace Go.Proofs.Ytldlkoiekdlmhaa.Wi
open Go.ChangeShapes Go.WideShapes Go.ChangeAt Go.RowKit
open Go.Proofs.Ytldlkoiekdlmhaa.Mem
open Go.Proofs.Ytldlkoiekdlmhaa.Lik (Kept)
open Go.Proofs.Ytldlkoiekdlmhaa.Crc hiding hid bt
set_option linter.unusedVariables false
set_option linter.unusedSimpArgs false
set_option maxRecDepth 100000
def a32 : Ask := { askZ with k := 3, tx := 2 }
def a10 : Ask := { askZ with k := 1 }
def r71 : Rep := { repZ with why := 7, n := 1 }
theorem askR_32 : askR a32 := by decide
theorem askR_10 : askR a10 := by decide
theorem askF_32 : askF a32 := ⟨⟨by decide, by decide, by decide, by decide⟩, chF1_zero, by decide, by decide, by decide, by decide, by decide, by decide, by decide⟩
theorem repR_71 : repR r71 := ⟨by decide, by decide, ⟨by decide, by simp [r71, repZ]⟩, ⟨by decide, by simp [r71, repZ]⟩⟩
theorem lw (w : World) : Calls Try.prog 9 #[.agg #[.int .u8 3, .int .u64 2, .int .u8 0, .string ⟨#[]⟩, .string ⟨#[]⟩, .string ⟨#[]⟩, .string ⟨#[]⟩, .int .u64 0, .string ⟨#[]⟩, .string ⟨#[]⟩, .string ⟨#[]⟩, .string ⟨#[]⟩, .string ⟨#[]⟩, .string ⟨#[]⟩, .string ⟨#[]⟩]] w fun e w' => e = .returned (.tuple #[.string ⟨#[3, 2, 0, 0, 0, 0, 0, 0, 0]⟩, .int .i64 0]) ∧ Below w.heap.size w w' := by
  refine (show Calls Try.prog 9 #[.agg #[.int .u8 3, .int .u64 2, .int .u8 0, .string ⟨#[]⟩, .string ⟨#[]⟩, .string ⟨#[]⟩, .string ⟨#[]⟩, .int .u64 0, .string ⟨#[]⟩, .string ⟨#[]⟩, .string ⟨#[]⟩, .string ⟨#[]⟩, .string ⟨#[]⟩, .string ⟨#[]⟩, .string ⟨#[]⟩]] w _ from writeask_any a32 w askF_32).mono ?_
  rintro e w' ⟨⟨s, z, rfl, h⟩, b⟩
  rcases h with ⟨rfl, _, rfl⟩ | ⟨_, hr, _⟩
  · exact ⟨rfl, b⟩
  · exact absurd askR_32 hr
theorem lr (w : World) : Calls Try.prog 11 #[.string ⟨#[1]⟩] w fun e w' => e = .returned (.tuple #[.agg #[.int .u8 1, .int .u64 0, .int .u8 0, .string ⟨#[]⟩, .string ⟨#[]⟩, .string ⟨#[]⟩, .string ⟨#[]⟩, .int .u64 0, .string ⟨#[]⟩, .string ⟨#[]⟩, .string ⟨#[]⟩, .string ⟨#[]⟩, .string ⟨#[]⟩, .string ⟨#[]⟩, .string ⟨#[]⟩], .int .i64 0]) ∧ Below w.heap.size w w' := by
  refine (readask_any ⟨#[1]⟩ w (by decide)).mono ?_
  rintro e w' ⟨⟨a, z, rfl, hF, h⟩, b⟩
  rcases h with ⟨rfl, hr, hn, he⟩ | ⟨_, _, hno⟩
  · obtain rfl : a = a10 := askE_inj hr askR_10 hn ⟨by decide, by decide, by decide, by decide⟩ (he.trans rfl)
    exact ⟨rfl, b⟩
  · exact absurd rfl (hno a10 askR_10 ⟨by decide, by decide, by decide, by decide⟩)
theorem lp (w : World) : Calls Try.prog 14 #[.agg #[.int .i64 7, .int .u64 1, .int .i64 0, .bool false, .slice none 0 0, .slice none 0 0]] w fun e w' => e = .returned (.tuple #[.string ⟨#[7, 1, 0, 0, 0, 0, 0, 0, 0, 0, 0, 0, 0]⟩, .int .i64 0]) ∧ Below w.heap.size w w' := by
  refine (show Calls Try.prog 14 #[.agg #[.int .i64 7, .int .u64 1, .int .i64 0, .bool false, .slice none 0 0, .slice none 0 0]] w _ from writereply_any r71 none none 0 0 w (SlV.nil _) (SlV.nil _) (by show (1 : Nat) < 18446744073709551616; decide) (by decide) (by decide) (by decide)).mono ?_
  rintro e w' ⟨⟨s, z, rfl, h⟩, b⟩
  rcases h with ⟨rfl, _, rfl⟩ | ⟨_, hr, _⟩
  · exact ⟨rfl, b⟩
  · exact absurd repR_71 hr
set_option maxHeartbeats 8000000 in
theorem wlives_any (w : World) : Calls Try.prog 13 #[] w fun e w' => e = .returned (.bool true) ∧ Below w.heap.size w w' := by
  go_enter Try.func13, Try.ntmps13
  go_wp2_with fail
  refine (lw _).mono ?_
  rintro e w1' ⟨rfl, b1⟩
  replace b1 := hid b1
  go_wp2_with fail
  refine (lr _).mono ?_
  rintro e w2 ⟨rfl, b2⟩
  replace b1 := hid (b1.out.trans (b2.mono b1.out.size))
  clear b2
  go_upto_region 3 with fail
  have K := hid (Blk.new w2 [.int .u8 1, .int .u64 0, .int .u8 0, .string ⟨#[]⟩, .string ⟨#[]⟩, .string ⟨#[]⟩, .string ⟨#[]⟩, .int .u64 0, .string ⟨#[]⟩, .string ⟨#[]⟩, .string ⟨#[]⟩, .string ⟨#[]⟩, .string ⟨#[]⟩, .string ⟨#[]⟩, .string ⟨#[]⟩] 30)
  replace b1 := hid (b1.out.alloc b1.out.size (.cells #[.int .u8 1, .int .u64 0, .int .u8 0, .string ⟨#[]⟩, .string ⟨#[]⟩, .string ⟨#[]⟩, .string ⟨#[]⟩, .int .u64 0, .string ⟨#[]⟩, .string ⟨#[]⟩, .string ⟨#[]⟩, .string ⟨#[]⟩, .string ⟨#[]⟩, .string ⟨#[]⟩, .string ⟨#[]⟩] 30))
  change Hid (Blk (w2.alloc (.cells #[.int .u8 1, .int .u64 0, .int .u8 0, .string ⟨#[]⟩, .string ⟨#[]⟩, .string ⟨#[]⟩, .string ⟨#[]⟩, .int .u64 0, .string ⟨#[]⟩, .string ⟨#[]⟩, .string ⟨#[]⟩, .string ⟨#[]⟩, .string ⟨#[]⟩, .string ⟨#[]⟩, .string ⟨#[]⟩] 30)) _ _ _) at K
  generalize w2.alloc (.cells #[.int .u8 1, .int .u64 0, .int .u8 0, .string ⟨#[]⟩, .string ⟨#[]⟩, .string ⟨#[]⟩, .string ⟨#[]⟩, .int .u64 0, .string ⟨#[]⟩, .string ⟨#[]⟩, .string ⟨#[]⟩, .string ⟨#[]⟩, .string ⟨#[]⟩, .string ⟨#[]⟩, .string ⟨#[]⟩] 30) = X at K b1 ⊢
  obtain ⟨pb, hpb⟩ : ∃ pb, w2.heap.size = pb := ⟨_, rfl⟩
  rw [hpb] at K ⊢
  clear hpb
  go_wp2_with fail
  refine (lp _).mono ?_
  rintro e w3 ⟨rfl, b3⟩
  replace K := hid (K.out.below b3 K.out.lt)
  replace b1 := hid (b1.out.trans (b3.mono b1.out.size))
  clear b3
  obtain ⟨k0, k1, k2, k3, k4, k5, k6, k7, k8, k9, k10, k11, k12, k13, k14, kf⟩ := fifteen K.out
  go_wp2_with fail
  go_ret
  exact ⟨rfl, b1.out⟩
theorem askF_of {a : Ask} (hN : askN a) (hB : a.c.i.size + a.c.t.size + a.c.ut.size + a.c.ui.size + a.s0.size + a.s1.size + a.s2.size + a.s3.size + a.s4.size + a.s5.size + a.s6.size ≤ 1048576) : askF a :=
  ⟨hN, ⟨hN.2.2.2, by omega, by omega, by omega, by omega⟩, by omega, by omega, by omega, by omega, by omega, by omega, by omega⟩
end Go.Proofs.Ytldlkoiekdlmhaa.Wi
