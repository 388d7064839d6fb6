/-
  wire's calls: contracts. Written by wip/wiretopgen.py.
-/
import Derived.Test.YtldlkoiekdlmhaaPkWireRefK
import Derived.Test.YtldlkoiekdlmhaaPkWireRA
import Derived.Deep.RegionHeld3
import Derived.Deep.RegionWith
import Derived.BigRegion
import Derived.Test.YtldlkoiekdlmhaaWireRefJ1
import Derived.Test.YtldlkoiekdlmhaaWireRefJ2
import Derived.Test.YtldlkoiekdlmhaaWireRefJ3
import Derived.Test.YtldlkoiekdlmhaaWireRefJ5
import Derived.Test.YtldlkoiekdlmhaaWireRefJ6
namespace Go.Proofs.Ytldlkoiekdlmhaa.Wi
open Go.ChangeShapes Go.WideShapes Go.ChangeAt Go.RowKit
open Go.Proofs.Ytldlkoiekdlmhaa.Mem
open Go.Proofs.Ytldlkoiekdlmhaa.Lik (Kept)
open Go.Proofs.Ytldlkoiekdlmhaa.Crc hiding hid bt
set_option linter.unusedVariables false
set_option linter.unusedSimpArgs false
set_option maxRecDepth 100000
set_option maxHeartbeats 8000000 in
theorem readask_ref0 (s : ByteArray) (w : World) (h0 : s.size = 0) : Calls Try.prog 12 #[.string s] w fun e w' => (∃ (a : Ask) (z : Int), e = .returned (.tuple #[.agg #[.int .u8 (a.k : Nat), .int .u64 (a.tx : Nat), .int .u8 (a.c.k : Nat), .string a.c.i, .string a.c.t, .string a.c.ut, .string a.c.ui, .int .u64 (a.v : Nat), .string a.s0, .string a.s1, .string a.s2, .string a.s3, .string a.s4, .string a.s5, .string a.s6], .int .i64 z]) ∧ AskP s.data.toList a z) ∧ Below w.heap.size w w' := by
  obtain rfl : s = ⟨#[]⟩ := by
    have : s.data.toList = [] := by rw [← List.length_eq_zero_iff, len_size]; exact h0
    rw [← bs_of s, this]; rfl
  have hP := hid (show AskP (⟨#[]⟩ : ByteArray).data.toList askZ 14 from .inr ⟨rfl, rfl, fun a' _ _ h => by unfold askE at h; cases h⟩)
  go_enter Try.func12, Try.ntmps12
  go_upto_region 1 with fail
  have R := hid (Blk.new w [.int .u8 0, .int .u64 0, .int .u8 0, .string ⟨#[]⟩, .string ⟨#[]⟩, .string ⟨#[]⟩, .string ⟨#[]⟩, .int .u64 0, .string ⟨#[]⟩, .string ⟨#[]⟩, .string ⟨#[]⟩, .string ⟨#[]⟩, .string ⟨#[]⟩, .string ⟨#[]⟩, .string ⟨#[]⟩] 30)
  have bw := hid ((Below.refl w.heap.size w).alloc (Nat.le_refl _) (.cells #[.int .u8 0, .int .u64 0, .int .u8 0, .string ⟨#[]⟩, .string ⟨#[]⟩, .string ⟨#[]⟩, .string ⟨#[]⟩, .int .u64 0, .string ⟨#[]⟩, .string ⟨#[]⟩, .string ⟨#[]⟩, .string ⟨#[]⟩, .string ⟨#[]⟩, .string ⟨#[]⟩, .string ⟨#[]⟩] 30))
  change Hid (Blk (w.alloc (.cells #[.int .u8 0, .int .u64 0, .int .u8 0, .string ⟨#[]⟩, .string ⟨#[]⟩, .string ⟨#[]⟩, .string ⟨#[]⟩, .int .u64 0, .string ⟨#[]⟩, .string ⟨#[]⟩, .string ⟨#[]⟩, .string ⟨#[]⟩, .string ⟨#[]⟩, .string ⟨#[]⟩, .string ⟨#[]⟩] 30)) _ _ _) at R
  generalize w.alloc (.cells #[.int .u8 0, .int .u64 0, .int .u8 0, .string ⟨#[]⟩, .string ⟨#[]⟩, .string ⟨#[]⟩, .string ⟨#[]⟩, .int .u64 0, .string ⟨#[]⟩, .string ⟨#[]⟩, .string ⟨#[]⟩, .string ⟨#[]⟩, .string ⟨#[]⟩, .string ⟨#[]⟩, .string ⟨#[]⟩] 30) = w2 at R bw ⊢
  obtain ⟨rb, hr⟩ : ∃ rb, w.heap.size = rb := ⟨_, rfl⟩
  have hrb := hid (show w.heap.size ≤ rb by omega)
  rw [hr] at R ⊢
  clear hr
  have F1 := hid (R.out.row [.int .u8 0, .int .u64 0, .int .u8 0, .string ⟨#[]⟩, .string ⟨#[]⟩, .string ⟨#[]⟩, .string ⟨#[]⟩, .int .u64 0, .string ⟨#[]⟩, .string ⟨#[]⟩, .string ⟨#[]⟩, .string ⟨#[]⟩, .string ⟨#[]⟩, .string ⟨#[]⟩, .string ⟨#[]⟩])
  have F2 := hid (below_row bw.out hrb.out #[.int .u8 0, .int .u64 0, .int .u8 0, .string ⟨#[]⟩, .string ⟨#[]⟩, .string ⟨#[]⟩, .string ⟨#[]⟩, .int .u64 0, .string ⟨#[]⟩, .string ⟨#[]⟩, .string ⟨#[]⟩, .string ⟨#[]⟩, .string ⟨#[]⟩, .string ⟨#[]⟩, .string ⟨#[]⟩])
  go_upto_region 2 with fail
  refine wp_region_lit ?_
  refine wpList_build0 rfl 30 rfl #[.int .u8 0, .int .u64 0, .int .u8 0, .string ⟨#[]⟩, .string ⟨#[]⟩, .string ⟨#[]⟩, .string ⟨#[]⟩, .int .u64 0, .string ⟨#[]⟩, .string ⟨#[]⟩, .string ⟨#[]⟩, .string ⟨#[]⟩, .string ⟨#[]⟩, .string ⟨#[]⟩, .string ⟨#[]⟩] (by kernel_rfl) ?_
  refine wpList_store_row rfl 30 (.tmp 2) (.tmp 16) rfl rb #[.int .u8 0, .int .u64 0, .int .u8 0, .string ⟨#[]⟩, .string ⟨#[]⟩, .string ⟨#[]⟩, .string ⟨#[]⟩, .int .u64 0, .string ⟨#[]⟩, .string ⟨#[]⟩, .string ⟨#[]⟩, .string ⟨#[]⟩, .string ⟨#[]⟩, .string ⟨#[]⟩, .string ⟨#[]⟩] rfl rfl 30 _ R.out.at' (by kernel_rfl) rfl (by simp [Value.oneCell']) ?_
  generalize w2.setRow rb #[.int .u8 0, .int .u64 0, .int .u8 0, .string ⟨#[]⟩, .string ⟨#[]⟩, .string ⟨#[]⟩, .string ⟨#[]⟩, .int .u64 0, .string ⟨#[]⟩, .string ⟨#[]⟩, .string ⟨#[]⟩, .string ⟨#[]⟩, .string ⟨#[]⟩, .string ⟨#[]⟩, .string ⟨#[]⟩] = W3 at F1 F2 ⊢
  go_wp2_with fail
  refine bodyPost_ret (v := .tuple #[.agg #[.int .u8 0, .int .u64 0, .int .u8 0, .string ⟨#[]⟩, .string ⟨#[]⟩, .string ⟨#[]⟩, .string ⟨#[]⟩, .int .u64 0, .string ⟨#[]⟩, .string ⟨#[]⟩, .string ⟨#[]⟩, .string ⟨#[]⟩, .string ⟨#[]⟩, .string ⟨#[]⟩, .string ⟨#[]⟩], .int .i64 14]) (results_ct Try.results12 _ _ rb 30 _ (0, 0) _ rfl F1.out.at' Try.underlying30 rfl (by kernel_rfl)) rfl ?_
  exact ⟨⟨askZ, 14, rfl, hP.out⟩, F2.out⟩
end Go.Proofs.Ytldlkoiekdlmhaa.Wi
namespace Go.Proofs.Ytldlkoiekdlmhaa.Wi
open Go.ChangeShapes Go.WideShapes Go.ChangeAt Go.RowKit
open Go.Proofs.Ytldlkoiekdlmhaa.Mem
open Go.Proofs.Ytldlkoiekdlmhaa.Lik (Kept)
open Go.Proofs.Ytldlkoiekdlmhaa.Crc hiding hid bt
set_option linter.unusedVariables false
set_option linter.unusedSimpArgs false
set_option maxRecDepth 100000
theorem readask_ref (s : ByteArray) (w : World) (hs : s.size ≤ 16777216) : Calls Try.prog 12 #[.string s] w fun e w' => (∃ (a : Ask) (z : Int), e = .returned (.tuple #[.agg #[.int .u8 (a.k : Nat), .int .u64 (a.tx : Nat), .int .u8 (a.c.k : Nat), .string a.c.i, .string a.c.t, .string a.c.ut, .string a.c.ui, .int .u64 (a.v : Nat), .string a.s0, .string a.s1, .string a.s2, .string a.s3, .string a.s4, .string a.s5, .string a.s6], .int .i64 z]) ∧ AskP s.data.toList a z) ∧ Below w.heap.size w w' := by
  by_cases h0 : s.size = 0
  · exact readask_ref0 s w h0
  have hpos : 0 < s.size := by omega
  have hl : s.data.toList = s[0] :: (s.extract 1 s.size).data.toList := by
    rw [ext_drop _ _ (by omega)]
    have : ∀ (l : List UInt8) (h : 0 < l.length), l = l[0] :: l.drop 1 := by
      intro l h
      match l, h with
      | a :: t, _ => rfl
    exact this s.data.toList (by rw [len_size]; exact hpos)
  have hxs : (s.extract 1 s.size).size ≤ 16777216 := by rw [← len_size, ext_drop _ _ (by omega), List.length_drop, len_size]; omega
  by_cases h2 : s[0].toNat = 2
  · exact readask_ref2 s _ _ w hs hpos rfl rfl hl hxs h2
  by_cases h3 : s[0].toNat = 3 ∨ s[0].toNat = 4
  · exact readask_ref3 s _ _ w hs hpos rfl rfl hl hxs h3
  by_cases h5 : s[0].toNat = 5
  · exact readask_ref5 s _ _ w hs hpos rfl rfl hl hxs h5
  by_cases h6 : s[0].toNat = 6
  · exact readask_ref6 s _ _ w hs hpos rfl rfl hl hxs h6
  exact readask_ref1 s _ _ w hs hpos rfl rfl hl hxs (by omega)
end Go.Proofs.Ytldlkoiekdlmhaa.Wi
