/-
  CrcMore: the walk.
-/
import Derived.Test.YtajbjfmbeknmnaaCrcCalls
namespace Go.Proofs.Ytajbjfmbeknmnaa.crcMore
open Go.ChangeShapes Go.WideShapes Go.ChangeAt Go.RowKit
open Go.Proofs.Ytajbjfmbeknmnaa.CrcMath Go.Proofs.Ytajbjfmbeknmnaa.Crc
set_option linter.unusedVariables false
theorem walk (a0 : Int) (a1 : ByteArray) (w : World) (w0 : (Lit.int .u32 a0).wf = true) (z1 : a1.size ≤ 140737488351232) :
    Calls Try.prog 4 #[.int .u32 a0, .string a1] w fun e w' => e = .returned (.bool true) ∧ Below w.heap.size w w' := by
  have w1 : a1.size ≤ maxLen := by unfold maxLen; omega
  have h0 := bounds_u32 w0
  obtain ⟨c, rfl⟩ : ∃ c : Nat, a0 = c := ⟨a0.toNat, by omega⟩
  have hc : c < 4294967296 := by omega
  clear w0 h0
  have hk : ((more 0 [49, 50, 51, 52, 53, 54, 55, 56, 57] : Nat) : Int) = 3421780262 := by rw [sum_check]; rfl
  go_enter Try.func4, Try.ntmps4
  go_wp2_with fail
  refine (more_any 0 _ _ (by omega) (by decide)).mono ?_
  rintro e w1 ⟨rfl, hb1⟩
  go_wp2_with fail
  clear hk
  refine (more_any c a1 _ hc ‹_›).mono ?_
  rintro e w2 ⟨rfl, hb2⟩
  go_wp2_with fail
  refine (refmore_any c a1 _ hc ‹_›).mono ?_
  rintro e w3 ⟨rfl, rfl⟩
  go_wp2_with fail
  go_ret
  exact ⟨by simp, hb1.trans (hb2.mono hb1.size)⟩
end Go.Proofs.Ytajbjfmbeknmnaa.crcMore
