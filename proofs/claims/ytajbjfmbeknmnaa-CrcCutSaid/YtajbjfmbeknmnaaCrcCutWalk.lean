/-
  CrcCut: the walk.
-/
import Derived.Test.YtajbjfmbeknmnaaCrcCalls
import Derived.Deep.RegionWith
namespace Go.Proofs.Ytajbjfmbeknmnaa.crcCut
open Go.ChangeShapes Go.WideShapes Go.ChangeAt Go.RowKit
open Go.Proofs.Ytajbjfmbeknmnaa.CrcMath Go.Proofs.Ytajbjfmbeknmnaa.Crc
set_option linter.unusedVariables false
set_option maxHeartbeats 4000000 in
theorem walk (a0 : ByteArray) (a1 : Int) (w : World) (z0 : a0.size ≤ 140737488351232) (w1 : (Lit.int .i64 a1).wf = true) :
    Calls Try.prog 11 #[.string a0, .int .i64 a1] w fun e w' => e = .returned (.bool true) ∧ Below w.heap.size w w' := by
  have w0 : a0.size ≤ maxLen := by unfold maxLen; omega
  have hb := bounds_i64 w1
  by_cases h : a1 < 0 ∨ (a0.size : Int) < a1
  · rcases h with h | h
    · go_enter Try.func11, Try.ntmps11
      go_wp2_with fail
      refine (sums_any _).mono ?_
      rintro e w1 ⟨rfl, hb1⟩
      go_wp2_with fail
      go_ret
      exact ⟨rfl, hb1⟩
    · have h' : ¬ a1 < 0 := by omega
      go_enter Try.func11, Try.ntmps11
      go_wp2_with fail
      refine (sums_any _).mono ?_
      rintro e w1 ⟨rfl, hb1⟩
      go_wp2_with fail
      go_ret
      exact ⟨rfl, hb1⟩
  · obtain ⟨k, rfl⟩ : ∃ k : Nat, a1 = k := ⟨a1.toNat, by omega⟩
    have h1 : ¬ (k : Int) < 0 := by omega
    have h2 : k ≤ a0.size := by omega
    clear hb w1 h
    go_enter Try.func11, Try.ntmps11
    go_wp2_with fail
    go_region_with (first
      | (go_at_call 13; refine (sums_any _).mono ?_; rintro e w1 ⟨rfl, hb1⟩)
      | (go_at_call 16; refine (more_any _ _ _ (more_lt _ _) (by unfold maxLen; simp; omega)).mono ?_; rintro e w3 ⟨rfl, hb3⟩)
      | (go_at_call 14; refine (sum_any _ _ (by unfold maxLen; simp; omega)).mono ?_; rintro e w2 ⟨rfl, hb2⟩))
    have hx : ((Bool.and true (((more (more 0 (List.take k a0.data.toList)) (List.take (a0.size - k) (List.drop k a0.data.toList)) : Nat) : Int) == ((more 0 a0.data.toList : Nat) : Int)))) = true := by
      rw [List.take_of_length_le (l := List.drop k a0.data.toList) (by simp), ← more_append, List.take_append_drop]; simp
    have hx2 : (((more (more 0 (List.take k a0.data.toList)) (List.take (a0.size - k) (List.drop k a0.data.toList)) : Nat) : Int) == ((more 0 a0.data.toList : Nat) : Int)) = true := by simpa using hx
    clear hx h2 z0 w0
    have hb1' : Below w.heap.size w w1 := (Below.drew (Below.refl _ w)).trans hb1
    go_wp2_with fail
    go_ret
    refine ⟨?_, bt (bt (bt hb1' ‹_›) hb3) hb2⟩
    simp only [hx2]; rfl
end Go.Proofs.Ytajbjfmbeknmnaa.crcCut
