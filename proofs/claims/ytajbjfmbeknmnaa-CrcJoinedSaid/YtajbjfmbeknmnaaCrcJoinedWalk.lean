/-
  CrcJoined: the walk.
-/
import Derived.Test.YtajbjfmbeknmnaaCrcCalls
namespace Go.Proofs.Ytajbjfmbeknmnaa.crcJoined
open Go.ChangeShapes Go.WideShapes Go.ChangeAt Go.RowKit
open Go.Proofs.Ytajbjfmbeknmnaa.CrcMath Go.Proofs.Ytajbjfmbeknmnaa.Crc
set_option linter.unusedVariables false
theorem walk (a0 a1 : ByteArray) (w : World) (z0 : a0.size ≤ 140737488351232) (z1 : a1.size ≤ 140737488351232) :
    Calls Try.prog 8 #[.string a0, .string a1] w fun e w' => e = .returned (.bool true) ∧ Below w.heap.size w w' := by
  have w1 : a1.size ≤ maxLen := by unfold maxLen; omega
  have w0 : a0.size ≤ maxLen := by unfold maxLen; omega
  go_enter Try.func8, Try.ntmps8
  go_wp2_with fail
  refine (sums_any _).mono ?_
  rintro e w2 ⟨rfl, hb1⟩
  have hj : ¬ 9223372036854775807 < a0.size + a1.size := by omega
  go_wp2_with fail
  refine (sum_any _ _ (by unfold maxLen; simp; omega)).mono ?_
  rintro e w3 ⟨rfl, hb3⟩
  go_wp2_with fail
  refine (sum_any _ _ w0).mono ?_
  rintro e w4 ⟨rfl, hb4⟩
  go_wp2_with fail
  refine (more_any _ _ _ (more_lt _ _) w1).mono ?_
  rintro e w5 ⟨rfl, hb5⟩
  have he : (((more 0 (a0.data.toList ++ a1.data.toList) : Nat) : Int) == ((more (more 0 a0.data.toList) a1.data.toList : Nat) : Int)) = true := by
    simp [more_append]
  go_wp2_with fail
  refine (sum_any _ _ w0).mono ?_
  rintro e w6 ⟨rfl, hb6⟩
  go_wp2_with fail
  refine (more_any _ _ _ (more_lt _ _) (by decide)).mono ?_
  rintro e w7 ⟨rfl, hb7⟩
  go_wp2_with fail
  refine (sum_any _ _ w0).mono ?_
  rintro e w8 ⟨rfl, hb8⟩
  have he2 : (((more (more 0 a0.data.toList) [] : Nat) : Int) == ((more 0 a0.data.toList : Nat) : Int)) = true := by
    simp [more_nil (more_lt _ _)]
  go_wp2_with fail
  go_ret
  exact ⟨rfl, bt (bt (bt (bt (bt (bt hb1 hb3) hb4) hb5) hb6) hb7) hb8⟩
end Go.Proofs.Ytajbjfmbeknmnaa.crcJoined
