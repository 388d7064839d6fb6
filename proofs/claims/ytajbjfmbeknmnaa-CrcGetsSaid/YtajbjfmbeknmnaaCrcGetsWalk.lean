/-
  CrcGets: the walk.
-/
import Derived.Test.YtajbjfmbeknmnaaCrcCalls
import Derived.Test.YtajbjfmbeknmnaaCrcFlip
namespace Go.Proofs.Ytajbjfmbeknmnaa.crcGets
open Go.ChangeShapes Go.WideShapes Go.ChangeAt Go.RowKit
open Go.Proofs.Ytajbjfmbeknmnaa.CrcMath Go.Proofs.Ytajbjfmbeknmnaa.Crc
set_option linter.unusedVariables false
theorem walk (a0 : ByteArray) (w : World) (z0 : a0.size ≤ 140737488351232) :
    Calls Try.prog 6 #[.string a0] w fun e w' => e = .returned (.bool true) ∧ Below w.heap.size w w' := by
  have hk : num [2, 1, 0, 0] = 258 := by decide
  by_cases h4 : a0.size = 4
  · have h8 : a0.size ≠ 8 := by omega
    go_enter Try.func6, Try.ntmps6
    go_wp2_with fail
    refine (get32_yes _ _ ‹_›).mono ?_
    rintro e w1 ⟨rfl, rfl⟩
    go_wp2_with fail
    refine (refget32_yes _ _ ‹_›).mono ?_
    rintro e w2 ⟨rfl, rfl⟩
    go_wp2_with fail
    refine (get64_no _ _ ‹_›).mono ?_
    rintro e w3 ⟨rfl, rfl⟩
    go_wp2_with fail
    refine (refget64_no _ _ ‹_›).mono ?_
    rintro e w4 ⟨rfl, rfl⟩
    go_wp2_with fail
    refine (get32_yes _ _ (by decide)).mono ?_
    rintro e w5 ⟨rfl, rfl⟩
    go_wp2_with fail
    go_ret
    exact ⟨rfl, Below.refl _ _⟩
  by_cases h8 : a0.size = 8
  · go_enter Try.func6, Try.ntmps6
    go_wp2_with fail
    refine (get32_no _ _ ‹_›).mono ?_
    rintro e w1 ⟨rfl, rfl⟩
    go_wp2_with fail
    refine (refget32_no _ _ ‹_›).mono ?_
    rintro e w2 ⟨rfl, rfl⟩
    go_wp2_with fail
    refine (get64_yes _ _ ‹_›).mono ?_
    rintro e w3 ⟨rfl, rfl⟩
    go_wp2_with fail
    refine (refget64_yes _ _ ‹_›).mono ?_
    rintro e w4 ⟨rfl, rfl⟩
    go_wp2_with fail
    refine (get32_yes _ _ (by decide)).mono ?_
    rintro e w5 ⟨rfl, rfl⟩
    go_wp2_with fail
    go_ret
    exact ⟨rfl, Below.refl _ _⟩
  · go_enter Try.func6, Try.ntmps6
    go_wp2_with fail
    refine (get32_no _ _ ‹_›).mono ?_
    rintro e w1 ⟨rfl, rfl⟩
    go_wp2_with fail
    refine (refget32_no _ _ ‹_›).mono ?_
    rintro e w2 ⟨rfl, rfl⟩
    go_wp2_with fail
    refine (get64_no _ _ ‹_›).mono ?_
    rintro e w3 ⟨rfl, rfl⟩
    go_wp2_with fail
    refine (refget64_no _ _ ‹_›).mono ?_
    rintro e w4 ⟨rfl, rfl⟩
    go_wp2_with fail
    refine (get32_yes _ _ (by decide)).mono ?_
    rintro e w5 ⟨rfl, rfl⟩
    go_wp2_with fail
    go_ret
    exact ⟨rfl, Below.refl _ _⟩
end Go.Proofs.Ytajbjfmbeknmnaa.crcGets
