/-
  lictorref08.kids of any kind of expression: its contract.
-/
import Derived.Test.YtbcjppbiihgfpaaGreatDoorExDeep
namespace Go.Proofs.YtbcjppbiihgfpaaGreatDoor.Ex
open Go.ChangeShapes Go.WideShapes Go.ChangeAt Go.RowKit
open Go.Proofs.YtbcjppbiihgfpaaGreatDoor.Mem
set_option linter.unusedVariables false
set_option linter.unusedSimpArgs false
set_option maxRecDepth 100000
/-- how many parts the document says that an op has; below 0: any -/
def rkidsN (k : Nat) : Int := if k = 6 ∨ k = 7 then -1 else if k < 6 then 0 else if k ≤ 13 then 1 else if k = 14 then 3 else 2
set_option maxHeartbeats 4000000 in
theorem rkids_any (k : Nat) (w : World) :
    Calls Tryz.prog 124 #[.int .u8 (k : Nat)] w fun e w' => e = .returned (.int .i64 (rkidsN k)) ∧ Below w.heap.size w w' := by
  obtain ⟨R, hR⟩ : ∃ R, rkidsN k = R := ⟨_, rfl⟩
  rw [hR]
  have b6 : decide ((k : Int) = 6) = decide (k = 6) := decide_eq_decide.2 (by omega)
  have b7 : decide ((k : Int) = 7) = decide (k = 7) := decide_eq_decide.2 (by omega)
  have bw := hid (Below.refl w.heap.size w)
  go_enter Tryz.func124, Tryz.ntmps124
  by_cases h6 : k = 6
  · subst h6; replace hR : R = -1 := by rw [← hR]; rfl
    subst hR
    go_wp2_with fail
    go_ret
    exact ⟨rfl, bw.out⟩
  by_cases h7 : k = 7
  · subst h7; replace hR : R = -1 := by rw [← hR]; rfl
    subst hR
    go_wp2_with fail
    go_ret
    exact ⟨rfl, bw.out⟩
  have n6 : ((k : Int) == 6) = false := by rw [beq_eq_false_iff_ne]; omega
  have n7 : ((k : Int) == 7) = false := by rw [beq_eq_false_iff_ne]; omega
  clear b6 b7
  by_cases c6 : k < 6
  · have d6 : decide ((k : Int) < 6) = true := decide_eq_true (by omega)
    replace hR : R = 0 := by rw [← hR]; unfold rkidsN; rw [if_neg (by omega), if_pos c6]
    subst hR
    go_wp2_with fail
    go_ret
    exact ⟨rfl, bw.out⟩
  have d6 : decide ((k : Int) < 6) = false := decide_eq_false (by omega)
  by_cases c13 : k ≤ 13
  · have d13 : decide ((k : Int) ≤ 13) = true := decide_eq_true (by omega)
    replace hR : R = 1 := by rw [← hR]; unfold rkidsN; rw [if_neg (by omega), if_neg c6, if_pos c13]
    subst hR
    go_wp2_with fail
    go_ret
    exact ⟨rfl, bw.out⟩
  have d13 : decide ((k : Int) ≤ 13) = false := decide_eq_false (by omega)
  by_cases c14 : k = 14
  · replace hR : R = 3 := by rw [← hR]; unfold rkidsN; rw [if_neg (by omega), if_neg c6, if_neg c13, if_pos c14]
    subst hR
    subst c14
    go_wp2_with fail
    go_ret
    exact ⟨rfl, bw.out⟩
  · have n14 : ((k : Int) == 14) = false := by rw [beq_eq_false_iff_ne]; omega
    replace hR : R = 2 := by rw [← hR]; unfold rkidsN; rw [if_neg (by omega), if_neg c6, if_neg c13, if_neg c14]
    subst hR
    go_wp2_with fail
    go_ret
    exact ⟨rfl, bw.out⟩
end Go.Proofs.YtbcjppbiihgfpaaGreatDoor.Ex
