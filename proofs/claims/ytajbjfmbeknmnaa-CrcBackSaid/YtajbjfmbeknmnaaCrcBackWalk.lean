/-
  CrcBack: the walk.
-/
import Derived.Test.YtajbjfmbeknmnaaCrcCalls
import Derived.Test.YtajbjfmbeknmnaaCrcFlip
namespace Go.Proofs.Ytajbjfmbeknmnaa.crcBack
open Go.ChangeShapes Go.WideShapes Go.ChangeAt Go.RowKit
open Go.Proofs.Ytajbjfmbeknmnaa.CrcMath Go.Proofs.Ytajbjfmbeknmnaa.Crc
set_option linter.unusedVariables false
theorem walk (a0 a1 : Int) (w : World) (w0 : (Lit.int .u32 a0).wf = true) (w1 : (Lit.int .u64 a1).wf = true) :
    Calls Try.prog 10 #[.int .u32 a0, .int .u64 a1] w fun e w' => e = .returned (.bool true) ∧ Below w.heap.size w w' := by
  obtain ⟨n, rfl, hn⟩ := nat_u32 w0
  obtain ⟨m, rfl, hm⟩ := nat_u64 w1
  have e1 := num_leb4 n hn
  have e2 := num_leb8 m hm
  clear w0 w1
  go_enter Try.func10, Try.ntmps10
  go_wp2_with fail
  refine (put32_any n _ hn).mono ?_
  rintro e w1 ⟨rfl, hb1⟩
  go_wp2_with fail
  refine (get32_yes _ _ (leb_size 4 n)).mono ?_
  rintro e w2 ⟨rfl, rfl⟩
  go_wp2_with fail
  refine (put64_any m _ hm).mono ?_
  rintro e w3 ⟨rfl, hb3⟩
  go_wp2_with fail
  refine (get64_yes _ _ (leb_size 8 m)).mono ?_
  rintro e w4 ⟨rfl, rfl⟩
  go_wp2_with fail
  refine (put64_any m _ hm).mono ?_
  rintro e w5 ⟨rfl, hb5⟩
  go_wp2_with fail
  refine (get32_no _ _ (by rw [leb_size]; decide)).mono ?_
  rintro e w6 ⟨rfl, rfl⟩
  go_wp2_with fail
  refine (numbers_any _).mono ?_
  rintro e w7 ⟨rfl, hb7⟩
  go_wp2_with fail
  go_ret
  exact ⟨rfl, bt (bt (bt hb1 hb3) hb5) hb7⟩
end Go.Proofs.Ytajbjfmbeknmnaa.crcBack
