/-
  CrcWidths: the walk.
-/
import Derived.Test.YtajbjfmbeknmnaaCrcCalls
import Derived.Test.YtajbjfmbeknmnaaCrcFlip
namespace Go.Proofs.Ytajbjfmbeknmnaa.crcWidths
open Go.ChangeShapes Go.WideShapes Go.ChangeAt Go.RowKit
open Go.Proofs.Ytajbjfmbeknmnaa.CrcMath Go.Proofs.Ytajbjfmbeknmnaa.Crc
set_option linter.unusedVariables false
theorem leb_wide (n : Nat) (h : n < 4294967296) : (⟨(leb 4 n).toArray⟩ : ByteArray) ++ ⟨#[0, 0, 0, 0]⟩ = ⟨(leb 8 n).toArray⟩ := by
  apply ByteArray.ext
  apply Array.toList_inj.1
  have e : n / 256 / 256 / 256 / 256 = 0 := by omega
  rw [ByteArray.toList_data_append]
  simp [leb, e]
theorem walk (a0 : Int) (w : World) (w0 : (Lit.int .u32 a0).wf = true) :
    Calls Try.prog 12 #[.int .u32 a0] w fun e w' => e = .returned (.bool true) ∧ Below w.heap.size w w' := by
  obtain ⟨n, rfl, hn⟩ := nat_u32 w0
  have hn8 : n < 18446744073709551616 := by omega
  have e2 := num_leb8 n hn8
  have hw := leb_wide n hn
  clear w0
  go_enter Try.func12, Try.ntmps12
  go_wp2_with fail
  refine (put64_any n _ hn8).mono ?_
  rintro e w1 ⟨rfl, hb1⟩
  go_wp2_with fail
  refine (put32_any n _ hn).mono ?_
  rintro e w2 ⟨rfl, hb2⟩
  go_wp2_with fail
  refine (get64_yes _ _ (leb_size 8 n)).mono ?_
  rintro e w3 ⟨rfl, rfl⟩
  go_wp2_with fail
  refine (numbers_any _).mono ?_
  rintro e w4 ⟨rfl, hb4⟩
  go_wp2_with fail
  refine (put32_any n _ hn).mono ?_
  rintro e w5 ⟨rfl, hb5⟩
  go_wp2_with fail
  go_ret
  exact ⟨rfl, bt (bt (bt hb1 hb2) hb4) hb5⟩
end Go.Proofs.Ytajbjfmbeknmnaa.crcWidths
