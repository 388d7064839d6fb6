/-
  CrcTurned: the walk.
-/
import Derived.Test.YtajbjfmbeknmnaaCrcCalls
import Derived.Test.YtajbjfmbeknmnaaCrcFlip
namespace Go.Proofs.Ytajbjfmbeknmnaa.crcTurned
open Go.ChangeShapes Go.WideShapes Go.ChangeAt Go.RowKit
open Go.Proofs.Ytajbjfmbeknmnaa.CrcMath Go.Proofs.Ytajbjfmbeknmnaa.Crc
set_option linter.unusedVariables false
theorem walk (a0 : ByteArray) (a1 a2 : Int) (w : World) (z0 : a0.size ≤ 140737488351232) (w1 : (Lit.int .i64 a1).wf = true) (w2 : (Lit.int .u8 a2).wf = true) :
    Calls Try.prog 9 #[.string a0, .int .i64 a1, .int .u8 a2] w fun e w' => e = .returned (.bool true) ∧ Below w.heap.size w w' := by
  have hb := bounds_i64 w1
  obtain ⟨n, rfl, hn⟩ := nat_u8 w2
  clear w2
  by_cases h : a1 < 0 ∨ (a0.size : Int) ≤ a1 / 8
  · have hu : a1 ≤ 9223372036854775807 := hb.2
    have h' := hid h
    clear hb w1 h
    have hu' := hid hu
    clear hu
    go_enter Try.func9, Try.ntmps9
    go_wp2_with fail
    refine (sums_any _).mono ?_
    rintro e w0 ⟨rfl, hb0⟩
    go_wp2_with fail
    refine (flip_no _ _ _ ‹_› h'.out hu'.out).mono ?_
    rintro e w1 ⟨rfl, rfl⟩
    go_wp2_with fail
    go_ret
    exact ⟨rfl, hb0⟩
  · obtain ⟨p, rfl⟩ : ∃ p : Nat, a1 = p := ⟨a1.toNat, by omega⟩
    have hp : p / 8 < a0.size := by omega
    have hpu : (p : Int) ≤ 9223372036854775807 := hb.2
    have hm : a0.size ≤ maxLen := by unfold maxLen; omega
    have hfs : (⟨(CrcMath.flip a0.data.toList p).toArray⟩ : ByteArray).size = a0.size := by
      show (CrcMath.flip a0.data.toList p).toArray.size = _
      simp [flip_length]
    have hbk : (⟨(CrcMath.flip (CrcMath.flip a0.data.toList p) p).toArray⟩ : ByteArray) = a0 := by
      rw [flip_flip _ _ (by simpa using hp)]
    have hne := more_flip 0 a0.data.toList p (by simpa using hp)
    have hneq : (((more 0 (CrcMath.flip a0.data.toList p) : Nat) : Int) == ((more 0 a0.data.toList : Nat) : Int)) = false := beq_eq_false_iff_ne.2 (by omega)
    have hfs2 := hid hfs
    clear hb w1 h hne hfs
    by_cases hq : (p : Int) - (n : Int) % 31 - 1 < 0
    · go_enter Try.func9, Try.ntmps9
      go_wp2_with fail
      refine (sums_any _).mono ?_
      rintro e w0 ⟨rfl, hb0⟩
      go_wp2_with fail
      refine (flip_yes _ p _ ‹_› ‹_›).mono ?_
      rintro e w1 ⟨rfl, hb1⟩
      go_wp2_with fail
      refine (flip_yes _ p _ (by rw [hfs2.out]; assumption) (by rw [hfs2.out]; assumption)).mono ?_
      rintro e w2 ⟨rfl, hb2⟩
      go_wp2_with fail
      refine (sum_any _ _ (by rw [hfs2.out]; assumption)).mono ?_
      rintro e w3 ⟨rfl, hb3⟩
      go_wp2_with fail
      refine (sum_any _ _ ‹_›).mono ?_
      rintro e w4 ⟨rfl, hb4⟩
      go_wp2_with fail
      refine (flip_no _ _ _ (by rw [hfs2.out]; assumption) (Or.inl hq) (by omega)).mono ?_
      rintro e w5 ⟨rfl, rfl⟩
      go_wp2_with fail
      go_ret
      exact ⟨rfl, bt (bt (bt (bt hb0 hb1) hb2) hb3) hb4⟩
    · obtain ⟨q, hqe⟩ : ∃ q : Nat, (p : Int) - (n : Int) % 31 - 1 = q := ⟨((p : Int) - (n : Int) % 31 - 1).toNat, by omega⟩
      have hq8 : q / 8 < a0.size := by omega
      have hf2s : (⟨(CrcMath.flip (CrcMath.flip a0.data.toList p) q).toArray⟩ : ByteArray).size = a0.size := by
        show (CrcMath.flip (CrcMath.flip a0.data.toList p) q).toArray.size = _
        simp [flip_length]
      have hne2 := more_flip2 0 a0.data.toList p q (by simpa using hp) (by omega) (by omega)
      have hneq2 : (((more 0 (CrcMath.flip (CrcMath.flip a0.data.toList p) q) : Nat) : Int) != ((more 0 a0.data.toList : Nat) : Int)) = true := by rw [bne_iff_ne]; omega
      have hq0 : ¬ (q : Int) < 0 := by omega
      have hf2s2 := hid hf2s
      have hqe2 := hid hqe
      clear hne2 hq hf2s hqe
      go_enter Try.func9, Try.ntmps9
      go_wp2_with fail
      refine (sums_any _).mono ?_
      rintro e w0 ⟨rfl, hb0⟩
      go_wp2_with fail
      refine (flip_yes _ p _ ‹_› ‹_›).mono ?_
      rintro e w1 ⟨rfl, hb1⟩
      go_wp2_with fail
      refine (flip_yes _ p _ (by rw [hfs2.out]; assumption) (by rw [hfs2.out]; assumption)).mono ?_
      rintro e w2 ⟨rfl, hb2⟩
      go_wp2_with fail
      refine (sum_any _ _ (by rw [hfs2.out]; assumption)).mono ?_
      rintro e w3 ⟨rfl, hb3⟩
      go_wp2_with fail
      refine (sum_any _ _ ‹_›).mono ?_
      rintro e w4 ⟨rfl, hb4⟩
      go_wp2_with fail
      rw [hqe2.out]
      refine (flip_yes _ q _ (by rw [hfs2.out]; assumption) (by rw [hfs2.out]; assumption)).mono ?_
      rintro e w5 ⟨rfl, hb5⟩
      go_wp2_with fail
      refine (sum_any _ _ (by rw [hf2s2.out]; assumption)).mono ?_
      rintro e w6 ⟨rfl, hb6⟩
      go_wp2_with fail
      refine (sum_any _ _ ‹_›).mono ?_
      rintro e w7 ⟨rfl, hb7⟩
      go_wp2_with fail
      go_ret
      exact ⟨rfl, bt (bt (bt (bt (bt (bt (bt hb0 hb1) hb2) hb3) hb4) hb5) hb6) hb7⟩
end Go.Proofs.Ytajbjfmbeknmnaa.crcTurned
