/-
  cmp.Compare at kinds, ints, longs, strings; value.bit; cmp.Or of two: contracts.
-/
import Derived.Test.YtdjgkbpfmonebaaGreatDoorRows
import Derived.Test.YtdjgkbpfmonebaaGreatDoorValTree
import Derived.Test.YtdjgkbpfmonebaaGreatDoorValBel
import Derived.WalkKit
import Derived.ProofKit
import Derived.Outline
import Derived.Laws.Cover1
namespace Go.Proofs.YtdjgkbpfmonebaaGreatDoor.Val
open Go.ChangeShapes Go.WideShapes Go.ChangeAt Go.RowKit
open Go.Proofs.YtdjgkbpfmonebaaGreatDoor.Mem
set_option linter.unusedVariables false
set_option linter.unusedSimpArgs false
set_option maxRecDepth 100000
def sgn (a b : Int) : Int := if a < b then -1 else if b < a then 1 else 0
def sgs (a b : ByteArray) : Int := if Op.bytesLess a.toList b.toList = true then -1 else if (a.toList == b.toList) = true then 0 else 1
def bitE (b : Bool) : Int := if b then 1 else 0
theorem nan_kind (a : Int) (w : World) : Calls Tryz.prog 69 #[.int .u8 a] w fun e w' => e = .returned (.bool false) ∧ w' = w := by
  go_enter Tryz.func69, Tryz.ntmps69
  go_wp2_with fail
  go_ret
  exact ⟨by simp, rfl⟩
theorem cmp_kind (a b : Int) (w : World) : Calls Tryz.prog 42 #[.int .u8 a, .int .u8 b] w fun e w' => e = .returned (.int .i64 (sgn a b)) ∧ w' = w := by
  have n1 := hid (fun a => nan_kind a w)
  go_enter Tryz.func42, Tryz.ntmps42
  by_cases h1 : a < b
  · have hn := hid (show sgn a b = -1 from if_pos h1)
    go_wp2_with (go_at_call 69; (with_reducible refine (n1.out _).mono ?_); rintro e w1 ⟨rfl, rfl⟩)
    go_ret
    exact ⟨by rw [hn.out]; rfl, rfl⟩
  · by_cases h2 : b < a
    · have hn := hid (show sgn a b = 1 by unfold sgn; rw [if_neg h1, if_pos h2])
      go_wp2_with (go_at_call 69; (with_reducible refine (n1.out _).mono ?_); rintro e w1 ⟨rfl, rfl⟩)
      go_ret
      exact ⟨by rw [hn.out]; rfl, rfl⟩
    · have hn := hid (show sgn a b = 0 by unfold sgn; rw [if_neg h1, if_neg h2])
      go_wp2_with (go_at_call 69; (with_reducible refine (n1.out _).mono ?_); rintro e w1 ⟨rfl, rfl⟩)
      go_ret
      exact ⟨by rw [hn.out]; rfl, rfl⟩
theorem nan_int (a : Int) (w : World) : Calls Tryz.prog 70 #[.int .i64 a] w fun e w' => e = .returned (.bool false) ∧ w' = w := by
  go_enter Tryz.func70, Tryz.ntmps70
  go_wp2_with fail
  go_ret
  exact ⟨by simp, rfl⟩
theorem cmp_int (a b : Int) (w : World) : Calls Tryz.prog 43 #[.int .i64 a, .int .i64 b] w fun e w' => e = .returned (.int .i64 (sgn a b)) ∧ w' = w := by
  have n1 := hid (fun a => nan_int a w)
  go_enter Tryz.func43, Tryz.ntmps43
  by_cases h1 : a < b
  · have hn := hid (show sgn a b = -1 from if_pos h1)
    go_wp2_with (go_at_call 70; (with_reducible refine (n1.out _).mono ?_); rintro e w1 ⟨rfl, rfl⟩)
    go_ret
    exact ⟨by rw [hn.out]; rfl, rfl⟩
  · by_cases h2 : b < a
    · have hn := hid (show sgn a b = 1 by unfold sgn; rw [if_neg h1, if_pos h2])
      go_wp2_with (go_at_call 70; (with_reducible refine (n1.out _).mono ?_); rintro e w1 ⟨rfl, rfl⟩)
      go_ret
      exact ⟨by rw [hn.out]; rfl, rfl⟩
    · have hn := hid (show sgn a b = 0 by unfold sgn; rw [if_neg h1, if_neg h2])
      go_wp2_with (go_at_call 70; (with_reducible refine (n1.out _).mono ?_); rintro e w1 ⟨rfl, rfl⟩)
      go_ret
      exact ⟨by rw [hn.out]; rfl, rfl⟩
theorem nan_long (a : Int) (w : World) : Calls Tryz.prog 71 #[.int .i64 a] w fun e w' => e = .returned (.bool false) ∧ w' = w := by
  go_enter Tryz.func71, Tryz.ntmps71
  go_wp2_with fail
  go_ret
  exact ⟨by simp, rfl⟩
theorem cmp_long (a b : Int) (w : World) : Calls Tryz.prog 45 #[.int .i64 a, .int .i64 b] w fun e w' => e = .returned (.int .i64 (sgn a b)) ∧ w' = w := by
  have n1 := hid (fun a => nan_long a w)
  go_enter Tryz.func45, Tryz.ntmps45
  by_cases h1 : a < b
  · have hn := hid (show sgn a b = -1 from if_pos h1)
    go_wp2_with (go_at_call 71; (with_reducible refine (n1.out _).mono ?_); rintro e w1 ⟨rfl, rfl⟩)
    go_ret
    exact ⟨by rw [hn.out]; rfl, rfl⟩
  · by_cases h2 : b < a
    · have hn := hid (show sgn a b = 1 by unfold sgn; rw [if_neg h1, if_pos h2])
      go_wp2_with (go_at_call 71; (with_reducible refine (n1.out _).mono ?_); rintro e w1 ⟨rfl, rfl⟩)
      go_ret
      exact ⟨by rw [hn.out]; rfl, rfl⟩
    · have hn := hid (show sgn a b = 0 by unfold sgn; rw [if_neg h1, if_neg h2])
      go_wp2_with (go_at_call 71; (with_reducible refine (n1.out _).mono ?_); rintro e w1 ⟨rfl, rfl⟩)
      go_ret
      exact ⟨by rw [hn.out]; rfl, rfl⟩
theorem nan_str (a : ByteArray) (w : World) : Calls Tryz.prog 72 #[.string a] w fun e w' => e = .returned (.bool false) ∧ w' = w := by
  go_enter Tryz.func72, Tryz.ntmps72
  go_wp2_with fail
  go_ret
  exact ⟨by simp, rfl⟩
theorem cmp_str (a b : ByteArray) (w : World) : Calls Tryz.prog 46 #[.string a, .string b] w fun e w' => e = .returned (.int .i64 (sgs a b)) ∧ w' = w := by
  have n1 := hid (fun a => nan_str a w)
  go_enter Tryz.func46, Tryz.ntmps46
  cases h1 : Op.bytesLess a.toList b.toList with
  | true =>
    have hn := hid (show sgs a b = -1 from if_pos h1)
    go_wp2_with (go_at_call 72; (with_reducible refine (n1.out _).mono ?_); rintro e w1 ⟨rfl, rfl⟩)
    go_ret
    exact ⟨by rw [hn.out]; rfl, rfl⟩
  | false =>
    cases h2 : (a.toList == b.toList) with
    | true =>
      have hn := hid (show sgs a b = 0 by unfold sgs; rw [if_neg (by rw [h1]; simp), if_pos h2])
      go_wp2_with (go_at_call 72; (with_reducible refine (n1.out _).mono ?_); rintro e w1 ⟨rfl, rfl⟩)
      go_ret
      exact ⟨by rw [hn.out]; rfl, rfl⟩
    | false =>
      have hn := hid (show sgs a b = 1 by unfold sgs; rw [if_neg (by rw [h1]; simp), if_neg (by rw [h2]; simp)])
      go_wp2_with (go_at_call 72; (with_reducible refine (n1.out _).mono ?_); rintro e w1 ⟨rfl, rfl⟩)
      go_ret
      exact ⟨by rw [hn.out]; rfl, rfl⟩
theorem bit_any (b : Bool) (w : World) : Calls Tryz.prog 44 #[.bool b] w fun e w' => e = .returned (.int .i64 (bitE b)) ∧ w' = w := by
  go_enter Tryz.func44, Tryz.ntmps44
  cases b <;> (go_wp2_with fail; go_ret; exact ⟨rfl, rfl⟩)
def orE (a b : Int) : Int := if a = 0 then b else a
theorem or_any (a b : Int) (w : World) (bk : Nat) (h : Blk w bk [.int .i64 a, .int .i64 b] 3) : Calls Tryz.prog 47 #[.slice (some ⟨bk, 0, none⟩) 2 2] w fun e w' => e = .returned (.int .i64 (orE a b)) ∧ Bel w.heap.size w w' := by
  obtain ⟨k0, k1, kf⟩ := h.two
  by_cases ha : a = 0
  · have hn := hid (show orE a b = b from if_pos ha)
    have ha1 : (a != 0) = false := by simp [ha]
    by_cases hb : b = 0
    · have hb1 : (b != 0) = false := by simp [hb]
      clear ha
      go_enter Tryz.func47, Tryz.ntmps47
      go_wp2_with fail
      go_rounds 3
      go_ret
      exact ⟨by rw [hn.out, hb]; rfl, by go_grown, by simp⟩
    · have hb1 : (b != 0) = true := by simp [hb]
      clear ha
      go_enter Tryz.func47, Tryz.ntmps47
      go_wp2_with fail
      go_rounds 3
      go_ret
      exact ⟨by rw [hn.out]; rfl, by go_grown, by simp⟩
  · have hn := hid (show orE a b = a from if_neg ha)
    have ha1 : (a != 0) = true := by simp [ha]
    go_enter Tryz.func47, Tryz.ntmps47
    go_wp2_with fail
    go_rounds 3
    go_ret
    exact ⟨by rw [hn.out]; rfl, by go_grown, by simp⟩
end Go.Proofs.YtdjgkbpfmonebaaGreatDoor.Val
