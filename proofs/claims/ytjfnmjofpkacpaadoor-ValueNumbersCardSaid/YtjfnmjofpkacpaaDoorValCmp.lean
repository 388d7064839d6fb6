/-
  cmp.Compare at kinds, ints, longs, strings; value.bit; cmp.Or of two: contracts.
-/
import Derived.Test.YtjfnmjofpkacpaaDoorRows
import Derived.Test.YtjfnmjofpkacpaaDoorValTree
import Derived.Test.YtjfnmjofpkacpaaDoorValBel
import Derived.WalkKit
import Derived.ProofKit
import Derived.Outline
import Derived.Laws.Cover1
namespace Go.Proofs.YtjfnmjofpkacpaaDoor.Val
open Go.ChangeShapes Go.WideShapes Go.ChangeAt Go.RowKit
open Go.Proofs.YtjfnmjofpkacpaaDoor.Mem
set_option linter.unusedVariables false
set_option linter.unusedSimpArgs false
set_option maxRecDepth 100000
def sgn (a b : Int) : Int := if a < b then -1 else if b < a then 1 else 0
def sgs (a b : ByteArray) : Int := if Op.bytesLess a.toList b.toList = true then -1 else if (a.toList == b.toList) = true then 0 else 1
def bitE (b : Bool) : Int := if b then 1 else 0
theorem nan_kind (a : Int) (w : World) : Calls Tryd.prog 40 #[.int .u8 a] w fun e w' => e = .returned (.bool false) ∧ w' = w := by
  go_enter Tryd.func40, Tryd.ntmps40
  go_wp2_with fail
  go_ret
  exact ⟨by simp, rfl⟩
theorem cmp_kind (a b : Int) (w : World) : Calls Tryd.prog 25 #[.int .u8 a, .int .u8 b] w fun e w' => e = .returned (.int .i64 (sgn a b)) ∧ w' = w := by
  have n1 := hid (fun a => nan_kind a w)
  go_enter Tryd.func25, Tryd.ntmps25
  by_cases h1 : a < b
  · have hn := hid (show sgn a b = -1 from if_pos h1)
    go_wp2_with (go_at_call 40; (with_reducible refine (n1.out _).mono ?_); rintro e w1 ⟨rfl, rfl⟩)
    go_ret
    exact ⟨by rw [hn.out]; rfl, rfl⟩
  · by_cases h2 : b < a
    · have hn := hid (show sgn a b = 1 by unfold sgn; rw [if_neg h1, if_pos h2])
      go_wp2_with (go_at_call 40; (with_reducible refine (n1.out _).mono ?_); rintro e w1 ⟨rfl, rfl⟩)
      go_ret
      exact ⟨by rw [hn.out]; rfl, rfl⟩
    · have hn := hid (show sgn a b = 0 by unfold sgn; rw [if_neg h1, if_neg h2])
      go_wp2_with (go_at_call 40; (with_reducible refine (n1.out _).mono ?_); rintro e w1 ⟨rfl, rfl⟩)
      go_ret
      exact ⟨by rw [hn.out]; rfl, rfl⟩
theorem nan_int (a : Int) (w : World) : Calls Tryd.prog 41 #[.int .i64 a] w fun e w' => e = .returned (.bool false) ∧ w' = w := by
  go_enter Tryd.func41, Tryd.ntmps41
  go_wp2_with fail
  go_ret
  exact ⟨by simp, rfl⟩
theorem cmp_int (a b : Int) (w : World) : Calls Tryd.prog 26 #[.int .i64 a, .int .i64 b] w fun e w' => e = .returned (.int .i64 (sgn a b)) ∧ w' = w := by
  have n1 := hid (fun a => nan_int a w)
  go_enter Tryd.func26, Tryd.ntmps26
  by_cases h1 : a < b
  · have hn := hid (show sgn a b = -1 from if_pos h1)
    go_wp2_with (go_at_call 41; (with_reducible refine (n1.out _).mono ?_); rintro e w1 ⟨rfl, rfl⟩)
    go_ret
    exact ⟨by rw [hn.out]; rfl, rfl⟩
  · by_cases h2 : b < a
    · have hn := hid (show sgn a b = 1 by unfold sgn; rw [if_neg h1, if_pos h2])
      go_wp2_with (go_at_call 41; (with_reducible refine (n1.out _).mono ?_); rintro e w1 ⟨rfl, rfl⟩)
      go_ret
      exact ⟨by rw [hn.out]; rfl, rfl⟩
    · have hn := hid (show sgn a b = 0 by unfold sgn; rw [if_neg h1, if_neg h2])
      go_wp2_with (go_at_call 41; (with_reducible refine (n1.out _).mono ?_); rintro e w1 ⟨rfl, rfl⟩)
      go_ret
      exact ⟨by rw [hn.out]; rfl, rfl⟩
theorem nan_long (a : Int) (w : World) : Calls Tryd.prog 42 #[.int .i64 a] w fun e w' => e = .returned (.bool false) ∧ w' = w := by
  go_enter Tryd.func42, Tryd.ntmps42
  go_wp2_with fail
  go_ret
  exact ⟨by simp, rfl⟩
theorem cmp_long (a b : Int) (w : World) : Calls Tryd.prog 28 #[.int .i64 a, .int .i64 b] w fun e w' => e = .returned (.int .i64 (sgn a b)) ∧ w' = w := by
  have n1 := hid (fun a => nan_long a w)
  go_enter Tryd.func28, Tryd.ntmps28
  by_cases h1 : a < b
  · have hn := hid (show sgn a b = -1 from if_pos h1)
    go_wp2_with (go_at_call 42; (with_reducible refine (n1.out _).mono ?_); rintro e w1 ⟨rfl, rfl⟩)
    go_ret
    exact ⟨by rw [hn.out]; rfl, rfl⟩
  · by_cases h2 : b < a
    · have hn := hid (show sgn a b = 1 by unfold sgn; rw [if_neg h1, if_pos h2])
      go_wp2_with (go_at_call 42; (with_reducible refine (n1.out _).mono ?_); rintro e w1 ⟨rfl, rfl⟩)
      go_ret
      exact ⟨by rw [hn.out]; rfl, rfl⟩
    · have hn := hid (show sgn a b = 0 by unfold sgn; rw [if_neg h1, if_neg h2])
      go_wp2_with (go_at_call 42; (with_reducible refine (n1.out _).mono ?_); rintro e w1 ⟨rfl, rfl⟩)
      go_ret
      exact ⟨by rw [hn.out]; rfl, rfl⟩
theorem nan_str (a : ByteArray) (w : World) : Calls Tryd.prog 43 #[.string a] w fun e w' => e = .returned (.bool false) ∧ w' = w := by
  go_enter Tryd.func43, Tryd.ntmps43
  go_wp2_with fail
  go_ret
  exact ⟨by simp, rfl⟩
theorem cmp_str (a b : ByteArray) (w : World) : Calls Tryd.prog 29 #[.string a, .string b] w fun e w' => e = .returned (.int .i64 (sgs a b)) ∧ w' = w := by
  have n1 := hid (fun a => nan_str a w)
  go_enter Tryd.func29, Tryd.ntmps29
  cases h1 : Op.bytesLess a.toList b.toList with
  | true =>
    have hn := hid (show sgs a b = -1 from if_pos h1)
    go_wp2_with (go_at_call 43; (with_reducible refine (n1.out _).mono ?_); rintro e w1 ⟨rfl, rfl⟩)
    go_ret
    exact ⟨by rw [hn.out]; rfl, rfl⟩
  | false =>
    cases h2 : (a.toList == b.toList) with
    | true =>
      have hn := hid (show sgs a b = 0 by unfold sgs; rw [if_neg (by rw [h1]; simp), if_pos h2])
      go_wp2_with (go_at_call 43; (with_reducible refine (n1.out _).mono ?_); rintro e w1 ⟨rfl, rfl⟩)
      go_ret
      exact ⟨by rw [hn.out]; rfl, rfl⟩
    | false =>
      have hn := hid (show sgs a b = 1 by unfold sgs; rw [if_neg (by rw [h1]; simp), if_neg (by rw [h2]; simp)])
      go_wp2_with (go_at_call 43; (with_reducible refine (n1.out _).mono ?_); rintro e w1 ⟨rfl, rfl⟩)
      go_ret
      exact ⟨by rw [hn.out]; rfl, rfl⟩
theorem bit_any (b : Bool) (w : World) : Calls Tryd.prog 27 #[.bool b] w fun e w' => e = .returned (.int .i64 (bitE b)) ∧ w' = w := by
  go_enter Tryd.func27, Tryd.ntmps27
  cases b <;> (go_wp2_with fail; go_ret; exact ⟨rfl, rfl⟩)
def orE (a b : Int) : Int := if a = 0 then b else a
theorem or_any (a b : Int) (w : World) (bk : Nat) (h : Blk w bk [.int .i64 a, .int .i64 b] 3) : Calls Tryd.prog 30 #[.slice (some ⟨bk, 0, none⟩) 2 2] w fun e w' => e = .returned (.int .i64 (orE a b)) ∧ Bel w.heap.size w w' := by
  obtain ⟨k0, k1, kf⟩ := h.two
  by_cases ha : a = 0
  · have hn := hid (show orE a b = b from if_pos ha)
    have ha1 : (a != 0) = false := by simp [ha]
    by_cases hb : b = 0
    · have hb1 : (b != 0) = false := by simp [hb]
      clear ha
      go_enter Tryd.func30, Tryd.ntmps30
      go_wp2_with fail
      go_rounds 3
      go_ret
      exact ⟨by rw [hn.out, hb]; rfl, by go_grown, by simp⟩
    · have hb1 : (b != 0) = true := by simp [hb]
      clear ha
      go_enter Tryd.func30, Tryd.ntmps30
      go_wp2_with fail
      go_rounds 3
      go_ret
      exact ⟨by rw [hn.out]; rfl, by go_grown, by simp⟩
  · have hn := hid (show orE a b = a from if_neg ha)
    have ha1 : (a != 0) = true := by simp [ha]
    go_enter Tryd.func30, Tryd.ntmps30
    go_wp2_with fail
    go_rounds 3
    go_ret
    exact ⟨by rw [hn.out]; rfl, by go_grown, by simp⟩
end Go.Proofs.YtjfnmjofpkacpaaDoor.Val
