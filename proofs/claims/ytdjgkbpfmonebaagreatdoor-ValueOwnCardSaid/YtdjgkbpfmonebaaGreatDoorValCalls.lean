/-
  value.Sum, and the document's: the contracts.
-/
import Derived.Test.YtdjgkbpfmonebaaGreatDoorRows
import Derived.Test.YtdjgkbpfmonebaaGreatDoorValMath
import Derived.Test.YtdjgkbpfmonebaaGreatDoorShelf
import Derived.ProofKit
import Derived.OpenShut
import Derived.Handy
import Derived.Outline
namespace Go.Proofs.YtdjgkbpfmonebaaGreatDoor.Val
open Go.ChangeShapes Go.WideShapes Go.ChangeAt Go.RowKit
set_option linter.unusedVariables false
set_option maxRecDepth 100000
set_option linter.unusedSimpArgs false
theorem hid {p : Prop} (h : p) : Hid p := h
theorem size_any (n : Int) (w : World) (h : I64 n) : Calls Tryz.prog 67 #[.int .i64 n] w fun e w' => e = .returned (.int .u64 (n.natAbs : Nat)) ∧ w' = w := by
  obtain ⟨h1, h2⟩ := h
  by_cases hn : n < 0
  · have e1 : IntKind.u64.wrap (-IntKind.u64.wrap n) = (n.natAbs : Nat) := by rw [wrapU, wrapU]; omega
    have e1' := hid e1
    clear e1 h1 h2
    go_enter Tryz.func67, Tryz.ntmps67
    go_wp2_with fail
    rw [e1'.out]
    go_ret
    exact ⟨rfl, rfl⟩
  · have e1 : IntKind.u64.wrap n = (n.natAbs : Nat) := by rw [wrapU]; omega
    have e1' := hid e1
    clear e1 h1 h2
    go_enter Tryz.func67, Tryz.ntmps67
    go_wp2_with fail
    rw [e1'.out]
    go_ret
    exact ⟨rfl, rfl⟩
theorem over_any (a b : Int) (w : World) (ha : I64 a) (hb : I64 b) : Calls Tryz.prog 37 #[.int .i64 a, .int .i64 b] w fun e w' => e = .returned (.bool (!fit (a * b))) ∧ w' = w := by
  have ho := hid (over_prod a b ha hb)
  have x1 : a.natAbs < 18446744073709551616 := by obtain ⟨a1, a2⟩ := ha; omega
  have x2 : b.natAbs < 18446744073709551616 := by obtain ⟨a1, a2⟩ := hb; omega
  have ca := hid (fun W => size_any a W ha)
  have cb := hid (fun W => size_any b W hb)
  have cm := hid (fun W => Tryz.bits_Mul64 a.natAbs b.natAbs x1 x2 W)
  unfold most at ho
  clear x1 x2 ha hb
  by_cases h1 : a < 0 <;> by_cases h2 : b < 0
  all_goals
    have ho' := ho.out
    simp only [h1, h2, decide_true, decide_false, bne_self_eq_false, Bool.false_eq_true, if_false, if_true, Bool.true_bne, Bool.not_false, Bool.false_bne, Bool.bne_false, Bool.bne_true, Bool.not_true] at ho'
    replace ho := hid ho'
    clear ho'
    go_enter Tryz.func37, Tryz.ntmps37
    go_wp2_with fail
    refine (ca.out _).mono ?_
    rintro e w1 ⟨rfl, rfl⟩
    go_wp2_with fail
    refine (cb.out _).mono ?_
    rintro e w1 ⟨rfl, rfl⟩
    go_wp2_with fail
    refine (cm.out _).mono ?_
    rintro e w1 ⟨rfl, rfl⟩
    clear ca cb cm h1 h2
    generalize a.natAbs * b.natAbs / 18446744073709551616 = hi at ho ⊢
    generalize a.natAbs * b.natAbs % 18446744073709551616 = lo at ho ⊢
    by_cases q1 : hi = 0
    · subst q1
      go_wp2_with fail
      go_ret
      refine ⟨?_, rfl⟩
      rw [← ho.out]
      first
        | (show Ending.returned (Value.bool (decide ((9223372036854775807 : Int) < (lo : Int)))) = _; congr 2; rw [Bool.eq_iff_iff]; simp; omega)
        | (show Ending.returned (Value.bool (decide ((9223372036854775808 : Int) < (lo : Int)))) = _; congr 2; rw [Bool.eq_iff_iff]; simp; omega)
    · have q2 : ¬ (hi : Int) = 0 := by omega
      go_wp2_with fail
      go_ret
      refine ⟨?_, rfl⟩
      rw [← ho.out]
      simp [q1]
theorem kw (n : Int) : RowKit.wrap64 n = IntKind.i64.wrap n := by rw [wrap64]; simp only [RowKit.wrap64]
theorem i64_of {n : Int} (h : (Lit.int .i64 n).wf = true) : I64 n := bounds_i64 h
theorem wrap64_in (n : Int) : I64 (IntKind.i64.wrap n) := by rw [wrap64]; unfold I64; omega
theorem nat_u8 {a : Int} (h : (Lit.int .u8 a).wf = true) : ∃ n : Nat, a = n := by
  simp [Lit.wf, IntKind.min, IntKind.max, IntKind.signed, IntKind.bits] at h
  exact ⟨a.toNat, by omega⟩
theorem opE_add (a b : Int) : opE 43 a b = a + b := rfl
theorem opE_sub (a b : Int) : opE 45 a b = a - b := rfl
theorem opE_mul (a b : Int) : opE 42 a b = a * b := rfl
theorem sum_yes {o : Nat} {a b : Int} (ho : o = 43 ∨ o = 45 ∨ o = 42) (h : fit (opE o a b) = true) : sumE o a b = (opE o a b, 0) := by unfold sumE; rw [if_neg (fun n => n ho), if_pos h]
theorem sum_not {o : Nat} {a b : Int} (ho : o = 43 ∨ o = 45 ∨ o = 42) (h : fit (opE o a b) = false) : sumE o a b = (0, 11) := by unfold sumE; rw [if_neg (fun n => n ho), if_neg (by simp [h])]
theorem sum_bad {o : Nat} {a b : Int} (ho : ¬ (o = 43 ∨ o = 45 ∨ o = 42)) : sumE o a b = (0, 1) := by unfold sumE; rw [if_pos ho]
set_option maxHeartbeats 1000000 in
set_option maxHeartbeats 1000000 in
set_option maxHeartbeats 1000000 in
set_option maxHeartbeats 1000000 in
set_option maxHeartbeats 1000000 in
set_option maxHeartbeats 1000000 in
theorem sum_add (a b : Int) (w : World) (ha : I64 a) (hb : I64 b) :
    Calls Tryz.prog 16 #[.int .u8 43, .int .i64 a, .int .i64 b] w fun e w' => e = .returned (.tuple #[.int .i64 (sumE 43 a b).1, .int .i64 (sumE 43 a b).2]) ∧ w' = w := by
  obtain ⟨a1, a2⟩ := ha
  obtain ⟨b1, b2⟩ := hb
  obtain ⟨m, hm⟩ : ∃ m, IntKind.i64.wrap (a + b) = m := ⟨_, rfl⟩
  have hw := hm
  rw [wrap64] at hw
  have hm' : RowKit.wrap64 (a + b) = m := (kw _).trans hm
  have hr : Hid (sumE 43 a b = if (decide (m < a) != decide (b < 0)) = true then (0, 11) else (m, 0)) := hid (by
    by_cases h : fit (a + b) = true
    · rw [sum_yes (Or.inl rfl) h, opE_add]
      have h' := fit_yes.1 h
      unfold I64 at h'
      rw [if_neg (by simp; omega)]
      congr 1; omega
    · have h1 : fit (a + b) = false := by simpa using h
      rw [sum_not (Or.inl rfl) h1]
      have h' := fit_no.1 h1
      unfold I64 at h'
      rw [if_pos (by simp; omega)])
  clear hw a1 a2 b1 b2
  rw [hr.out]
  clear hr
  by_cases h1 : m < a <;> by_cases h2 : b < 0
  all_goals
    simp only [h1, h2, decide_true, decide_false, bne_self_eq_false, Bool.false_eq_true, if_false, if_true, Bool.true_bne, Bool.not_false, Bool.false_bne, Bool.bne_false, Bool.bne_true, Bool.not_true]
    go_enter Tryz.func16, Tryz.ntmps16
    go_wp2_with fail
    go_ret2
    exact ⟨rfl, rfl⟩
set_option maxHeartbeats 1000000 in
theorem sum_sub (a b : Int) (w : World) (ha : I64 a) (hb : I64 b) :
    Calls Tryz.prog 16 #[.int .u8 45, .int .i64 a, .int .i64 b] w fun e w' => e = .returned (.tuple #[.int .i64 (sumE 45 a b).1, .int .i64 (sumE 45 a b).2]) ∧ w' = w := by
  obtain ⟨a1, a2⟩ := ha
  obtain ⟨b1, b2⟩ := hb
  obtain ⟨m, hm⟩ : ∃ m, IntKind.i64.wrap (a - b) = m := ⟨_, rfl⟩
  have hw := hm
  rw [wrap64] at hw
  have hm' : RowKit.wrap64 (a - b) = m := (kw _).trans hm
  have hr : Hid (sumE 45 a b = if (decide (a < m) != decide (b < 0)) = true then (0, 11) else (m, 0)) := hid (by
    by_cases h : fit (a - b) = true
    · rw [sum_yes (Or.inr (Or.inl rfl)) h, opE_sub]
      have h' := fit_yes.1 h
      unfold I64 at h'
      rw [if_neg (by simp; omega)]
      congr 1; omega
    · have h1 : fit (a - b) = false := by simpa using h
      rw [sum_not (Or.inr (Or.inl rfl)) h1]
      have h' := fit_no.1 h1
      unfold I64 at h'
      rw [if_pos (by simp; omega)])
  clear hw a1 a2 b1 b2
  rw [hr.out]
  clear hr
  by_cases h1 : a < m <;> by_cases h2 : b < 0
  all_goals
    simp only [h1, h2, decide_true, decide_false, bne_self_eq_false, Bool.false_eq_true, if_false, if_true, Bool.true_bne, Bool.not_false, Bool.false_bne, Bool.bne_false, Bool.bne_true, Bool.not_true]
    go_enter Tryz.func16, Tryz.ntmps16
    go_wp2_with fail
    go_ret2
    exact ⟨rfl, rfl⟩
theorem sum_mul (a b : Int) (w : World) (ha : I64 a) (hb : I64 b) :
    Calls Tryz.prog 16 #[.int .u8 42, .int .i64 a, .int .i64 b] w fun e w' => e = .returned (.tuple #[.int .i64 (sumE 42 a b).1, .int .i64 (sumE 42 a b).2]) ∧ w' = w := by
  have ho := hid (fun W => over_any a b W ha hb)
  have hr : Hid ((fit (a * b) = true → sumE 42 a b = (RowKit.wrap64 (a * b), 0)) ∧ (fit (a * b) = false → sumE 42 a b = (0, 11))) := hid
    ⟨fun h => by rw [sum_yes (Or.inr (Or.inr rfl)) h, opE_mul]; rw [kw, wrap_fit h], fun h => sum_not (Or.inr (Or.inr rfl)) h⟩
  clear ha hb
  generalize hm : RowKit.wrap64 (a * b) = m at hr
  cases hf : fit (a * b) with
  | true =>
    rw [hr.out.1 hf]
    rw [hf] at ho
    clear hr hf
    go_enter Tryz.func16, Tryz.ntmps16
    go_wp2_with fail
    refine (ho.out _).mono ?_
    rintro e w1 ⟨rfl, rfl⟩
    go_wp2_with fail
    go_ret2
    exact ⟨rfl, rfl⟩
  | false =>
    rw [hr.out.2 hf]
    rw [hf] at ho
    clear hr hf
    go_enter Tryz.func16, Tryz.ntmps16
    go_wp2_with fail
    refine (ho.out _).mono ?_
    rintro e w1 ⟨rfl, rfl⟩
    go_wp2_with fail
    go_ret2
    exact ⟨rfl, rfl⟩
theorem sum_other (o : Nat) (a b : Int) (w : World) (h : ¬ (o = 43 ∨ o = 45 ∨ o = 42)) :
    Calls Tryz.prog 16 #[.int .u8 o, .int .i64 a, .int .i64 b] w fun e w' => e = .returned (.tuple #[.int .i64 (sumE o a b).1, .int .i64 (sumE o a b).2]) ∧ w' = w := by
  rw [sum_bad h]
  have h1 : ¬ (o : Int) = 43 := by omega
  have h2 : ¬ (o : Int) = 45 := by omega
  have h3 : ¬ (o : Int) = 42 := by omega
  clear h
  go_enter Tryz.func16, Tryz.ntmps16
  go_wp2_with fail
  go_ret2
  exact ⟨rfl, rfl⟩
theorem sum_any (o : Nat) (a b : Int) (w : World) (ha : I64 a) (hb : I64 b) :
    Calls Tryz.prog 16 #[.int .u8 o, .int .i64 a, .int .i64 b] w fun e w' => e = .returned (.tuple #[.int .i64 (sumE o a b).1, .int .i64 (sumE o a b).2]) ∧ w' = w := by
  by_cases h : o = 43 ∨ o = 45 ∨ o = 42
  · rcases h with rfl | rfl | rfl
    · exact sum_add a b w ha hb
    · exact sum_sub a b w ha hb
    · exact sum_mul a b w ha hb
  · exact sum_other o a b w h
theorem sum_in {o : Nat} {a b : Int} : I64 (sumE o a b).1 := by
  unfold sumE
  split
  · exact ⟨by simp, by simp⟩
  · split
    · rename_i h; exact fit_yes.1 h
    · exact ⟨by simp, by simp⟩
/-- What was added is taken away again. -/
theorem plus_minus (a b : Int) (ha : I64 a) (h : (sumE 43 a b).2 = 0) : sumE 45 (sumE 43 a b).1 b = (a, 0) := by
  have h1 : fit (a + b) = true := by
    cases hf : fit (a + b) with
    | true => rfl
    | false => rw [sum_not (Or.inl rfl) (show fit (opE 43 a b) = false from hf)] at h; simp at h
  rw [sum_yes (Or.inl rfl) (show fit (opE 43 a b) = true from h1)]
  have e : opE 45 (opE 43 a b) b = a := by rw [opE_sub, opE_add]; omega
  rw [sum_yes (Or.inr (Or.inl rfl)) (by rw [e]; exact fit_yes.2 ha), e]
end Go.Proofs.YtdjgkbpfmonebaaGreatDoor.Val
