/-
  Sums, as numbers. No walk.
-/
import Derived.WalkKit
import Derived.IntWalk
namespace Go.Proofs.YtdjgkbpfmonebaaGreatDoor.Val
set_option linter.unusedVariables false
def fit (n : Int) : Bool := decide (-9223372036854775808 ≤ n) && decide (n ≤ 9223372036854775807)
def I64 (n : Int) : Prop := -9223372036854775808 ≤ n ∧ n ≤ 9223372036854775807
def opE (op : Nat) (a b : Int) : Int := if op = 43 then a + b else if op = 45 then a - b else a * b
def sumE (op : Nat) (a b : Int) : Int × Int :=
  if ¬ (op = 43 ∨ op = 45 ∨ op = 42) then (0, 1) else if fit (opE op a b) = true then (opE op a b, 0) else (0, 11)
theorem fit_yes {n : Int} : fit n = true ↔ I64 n := by unfold fit I64; simp
theorem fit_no {n : Int} : fit n = false ↔ ¬ I64 n := by rw [← fit_yes]; simp
theorem wrap64 (n : Int) : IntKind.i64.wrap n = (n + 9223372036854775808) % 18446744073709551616 - 9223372036854775808 := by rw [IntKind.wrap_i64]
theorem wrapU (n : Int) : IntKind.u64.wrap n = n % 18446744073709551616 := by rw [IntKind.wrap_u64]
theorem wrap_fit {n : Int} (h : fit n = true) : IntKind.i64.wrap n = n := by
  obtain ⟨h1, h2⟩ := fit_yes.1 h
  rw [wrap64]; omega
/-- The least and the greatest that a product may be, in size. -/
def most (a b : Int) : Nat := if (decide (a < 0) != decide (b < 0)) = true then 9223372036854775808 else 9223372036854775807
theorem mul_size (a b : Int) : (a * b).natAbs = a.natAbs * b.natAbs := Int.natAbs_mul a b
theorem mul_sign (a b : Int) : ((decide (a < 0) != decide (b < 0)) = true → a * b ≤ 0) ∧ ((decide (a < 0) != decide (b < 0)) = false → 0 ≤ a * b) := by
  obtain ⟨m, hm⟩ := Int.eq_nat_or_neg a
  obtain ⟨n, hn⟩ := Int.eq_nat_or_neg b
  have e : (m : Int) * n = ((m * n : Nat) : Int) := (Int.natCast_mul m n).symm
  rcases hm with rfl | rfl <;> rcases hn with rfl | rfl
  all_goals
    simp only [Int.neg_mul, Int.mul_neg, Int.neg_neg, e]
    constructor
    all_goals
      intro h
      by_cases hm0 : m = 0
      · subst hm0; simp
      · by_cases hn0 : n = 0
        · subst hn0; simp
        · have h1 : (0 : Int) < m := by omega
          have h2 : (0 : Int) < n := by omega
          first | omega | (exfalso; revert h; simp; omega)
theorem over_prod (a b : Int) (ha : I64 a) (hb : I64 b) :
    ((decide (a.natAbs * b.natAbs / 18446744073709551616 ≠ 0)) || decide (most a b < a.natAbs * b.natAbs % 18446744073709551616)) = !fit (a * b) := by
  have h1 := mul_size a b
  obtain ⟨s1, s2⟩ := mul_sign a b
  rw [← h1]
  generalize a * b = p at *
  unfold most
  rw [Bool.eq_iff_iff]
  simp only [Bool.or_eq_true, decide_eq_true_eq, Bool.not_eq_true', fit_no, I64]
  cases hs : (decide (a < 0) != decide (b < 0)) with
  | true => have := s1 hs; rw [if_pos rfl]; omega
  | false => have := s2 hs; rw [if_neg (by simp)]; omega
/-- What the document asks of a product. -/
def refBad (a b n : Int) : Prop := a = -1 ∧ b = -9223372036854775808 ∨ b = -1 ∧ a = -9223372036854775808 ∨ b ≠ 0 ∧ b ≠ -1 ∧ n.tdiv b ≠ a
theorem ref_prod (a b : Int) (ha : I64 a) (hb : I64 b) : refBad a b (IntKind.i64.wrap (a * b)) ↔ fit (a * b) = false := by
  constructor
  · intro h
    cases hf : fit (a * b) with
    | false => rfl
    | true =>
      exfalso
      rw [wrap_fit hf] at h
      have hI := fit_yes.1 hf
      rcases h with ⟨rfl, rfl⟩ | ⟨rfl, rfl⟩ | ⟨h1, h2, h3⟩
      · revert hI; unfold I64; omega
      · revert hI; unfold I64; omega
      · exact h3 (Int.mul_tdiv_cancel a h1)
  · intro h
    have hI := fit_no.1 h
    by_cases h0 : b = 0
    · subst h0; exfalso; apply hI; unfold I64; simp
    · by_cases h1 : b = -1
      · subst h1
        obtain ⟨a1, a2⟩ := ha
        right; left
        refine ⟨rfl, ?_⟩
        unfold I64 at hI
        omega
      · right; right
        refine ⟨h0, h1, fun e => ?_⟩
        have hd := Int.mul_tdiv_add_tmod (IntKind.i64.wrap (a * b)) b
        have hr := Int.natAbs_tmod (IntKind.i64.wrap (a * b)) b
        have hlt : ((IntKind.i64.wrap (a * b)).tmod b).natAbs < b.natAbs := by rw [hr]; exact Nat.mod_lt _ (by omega)
        rw [e, Int.mul_comm b a] at hd
        obtain ⟨b1, b2⟩ := hb
        rw [wrap64] at hd hlt
        generalize ((a * b + 9223372036854775808) % 18446744073709551616 - 9223372036854775808).tmod b = r at *
        generalize a * b = p at *
        unfold I64 at hI
        omega
end Go.Proofs.YtdjgkbpfmonebaaGreatDoor.Val
