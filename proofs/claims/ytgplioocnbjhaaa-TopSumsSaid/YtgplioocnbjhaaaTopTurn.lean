/-
  A bit turned: not good. No walk.
-/
import Derived.Test.YtgplioocnbjhaaaTopSum
namespace Go.Proofs.Ytgplioocnbjhaaa.Top
open Go.Proofs.Ytgplioocnbjhaaa.CrcMath
set_option linter.unusedVariables false
theorem num_inj : ∀ (l m : List UInt8), l.length = m.length → Crc.num l = Crc.num m → l = m := by
  intro l
  induction l with
  | nil => intro m h _; cases m with
    | nil => rfl
    | cons b m => simp at h
  | cons a l ih =>
    intro m h e
    cases m with
    | nil => simp at h
    | cons b m =>
      have ha := UInt8.toNat_lt a
      have hb := UInt8.toNat_lt b
      simp only [Crc.num] at e
      have e1 : a.toNat = b.toNat := by omega
      have e2 : Crc.num l = Crc.num m := by omega
      rw [UInt8.toNat_inj.1 e1, ih m (by simpa using h) e2]
theorem flip_ne' (l : List UInt8) (p : Nat) (h : p / 8 < l.length) : CrcMath.flip l p ≠ l := fun e => more_flip 0 l p h (by rw [e])
theorem goodB_two {l : List UInt8} (h : goodB l = true) : l.length = 64 ∧ Crc.num (Rec.sub l 60 4) = more 0 (Rec.sub l 0 60) := by
  unfold goodB at h
  simpa using h
theorem good_turned (l : List UInt8) (p : Nat) (h : goodB l = true) (hp : p / 8 < 64) : goodB (CrcMath.flip l p) = false := by
  obtain ⟨h1, h2⟩ := goodB_two h
  rw [Bool.eq_false_iff]
  intro hg
  obtain ⟨g1, g2⟩ := goodB_two hg
  by_cases hs : p / 8 < 60
  · have e1 : Rec.sub (CrcMath.flip l p) 60 4 = Rec.sub l 60 4 := by
      unfold Rec.sub CrcMath.flip
      rw [List.drop_set_of_lt hs]
    have e2 : Rec.sub (CrcMath.flip l p) 0 60 = CrcMath.flip (Rec.sub l 0 60) p := by
      unfold Rec.sub CrcMath.flip
      rw [List.drop_zero, List.drop_zero, List.take_set]
      congr 2
      simp only [List.getD, List.getElem?_take, if_pos hs]
    rw [e1, e2, h2] at g2
    exact more_flip 0 (Rec.sub l 0 60) p (by simp [Rec.sub]; omega) g2.symm
  · have e2 : Rec.sub (CrcMath.flip l p) 0 60 = Rec.sub l 0 60 := by
      unfold Rec.sub CrcMath.flip
      rw [List.drop_zero, List.drop_zero, List.take_set, List.set_eq_of_length_le (by rw [List.length_take]; omega)]
    rw [e2, ← h2] at g2
    have e3 := num_inj _ _ (by simp [Rec.sub, flip_length]) g2
    apply flip_ne' l p (by omega)
    have e4 : (CrcMath.flip l p).drop 60 = l.drop 60 := by
      unfold Rec.sub at e3
      rwa [List.take_of_length_le (by rw [List.length_drop]; omega), List.take_of_length_le (by rw [List.length_drop]; omega)] at e3
    have e5 : (CrcMath.flip l p).take 60 = l.take 60 := by unfold Rec.sub at e2; simpa using e2
    have e6 := List.take_append_drop 60 (CrcMath.flip l p)
    rw [e4, e5, List.take_append_drop] at e6
    exact e6.symm
end Go.Proofs.Ytgplioocnbjhaaa.Top
