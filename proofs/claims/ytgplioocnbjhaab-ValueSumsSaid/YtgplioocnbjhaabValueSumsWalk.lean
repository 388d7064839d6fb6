/-
  ValueSums: the walk.
-/
import Derived.Test.YtgplioocnbjhaabValCalls
namespace Go.Proofs.Ytgplioocnbjhaab.valueSums
open Go.ChangeShapes Go.WideShapes Go.ChangeAt Go.RowKit
open Go.Proofs.Ytgplioocnbjhaab.Val
set_option linter.unusedVariables false
set_option maxRecDepth 100000
theorem walk (op a b : Int) (w : World) (w0 : (Lit.int .u8 op).wf = true) (w1 : (Lit.int .i64 a).wf = true) (w2 : (Lit.int .i64 b).wf = true) :
    Calls Try.prog 3 #[.int .u8 op, .int .i64 a, .int .i64 b] w fun e w' => e = .returned (.bool true) ∧ Below w.heap.size w w' := by
  obtain ⟨o, rfl⟩ := nat_u8 w0
  have ha := i64_of w1
  have hb := i64_of w2
  clear w0 w1 w2
  have hs := hid (fun W => sum_any o a b W ha hb)
  have hr := hid (fun W => rsum_any o a b W ha hb)
  have hp := hid (fun W => sum_any 43 a b W ha hb)
  have hm := hid (fun W => sum_any 45 (sumE 43 a b).1 b W sum_in hb)
  have hx := hid (fun W => sum_any 42 6 (-7) W ⟨by simp, by simp⟩ ⟨by simp, by simp⟩)
  have hxe : sumE 42 6 (-7) = (-42, 0) := rfl
  rw [hxe] at hx
  have hback := hid (plus_minus a b ha)
  generalize sumE o a b = r at hs hr
  generalize sumE 43 a b = q at hp hback hm
  clear hxe ha hb
  obtain ⟨x, c⟩ := r
  obtain ⟨s, c2⟩ := q
  dsimp only at hs hr hp hback hx hm
  have hxx : (x == x) = true := by simp
  have hcc : (c == c) = true := by simp
  have haa : (a == a) = true := by simp
  by_cases h : c2 = 0
  · subst h
    have hm2 := hback.out rfl
    rw [hm2] at hm
    dsimp only at hm
    clear hm2 hback
    go_enter Try.func3, Try.ntmps3
    go_wp2_with fail
    refine (hs.out _).mono ?_
    rintro e w1 ⟨rfl, rfl⟩
    go_wp2_with fail
    refine (hr.out _).mono ?_
    rintro e w1 ⟨rfl, rfl⟩
    go_wp2_with fail
    refine (hp.out _).mono ?_
    rintro e w1 ⟨rfl, rfl⟩
    go_wp2_with fail
    refine (hm.out _).mono ?_
    rintro e w1 ⟨rfl, rfl⟩
    go_wp2_with fail
    refine (hx.out _).mono ?_
    rintro e w1 ⟨rfl, rfl⟩
    go_wp2_with fail
    go_ret
    exact ⟨rfl, Below.refl _ _⟩
  · have hz : (c2 == 0) = false := by simp [h]
    have hz' : (c2 != 0) = true := by simp [h]
    generalize sumE 45 s b = u at hm
    obtain ⟨t, c3⟩ := u
    clear hback
    dsimp only at hm
    go_enter Try.func3, Try.ntmps3
    go_wp2_with fail
    refine (hs.out _).mono ?_
    rintro e w1 ⟨rfl, rfl⟩
    go_wp2_with fail
    refine (hr.out _).mono ?_
    rintro e w1 ⟨rfl, rfl⟩
    go_wp2_with fail
    refine (hp.out _).mono ?_
    rintro e w1 ⟨rfl, rfl⟩
    go_wp2_with fail
    refine (hm.out _).mono ?_
    rintro e w1 ⟨rfl, rfl⟩
    go_wp2_with fail
    refine (hx.out _).mono ?_
    rintro e w1 ⟨rfl, rfl⟩
    go_wp2_with fail
    go_ret
    exact ⟨rfl, Below.refl _ _⟩
end Go.Proofs.Ytgplioocnbjhaab.valueSums
