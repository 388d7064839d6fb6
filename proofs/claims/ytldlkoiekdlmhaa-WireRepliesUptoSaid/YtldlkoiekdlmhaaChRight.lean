/-
  Changes compared; change.changeRight: contract.
-/
import Derived.Test.YtldlkoiekdlmhaaChList
namespace Go.Proofs.Ytldlkoiekdlmhaa.Wi
open Go.ChangeShapes Go.WideShapes Go.ChangeAt Go.RowKit
open Go.Proofs.Ytldlkoiekdlmhaa.Mem
open Go.Proofs.Ytldlkoiekdlmhaa.Crc hiding hid bt
set_option linter.unusedVariables false
set_option linter.unusedSimpArgs false
set_option maxRecDepth 100000
theorem tl_eq {a b : ByteArray} : a.toList = b.toList ↔ a = b := by
  rw [ByteArray.toList_eq, ByteArray.toList_eq]
  constructor
  · intro h; exact ByteArray.ext (by simpa using h)
  · rintro rfl; rfl
theorem tl_nil {a : ByteArray} : a.toList = [] ↔ a = E0 := by
  rw [show ([] : List UInt8) = E0.toList from by rw [ByteArray.toList_eq]; rfl, tl_eq]
set_option maxHeartbeats 4000000 in
theorem right_any (c : Ch) (w : World) (hk : c.k < 256) :
    Calls Try.prog 74 #[.agg #[.int .u8 (c.k : Nat), .string c.i, .string c.t, .string c.ut, .string c.ui]] w fun e w' => e = .returned (.bool (decide (chR c))) ∧ Below w.heap.size w w' := by
  go_enter Try.func74, Try.ntmps74
  have hcase : c.k = 1 ∨ c.k = 2 ∨ c.k = 3 ∨ c.k = 4 ∨ c.k = 5 ∨ ¬ (1 ≤ c.k ∧ c.k ≤ 5) := by omega
  rcases hcase with h | h | h | h | h | h
  · have hR : chR c ↔ c.i = E0 ∧ c.ut = E0 ∧ c.ui = E0 := by unfold chR; rw [h]; simp [E0]; try omega
    rw [h]
    replace hR := hid hR
    clear h
    go_wp2_with fail
    all_goals (try (go_region <;> go_wp2_with fail))
    all_goals (go_ret; refine ⟨?_, by go_grown⟩; first | (rw [decide_eq_true (hR.out.2 (by simp only [tl_nil] at *; simp_all))]; rfl) | (rw [decide_eq_false (fun h => by have := hR.out.1 h; simp only [tl_nil] at *; simp_all)]; rfl))
  · have hR : chR c ↔ c.ut = E0 ∧ c.ui = E0 := by unfold chR; rw [h]; simp [E0]; try omega
    rw [h]
    replace hR := hid hR
    clear h
    go_wp2_with fail
    all_goals (try (go_region <;> go_wp2_with fail))
    all_goals (go_ret; refine ⟨?_, by go_grown⟩; first | (rw [decide_eq_true (hR.out.2 (by simp only [tl_nil] at *; simp_all))]; rfl) | (rw [decide_eq_false (fun h => by have := hR.out.1 h; simp only [tl_nil] at *; simp_all)]; rfl))
  · have hR : chR c ↔ c.t = E0 ∧ c.ut = E0 ∧ c.ui = E0 := by unfold chR; rw [h]; simp [E0]; try omega
    rw [h]
    replace hR := hid hR
    clear h
    go_wp2_with fail
    all_goals (try (go_region <;> go_wp2_with fail))
    all_goals (go_ret; refine ⟨?_, by go_grown⟩; first | (rw [decide_eq_true (hR.out.2 (by simp only [tl_nil] at *; simp_all))]; rfl) | (rw [decide_eq_false (fun h => by have := hR.out.1 h; simp only [tl_nil] at *; simp_all)]; rfl))
  · have hR : chR c ↔ c.i = E0 ∧ c.ut = E0 ∧ c.ui = E0 := by unfold chR; rw [h]; simp [E0]; try omega
    rw [h]
    replace hR := hid hR
    clear h
    go_wp2_with fail
    all_goals (try (go_region <;> go_wp2_with fail))
    all_goals (go_ret; refine ⟨?_, by go_grown⟩; first | (rw [decide_eq_true (hR.out.2 (by simp only [tl_nil] at *; simp_all))]; rfl) | (rw [decide_eq_false (fun h => by have := hR.out.1 h; simp only [tl_nil] at *; simp_all)]; rfl))
  · have hR : chR c ↔ c.i = E0 ∧ c.t = E0 := by unfold chR; rw [h]; simp [E0]; try omega
    rw [h]
    replace hR := hid hR
    clear h
    go_wp2_with fail
    all_goals (try (go_region <;> go_wp2_with fail))
    all_goals (go_ret; refine ⟨?_, by go_grown⟩; first | (rw [decide_eq_true (hR.out.2 (by simp only [tl_nil] at *; simp_all))]; rfl) | (rw [decide_eq_false (fun h => by have := hR.out.1 h; simp only [tl_nil] at *; simp_all)]; rfl))
  · have hR := hid (show ¬ chR c from fun hc => h hc.1)
    have h1 : ¬ (c.k : Int) = 1 := by omega
    have h2 : ¬ (c.k : Int) = 2 := by omega
    have h3 : ¬ (c.k : Int) = 3 := by omega
    have h4 : ¬ (c.k : Int) = 4 := by omega
    have h5 : ¬ (c.k : Int) = 5 := by omega
    clear h
    go_wp2_with fail
    go_ret
    refine ⟨?_, by go_grown⟩
    rw [decide_eq_false hR.out]; rfl
end Go.Proofs.Ytldlkoiekdlmhaa.Wi
