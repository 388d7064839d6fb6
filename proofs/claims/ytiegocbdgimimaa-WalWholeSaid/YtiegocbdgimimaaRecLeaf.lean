/-
  The contracts of record's leaves, and of the document's.
-/
import Derived.Test.YtiegocbdgimimaaBuild
import Derived.Test.YtiegocbdgimimaaMem
import Derived.Deep.RegionHeld3
import Derived.Deep.RegionWith
import Derived.Deep.QuietTactic
import Derived.BigQuiet
import Derived.Deep.Cut
import Derived.WalkArith
namespace Go.Proofs.Ytiegocbdgimimaa.Rec
open Go.ChangeShapes Go.WideShapes Go.ChangeAt Go.RowKit
open Go.Proofs.Ytiegocbdgimimaa.Mem Go.Proofs.Ytiegocbdgimimaa.CrcMath
open Go.Proofs.Ytiegocbdgimimaa.Crc (leb leb_len put32_any put64_any sum_any)
set_option linter.unusedVariables false
set_option maxRecDepth 100000

theorem check_any (k ep sq : Nat) (p : ByteArray) (w : World) (hp : p.size ≤ 140737488355328) :
    Calls Try.prog 34 #[.agg #[.int .u8 k, .int .u64 ep, .int .u64 sq, .string p]] w fun e w' => e = .returned (.int .i64 (fchk k p.size)) ∧ Below w.heap.size w w' := by
  by_cases hk : k = 0
  · have h1 : ((k : Int) == 0) = true := by simp [hk]
    have hf : Hid (fchk k p.size = 1) := hid (by simp [fchk, hk])
    clear hk
    go_enter Try.func34, Try.ntmps34
    go_wp2_with fail
    go_ret
    exact ⟨by rw [hf.out]; rfl, by go_grown⟩
  · have h1 : ((k : Int) == 0) = false := by simp; omega
    by_cases hn : 16384 < p.size
    · have hf : Hid (fchk k p.size = 3) := hid (by simp [fchk, hk, hn])
      have h2 : (16384 : Int) < (p.size : Int) := by omega
      clear hk hn
      go_enter Try.func34, Try.ntmps34
      go_wp2_with fail
      go_ret
      exact ⟨by rw [hf.out]; rfl, by go_grown⟩
    · have hf : Hid (fchk k p.size = 0) := hid (by simp [fchk, hk]; omega)
      have h2 : ¬ (16384 : Int) < (p.size : Int) := by omega
      clear hk hn
      go_enter Try.func34, Try.ntmps34
      go_wp2_with fail
      go_ret
      exact ⟨by rw [hf.out]; rfl, by go_grown⟩
theorem rcheck_any (k ep sq : Nat) (p : ByteArray) (w : World) (hp : p.size ≤ 140737488355328) :
    Calls Try.prog 43 #[.agg #[.int .u8 k, .int .u64 ep, .int .u64 sq, .string p]] w fun e w' => e = .returned (.int .i64 (fchk k p.size)) ∧ Below w.heap.size w w' := by
  by_cases hk : k = 0
  · have h1 : ((k : Int) == 0) = true := by simp [hk]
    have hf : Hid (fchk k p.size = 1) := hid (by simp [fchk, hk])
    clear hk
    go_enter Try.func43, Try.ntmps43
    go_wp2_with fail
    go_ret
    exact ⟨by rw [hf.out]; rfl, by go_grown⟩
  · have h1 : ((k : Int) == 0) = false := by simp; omega
    by_cases hn : 16384 < p.size
    · have hf : Hid (fchk k p.size = 3) := hid (by simp [fchk, hk, hn])
      have h2 : (16384 : Int) < (p.size : Int) := by omega
      clear hk hn
      go_enter Try.func43, Try.ntmps43
      go_wp2_with fail
      go_ret
      exact ⟨by rw [hf.out]; rfl, by go_grown⟩
    · have hf : Hid (fchk k p.size = 0) := hid (by simp [fchk, hk]; omega)
      have h2 : ¬ (16384 : Int) < (p.size : Int) := by omega
      clear hk hn
      go_enter Try.func43, Try.ntmps43
      go_wp2_with fail
      go_ret
      exact ⟨by rw [hf.out]; rfl, by go_grown⟩

theorem pieces_any (n : Int) (w : World) : Calls Try.prog 89 #[.int .i64 n] w fun e w' => e = .returned (.tuple #[.int .i64 (pcsE n).1, .int .i64 (pcsE n).2]) ∧ w = w' := by
  by_cases h1 : n < 0
  · have hf : Hid (pcsE n = (0, 1)) := hid (by simp [pcsE, h1])
    go_enter Try.func89, Try.ntmps89
    go_wp2_with fail
    go_ret2
    exact ⟨by rw [hf.out]; rfl, rfl⟩
  · by_cases h2 : 16384 < n
    · have hf : Hid (pcsE n = (0, 1)) := hid (by simp [pcsE, h2])
      go_enter Try.func89, Try.ntmps89
      go_wp2_with fail
      go_ret2
      exact ⟨by rw [hf.out]; rfl, rfl⟩
    · have hf : Hid (pcsE n = ((n + 60) / 61, 0)) := hid (by simp [pcsE, h1, h2])
      have h3 : (n + 61 - 1) / 61 = (n + 60) / 61 := by omega
      have h0 : 0 ≤ n := by omega
      have h4 : n ≤ 16384 := by omega
      have h3' := hid h3
      clear h3
      go_enter Try.func89, Try.ntmps89
      go_wp2_with fail
      go_ret2
      exact ⟨by rw [hf.out, ← h3'.out]; rfl, rfl⟩
theorem rpieces_any (n : Int) (w : World) : Calls Try.prog 46 #[.int .i64 n] w fun e w' => e = .returned (.tuple #[.int .i64 (pcsE n).1, .int .i64 (pcsE n).2]) ∧ w = w' := by
  by_cases h1 : n < 0
  · have hf : Hid (pcsE n = (0, 1)) := hid (by simp [pcsE, h1])
    go_enter Try.func46, Try.ntmps46
    go_wp2_with fail
    go_ret2
    exact ⟨by rw [hf.out]; rfl, rfl⟩
  · by_cases h2 : 16384 < n
    · have hf : Hid (pcsE n = (0, 1)) := hid (by simp [pcsE, h2])
      go_enter Try.func46, Try.ntmps46
      go_wp2_with fail
      go_ret2
      exact ⟨by rw [hf.out]; rfl, rfl⟩
    · have hf : Hid (pcsE n = ((n + 60) / 61, 0)) := hid (by simp [pcsE, h1, h2])
      have h0 : 0 ≤ n := by omega
      have h4 : n ≤ 16384 := by omega
      go_enter Try.func46, Try.ntmps46
      go_wp2_with fail
      go_loop [4] (fun i => ∃ k : Nat, (k : Int) ≤ (n + 60) / 61 ∧ i = .int .i64 k) (fun i => 300 - (intOf i).toNat)
      case atStart => exact ⟨0, by omega, rfl⟩
      case round =>
        obtain ⟨k, hk, rfl⟩ := hrel
        have hk2 : (k : Int) ≤ 270 := by omega
        by_cases hlt : (k : Int) * 61 < n
        · go_wp2_with fail
          go_round
          case rel => exact ⟨k + 1, by omega, by go_num⟩
          case measure => simp [intOf]; omega
        · have he : Hid ((n + 60) / 61 = (k : Int)) := hid (by omega)
          go_wp2_with fail
          go_ret2
          exact ⟨by rw [hf.out, he.out]; rfl, rfl⟩

theorem repeatL_zero (c : Nat) : Lib.repeatL (⟨#[0]⟩ : ByteArray).data.toList c = List.replicate c 0 := by
  induction c with
  | zero => rfl
  | succ c ih => rw [Lib.repeatL, ih]; rfl
theorem ret_str {a b : ByteArray} (h : a = b) : Ending.returned (.string a) = .returned (.string b) := by rw [h]
theorem fill_rep (s : ByteArray) : s ++ (⟨Array.replicate (64 - s.size) 0⟩ : ByteArray) = bs (fill s.data.toList) := by
  have h : (⟨Array.replicate (64 - s.size) 0⟩ : ByteArray) = bs (List.replicate (64 - s.size) 0) := by unfold bs; rw [List.toArray_replicate]
  rw [h]
  conv => lhs; arg 1; rw [← bs_of s]
  rw [bs_app]
  rfl
theorem filled_any (s : ByteArray) (w : World) (h : s.size ≤ 64) : Calls Try.prog 62 #[.string s] w fun e w' => e = .returned (.string (bs (fill s.data.toList))) ∧ Below w.heap.size w w' := by
  have hc : Hid ((64 : Int) - (s.size : Int) = ((64 - s.size : Nat) : Int)) := hid (by omega)
  have hz := hid (repeatL_zero (64 - s.size))
  go_enter Try.func62, Try.ntmps62
  go_wp2_with fail
  rw [hc.out]
  refine (Try.strings_Repeat ⟨#[0]⟩ (64 - s.size) _ (by omega) (by rw [show (⟨#[0]⟩ : ByteArray).size = 1 from rfl]; omega)).mono ?_
  rw [hz.out]
  rintro e w1 ⟨rfl, hb⟩
  go_wp2_with fail
  go_ret
  exact ⟨ret_str (fill_rep s), hb⟩

theorem made_bytes (n : Nat) : (madeCells #[Value.int .u8 0] n).toList = List.replicate n (Value.int .u8 0) := by
  apply List.ext_getElem
  · simp [madeCells]
  · intro j h1 h2
    simp [madeCells, Nat.mod_one]
theorem padded_any (s : ByteArray) (w : World) (h : s.size ≤ 64) : Calls Try.prog 76 #[.string s] w fun e w' => e = .returned (.string (bs (fill s.data.toList))) ∧ Below w.heap.size w w' := by
  obtain ⟨i0, hi, hz0, hz1, hz2⟩ := info_parts Crc.info_u8
  have hc : Hid ((64 : Int) - (s.size : Int) = ((64 - s.size : Nat) : Int)) := hid (by omega)
  have hfr := hid (fill_rep s)
  go_enter Try.func76, Try.ntmps76
  go_wp2_with (at_make; refine wpList_make_full _ rfl _ _ 82 rfl w.heap.size 5 i0 (.int .u8 0) 1 Try.underlying82 hi hz0 hz1 _ _ _ _ (64 - s.size) rfl rfl hc.out hc.out ?m1 ?m2 (Nat.le_refl _) ?_)
  case m1 => rw [hz2]; omega
  case m2 => unfold maxLen; omega
  intro wm hown hgm
  rw [made_bytes] at hown
  have hown2 : wm.ownsRow w.heap.size 5 1 (.slice (some ⟨w.heap.size, 0, none⟩) (64 - s.size) (64 - s.size)) (64 - s.size) (Crc.cellsOf (List.replicate (64 - s.size) 0)) := by
    have e : Crc.cellsOf (List.replicate (64 - s.size) 0) = List.replicate (64 - s.size) (Value.int .u8 0) := by simp [Crc.cellsOf]
    rw [e]; exact hown
  have hbm := hid ((Below.refl w.heap.size w).grown hgm (Nat.le_refl _) (by simp))
  clear hown hgm
  go_wp2_with fail
  rw [Crc.run_convert_own 82 5 9 Try.underlying82 Try.underlying5 Try.underlying9 hown2]
  go_wp2_with fail
  go_ret
  exact ⟨ret_str hfr.out, hbm.out⟩
end Go.Proofs.Ytiegocbdgimimaa.Rec
