/-
  The contract of a frame's piece: the program's, the document's.
-/
import Derived.Test.YtiegocbdgimimaaRecLeaf
namespace Go.Proofs.Ytiegocbdgimimaa.Rec
open Go.ChangeShapes Go.WideShapes Go.ChangeAt Go.RowKit
open Go.Proofs.Ytiegocbdgimimaa.Mem Go.Proofs.Ytiegocbdgimimaa.CrcMath
set_option linter.unusedVariables false
set_option maxRecDepth 100000
attribute [local go_sem] bs_size Crc.leb_len List.length_append List.length_cons List.length_nil bs_app

theorem mark3 (i : Nat) : strOfNums [66, (i : Int) % 256, (i : Int) / 256] = bs [66, UInt8.ofNat i, UInt8.ofNat (i / 256)] := by
  have h1 : UInt8.ofNat (((i : Int) % 256).toNat) = UInt8.ofNat i := Crc.byte_of0 i
  have h2 : UInt8.ofNat (((i : Int) / 256).toNat) = UInt8.ofNat (i / 256) := by rw [show ((i : Int) / 256).toNat = i / 256 by omega]
  unfold strOfNums
  simp only [List.map_cons, List.map_nil, h1, h2]
  rfl
theorem mark2 (i : Nat) : strOfNums [(i : Int) % 256, (i : Int) / 256] = bs [UInt8.ofNat i, UInt8.ofNat (i / 256)] := by
  have h1 : UInt8.ofNat (((i : Int) % 256).toNat) = UInt8.ofNat i := Crc.byte_of0 i
  have h2 : UInt8.ofNat (((i : Int) / 256).toNat) = UInt8.ofNat (i / 256) := by rw [show ((i : Int) / 256).toNat = i / 256 by omega]
  unfold strOfNums
  simp only [List.map_cons, List.map_nil, h1, h2]
  rfl
set_option maxHeartbeats 400000 in
theorem piece_any (i : Nat) (p : By) (w : World) (hi : i < 65536) (hp : p.length ≤ 61) :
    Calls Try.prog 37 #[.int .i64 i, .string (bs p)] w fun e w' => e = .returned (.string (bs (pieceL i p))) ∧ Below w.heap.size w w' := by
  have hm := hid (mark3 i)
  have hp' : (p.length : Int) ≤ 61 := by omega
  go_enter Try.func37, Try.ntmps37
  go_wp2_with fail
  rw [run_convert_bytes_arg _ 82 5 Try.underlying82 Try.underlying5 _ 0 3 3 [66, (i : Int) % 256, (i : Int) / 256] rfl ?_ 9 Try.underlying9]
  · rw [hm.out]
    go_wp2_with fail
    refine (filled_any _ _ (by rw [bs_size]; simp; omega)).mono ?_
    rw [bs_list]
    rintro e w1 ⟨rfl, hb⟩
    go_wp2_with fail
    go_ret
    exact ⟨rfl, (show Below w.heap.size w _ from by go_grown).trans (hb.mono (by simp))⟩
  · exact fun i hi => match i, hi with
    | 0, _ => by simp [go_sem]
    | 1, _ => by simp [go_sem]
    | 2, _ => by simp [go_sem]
theorem extract_bs (p : ByteArray) (a b : Nat) : p.extract a b = bs ((p.data.toList.drop a).take (b - a)) := by
  apply ByteArray.ext
  apply Array.ext'
  simp [bs, ByteArray.data_extract, List.extract_eq_take_drop]
theorem extract_part (p : ByteArray) (i e : Nat) (h : e = min ((i + 1) * 61) p.size) (hi : i * 61 ≤ p.size) : p.extract (i * 61) e = bs (part p.data.toList i) := by
  rw [extract_bs]
  unfold part
  congr 1
  have hl : p.data.toList.length = p.size := rfl
  rcases Nat.lt_or_ge p.size ((i + 1) * 61) with h1 | h1
  · rw [List.take_of_length_le (by rw [List.length_drop]; omega), List.take_of_length_le (by rw [List.length_drop]; omega)]
  · rw [show e - i * 61 = 61 by omega]
theorem rpiece_str (p : ByteArray) (i e : Nat) (h : e = min ((i + 1) * 61) p.size) (hi : i * 61 ≤ p.size) :
    (⟨#[66]⟩ : ByteArray) ++ bs [UInt8.ofNat i, UInt8.ofNat (i / 256)] ++ p.extract (i * 61) e = bs ([66, UInt8.ofNat i, UInt8.ofNat (i / 256)] ++ part p.data.toList i) := by
  rw [extract_part p i e h hi, show (⟨#[66]⟩ : ByteArray) = bs [66] from rfl, bs_app, bs_app]
  rfl
theorem part_le (p : By) (i : Nat) : (part p i).length ≤ 61 := by rw [part_len]; omega
set_option maxHeartbeats 2000000 in
theorem rpiece_any (p : ByteArray) (i : Nat) (w : World) (hi : i * 61 ≤ p.size) (hp : p.size ≤ 16384) :
    Calls Try.prog 47 #[.string p, .int .i64 i] w fun e w' => e = .returned (.string (bs (pieceL i (part p.data.toList i)))) ∧ Below w.heap.size w w' := by
  have hcv : ∀ W' : World, W'.cell? ⟨w.heap.size, 0, none⟩ = some (.int .u8 ((i : Int) % 256)) → W'.cell? ⟨w.heap.size, 1, none⟩ = some (.int .u8 ((i : Int) / 256)) →
    (convert 82 9 (.slice (some ⟨w.heap.size, 0, none⟩) 2 2)).run Try.prog W' = .ok (.string (bs [UInt8.ofNat i, UInt8.ofNat (i / 256)])) W' := fun W' c0 c1 =>
    (run_convert_bytes_arg W' 82 5 Try.underlying82 Try.underlying5 w.heap.size 0 2 2 [(i : Int) % 256, (i : Int) / 256] rfl (fun i hi => match i, hi with
      | 0, _ => c0
      | 1, _ => c1) 9 Try.underlying9).trans (by rw [mark2])
  have a1 : ((i : Int)).tmod 256 = (i : Int) % 256 := by rw [Int.tmod_eq_emod_of_nonneg (by omega)]
  have a2 : IntKind.u8.wrap ((i : Int) % 256) = (i : Int) % 256 := IntWalk.u8_in _ (by omega)
  have a3 : IntKind.i64.wrap ((i : Int) / 256) = (i : Int) / 256 := IntWalk.i64_in _ (by omega)
  have a4 : IntKind.u8.wrap ((i : Int) / 256) = (i : Int) / 256 := IntWalk.u8_in _ (by omega)
  have a5 : IntKind.i64.wrap ((i : Int) * 61) = (i : Int) * 61 := IntWalk.i64_in _ (by omega)
  have a6 : 0 ≤ (i : Int) * 61 := by omega
  have a8 : ((i : Int) * 61).toNat = i * 61 := by omega
  have hz := hid (part_le p.data.toList i)
  by_cases hlt : p.size < (i + 1) * 61
  · have h1 : ((p.size : Int) < ((i : Int) + 1) * 61) := by omega
    have hs := hid (rpiece_str p i p.size (by omega) hi)
    have a7 : (i : Int) * 61 ≤ (p.size : Int) := by omega
    have a9 : ¬ (9223372036854775807 : Nat) < 3 + (p.size - i * 61) := by omega
    clear hlt
    go_enter Try.func47, Try.ntmps47
    go_wp2_with fail
    go_region_with (first | (go_at_call 76; rw [hs.out]; refine (padded_any _ _ (by rw [bs_size]; simp; have := hz.out; omega)).mono ?_; rw [bs_list]; rintro e w1 ⟨rfl, b1⟩))
    all_goals
      go_wp2_with fail
      go_ret
      exact ⟨rfl, (show Below w.heap.size w _ from by go_grown).trans (b1.mono (by simp))⟩
  · have hs := hid (rpiece_str p i ((i + 1) * 61) (by omega) hi)
    have hd : ¬ ((p.size : Int) < ((i : Int) + 1) * 61) := by omega
    go_enter Try.func47, Try.ntmps47
    go_wp2_with fail
    obtain ⟨E, hE⟩ : ∃ E : Nat, E = (i + 1) * 61 := ⟨_, rfl⟩
    have hE2 : ((i : Int) + 1) * 61 = (E : Int) := by omega
    have b7 : (i : Int) * 61 ≤ (E : Int) := by omega
    have b8 : (E : Int) ≤ (p.size : Int) := by omega
    have b9 : min E p.size = E := by omega
    have a9 : ¬ (9223372036854775807 : Nat) < 3 + (E - i * 61) := by omega
    rw [hE2]
    rw [← hE] at hs
    clear hlt hd hE hE2
    go_region_with (first | (go_at_call 76; rw [hs.out]; refine (padded_any _ _ (by rw [bs_size]; simp; have := hz.out; omega)).mono ?_; rw [bs_list]; rintro e w1 ⟨rfl, b1⟩))
    all_goals
      go_wp2_with fail
      go_ret
      exact ⟨rfl, (show Below w.heap.size w _ from by go_grown).trans (b1.mono (by simp))⟩
end Go.Proofs.Ytiegocbdgimimaa.Rec
