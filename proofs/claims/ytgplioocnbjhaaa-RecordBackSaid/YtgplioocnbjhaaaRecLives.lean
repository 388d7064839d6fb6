/-
  lictorlaw03's lives: true.
-/
import Derived.Test.YtgplioocnbjhaaaRecFacts
namespace Go.Proofs.Ytgplioocnbjhaaa.Rec
open Go.ChangeShapes Go.WideShapes Go.ChangeAt Go.RowKit
open Go.Proofs.Ytgplioocnbjhaaa.Mem Go.Proofs.Ytgplioocnbjhaaa.CrcMath
set_option linter.unusedVariables false
set_option maxRecDepth 100000

def P0 : ByteArray := bs (List.replicate 62 0)
def f0 : Fr := ⟨1, 0, 2, P0⟩
theorem p0_size : P0.size = 62 := by unfold P0; rw [bs_size, List.length_replicate]
theorem f0_ok : f0.okn := ⟨by decide, by decide, by decide, by show P0.size ≤ _; rw [p0_size]; decide⟩
theorem f0_chk : fchk f0.kind f0.pay.size = 0 := by show fchk 1 P0.size = 0; rw [p0_size]; decide
theorem secs0_len : (secsL f0).length = 3 := by rw [secsL_len]; show pcs P0.size + 1 = 3; rw [p0_size]; rfl
theorem l_sectors (w : World) : Calls Try.prog 31 #[.agg #[.int .u8 1, .int .u64 0, .int .u64 2, .string P0]] w fun e w' =>
    ∃ ao cap, e = .returned (.tuple #[.slice ao 3 cap, .int .i64 0]) ∧ StrsV w' (.slice ao 3 cap) (secsL f0) ∧ Below w.heap.size w w' := by
  refine (sectors_ok 1 0 2 P0 w (by decide) (by decide) (by decide) (hid f0_chk)).mono ?_
  rintro e w' ⟨sv, rfl, hown, hb⟩
  have h3 : pcs P0.size + 1 = 3 := by rw [p0_size]; rfl
  rw [h3] at hown
  obtain ⟨ao, cap, rfl, _, _⟩ := ownsRow_form hown
  refine ⟨ao, cap, rfl, ?_, hb⟩
  have := SlV.own hown
  unfold StrsV
  rw [secs0_len]
  exact this
theorem l_join (v : Value) (w : World) (h : StrsV w v (secsL f0)) : Calls Try.prog 32 #[v] w fun e w' =>
    e = .returned (.tuple #[.agg #[.int .u8 1, .int .u64 0, .int .u64 2, .string P0], .int .i64 0]) ∧ Below w.heap.size w w' := by
  refine (join_any _ v w h).mono ?_
  rw [join_secs f0 f0_ok f0_chk]
  exact fun e w' h => h
theorem l_pieces (w : World) : Calls Try.prog 71 #[.int .i64 61] w fun e w' => e = .returned (.tuple #[.int .i64 1, .int .i64 0]) ∧ w = w' := pieces_any 61 w
theorem l_head (w : World) : Calls Try.prog 33 #[.string (bs (List.replicate 64 0))] w fun e w' =>
    e = .returned (.tuple #[.agg #[.int .u8 0, .int .u64 0, .int .u64 0, .int .i64 0, .int .u32 0], .int .i64 14]) ∧ Below w.heap.size w w' := by
  refine (hd_any _ w).mono ?_
  rw [bs_list, hd_bad (by unfold headOk; rw [show (readHd (List.replicate 64 0)).kind = 0 from rfl]; simp)]
  exact fun e w' h => h
set_option maxHeartbeats 1000000 in
theorem lives_any (w : World) : Calls Try.prog 30 #[] w fun e w' => e = .returned (.bool true) ∧ Below w.heap.size w w' := by
  obtain ⟨i0, hi, hz0, hz1, hz2⟩ := info_parts Crc.info_u8
  go_enter Try.func30, Try.ntmps30
  go_wp2_with (at_make; refine wpList_make_full _ rfl _ _ 105 rfl w.heap.size 5 i0 (.int .u8 0) 1 Try.underlying105 hi hz0 hz1 _ _ _ _ 62 rfl rfl rfl rfl ?m1 ?m2 (Nat.le_refl _) ?_)
  case m1 => rw [hz2]; omega
  case m2 => unfold maxLen; omega
  intro wm hown hgm
  rw [made_bytes] at hown
  have hown2 : wm.ownsRow w.heap.size 5 1 (.slice (some ⟨w.heap.size, 0, none⟩) 62 62) 62 (Crc.cellsOf (List.replicate 62 0)) := hown
  have hbm := hid ((Below.refl w.heap.size w).grown hgm (Nat.le_refl _) (by simp))
  have hi' := hid hi
  have hz0' := hid hz0
  have hz1' := hid hz1
  have hz2' := hid hz2
  clear hown hgm hi hz0 hz1 hz2
  go_wp2_with fail
  rw [Crc.run_convert_own 105 5 9 Try.underlying105 Try.underlying5 Try.underlying9 hown2]
  rw [show (⟨(List.replicate 62 (0 : UInt8)).toArray⟩ : ByteArray) = P0 from rfl]
  clear hown2
  go_wp2_with fail
  have F0 := Blk.new wm [.int .u8 1, .int .u64 0, .int .u64 2, .string P0] 40
  have hB0 := hid (hbm.out.alloc hbm.out.size (.cells #[.int .u8 1, .int .u64 0, .int .u64 2, .string P0] 40))
  refine (l_sectors _).mono ?_
  rintro e w1 ⟨ao, cap, rfl, hs1, b1⟩
  have F1 := hid (F0.below b1 F0.lt)
  have hB1 := hid (bt hB0.out b1)
  have hs1' := hid hs1
  clear F0 hB0 b1 hs1
  go_wp2_with fail
  refine (l_join _ _ hs1'.out).mono ?_
  rintro e w2 ⟨rfl, b2⟩
  have F2 := F1.out.below b2 F1.out.lt
  have G2 := Blk.new w2 [.int .u8 1, .int .u64 0, .int .u64 2, .string P0] 40
  have b3 : Below w2.heap.size w2 (w2.alloc (.cells #[.int .u8 1, .int .u64 0, .int .u64 2, .string P0] 40)) := (Below.refl w2.heap.size w2).alloc (Nat.le_refl _) _
  have F3 := hid (F2.below b3 F2.lt)
  have G3 := hid G2
  have hB3 := hid (bt (bt hB1.out b2) b3)
  have hlt2 := hid F2.lt
  have hz : Hid ((w2.alloc (.cells #[.int .u8 1, .int .u64 0, .int .u64 2, .string P0] 40)).heap.size = w2.heap.size + 1) := hid (by simp)
  clear F1 hB1 b2 F2 G2 b3 hs1'
  go_wp2_with fail
  refine (l_pieces _).mono ?_
  rintro e w3 ⟨rfl, rfl⟩
  generalize w2.alloc (.cells #[.int .u8 1, .int .u64 0, .int .u64 2, .string P0] 40) = w3 at F3 G3 hB3 hz ⊢
  have hi := hi'.out
  have hz0 := hz0'.out
  have hz1 := hz1'.out
  have hz2 := hz2'.out
  go_wp2_with (at_make; refine wpList_make_full _ rfl _ _ 105 rfl w3.heap.size 5 i0 (.int .u8 0) 1 Try.underlying105 hi hz0 hz1 _ _ _ _ 64 rfl rfl rfl rfl ?m3 ?m4 (Nat.le_refl _) ?_)
  case m3 => rw [hz2]; omega
  case m4 => unfold maxLen; omega
  intro w4 hown hgm
  rw [made_bytes] at hown
  have hown2 : w4.ownsRow w3.heap.size 5 1 (.slice (some ⟨w3.heap.size, 0, none⟩) 64 64) 64 (Crc.cellsOf (List.replicate 64 0)) := hown
  have b4 := (Below.refl w3.heap.size w3).grown hgm (Nat.le_refl _) (by simp)
  have F4 := hid (F3.out.below b4 F3.out.lt)
  have G4 := hid (G3.out.below b4 G3.out.lt)
  have hB4 := hid (bt hB3.out b4)
  have hz4 := hid b4.size
  clear hown hgm hi hz0 hz1 hz2 hi' hz0' hz1' hz2' F3 G3 hB3 b4
  go_wp2_with fail
  rw [Crc.run_convert_own 105 5 9 Try.underlying105 Try.underlying5 Try.underlying9 hown2]
  rw [show (⟨(List.replicate 64 (0 : UInt8)).toArray⟩ : ByteArray) = bs (List.replicate 64 0) from rfl]
  clear hown2
  obtain ⟨Z, hZ⟩ : ∃ Z, bs (List.replicate 64 0) = Z := ⟨_, rfl⟩
  have hh := hid (fun w => l_head w)
  rw [hZ] at hh ⊢
  clear hZ
  go_wp2_with fail
  refine (hh.out _).mono ?_
  rintro e w5 ⟨rfl, b5⟩
  have F5 := F4.out.below b5 F4.out.lt
  have G5 := G4.out.below b5 G4.out.lt
  have hB5 := hid (bt hB4.out b5)
  have F6 := F5.alloc (.cells #[.int .u8 0, .int .u64 0, .int .u64 0, .int .i64 0, .int .u32 0] 47)
  have G6 := G5.alloc (.cells #[.int .u8 0, .int .u64 0, .int .u64 0, .int .i64 0, .int .u32 0] 47)
  obtain ⟨c0, c1, c2, c3, cf⟩ := F6.four
  obtain ⟨g0, g1, g2, g3, gf⟩ := G6.four
  have hP : (P0.toList == P0.toList) = true := str_yes rfl
  clear F4 G4 hB4 F5 G5 F6 G6 b5 hh
  go_wp2_with fail
  go_ret
  exact ⟨rfl, hB5.out.alloc hB5.out.size _⟩
end Go.Proofs.Ytgplioocnbjhaaa.Rec
