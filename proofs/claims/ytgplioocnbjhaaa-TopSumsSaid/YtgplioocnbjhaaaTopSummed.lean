/-
  lictortop's begins, summed, good.
-/
import Derived.Test.YtgplioocnbjhaaaSectorLives
import Derived.Test.YtgplioocnbjhaaaCrcCore
import Derived.Test.YtgplioocnbjhaaaRecHd
namespace Go.Proofs.Ytgplioocnbjhaaa.Top
open Go.ChangeShapes Go.WideShapes Go.ChangeAt Go.RowKit
open Go.Proofs.Ytgplioocnbjhaaa.Mem Go.Proofs.Ytgplioocnbjhaaa.Sector
set_option linter.unusedVariables false
set_option maxRecDepth 100000
set_option maxHeartbeats 1000000 in
theorem begins_any (w : World) : Calls Try.prog 51 #[] w fun e w' => e = .returned (.bool true) ∧ Below w.heap.size w w' := by
  go_enter Try.func51, Try.ntmps51
  go_wp2_with fail
  refine (new_any 1 _).mono ?_
  rintro e w1 hr
  unfold newE at hr
  rw [if_neg (by decide)] at hr
  obtain ⟨s2, sc2, p2, pc2, rfl, o2, b2⟩ := hr.open
  dsimp only at o2
  have h2 := hid b2
  have hl1 : (List.replicate (Int.toNat 1) Sector.blank).length = 1 := by simp
  dsimp only
  rw [hl1]
  have B2 := Blk.new w1 [.slice s2 1 sc2, .slice p2 0 pc2, .bool false, .int .i64 (-1)] 25
  have B2' := hid B2
  clear hr o2 b2 hl1 B2
  obtain ⟨d0, d1, d2, d3, df⟩ := B2'.out.four
  have hk : ((CrcMath.more 0 [49, 50, 51, 52, 53, 54, 55, 56, 57] : Nat) : Int) = 3421780262 := by rw [CrcMath.sum_check]; rfl
  have hk' := hid hk
  clear hk
  go_wp2_with fail
  refine (Crc.sum_any _ _ (by decide)).mono ?_
  rintro e w3 ⟨rfl, b3⟩
  have B3 := (show Blk _ w1.heap.size _ _ from B2'.out).below b3 (by simp)
  have h3 := hid (bt (h2.out.alloc h2.out.size _) b3)
  clear d0 d1 d2 d3 df b3
  obtain ⟨d0, d1, d2, d3, df⟩ := B3.four
  clear B3
  have hk2 := hk'.out
  rw [show (⟨#[49, 50, 51, 52, 53, 54, 55, 56, 57]⟩ : ByteArray).data.toList = [49, 50, 51, 52, 53, 54, 55, 56, 57] from rfl, hk2]
  clear hk2
  go_wp2_with fail
  go_ret
  exact ⟨rfl, h3.out⟩
def goodB (l : List UInt8) : Bool := decide (l.length = 64) && decide (Crc.num (Rec.sub l 60 4) = CrcMath.more 0 (Rec.sub l 0 60))
theorem good_any (s : ByteArray) (w : World) : Calls Try.prog 53 #[.string s] w fun e w' => e = .returned (.bool (goodB s.data.toList)) ∧ Below w.heap.size w w' := by
  by_cases h : s.size = 64
  · have hl : s.data.toList.length = 64 := h
    have h1 : ((s.size : Int) != 64) = false := by rw [h]; rfl
    have g60 : (60 : Int) ≤ (s.size : Int) := by omega
    have g61 : (60 : Nat) ≤ s.size := by omega
    have e1 : Hid (s.extract 60 s.size = Rec.bs (Rec.sub s.data.toList 60 4)) := hid (by rw [Rec.extract_sub, h])
    have e2 := hid (Rec.extract_sub s 0 60)
    have hs := hid h
    have l4 := hid (Rec.sub_len s.data.toList 60 4 (by omega))
    have l60 := hid (Rec.sub_len s.data.toList 0 60 (by omega))
    have hg : Hid (goodB s.data.toList = decide (Crc.num (Rec.sub s.data.toList 60 4) = CrcMath.more 0 (Rec.sub s.data.toList 0 60))) := hid (by unfold goodB; rw [hl]; simp)
    clear h hl
    go_enter Try.func53, Try.ntmps53
    go_wp2_with fail
    rw [e1.out]
    refine (Rec.get32_bs _ _ l4.out).mono ?_
    rintro e w1 ⟨rfl, rfl⟩
    have hz60 : Hid ((Rec.bs (Rec.sub s.data.toList 0 60)).size ≤ maxLen) := hid (by rw [Rec.bs_size, l60.out]; decide)
    by_cases hq : Crc.num (Rec.sub s.data.toList 60 4) = CrcMath.more 0 (Rec.sub s.data.toList 0 60)
    · have hgt : Hid (goodB s.data.toList = true) := hid (by rw [hg.out, hq]; simp)
      have hq1 : ((Crc.num (Rec.sub s.data.toList 60 4) : Int) == (CrcMath.more 0 (Rec.sub s.data.toList 0 60) : Int)) = true := by rw [hq]; simp
      clear hq hg
      go_wp2_with fail
      rw [e2.out]
      refine (Crc.sum_any _ _ hz60.out).mono ?_
      rw [Rec.bs_list]
      rintro e w2 ⟨rfl, b2⟩
      go_wp2_with fail
      go_ret
      exact ⟨by rw [hgt.out]; rfl, b2⟩
    · have hgt : Hid (goodB s.data.toList = false) := hid (by rw [hg.out]; simpa using hq)
      have hq1 : ((Crc.num (Rec.sub s.data.toList 60 4) : Int) == (CrcMath.more 0 (Rec.sub s.data.toList 0 60) : Int)) = false := by rw [beq_eq_false_iff_ne]; omega
      clear hq hg
      go_wp2_with fail
      rw [e2.out]
      refine (Crc.sum_any _ _ hz60.out).mono ?_
      rw [Rec.bs_list]
      rintro e w2 ⟨rfl, b2⟩
      go_wp2_with fail
      go_ret
      exact ⟨by rw [hgt.out]; rfl, b2⟩
  · have hg : Hid (goodB s.data.toList = false) := hid (by
      unfold goodB
      rw [show decide (s.data.toList.length = 64) = false by simpa using h]
      rfl)
    have h1 : ((s.size : Int) != 64) = true := by rw [bne_iff_ne]; omega
    clear h
    go_enter Try.func53, Try.ntmps53
    go_wp2_with fail
    go_ret
    exact ⟨by rw [hg.out]; rfl, by go_grown⟩
end Go.Proofs.Ytgplioocnbjhaaa.Top
