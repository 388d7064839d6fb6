/-
  The document's sectors of a frame.
-/
import Derived.Test.YtgplioocnbjhaaaRecFirst
import Derived.Test.YtgplioocnbjhaaaRecArgs
namespace Go.Proofs.Ytgplioocnbjhaaa.Rec
open Go.ChangeShapes Go.WideShapes Go.ChangeAt Go.RowKit
open Go.Proofs.Ytgplioocnbjhaaa.Mem Go.Proofs.Ytgplioocnbjhaaa.CrcMath
open Go.Proofs.Ytgplioocnbjhaaa.Crc (refsum_any)
set_option linter.unusedVariables false
set_option maxRecDepth 100000

theorem frcheck_any (k ep sq : Nat) (p : ByteArray) (w : World) (hp : p.size ≤ 9223372036854775807) :
    Calls Try.prog 119 #[.agg #[.int .u8 k, .int .u64 ep, .int .u64 sq, .string p]] w fun e w' => e = .returned (.int .i64 (fchk k p.size)) ∧ Below w.heap.size w w' := by
  by_cases hk : k = 0
  · have h1 : ((k : Int) == 0) = true := by simp [hk]
    have hf : Hid (fchk k p.size = 1) := hid (by simp [fchk, hk])
    clear hk
    go_enter Try.func119, Try.ntmps119
    go_wp2_with fail
    go_ret
    exact ⟨by rw [hf.out]; rfl, by go_grown⟩
  · have h1 : ((k : Int) == 0) = false := by simp; omega
    by_cases hn : 16384 < p.size
    · have hf : Hid (fchk k p.size = 3) := hid (by simp [fchk, hk, hn])
      have h2 : (16384 : Int) < (p.size : Int) := by omega
      clear hk hn
      go_enter Try.func119, Try.ntmps119
      go_wp2_with fail
      go_ret
      exact ⟨by rw [hf.out]; rfl, by go_grown⟩
    · have hf : Hid (fchk k p.size = 0) := hid (by simp [fchk, hk]; omega)
      have h2 : ¬ (16384 : Int) < (p.size : Int) := by omega
      clear hk hn
      go_enter Try.func119, Try.ntmps119
      go_wp2_with fail
      go_ret
      exact ⟨by rw [hf.out]; rfl, by go_grown⟩
theorem rsectors_no (k ep sq : Nat) (p : ByteArray) (w : World) (hs : p.size ≤ 9223372036854775807) (hk : Hid (fchk k p.size ≠ 0)) :
    Calls Try.prog 87 #[.agg #[.int .u8 k, .int .u64 ep, .int .u64 sq, .string p]] w fun e w' =>
      e = .returned (.tuple #[.slice none 0 0, .int .i64 (fchk k p.size)]) ∧ Below w.heap.size w w' := by
  have hne : (fchk k p.size != 0) = true := by simpa using hk.out
  obtain ⟨c, hc⟩ : ∃ c, fchk k p.size = c := ⟨_, rfl⟩
  rw [hc] at hne
  have hc' := hid hc
  clear hk
  rw [hc]
  clear hc
  go_enter Try.func87, Try.ntmps87
  go_wp2_with fail
  refine (frcheck_any k ep sq p _ hs).mono ?_
  rintro e w1 ⟨rfl, b1⟩
  have hB1 := hid ((show Below w.heap.size w _ from by go_grown).trans (b1.mono (by simp)))
  rw [hc'.out]
  clear b1
  go_wp2_with fail
  go_ret2
  exact ⟨rfl, hB1.out⟩
theorem own_one {w : World} {b base : Nat} {s : ByteArray} {t : TypeId} (h : Blk w b [.string s] t) (hb : base ≤ b) : w.ownsRow base t 1 (.slice (some ⟨b, 0, none⟩) 1 1) 1 (strC [s]) :=
  ⟨by simp [strC], .inr ⟨b, 1, _, rfl, hb, h.at', Nat.le_refl _, by decide, by simp, by simp [strC]⟩⟩
set_option maxHeartbeats 4000000 in
theorem rsectors_ok (k ep sq : Nat) (p : ByteArray) (w : World) (h0 : k < 256) (h1 : ep < 18446744073709551616) (h2 : sq < 18446744073709551616) (hk : Hid (fchk k p.size = 0)) :
    Calls Try.prog 87 #[.agg #[.int .u8 k, .int .u64 ep, .int .u64 sq, .string p]] w fun e w' =>
      ∃ sv, e = .returned (.tuple #[sv, .int .i64 0]) ∧ w'.ownsRow w.heap.size 9 1 sv (pcs p.size + 1) (strC (secsL ⟨k, ep, sq, p⟩)) ∧ Below w.heap.size w w' := by
  have hp2 := (fchk_zero hk.out).2
  have hp3 := hid hp2
  have hpe := hid (pcsE_nat p.size hp2)
  go_enter Try.func87, Try.ntmps87
  go_wp2_with fail
  refine (frcheck_any k ep sq p _ (by omega)).mono ?_
  rintro e w1 ⟨rfl, b1⟩
  have F1 := (Blk.new w [.int .u8 k, .int .u64 ep, .int .u64 sq, .string p] 40).below b1 (by simp)
  have hB1 := hid ((show Below w.heap.size w _ from by go_grown).trans (b1.mono (by simp)))
  have D := hid F1.drew
  have hB := hid hB1.out.drew
  have hz := hid F1.lt
  clear b1 hB1
  obtain ⟨d0, d1, d2, d3, df⟩ := F1.four
  rw [hk.out]
  clear F1
  go_wp2_with fail
  clear d0 d1 d2 d3 df
  obtain ⟨d0, d1, d2, d3, df⟩ := D.out.four
  go_region_held3 (fun W => W.cell? ⟨w.heap.size, 0, none⟩ = some (.int .u8 k) ∧ W.cell? ⟨w.heap.size, 1, none⟩ = some (.int .u64 ep) ∧ W.cell? ⟨w.heap.size, 2, none⟩ = some (.int .u64 sq) ∧ W.cell? ⟨w.heap.size, 3, none⟩ = some (.string p)) (first | (with_reducible exact ⟨d0, d1, d2, d3⟩) | (with_reducible exact ⟨e0, e1, e2, e3⟩) | (with_reducible exact ⟨ca e0, ca e1, ca e2, ca e3⟩)) (first
    | (go_at_call 121; (with_reducible refine (refsum_any p _ (by unfold maxLen; omega)).mono ?_); rintro e wx ⟨rfl, rfl⟩)
    | (go_at_call 120; (with_reducible refine (first_any k ep sq p.size (more 0 p.data.toList) _ h0 h1 h2 (by omega) (more_lt' _)).mono ?_); rintro e w2 ⟨rfl, b2⟩
       have D2 := hid (D.out.below b2 D.out.lt)
       have hB2 := hid (bt hB.out b2)
       obtain ⟨e0, e1, e2, e3, ef⟩ := D2.out.four))
  rename_i hHeld
  clear hHeld
  rw [show (⟨k, ep, sq, p.size, more 0 p.data.toList⟩ : Hd) = hdOf ⟨k, ep, sq, p⟩ from rfl]
  obtain ⟨H, hH⟩ : ∃ H, bs (headL (hdOf ⟨k, ep, sq, p⟩)) = H := ⟨_, rfl⟩
  rw [hH]
  have hH' := hid hH
  have F3 := D2.out.alloc (.cells #[.string H] 9)
  have X3 := Blk.new w2 [.string H] 9
  have hB3 := hB2.out.alloc hB2.out.size (.cells #[.string H] 9)
  have hz2 : w.heap.size < w2.heap.size := D2.out.lt
  have R3 := own_one (base := w.heap.size + 1) X3 hz2
  have hsz : w.heap.size + 1 ≤ (w2.alloc (.cells #[.string H] 9)).heap.size := by simp; omega
  clear hH b2 D2 hB2 e0 e1 e2 e3 ef d0 d1 d2 d3 df D hB hz X3
  generalize w2.heap.size = hb at hz2 R3 ⊢
  generalize w2.alloc (.cells #[.string H] 9) = W3 at F3 hB3 R3 hsz ⊢
  obtain ⟨d0, d1, d2, d3, df⟩ := F3.four
  have F3' := hid F3
  have hB3' := hid hB3
  have R3' := hid R3
  have hsz' := hid hsz
  have hmm := hid (show pcs p.size ≤ 269 by unfold pcs; omega)
  have hmm2 := hid (show ∀ j, j < pcs p.size → j * 61 ≤ p.size by intro j hj; unfold pcs at hj; omega)
  clear F3 hB3 R3 hsz hz2
  go_wp2_with fail
  refine (rpieces_any p.size _).mono ?_
  rw [hpe.out]
  rintro e w4 ⟨rfl, rfl⟩
  have hfin := hid (show bs (headL (hdOf ⟨k, ep, sq, p⟩)) :: piecesL p.data.toList (pcs p.size) = secsL ⟨k, ep, sq, p⟩ from rfl)
  rw [hH'.out] at hfin
  obtain ⟨m, hm⟩ : ∃ m, pcs p.size = m := ⟨_, rfl⟩
  rw [hm] at hmm hmm2 hfin ⊢
  have hmq := hid hm
  clear hm
  clear d0 d1 d2 d3 df
  go_wp2_with fail
  go_loopw [5, 8] (fun v i wr => ∃ j : Nat, j ≤ m ∧ i = .int .i64 j ∧ (∃ ao cap, v = .slice ao (j + 1) cap ∧ Hid (wr.ownsRow (w.heap.size + 1) 9 1 (.slice ao (j + 1) cap) (j + 1) (strC (H :: piecesL p.data.toList j)))) ∧ Hid (Below (w.heap.size + 1) W3 wr)) (fun _ i _ => m - (intOf i).toNat)
  case atStart => exact ⟨0, by omega, rfl, ⟨_, _, rfl, hid R3'.out⟩, hid (Below.refl _ _)⟩
  case round =>
    obtain ⟨j, hj, rfl, ⟨ao, cap, rfl, hown⟩, hbr⟩ := hrel
    by_cases hlt : j < m
    · have Fr := F3'.out.below hbr.out (Nat.lt_succ_self _)
      obtain ⟨c0, c1, c2, c3, cf⟩ := Fr.four
      have hjm : (j : Int) < (m : Int) := by omega
      have hj0 : (0 : Int) ≤ (j : Int) := by omega
      have hjb : j ≤ 300 := by have := hmm.out; omega
      have hpi := hid (hmm2.out j hlt)
      have hjb' := hid hjb
      clear Fr
      go_wp2_with fail
      refine (rpiece_any p j _ hpi.out hp3.out).mono ?_
      rintro e w5 ⟨rfl, b5⟩
      have hown5 := ownsRow_below hown.out b5
      have hbr5 := hbr.out.trans (b5.mono (Nat.le_trans hsz'.out hbr.out.size))
      have hg5 : w.heap.size + 1 ≤ w5.heap.size := Nat.le_trans hsz'.out hbr5.size
      obtain ⟨i0, hi, hz0, hz1, hz2⟩ := info_parts info_string
      obtain ⟨s, hs⟩ : ∃ s, bs (pieceL j (part p.data.toList j)) = s := ⟨_, rfl⟩
      rw [hs]
      have hs' := hid hs
      clear hs c0 c1 c2 c3 cf b5 hown hbr
      go_wp2_with (at_builtin; refine wpList_append_own _ rfl _ _ 22 rfl (w.heap.size + 1) 9 i0 (.string ⟨#[]⟩) 1 16 Try.underlying22 hi hz0 hz1 hz2 rfl (by decide) _ _ _ rfl (hown5.alloc _) ⟨w5.heap.size, 0, none⟩ 1 1 [.string s] rfl rfl ?c1 ?c2 ?c3 ?c4 ?c5 ?_)
      case c1 =>
        intro i u hu
        match i, hu with
        | 0, hu => simp at hu; subst hu; simp [go_sem]
      case c2 => simp [Value.oneCell']
      case c3 => unfold maxLen; omega
      case c4 => omega
      case c5 => simp; omega
      intro v' w6 hown6 hg6 _
      have hb6 := (hbr5.alloc hg5 (.cells #[.string s] 9)).grown hg6 (by simp; omega) (fun k hk => (hown5.lt k hk).1)
      have hown7 : w6.ownsRow (w.heap.size + 1) 9 1 v' (j + 1 + 1) (strC (H :: piecesL p.data.toList (j + 1))) := by
        rw [piecesL_succ, hs'.out, ← List.cons_append, strC_append]
        exact hown6
      obtain ⟨ao', cap', rfl, _, _⟩ := ownsRow_form hown6
      have hown7' := hid hown7
      have hb6' := hid hb6
      clear hown6 hg6 hown7 hb6 hown5 hbr5 hg5 hi hz0 hz1 hz2
      go_wp2_with fail
      go_roundw
      case rel => exact ⟨j + 1, by omega, by go_num, ⟨_, _, rfl, hown7'⟩, hb6'⟩
      case measure => simp [intOf]; omega
    · obtain rfl : j = m := by omega
      rw [hfin.out] at hown
      go_wp2_with fail
      go_ret2
      exact ⟨_, rfl, by rw [hmq.out]; exact ownsRow_mono hown.out (Nat.le_succ _), hB3'.out.trans (hbr.out.mono (Nat.le_succ _))⟩
theorem rsecs_any (f : Fr) (w : World) (h : f.has) : Calls Try.prog 87 #[frV f] w (SecTold w f) := by
  obtain ⟨k, ep, sq, p⟩ := f
  by_cases hc : fchk k p.size = 0
  · refine (rsectors_ok k ep sq p w h.1 h.2.1 h.2.2.1 (hid hc)).mono ?_
    rintro e w' ⟨sv, rfl, hown, hb⟩
    obtain ⟨ao, cap, rfl, _, _⟩ := ownsRow_form hown
    have he : sectorsE ⟨k, ep, sq, p⟩ = (secsL ⟨k, ep, sq, p⟩, 0) := by unfold sectorsE; rw [if_pos hc]
    refine ⟨ao, pcs p.size + 1, cap, ?_, ?_, ?_, hb⟩
    · rw [he]; exact (secsL_len ⟨k, ep, sq, p⟩).symm
    · rw [he]
    · rw [he]; exact hown
  · refine (rsectors_no k ep sq p w h.2.2.2 (hid hc)).mono ?_
    rintro e w' ⟨rfl, hb⟩
    have he : sectorsE ⟨k, ep, sq, p⟩ = ([], fchk k p.size) := by unfold sectorsE; rw [if_neg hc]
    refine ⟨none, 0, 0, ?_, ?_, ?_, hb⟩
    · rw [he]; rfl
    · rw [he]
    · rw [he]; exact World.ownsRow_nil _ _ _ _
end Go.Proofs.Ytgplioocnbjhaaa.Rec
