/-
  lictorref04.Check, Scan.
-/
import Derived.Test.YtiegocbdgimimaaRecHead
import Derived.Test.YtiegocbdgimimaaRecArgs
import Derived.Test.YtiegocbdgimimaaSlotTwo
import Derived.Test.YtiegocbdgimimaaFrSame
import Derived.Test.YtiegocbdgimimaaSectorSame
import Derived.BigQuiet
import Derived.Deep.QuietTactic
namespace Go.Proofs.Ytiegocbdgimimaa.Rec
open Go.ChangeShapes Go.WideShapes Go.ChangeAt Go.RowKit
open Go.Proofs.Ytiegocbdgimimaa.Mem Go.Proofs.Ytiegocbdgimimaa.CrcMath
open Go.Proofs.Ytiegocbdgimimaa.Crc (leb leb_len put32_any put64_any sum_any refput32_any refput64_any refsum_any)
set_option linter.unusedVariables false
set_option linter.unusedSimpArgs false
set_option maxRecDepth 100000

theorem c72 : (⟨#[72]⟩ : ByteArray) = bs [72] := rfl
attribute [local go_sem] bs_size leb_len List.length_append List.length_cons List.length_nil bs_app c72
set_option maxHeartbeats 4000000 in
theorem first_any (k ep sq ln sm : Nat) (w : World) (h0 : k < 256) (h1 : ep < 18446744073709551616) (h2 : sq < 18446744073709551616) (h3 : ln < 4294967296) (h4 : sm < 4294967296) :
    Calls Try.prog 44 #[.agg #[.int .u8 k, .int .u64 ep, .int .u64 sq, .int .i64 ln, .int .u32 sm]] w fun e w' => e = .returned (.string (bs (headL ⟨k, ep, sq, ln, sm⟩))) ∧ Below w.heap.size w w' := by
  have hln : IntKind.u32.wrap (ln : Int) = (ln : Int) := by rw [IntWalk.u32_in _ (by omega)]
  have D := hid (Blk.new w [.int .u8 k, .int .u64 ep, .int .u64 sq, .int .i64 ln, .int .u32 sm] 46).drew
  have hB := hid ((Below.refl _ w).alloc (Nat.le_refl _) (.cells #[.int .u8 k, .int .u64 ep, .int .u64 sq, .int .i64 ln, .int .u32 sm] 46)).drew
  have hcv0 : ∀ (b : Nat) (W' : World), W'.cell? ⟨b, 0, none⟩ = some (.int .u8 k) →
      (convert 82 9 (.slice (some ⟨b, 0, none⟩) 1 1)).run Try.prog W' = .ok (.string (bs [UInt8.ofNat k])) W' := fun b W' c0 =>
    (run_convert_bytes_arg W' 82 5 Try.underlying82 Try.underlying5 b 0 1 1 [(k : Int)] rfl (fun i hi => match i, hi with
      | 0, _ => c0) 9 Try.underlying9).trans rfl
  have hcv0' := hid hcv0
  have hsd : Hid (72 :: UInt8.ofNat k :: (leb 8 ep ++ (leb 8 sq ++ (leb 4 ln ++ leb 4 sm))) = said ⟨k, ep, sq, ln, sm⟩) := hid (by simp [said])
  have hl' := hid (said_len ⟨k, ep, sq, ln, sm⟩)
  have hhd : Hid (headL ⟨k, ep, sq, ln, sm⟩ = fill (said ⟨k, ep, sq, ln, sm⟩ ++ leb 4 (more 0 (said ⟨k, ep, sq, ln, sm⟩)))) := hid rfl
  clear hcv0
  have hcv0 := hcv0'.out
  go_enter Try.func44, Try.ntmps44
  go_wp2_with fail
  obtain ⟨d0, d1, d2, d3, d4, df⟩ := five D.out
  refine wp_region_held_drew (S := (fun W : World => W.cell? ⟨w.heap.size, 0, none⟩ = some (.int .u8 k) ∧ W.cell? ⟨w.heap.size, 1, none⟩ = some (.int .u64 ep) ∧ W.cell? ⟨w.heap.size, 2, none⟩ = some (.int .u64 sq) ∧ W.cell? ⟨w.heap.size, 3, none⟩ = some (.int .i64 ln) ∧ W.cell? ⟨w.heap.size, 4, none⟩ = some (.int .u32 sm))) (by kernel_rfl) ⟨d0, d1, d2, d3, d4⟩ (fun hHeld => ?_)
  clear d0 d1 d2 d3 d4 df
  generalize (w.alloc (.cells #[.int .u8 k, .int .u64 ep, .int .u64 sq, .int .i64 ln, .int .u32 sm] 46)).drew = w0 at D hB hHeld ⊢
  refine wpAnyH_take (i := 0) (v := ?_) rfl (by kernel_rfl) (by kernel_rfl) (by kernel_rfl) (fun _ _ _ h => h) (Or.inl ⟨by rfl, ?_⟩) (by assumption) ?_; rotate_left 1; (intro w hSw; (try dsimp only at hSw); go_simp; try with_reducible rfl); (try simp only [Act.put, List.getElem_toArray, List.getElem_cons_zero, List.getElem_cons_succ, List.setIfInBounds_toArray, List.set_cons_zero, List.set_cons_succ])
  refine wpAnyH_take (i := 1) (v := ?_) rfl (by kernel_rfl) (by kernel_rfl) (by kernel_rfl) (fun _ _ _ h => h) (Or.inl ⟨by rfl, ?_⟩) (by assumption) ?_; rotate_left 1; (intro w hSw; (try dsimp only at hSw); go_simp; try with_reducible rfl); (try simp only [Act.put, List.getElem_toArray, List.getElem_cons_zero, List.getElem_cons_succ, List.setIfInBounds_toArray, List.set_cons_zero, List.set_cons_succ])
  refine wpAnyH_take (i := 5) (v := ?_) rfl (by kernel_rfl) (by kernel_rfl) (by kernel_rfl) (fun _ _ _ h => h) (Or.inl ⟨by rfl, ?_⟩) (by assumption) ?_; rotate_left 1; (intro w hSw; (try dsimp only at hSw); go_simp; try with_reducible rfl); (try simp only [Act.put, List.getElem_toArray, List.getElem_cons_zero, List.getElem_cons_succ, List.setIfInBounds_toArray, List.set_cons_zero, List.set_cons_succ])
  refine wpAnyH_take (i := 6) (v := ?_) rfl (by kernel_rfl) (by kernel_rfl) (by kernel_rfl) (fun _ _ _ h => h) (Or.inl ⟨by rfl, ?_⟩) (by assumption) ?_; rotate_left 1; (intro w hSw; (try dsimp only at hSw); go_simp; try with_reducible rfl); (try simp only [Act.put, List.getElem_toArray, List.getElem_cons_zero, List.getElem_cons_succ, List.setIfInBounds_toArray, List.set_cons_zero, List.set_cons_succ])
  refine wpAnyH_take (i := 9) (v := ?_) rfl (by kernel_rfl) (by kernel_rfl) (by kernel_rfl) (fun _ _ _ h => h) (Or.inl ⟨by rfl, ?_⟩) (by assumption) ?_; rotate_left 1; (intro w hSw; (try dsimp only at hSw); go_simp; try with_reducible rfl); (try simp only [Act.put, List.getElem_toArray, List.getElem_cons_zero, List.getElem_cons_succ, List.setIfInBounds_toArray, List.set_cons_zero, List.set_cons_succ])
  refine wpAnyH_take (i := 10) (v := ?_) rfl (by kernel_rfl) (by kernel_rfl) (by kernel_rfl) (fun _ _ _ h => h) (Or.inl ⟨by rfl, ?_⟩) (by assumption) ?_; rotate_left 1; (intro w hSw; (try dsimp only at hSw); go_simp; try with_reducible rfl); (try simp only [Act.put, List.getElem_toArray, List.getElem_cons_zero, List.getElem_cons_succ, List.setIfInBounds_toArray, List.set_cons_zero, List.set_cons_succ])
  refine wpAnyH_take (i := 13) (v := ?_) rfl (by kernel_rfl) (by kernel_rfl) (by kernel_rfl) (fun _ _ _ h => h) (Or.inl ⟨by rfl, ?_⟩) (by assumption) ?_; rotate_left 1; (intro w hSw; (try dsimp only at hSw); go_simp; try with_reducible rfl); (try simp only [Act.put, List.getElem_toArray, List.getElem_cons_zero, List.getElem_cons_succ, List.setIfInBounds_toArray, List.set_cons_zero, List.set_cons_succ])
  refine wpAnyH_take (i := 14) (v := ?_) rfl (by kernel_rfl) (by kernel_rfl) (by kernel_rfl) (fun _ _ _ h => h) (Or.inl ⟨by rfl, ?_⟩) (by assumption) ?_; rotate_left 1; (intro w hSw; (try dsimp only at hSw); go_simp; try with_reducible rfl); (try simp only [Act.put, List.getElem_toArray, List.getElem_cons_zero, List.getElem_cons_succ, List.setIfInBounds_toArray, List.set_cons_zero, List.set_cons_succ])
  refine wpAnyH_take (i := 15) (v := ?_) rfl (by kernel_rfl) (by kernel_rfl) (by kernel_rfl) (fun _ _ _ h => h) (Or.inl ⟨by rfl, ?_⟩) (by assumption) ?_; rotate_left 1; (intro w hSw; (try dsimp only at hSw); go_simp; try with_reducible rfl); (try simp only [Act.put, List.getElem_toArray, List.getElem_cons_zero, List.getElem_cons_succ, List.setIfInBounds_toArray, List.set_cons_zero, List.set_cons_succ])
  refine wpAnyH_take (i := 18) (v := ?_) rfl (by kernel_rfl) (by kernel_rfl) (by kernel_rfl) (fun _ _ _ h => h) (Or.inl ⟨by rfl, ?_⟩) (by assumption) ?_; rotate_left 1; (intro w hSw; (try dsimp only at hSw); go_simp; try with_reducible rfl); (try simp only [Act.put, List.getElem_toArray, List.getElem_cons_zero, List.getElem_cons_succ, List.setIfInBounds_toArray, List.set_cons_zero, List.set_cons_succ])
  refine wpAnyH_take (i := 19) (v := ?_) rfl (by kernel_rfl) (by kernel_rfl) (by kernel_rfl) (fun _ _ _ h => h) (Or.inl ⟨by rfl, ?_⟩) (by assumption) ?_; rotate_left 1; (intro w hSw; (try dsimp only at hSw); go_simp; try with_reducible rfl); (try simp only [Act.put, List.getElem_toArray, List.getElem_cons_zero, List.getElem_cons_succ, List.setIfInBounds_toArray, List.set_cons_zero, List.set_cons_succ])
  refine wpAnyH_ready (rs := [2, 7]) (by kernel_rfl) (by simp) ?_
  refine AllReadyH.cons rfl (fun K hK => ?_) ?_
  · skip
    go_simp
    obtain ⟨d0, d1, d2, d3, d4, df⟩ := five D.out
    refine hK.out _ _ ⟨ca d0, ca d1, ca d2, ca d3, ca d4⟩ (fun hHeldN => ?_)
    clear hK K hHeld
    have hHeld := hHeldN
    clear hHeldN
    (try simp only [Act.put, List.getElem_toArray, List.getElem_cons_zero, List.getElem_cons_succ, List.setIfInBounds_toArray, List.set_cons_zero, List.set_cons_succ])
    have Q := hid (Blk.new w0 [.int .u8 k] 5)
    replace D := hid (D.out.alloc (.cells #[.int .u8 k] 5))
    replace hB := hid (hB.out.alloc hB.out.size (.cells #[.int .u8 k] 5))
    clear d0 d1 d2 d3 d4 df
    have hcv := hcv0 w0.heap.size
    generalize hbn : w0.heap.size = bn at Q hcv ⊢
    clear hbn
    generalize w0.alloc (.cells #[.int .u8 k] 5) = wn at D hB Q hHeld ⊢
    refine wpAnyH_mono (S1 := (fun W : World => (W.cell? ⟨w.heap.size, 0, none⟩ = some (.int .u8 k) ∧ W.cell? ⟨w.heap.size, 1, none⟩ = some (.int .u64 ep) ∧ W.cell? ⟨w.heap.size, 2, none⟩ = some (.int .u64 sq) ∧ W.cell? ⟨w.heap.size, 3, none⟩ = some (.int .i64 ln) ∧ W.cell? ⟨w.heap.size, 4, none⟩ = some (.int .u32 sm)) ∧ W.cell? ⟨bn, 0, none⟩ = some (.int .u8 k))) (fun _ h => h.1) ?_
    have hHeld1 : (fun W : World => (W.cell? ⟨w.heap.size, 0, none⟩ = some (.int .u8 k) ∧ W.cell? ⟨w.heap.size, 1, none⟩ = some (.int .u64 ep) ∧ W.cell? ⟨w.heap.size, 2, none⟩ = some (.int .u64 sq) ∧ W.cell? ⟨w.heap.size, 3, none⟩ = some (.int .i64 ln) ∧ W.cell? ⟨w.heap.size, 4, none⟩ = some (.int .u32 sm)) ∧ W.cell? ⟨bn, 0, none⟩ = some (.int .u8 k)) wn := ⟨hHeld, Q.out.one.1⟩
    clear hHeld
    have hHeld := hHeld1
    clear hHeld1
    refine wpAnyH_take (i := 3) (v := ?_) rfl (by kernel_rfl) (by kernel_rfl) (by kernel_rfl) (fun _ _ _ h => h) (Or.inl ⟨by rfl, ?_⟩) (by assumption) ?_; rotate_left 1; (intro w hSw; (try dsimp only at hSw); go_simp; try with_reducible rfl); (try simp only [Act.put, List.getElem_toArray, List.getElem_cons_zero, List.getElem_cons_succ, List.setIfInBounds_toArray, List.set_cons_zero, List.set_cons_succ])
    refine wpAnyH_take (i := 4) (v := ?_) rfl (by kernel_rfl) (by kernel_rfl) (by kernel_rfl) (fun _ _ _ h => h) (Or.inl ⟨by rfl, ?_⟩) (by assumption) ?_; rotate_left 1; (intro w hSw; (try dsimp only at hSw); go_simp; try with_reducible rfl); (try simp only [Act.put, List.getElem_toArray, List.getElem_cons_zero, List.getElem_cons_succ, List.setIfInBounds_toArray, List.set_cons_zero, List.set_cons_succ])
    refine wpAnyH_ready (rs := [7]) (by kernel_rfl) (by simp) ?_
    refine AllReadyH.cons rfl (fun K hK => ?_) AllReadyH.nil
    go_simp
    (with_reducible refine (rput64_bs ep _ h1).mono ?_)
    rintro e w1 ⟨rfl, b1⟩
    go_wp2_with fail
    replace D := hid (D.out.below b1 D.out.lt)
    replace hB := hid (bt hB.out b1)
    obtain ⟨d0, d1, d2, d3, d4, df⟩ := five D.out
    replace Q := hid (Q.out.below b1 Q.out.lt)
    have hq := Q.out.one
    refine hK.out _ _ ⟨⟨d0, d1, d2, d3, d4⟩, hq.1⟩ (fun hHeldN => ?_)
    clear hK K b1 hHeld
    have hHeld := hHeldN
    clear hHeldN
    (try simp only [Act.put, List.getElem_toArray, List.getElem_cons_zero, List.getElem_cons_succ, List.setIfInBounds_toArray, List.set_cons_zero, List.set_cons_succ])
    clear d0 d1 d2 d3 d4 df
    clear hq
    refine wpAnyH_take (i := 8) (v := ?_) rfl (by kernel_rfl) (by kernel_rfl) (by kernel_rfl) (fun _ _ _ h => h) (Or.inl ⟨by rfl, ?_⟩) (by assumption) ?_; rotate_left 1; (intro w hSw; (try dsimp only at hSw); go_simp; try with_reducible rfl); (try simp only [Act.put, List.getElem_toArray, List.getElem_cons_zero, List.getElem_cons_succ, List.setIfInBounds_toArray, List.set_cons_zero, List.set_cons_succ])
    refine wpAnyH_ready (rs := [11]) (by kernel_rfl) (by simp) ?_
    refine AllReadyH.cons rfl (fun K hK => ?_) AllReadyH.nil
    go_simp
    (with_reducible refine (rput64_bs sq _ h2).mono ?_)
    rintro e w2 ⟨rfl, b1⟩
    go_wp2_with fail
    replace D := hid (D.out.below b1 D.out.lt)
    replace hB := hid (bt hB.out b1)
    obtain ⟨d0, d1, d2, d3, d4, df⟩ := five D.out
    replace Q := hid (Q.out.below b1 Q.out.lt)
    have hq := Q.out.one
    refine hK.out _ _ ⟨⟨d0, d1, d2, d3, d4⟩, hq.1⟩ (fun hHeldN => ?_)
    clear hK K b1 hHeld
    have hHeld := hHeldN
    clear hHeldN
    (try simp only [Act.put, List.getElem_toArray, List.getElem_cons_zero, List.getElem_cons_succ, List.setIfInBounds_toArray, List.set_cons_zero, List.set_cons_succ])
    clear d0 d1 d2 d3 d4 df
    clear hq
    refine wpAnyH_take (i := 12) (v := ?_) rfl (by kernel_rfl) (by kernel_rfl) (by kernel_rfl) (fun _ _ _ h => h) (Or.inl ⟨by rfl, ?_⟩) (by assumption) ?_; rotate_left 1; (intro w hSw; (try dsimp only at hSw); go_simp; try with_reducible rfl); (try simp only [Act.put, List.getElem_toArray, List.getElem_cons_zero, List.getElem_cons_succ, List.setIfInBounds_toArray, List.set_cons_zero, List.set_cons_succ])
    refine wpAnyH_ready (rs := [16]) (by kernel_rfl) (by simp) ?_
    refine AllReadyH.cons rfl (fun K hK => ?_) AllReadyH.nil
    go_simp
    (with_reducible refine (rput32_bs ln _ h3).mono ?_)
    rintro e w3 ⟨rfl, b1⟩
    go_wp2_with fail
    replace D := hid (D.out.below b1 D.out.lt)
    replace hB := hid (bt hB.out b1)
    obtain ⟨d0, d1, d2, d3, d4, df⟩ := five D.out
    replace Q := hid (Q.out.below b1 Q.out.lt)
    have hq := Q.out.one
    refine hK.out _ _ ⟨⟨d0, d1, d2, d3, d4⟩, hq.1⟩ (fun hHeldN => ?_)
    clear hK K b1 hHeld
    have hHeld := hHeldN
    clear hHeldN
    (try simp only [Act.put, List.getElem_toArray, List.getElem_cons_zero, List.getElem_cons_succ, List.setIfInBounds_toArray, List.set_cons_zero, List.set_cons_succ])
    clear d0 d1 d2 d3 d4 df
    clear hq
    refine wpAnyH_take (i := 17) (v := ?_) rfl (by kernel_rfl) (by kernel_rfl) (by kernel_rfl) (fun _ _ _ h => h) (Or.inl ⟨by rfl, ?_⟩) (by assumption) ?_; rotate_left 1; (intro w hSw; (try dsimp only at hSw); go_simp; try with_reducible rfl); (try simp only [Act.put, List.getElem_toArray, List.getElem_cons_zero, List.getElem_cons_succ, List.setIfInBounds_toArray, List.set_cons_zero, List.set_cons_succ])
    refine wpAnyH_ready (rs := [20]) (by kernel_rfl) (by simp) ?_
    refine AllReadyH.cons rfl (fun K hK => ?_) AllReadyH.nil
    go_simp
    (with_reducible refine (rput32_bs sm _ h4).mono ?_)
    rintro e w4 ⟨rfl, b1⟩
    go_wp2_with fail
    replace D := hid (D.out.below b1 D.out.lt)
    replace hB := hid (bt hB.out b1)
    obtain ⟨d0, d1, d2, d3, d4, df⟩ := five D.out
    replace Q := hid (Q.out.below b1 Q.out.lt)
    have hq := Q.out.one
    refine hK.out _ _ ⟨⟨d0, d1, d2, d3, d4⟩, hq.1⟩ (fun hHeldN => ?_)
    clear hK K b1 hHeld
    have hHeld := hHeldN
    clear hHeldN
    (try simp only [Act.put, List.getElem_toArray, List.getElem_cons_zero, List.getElem_cons_succ, List.setIfInBounds_toArray, List.set_cons_zero, List.set_cons_succ])
    clear d0 d1 d2 d3 d4 df
    clear hq
    refine wpAnyH_take (i := 21) (v := ?_) rfl (by kernel_rfl) (by kernel_rfl) (by kernel_rfl) (fun _ _ _ h => h) (Or.inl ⟨by rfl, ?_⟩) (by assumption) ?_; rotate_left 1; (intro w hSw; (try dsimp only at hSw); go_simp; try with_reducible rfl); (try simp only [Act.put, List.getElem_toArray, List.getElem_cons_zero, List.getElem_cons_succ, List.setIfInBounds_toArray, List.set_cons_zero, List.set_cons_succ])
    refine wpAnyH_take (i := 22) (v := ?_) rfl (by kernel_rfl) (by kernel_rfl) (by kernel_rfl) (fun _ _ _ h => h) (Or.inl ⟨by rfl, ?_⟩) (by assumption) ?_; rotate_left 1; (intro w hSw; (try dsimp only at hSw); go_simp; try with_reducible rfl); (try simp only [Act.put, List.getElem_toArray, List.getElem_cons_zero, List.getElem_cons_succ, List.setIfInBounds_toArray, List.set_cons_zero, List.set_cons_succ])
    refine wpAnyH_done (by kernel_rfl) ?_ _
    have hl := hl'.out
    rw [hsd.out]
    clear hcv hcv0 hcv0' hHeld hln h0 h1 h2 h3 h4 hsd Q D hl'
    obtain ⟨S, hS⟩ : ∃ S, said ⟨k, ep, sq, ln, sm⟩ = S := ⟨_, rfl⟩
    rw [hS]
    have hhS : Hid (fill (S ++ leb 4 (more 0 S)) = headL ⟨k, ep, sq, ln, sm⟩) := hid (by rw [hhd.out, hS])
    rw [hS] at hl
    have hlS := hid hl
    clear hl hhd hS
    go_wp2_with fail
    refine (refsum_any (bs S) _ (by rw [bs_size, hlS.out]; decide)).mono ?_
    rw [bs_list]
    rintro e w5 ⟨rfl, rfl⟩
    go_wp2_with fail
    refine (rput32_bs (more 0 S) _ (more_lt' S)).mono ?_
    rintro e w6 ⟨rfl, b6⟩
    have hB6 := hid (bt hB.out b6)
    have hl := hlS.out
    go_wp2_with fail
    refine (padded_any (bs (S ++ leb 4 (more 0 S))) _ (by rw [bs_size, List.length_append, hlS.out, leb_len]; decide)).mono ?_
    rw [bs_list]
    rintro e w7 ⟨rfl, b7⟩
    have hB7 := hid (bt hB6.out b7)
    clear hl
    go_wp2_with fail
    go_ret
    exact ⟨by rw [← hhS.out]; rfl, hB7.out⟩
  · refine AllReadyH.cons rfl (fun K hK => ?_) AllReadyH.nil
    go_simp
    (with_reducible refine (rput64_bs ep _ h1).mono ?_)
    rintro e w1 ⟨rfl, b1⟩
    go_wp2_with fail
    replace D := hid (D.out.below b1 D.out.lt)
    replace hB := hid (bt hB.out b1)
    obtain ⟨d0, d1, d2, d3, d4, df⟩ := five D.out
    refine hK.out _ _ ⟨d0, d1, d2, d3, d4⟩ (fun hHeldN => ?_)
    clear hK K b1 hHeld
    have hHeld := hHeldN
    clear hHeldN
    (try simp only [Act.put, List.getElem_toArray, List.getElem_cons_zero, List.getElem_cons_succ, List.setIfInBounds_toArray, List.set_cons_zero, List.set_cons_succ])
    clear d0 d1 d2 d3 d4 df
    refine wpAnyH_ready (rs := [2, 11]) (by kernel_rfl) (by simp) ?_
    refine AllReadyH.cons rfl (fun K hK => ?_) ?_
    · skip
      go_simp
      obtain ⟨d0, d1, d2, d3, d4, df⟩ := five D.out
      refine hK.out _ _ ⟨ca d0, ca d1, ca d2, ca d3, ca d4⟩ (fun hHeldN => ?_)
      clear hK K hHeld
      have hHeld := hHeldN
      clear hHeldN
      (try simp only [Act.put, List.getElem_toArray, List.getElem_cons_zero, List.getElem_cons_succ, List.setIfInBounds_toArray, List.set_cons_zero, List.set_cons_succ])
      have Q := hid (Blk.new w1 [.int .u8 k] 5)
      replace D := hid (D.out.alloc (.cells #[.int .u8 k] 5))
      replace hB := hid (hB.out.alloc hB.out.size (.cells #[.int .u8 k] 5))
      clear d0 d1 d2 d3 d4 df
      have hcv := hcv0 w1.heap.size
      generalize hbn : w1.heap.size = bn at Q hcv ⊢
      clear hbn
      generalize w1.alloc (.cells #[.int .u8 k] 5) = wn at D hB Q hHeld ⊢
      refine wpAnyH_mono (S1 := (fun W : World => (W.cell? ⟨w.heap.size, 0, none⟩ = some (.int .u8 k) ∧ W.cell? ⟨w.heap.size, 1, none⟩ = some (.int .u64 ep) ∧ W.cell? ⟨w.heap.size, 2, none⟩ = some (.int .u64 sq) ∧ W.cell? ⟨w.heap.size, 3, none⟩ = some (.int .i64 ln) ∧ W.cell? ⟨w.heap.size, 4, none⟩ = some (.int .u32 sm)) ∧ W.cell? ⟨bn, 0, none⟩ = some (.int .u8 k))) (fun _ h => h.1) ?_
      have hHeld1 : (fun W : World => (W.cell? ⟨w.heap.size, 0, none⟩ = some (.int .u8 k) ∧ W.cell? ⟨w.heap.size, 1, none⟩ = some (.int .u64 ep) ∧ W.cell? ⟨w.heap.size, 2, none⟩ = some (.int .u64 sq) ∧ W.cell? ⟨w.heap.size, 3, none⟩ = some (.int .i64 ln) ∧ W.cell? ⟨w.heap.size, 4, none⟩ = some (.int .u32 sm)) ∧ W.cell? ⟨bn, 0, none⟩ = some (.int .u8 k)) wn := ⟨hHeld, Q.out.one.1⟩
      clear hHeld
      have hHeld := hHeld1
      clear hHeld1
      refine wpAnyH_take (i := 3) (v := ?_) rfl (by kernel_rfl) (by kernel_rfl) (by kernel_rfl) (fun _ _ _ h => h) (Or.inl ⟨by rfl, ?_⟩) (by assumption) ?_; rotate_left 1; (intro w hSw; (try dsimp only at hSw); go_simp; try with_reducible rfl); (try simp only [Act.put, List.getElem_toArray, List.getElem_cons_zero, List.getElem_cons_succ, List.setIfInBounds_toArray, List.set_cons_zero, List.set_cons_succ])
      refine wpAnyH_take (i := 4) (v := ?_) rfl (by kernel_rfl) (by kernel_rfl) (by kernel_rfl) (fun _ _ _ h => h) (Or.inl ⟨by rfl, ?_⟩) (by assumption) ?_; rotate_left 1; (intro w hSw; (try dsimp only at hSw); go_simp; try with_reducible rfl); (try simp only [Act.put, List.getElem_toArray, List.getElem_cons_zero, List.getElem_cons_succ, List.setIfInBounds_toArray, List.set_cons_zero, List.set_cons_succ])
      refine wpAnyH_take (i := 8) (v := ?_) rfl (by kernel_rfl) (by kernel_rfl) (by kernel_rfl) (fun _ _ _ h => h) (Or.inl ⟨by rfl, ?_⟩) (by assumption) ?_; rotate_left 1; (intro w hSw; (try dsimp only at hSw); go_simp; try with_reducible rfl); (try simp only [Act.put, List.getElem_toArray, List.getElem_cons_zero, List.getElem_cons_succ, List.setIfInBounds_toArray, List.set_cons_zero, List.set_cons_succ])
      refine wpAnyH_ready (rs := [11]) (by kernel_rfl) (by simp) ?_
      refine AllReadyH.cons rfl (fun K hK => ?_) AllReadyH.nil
      go_simp
      (with_reducible refine (rput64_bs sq _ h2).mono ?_)
      rintro e w2 ⟨rfl, b1⟩
      go_wp2_with fail
      replace D := hid (D.out.below b1 D.out.lt)
      replace hB := hid (bt hB.out b1)
      obtain ⟨d0, d1, d2, d3, d4, df⟩ := five D.out
      replace Q := hid (Q.out.below b1 Q.out.lt)
      have hq := Q.out.one
      refine hK.out _ _ ⟨⟨d0, d1, d2, d3, d4⟩, hq.1⟩ (fun hHeldN => ?_)
      clear hK K b1 hHeld
      have hHeld := hHeldN
      clear hHeldN
      (try simp only [Act.put, List.getElem_toArray, List.getElem_cons_zero, List.getElem_cons_succ, List.setIfInBounds_toArray, List.set_cons_zero, List.set_cons_succ])
      clear d0 d1 d2 d3 d4 df
      clear hq
      refine wpAnyH_take (i := 12) (v := ?_) rfl (by kernel_rfl) (by kernel_rfl) (by kernel_rfl) (fun _ _ _ h => h) (Or.inl ⟨by rfl, ?_⟩) (by assumption) ?_; rotate_left 1; (intro w hSw; (try dsimp only at hSw); go_simp; try with_reducible rfl); (try simp only [Act.put, List.getElem_toArray, List.getElem_cons_zero, List.getElem_cons_succ, List.setIfInBounds_toArray, List.set_cons_zero, List.set_cons_succ])
      refine wpAnyH_ready (rs := [16]) (by kernel_rfl) (by simp) ?_
      refine AllReadyH.cons rfl (fun K hK => ?_) AllReadyH.nil
      go_simp
      (with_reducible refine (rput32_bs ln _ h3).mono ?_)
      rintro e w3 ⟨rfl, b1⟩
      go_wp2_with fail
      replace D := hid (D.out.below b1 D.out.lt)
      replace hB := hid (bt hB.out b1)
      obtain ⟨d0, d1, d2, d3, d4, df⟩ := five D.out
      replace Q := hid (Q.out.below b1 Q.out.lt)
      have hq := Q.out.one
      refine hK.out _ _ ⟨⟨d0, d1, d2, d3, d4⟩, hq.1⟩ (fun hHeldN => ?_)
      clear hK K b1 hHeld
      have hHeld := hHeldN
      clear hHeldN
      (try simp only [Act.put, List.getElem_toArray, List.getElem_cons_zero, List.getElem_cons_succ, List.setIfInBounds_toArray, List.set_cons_zero, List.set_cons_succ])
      clear d0 d1 d2 d3 d4 df
      clear hq
      refine wpAnyH_take (i := 17) (v := ?_) rfl (by kernel_rfl) (by kernel_rfl) (by kernel_rfl) (fun _ _ _ h => h) (Or.inl ⟨by rfl, ?_⟩) (by assumption) ?_; rotate_left 1; (intro w hSw; (try dsimp only at hSw); go_simp; try with_reducible rfl); (try simp only [Act.put, List.getElem_toArray, List.getElem_cons_zero, List.getElem_cons_succ, List.setIfInBounds_toArray, List.set_cons_zero, List.set_cons_succ])
      refine wpAnyH_ready (rs := [20]) (by kernel_rfl) (by simp) ?_
      refine AllReadyH.cons rfl (fun K hK => ?_) AllReadyH.nil
      go_simp
      (with_reducible refine (rput32_bs sm _ h4).mono ?_)
      rintro e w4 ⟨rfl, b1⟩
      go_wp2_with fail
      replace D := hid (D.out.below b1 D.out.lt)
      replace hB := hid (bt hB.out b1)
      obtain ⟨d0, d1, d2, d3, d4, df⟩ := five D.out
      replace Q := hid (Q.out.below b1 Q.out.lt)
      have hq := Q.out.one
      refine hK.out _ _ ⟨⟨d0, d1, d2, d3, d4⟩, hq.1⟩ (fun hHeldN => ?_)
      clear hK K b1 hHeld
      have hHeld := hHeldN
      clear hHeldN
      (try simp only [Act.put, List.getElem_toArray, List.getElem_cons_zero, List.getElem_cons_succ, List.setIfInBounds_toArray, List.set_cons_zero, List.set_cons_succ])
      clear d0 d1 d2 d3 d4 df
      clear hq
      refine wpAnyH_take (i := 21) (v := ?_) rfl (by kernel_rfl) (by kernel_rfl) (by kernel_rfl) (fun _ _ _ h => h) (Or.inl ⟨by rfl, ?_⟩) (by assumption) ?_; rotate_left 1; (intro w hSw; (try dsimp only at hSw); go_simp; try with_reducible rfl); (try simp only [Act.put, List.getElem_toArray, List.getElem_cons_zero, List.getElem_cons_succ, List.setIfInBounds_toArray, List.set_cons_zero, List.set_cons_succ])
      refine wpAnyH_take (i := 22) (v := ?_) rfl (by kernel_rfl) (by kernel_rfl) (by kernel_rfl) (fun _ _ _ h => h) (Or.inl ⟨by rfl, ?_⟩) (by assumption) ?_; rotate_left 1; (intro w hSw; (try dsimp only at hSw); go_simp; try with_reducible rfl); (try simp only [Act.put, List.getElem_toArray, List.getElem_cons_zero, List.getElem_cons_succ, List.setIfInBounds_toArray, List.set_cons_zero, List.set_cons_succ])
      refine wpAnyH_done (by kernel_rfl) ?_ _
      have hl := hl'.out
      rw [hsd.out]
      clear hcv hcv0 hcv0' hHeld hln h0 h1 h2 h3 h4 hsd Q D hl'
      obtain ⟨S, hS⟩ : ∃ S, said ⟨k, ep, sq, ln, sm⟩ = S := ⟨_, rfl⟩
      rw [hS]
      have hhS : Hid (fill (S ++ leb 4 (more 0 S)) = headL ⟨k, ep, sq, ln, sm⟩) := hid (by rw [hhd.out, hS])
      rw [hS] at hl
      have hlS := hid hl
      clear hl hhd hS
      go_wp2_with fail
      refine (refsum_any (bs S) _ (by rw [bs_size, hlS.out]; decide)).mono ?_
      rw [bs_list]
      rintro e w5 ⟨rfl, rfl⟩
      go_wp2_with fail
      refine (rput32_bs (more 0 S) _ (more_lt' S)).mono ?_
      rintro e w6 ⟨rfl, b6⟩
      have hB6 := hid (bt hB.out b6)
      have hl := hlS.out
      go_wp2_with fail
      refine (padded_any (bs (S ++ leb 4 (more 0 S))) _ (by rw [bs_size, List.length_append, hlS.out, leb_len]; decide)).mono ?_
      rw [bs_list]
      rintro e w7 ⟨rfl, b7⟩
      have hB7 := hid (bt hB6.out b7)
      clear hl
      go_wp2_with fail
      go_ret
      exact ⟨by rw [← hhS.out]; rfl, hB7.out⟩
    · refine AllReadyH.cons rfl (fun K hK => ?_) AllReadyH.nil
      go_simp
      (with_reducible refine (rput64_bs sq _ h2).mono ?_)
      rintro e w2 ⟨rfl, b1⟩
      go_wp2_with fail
      replace D := hid (D.out.below b1 D.out.lt)
      replace hB := hid (bt hB.out b1)
      obtain ⟨d0, d1, d2, d3, d4, df⟩ := five D.out
      refine hK.out _ _ ⟨d0, d1, d2, d3, d4⟩ (fun hHeldN => ?_)
      clear hK K b1 hHeld
      have hHeld := hHeldN
      clear hHeldN
      (try simp only [Act.put, List.getElem_toArray, List.getElem_cons_zero, List.getElem_cons_succ, List.setIfInBounds_toArray, List.set_cons_zero, List.set_cons_succ])
      clear d0 d1 d2 d3 d4 df
      refine wpAnyH_ready (rs := [2, 16]) (by kernel_rfl) (by simp) ?_
      refine AllReadyH.cons rfl (fun K hK => ?_) ?_
      · skip
        go_simp
        obtain ⟨d0, d1, d2, d3, d4, df⟩ := five D.out
        refine hK.out _ _ ⟨ca d0, ca d1, ca d2, ca d3, ca d4⟩ (fun hHeldN => ?_)
        clear hK K hHeld
        have hHeld := hHeldN
        clear hHeldN
        (try simp only [Act.put, List.getElem_toArray, List.getElem_cons_zero, List.getElem_cons_succ, List.setIfInBounds_toArray, List.set_cons_zero, List.set_cons_succ])
        have Q := hid (Blk.new w2 [.int .u8 k] 5)
        replace D := hid (D.out.alloc (.cells #[.int .u8 k] 5))
        replace hB := hid (hB.out.alloc hB.out.size (.cells #[.int .u8 k] 5))
        clear d0 d1 d2 d3 d4 df
        have hcv := hcv0 w2.heap.size
        generalize hbn : w2.heap.size = bn at Q hcv ⊢
        clear hbn
        generalize w2.alloc (.cells #[.int .u8 k] 5) = wn at D hB Q hHeld ⊢
        refine wpAnyH_mono (S1 := (fun W : World => (W.cell? ⟨w.heap.size, 0, none⟩ = some (.int .u8 k) ∧ W.cell? ⟨w.heap.size, 1, none⟩ = some (.int .u64 ep) ∧ W.cell? ⟨w.heap.size, 2, none⟩ = some (.int .u64 sq) ∧ W.cell? ⟨w.heap.size, 3, none⟩ = some (.int .i64 ln) ∧ W.cell? ⟨w.heap.size, 4, none⟩ = some (.int .u32 sm)) ∧ W.cell? ⟨bn, 0, none⟩ = some (.int .u8 k))) (fun _ h => h.1) ?_
        have hHeld1 : (fun W : World => (W.cell? ⟨w.heap.size, 0, none⟩ = some (.int .u8 k) ∧ W.cell? ⟨w.heap.size, 1, none⟩ = some (.int .u64 ep) ∧ W.cell? ⟨w.heap.size, 2, none⟩ = some (.int .u64 sq) ∧ W.cell? ⟨w.heap.size, 3, none⟩ = some (.int .i64 ln) ∧ W.cell? ⟨w.heap.size, 4, none⟩ = some (.int .u32 sm)) ∧ W.cell? ⟨bn, 0, none⟩ = some (.int .u8 k)) wn := ⟨hHeld, Q.out.one.1⟩
        clear hHeld
        have hHeld := hHeld1
        clear hHeld1
        refine wpAnyH_take (i := 3) (v := ?_) rfl (by kernel_rfl) (by kernel_rfl) (by kernel_rfl) (fun _ _ _ h => h) (Or.inl ⟨by rfl, ?_⟩) (by assumption) ?_; rotate_left 1; (intro w hSw; (try dsimp only at hSw); go_simp; try with_reducible rfl); (try simp only [Act.put, List.getElem_toArray, List.getElem_cons_zero, List.getElem_cons_succ, List.setIfInBounds_toArray, List.set_cons_zero, List.set_cons_succ])
        refine wpAnyH_take (i := 4) (v := ?_) rfl (by kernel_rfl) (by kernel_rfl) (by kernel_rfl) (fun _ _ _ h => h) (Or.inl ⟨by rfl, ?_⟩) (by assumption) ?_; rotate_left 1; (intro w hSw; (try dsimp only at hSw); go_simp; try with_reducible rfl); (try simp only [Act.put, List.getElem_toArray, List.getElem_cons_zero, List.getElem_cons_succ, List.setIfInBounds_toArray, List.set_cons_zero, List.set_cons_succ])
        refine wpAnyH_take (i := 8) (v := ?_) rfl (by kernel_rfl) (by kernel_rfl) (by kernel_rfl) (fun _ _ _ h => h) (Or.inl ⟨by rfl, ?_⟩) (by assumption) ?_; rotate_left 1; (intro w hSw; (try dsimp only at hSw); go_simp; try with_reducible rfl); (try simp only [Act.put, List.getElem_toArray, List.getElem_cons_zero, List.getElem_cons_succ, List.setIfInBounds_toArray, List.set_cons_zero, List.set_cons_succ])
        refine wpAnyH_take (i := 12) (v := ?_) rfl (by kernel_rfl) (by kernel_rfl) (by kernel_rfl) (fun _ _ _ h => h) (Or.inl ⟨by rfl, ?_⟩) (by assumption) ?_; rotate_left 1; (intro w hSw; (try dsimp only at hSw); go_simp; try with_reducible rfl); (try simp only [Act.put, List.getElem_toArray, List.getElem_cons_zero, List.getElem_cons_succ, List.setIfInBounds_toArray, List.set_cons_zero, List.set_cons_succ])
        refine wpAnyH_ready (rs := [16]) (by kernel_rfl) (by simp) ?_
        refine AllReadyH.cons rfl (fun K hK => ?_) AllReadyH.nil
        go_simp
        (with_reducible refine (rput32_bs ln _ h3).mono ?_)
        rintro e w3 ⟨rfl, b1⟩
        go_wp2_with fail
        replace D := hid (D.out.below b1 D.out.lt)
        replace hB := hid (bt hB.out b1)
        obtain ⟨d0, d1, d2, d3, d4, df⟩ := five D.out
        replace Q := hid (Q.out.below b1 Q.out.lt)
        have hq := Q.out.one
        refine hK.out _ _ ⟨⟨d0, d1, d2, d3, d4⟩, hq.1⟩ (fun hHeldN => ?_)
        clear hK K b1 hHeld
        have hHeld := hHeldN
        clear hHeldN
        (try simp only [Act.put, List.getElem_toArray, List.getElem_cons_zero, List.getElem_cons_succ, List.setIfInBounds_toArray, List.set_cons_zero, List.set_cons_succ])
        clear d0 d1 d2 d3 d4 df
        clear hq
        refine wpAnyH_take (i := 17) (v := ?_) rfl (by kernel_rfl) (by kernel_rfl) (by kernel_rfl) (fun _ _ _ h => h) (Or.inl ⟨by rfl, ?_⟩) (by assumption) ?_; rotate_left 1; (intro w hSw; (try dsimp only at hSw); go_simp; try with_reducible rfl); (try simp only [Act.put, List.getElem_toArray, List.getElem_cons_zero, List.getElem_cons_succ, List.setIfInBounds_toArray, List.set_cons_zero, List.set_cons_succ])
        refine wpAnyH_ready (rs := [20]) (by kernel_rfl) (by simp) ?_
        refine AllReadyH.cons rfl (fun K hK => ?_) AllReadyH.nil
        go_simp
        (with_reducible refine (rput32_bs sm _ h4).mono ?_)
        rintro e w4 ⟨rfl, b1⟩
        go_wp2_with fail
        replace D := hid (D.out.below b1 D.out.lt)
        replace hB := hid (bt hB.out b1)
        obtain ⟨d0, d1, d2, d3, d4, df⟩ := five D.out
        replace Q := hid (Q.out.below b1 Q.out.lt)
        have hq := Q.out.one
        refine hK.out _ _ ⟨⟨d0, d1, d2, d3, d4⟩, hq.1⟩ (fun hHeldN => ?_)
        clear hK K b1 hHeld
        have hHeld := hHeldN
        clear hHeldN
        (try simp only [Act.put, List.getElem_toArray, List.getElem_cons_zero, List.getElem_cons_succ, List.setIfInBounds_toArray, List.set_cons_zero, List.set_cons_succ])
        clear d0 d1 d2 d3 d4 df
        clear hq
        refine wpAnyH_take (i := 21) (v := ?_) rfl (by kernel_rfl) (by kernel_rfl) (by kernel_rfl) (fun _ _ _ h => h) (Or.inl ⟨by rfl, ?_⟩) (by assumption) ?_; rotate_left 1; (intro w hSw; (try dsimp only at hSw); go_simp; try with_reducible rfl); (try simp only [Act.put, List.getElem_toArray, List.getElem_cons_zero, List.getElem_cons_succ, List.setIfInBounds_toArray, List.set_cons_zero, List.set_cons_succ])
        refine wpAnyH_take (i := 22) (v := ?_) rfl (by kernel_rfl) (by kernel_rfl) (by kernel_rfl) (fun _ _ _ h => h) (Or.inl ⟨by rfl, ?_⟩) (by assumption) ?_; rotate_left 1; (intro w hSw; (try dsimp only at hSw); go_simp; try with_reducible rfl); (try simp only [Act.put, List.getElem_toArray, List.getElem_cons_zero, List.getElem_cons_succ, List.setIfInBounds_toArray, List.set_cons_zero, List.set_cons_succ])
        refine wpAnyH_done (by kernel_rfl) ?_ _
        have hl := hl'.out
        rw [hsd.out]
        clear hcv hcv0 hcv0' hHeld hln h0 h1 h2 h3 h4 hsd Q D hl'
        obtain ⟨S, hS⟩ : ∃ S, said ⟨k, ep, sq, ln, sm⟩ = S := ⟨_, rfl⟩
        rw [hS]
        have hhS : Hid (fill (S ++ leb 4 (more 0 S)) = headL ⟨k, ep, sq, ln, sm⟩) := hid (by rw [hhd.out, hS])
        rw [hS] at hl
        have hlS := hid hl
        clear hl hhd hS
        go_wp2_with fail
        refine (refsum_any (bs S) _ (by rw [bs_size, hlS.out]; decide)).mono ?_
        rw [bs_list]
        rintro e w5 ⟨rfl, rfl⟩
        go_wp2_with fail
        refine (rput32_bs (more 0 S) _ (more_lt' S)).mono ?_
        rintro e w6 ⟨rfl, b6⟩
        have hB6 := hid (bt hB.out b6)
        have hl := hlS.out
        go_wp2_with fail
        refine (padded_any (bs (S ++ leb 4 (more 0 S))) _ (by rw [bs_size, List.length_append, hlS.out, leb_len]; decide)).mono ?_
        rw [bs_list]
        rintro e w7 ⟨rfl, b7⟩
        have hB7 := hid (bt hB6.out b7)
        clear hl
        go_wp2_with fail
        go_ret
        exact ⟨by rw [← hhS.out]; rfl, hB7.out⟩
      · refine AllReadyH.cons rfl (fun K hK => ?_) AllReadyH.nil
        go_simp
        (with_reducible refine (rput32_bs ln _ h3).mono ?_)
        rintro e w3 ⟨rfl, b1⟩
        go_wp2_with fail
        replace D := hid (D.out.below b1 D.out.lt)
        replace hB := hid (bt hB.out b1)
        obtain ⟨d0, d1, d2, d3, d4, df⟩ := five D.out
        refine hK.out _ _ ⟨d0, d1, d2, d3, d4⟩ (fun hHeldN => ?_)
        clear hK K b1 hHeld
        have hHeld := hHeldN
        clear hHeldN
        (try simp only [Act.put, List.getElem_toArray, List.getElem_cons_zero, List.getElem_cons_succ, List.setIfInBounds_toArray, List.set_cons_zero, List.set_cons_succ])
        clear d0 d1 d2 d3 d4 df
        refine wpAnyH_ready (rs := [2, 20]) (by kernel_rfl) (by simp) ?_
        refine AllReadyH.cons rfl (fun K hK => ?_) ?_
        · skip
          go_simp
          obtain ⟨d0, d1, d2, d3, d4, df⟩ := five D.out
          refine hK.out _ _ ⟨ca d0, ca d1, ca d2, ca d3, ca d4⟩ (fun hHeldN => ?_)
          clear hK K hHeld
          have hHeld := hHeldN
          clear hHeldN
          (try simp only [Act.put, List.getElem_toArray, List.getElem_cons_zero, List.getElem_cons_succ, List.setIfInBounds_toArray, List.set_cons_zero, List.set_cons_succ])
          have Q := hid (Blk.new w3 [.int .u8 k] 5)
          replace D := hid (D.out.alloc (.cells #[.int .u8 k] 5))
          replace hB := hid (hB.out.alloc hB.out.size (.cells #[.int .u8 k] 5))
          clear d0 d1 d2 d3 d4 df
          have hcv := hcv0 w3.heap.size
          generalize hbn : w3.heap.size = bn at Q hcv ⊢
          clear hbn
          generalize w3.alloc (.cells #[.int .u8 k] 5) = wn at D hB Q hHeld ⊢
          refine wpAnyH_mono (S1 := (fun W : World => (W.cell? ⟨w.heap.size, 0, none⟩ = some (.int .u8 k) ∧ W.cell? ⟨w.heap.size, 1, none⟩ = some (.int .u64 ep) ∧ W.cell? ⟨w.heap.size, 2, none⟩ = some (.int .u64 sq) ∧ W.cell? ⟨w.heap.size, 3, none⟩ = some (.int .i64 ln) ∧ W.cell? ⟨w.heap.size, 4, none⟩ = some (.int .u32 sm)) ∧ W.cell? ⟨bn, 0, none⟩ = some (.int .u8 k))) (fun _ h => h.1) ?_
          have hHeld1 : (fun W : World => (W.cell? ⟨w.heap.size, 0, none⟩ = some (.int .u8 k) ∧ W.cell? ⟨w.heap.size, 1, none⟩ = some (.int .u64 ep) ∧ W.cell? ⟨w.heap.size, 2, none⟩ = some (.int .u64 sq) ∧ W.cell? ⟨w.heap.size, 3, none⟩ = some (.int .i64 ln) ∧ W.cell? ⟨w.heap.size, 4, none⟩ = some (.int .u32 sm)) ∧ W.cell? ⟨bn, 0, none⟩ = some (.int .u8 k)) wn := ⟨hHeld, Q.out.one.1⟩
          clear hHeld
          have hHeld := hHeld1
          clear hHeld1
          refine wpAnyH_take (i := 3) (v := ?_) rfl (by kernel_rfl) (by kernel_rfl) (by kernel_rfl) (fun _ _ _ h => h) (Or.inl ⟨by rfl, ?_⟩) (by assumption) ?_; rotate_left 1; (intro w hSw; (try dsimp only at hSw); go_simp; try with_reducible rfl); (try simp only [Act.put, List.getElem_toArray, List.getElem_cons_zero, List.getElem_cons_succ, List.setIfInBounds_toArray, List.set_cons_zero, List.set_cons_succ])
          refine wpAnyH_take (i := 4) (v := ?_) rfl (by kernel_rfl) (by kernel_rfl) (by kernel_rfl) (fun _ _ _ h => h) (Or.inl ⟨by rfl, ?_⟩) (by assumption) ?_; rotate_left 1; (intro w hSw; (try dsimp only at hSw); go_simp; try with_reducible rfl); (try simp only [Act.put, List.getElem_toArray, List.getElem_cons_zero, List.getElem_cons_succ, List.setIfInBounds_toArray, List.set_cons_zero, List.set_cons_succ])
          refine wpAnyH_take (i := 8) (v := ?_) rfl (by kernel_rfl) (by kernel_rfl) (by kernel_rfl) (fun _ _ _ h => h) (Or.inl ⟨by rfl, ?_⟩) (by assumption) ?_; rotate_left 1; (intro w hSw; (try dsimp only at hSw); go_simp; try with_reducible rfl); (try simp only [Act.put, List.getElem_toArray, List.getElem_cons_zero, List.getElem_cons_succ, List.setIfInBounds_toArray, List.set_cons_zero, List.set_cons_succ])
          refine wpAnyH_take (i := 12) (v := ?_) rfl (by kernel_rfl) (by kernel_rfl) (by kernel_rfl) (fun _ _ _ h => h) (Or.inl ⟨by rfl, ?_⟩) (by assumption) ?_; rotate_left 1; (intro w hSw; (try dsimp only at hSw); go_simp; try with_reducible rfl); (try simp only [Act.put, List.getElem_toArray, List.getElem_cons_zero, List.getElem_cons_succ, List.setIfInBounds_toArray, List.set_cons_zero, List.set_cons_succ])
          refine wpAnyH_take (i := 17) (v := ?_) rfl (by kernel_rfl) (by kernel_rfl) (by kernel_rfl) (fun _ _ _ h => h) (Or.inl ⟨by rfl, ?_⟩) (by assumption) ?_; rotate_left 1; (intro w hSw; (try dsimp only at hSw); go_simp; try with_reducible rfl); (try simp only [Act.put, List.getElem_toArray, List.getElem_cons_zero, List.getElem_cons_succ, List.setIfInBounds_toArray, List.set_cons_zero, List.set_cons_succ])
          refine wpAnyH_ready (rs := [20]) (by kernel_rfl) (by simp) ?_
          refine AllReadyH.cons rfl (fun K hK => ?_) AllReadyH.nil
          go_simp
          (with_reducible refine (rput32_bs sm _ h4).mono ?_)
          rintro e w4 ⟨rfl, b1⟩
          go_wp2_with fail
          replace D := hid (D.out.below b1 D.out.lt)
          replace hB := hid (bt hB.out b1)
          obtain ⟨d0, d1, d2, d3, d4, df⟩ := five D.out
          replace Q := hid (Q.out.below b1 Q.out.lt)
          have hq := Q.out.one
          refine hK.out _ _ ⟨⟨d0, d1, d2, d3, d4⟩, hq.1⟩ (fun hHeldN => ?_)
          clear hK K b1 hHeld
          have hHeld := hHeldN
          clear hHeldN
          (try simp only [Act.put, List.getElem_toArray, List.getElem_cons_zero, List.getElem_cons_succ, List.setIfInBounds_toArray, List.set_cons_zero, List.set_cons_succ])
          clear d0 d1 d2 d3 d4 df
          clear hq
          refine wpAnyH_take (i := 21) (v := ?_) rfl (by kernel_rfl) (by kernel_rfl) (by kernel_rfl) (fun _ _ _ h => h) (Or.inl ⟨by rfl, ?_⟩) (by assumption) ?_; rotate_left 1; (intro w hSw; (try dsimp only at hSw); go_simp; try with_reducible rfl); (try simp only [Act.put, List.getElem_toArray, List.getElem_cons_zero, List.getElem_cons_succ, List.setIfInBounds_toArray, List.set_cons_zero, List.set_cons_succ])
          refine wpAnyH_take (i := 22) (v := ?_) rfl (by kernel_rfl) (by kernel_rfl) (by kernel_rfl) (fun _ _ _ h => h) (Or.inl ⟨by rfl, ?_⟩) (by assumption) ?_; rotate_left 1; (intro w hSw; (try dsimp only at hSw); go_simp; try with_reducible rfl); (try simp only [Act.put, List.getElem_toArray, List.getElem_cons_zero, List.getElem_cons_succ, List.setIfInBounds_toArray, List.set_cons_zero, List.set_cons_succ])
          refine wpAnyH_done (by kernel_rfl) ?_ _
          have hl := hl'.out
          rw [hsd.out]
          clear hcv hcv0 hcv0' hHeld hln h0 h1 h2 h3 h4 hsd Q D hl'
          obtain ⟨S, hS⟩ : ∃ S, said ⟨k, ep, sq, ln, sm⟩ = S := ⟨_, rfl⟩
          rw [hS]
          have hhS : Hid (fill (S ++ leb 4 (more 0 S)) = headL ⟨k, ep, sq, ln, sm⟩) := hid (by rw [hhd.out, hS])
          rw [hS] at hl
          have hlS := hid hl
          clear hl hhd hS
          go_wp2_with fail
          refine (refsum_any (bs S) _ (by rw [bs_size, hlS.out]; decide)).mono ?_
          rw [bs_list]
          rintro e w5 ⟨rfl, rfl⟩
          go_wp2_with fail
          refine (rput32_bs (more 0 S) _ (more_lt' S)).mono ?_
          rintro e w6 ⟨rfl, b6⟩
          have hB6 := hid (bt hB.out b6)
          have hl := hlS.out
          go_wp2_with fail
          refine (padded_any (bs (S ++ leb 4 (more 0 S))) _ (by rw [bs_size, List.length_append, hlS.out, leb_len]; decide)).mono ?_
          rw [bs_list]
          rintro e w7 ⟨rfl, b7⟩
          have hB7 := hid (bt hB6.out b7)
          clear hl
          go_wp2_with fail
          go_ret
          exact ⟨by rw [← hhS.out]; rfl, hB7.out⟩
        · refine AllReadyH.cons rfl (fun K hK => ?_) AllReadyH.nil
          go_simp
          (with_reducible refine (rput32_bs sm _ h4).mono ?_)
          rintro e w4 ⟨rfl, b1⟩
          go_wp2_with fail
          replace D := hid (D.out.below b1 D.out.lt)
          replace hB := hid (bt hB.out b1)
          obtain ⟨d0, d1, d2, d3, d4, df⟩ := five D.out
          refine hK.out _ _ ⟨d0, d1, d2, d3, d4⟩ (fun hHeldN => ?_)
          clear hK K b1 hHeld
          have hHeld := hHeldN
          clear hHeldN
          (try simp only [Act.put, List.getElem_toArray, List.getElem_cons_zero, List.getElem_cons_succ, List.setIfInBounds_toArray, List.set_cons_zero, List.set_cons_succ])
          clear d0 d1 d2 d3 d4 df
          refine wpAnyH_ready (rs := [2]) (by kernel_rfl) (by simp) ?_
          refine AllReadyH.cons rfl (fun K hK => ?_) AllReadyH.nil
          go_simp
          obtain ⟨d0, d1, d2, d3, d4, df⟩ := five D.out
          refine hK.out _ _ ⟨ca d0, ca d1, ca d2, ca d3, ca d4⟩ (fun hHeldN => ?_)
          clear hK K hHeld
          have hHeld := hHeldN
          clear hHeldN
          (try simp only [Act.put, List.getElem_toArray, List.getElem_cons_zero, List.getElem_cons_succ, List.setIfInBounds_toArray, List.set_cons_zero, List.set_cons_succ])
          have Q := hid (Blk.new w4 [.int .u8 k] 5)
          replace D := hid (D.out.alloc (.cells #[.int .u8 k] 5))
          replace hB := hid (hB.out.alloc hB.out.size (.cells #[.int .u8 k] 5))
          clear d0 d1 d2 d3 d4 df
          have hcv := hcv0 w4.heap.size
          generalize hbn : w4.heap.size = bn at Q hcv ⊢
          clear hbn
          generalize w4.alloc (.cells #[.int .u8 k] 5) = wn at D hB Q hHeld ⊢
          refine wpAnyH_mono (S1 := (fun W : World => (W.cell? ⟨w.heap.size, 0, none⟩ = some (.int .u8 k) ∧ W.cell? ⟨w.heap.size, 1, none⟩ = some (.int .u64 ep) ∧ W.cell? ⟨w.heap.size, 2, none⟩ = some (.int .u64 sq) ∧ W.cell? ⟨w.heap.size, 3, none⟩ = some (.int .i64 ln) ∧ W.cell? ⟨w.heap.size, 4, none⟩ = some (.int .u32 sm)) ∧ W.cell? ⟨bn, 0, none⟩ = some (.int .u8 k))) (fun _ h => h.1) ?_
          have hHeld1 : (fun W : World => (W.cell? ⟨w.heap.size, 0, none⟩ = some (.int .u8 k) ∧ W.cell? ⟨w.heap.size, 1, none⟩ = some (.int .u64 ep) ∧ W.cell? ⟨w.heap.size, 2, none⟩ = some (.int .u64 sq) ∧ W.cell? ⟨w.heap.size, 3, none⟩ = some (.int .i64 ln) ∧ W.cell? ⟨w.heap.size, 4, none⟩ = some (.int .u32 sm)) ∧ W.cell? ⟨bn, 0, none⟩ = some (.int .u8 k)) wn := ⟨hHeld, Q.out.one.1⟩
          clear hHeld
          have hHeld := hHeld1
          clear hHeld1
          refine wpAnyH_take (i := 3) (v := ?_) rfl (by kernel_rfl) (by kernel_rfl) (by kernel_rfl) (fun _ _ _ h => h) (Or.inl ⟨by rfl, ?_⟩) (by assumption) ?_; rotate_left 1; (intro w hSw; (try dsimp only at hSw); go_simp; try with_reducible rfl); (try simp only [Act.put, List.getElem_toArray, List.getElem_cons_zero, List.getElem_cons_succ, List.setIfInBounds_toArray, List.set_cons_zero, List.set_cons_succ])
          refine wpAnyH_take (i := 4) (v := ?_) rfl (by kernel_rfl) (by kernel_rfl) (by kernel_rfl) (fun _ _ _ h => h) (Or.inl ⟨by rfl, ?_⟩) (by assumption) ?_; rotate_left 1; (intro w hSw; (try dsimp only at hSw); go_simp; try with_reducible rfl); (try simp only [Act.put, List.getElem_toArray, List.getElem_cons_zero, List.getElem_cons_succ, List.setIfInBounds_toArray, List.set_cons_zero, List.set_cons_succ])
          refine wpAnyH_take (i := 8) (v := ?_) rfl (by kernel_rfl) (by kernel_rfl) (by kernel_rfl) (fun _ _ _ h => h) (Or.inl ⟨by rfl, ?_⟩) (by assumption) ?_; rotate_left 1; (intro w hSw; (try dsimp only at hSw); go_simp; try with_reducible rfl); (try simp only [Act.put, List.getElem_toArray, List.getElem_cons_zero, List.getElem_cons_succ, List.setIfInBounds_toArray, List.set_cons_zero, List.set_cons_succ])
          refine wpAnyH_take (i := 12) (v := ?_) rfl (by kernel_rfl) (by kernel_rfl) (by kernel_rfl) (fun _ _ _ h => h) (Or.inl ⟨by rfl, ?_⟩) (by assumption) ?_; rotate_left 1; (intro w hSw; (try dsimp only at hSw); go_simp; try with_reducible rfl); (try simp only [Act.put, List.getElem_toArray, List.getElem_cons_zero, List.getElem_cons_succ, List.setIfInBounds_toArray, List.set_cons_zero, List.set_cons_succ])
          refine wpAnyH_take (i := 17) (v := ?_) rfl (by kernel_rfl) (by kernel_rfl) (by kernel_rfl) (fun _ _ _ h => h) (Or.inl ⟨by rfl, ?_⟩) (by assumption) ?_; rotate_left 1; (intro w hSw; (try dsimp only at hSw); go_simp; try with_reducible rfl); (try simp only [Act.put, List.getElem_toArray, List.getElem_cons_zero, List.getElem_cons_succ, List.setIfInBounds_toArray, List.set_cons_zero, List.set_cons_succ])
          refine wpAnyH_take (i := 21) (v := ?_) rfl (by kernel_rfl) (by kernel_rfl) (by kernel_rfl) (fun _ _ _ h => h) (Or.inl ⟨by rfl, ?_⟩) (by assumption) ?_; rotate_left 1; (intro w hSw; (try dsimp only at hSw); go_simp; try with_reducible rfl); (try simp only [Act.put, List.getElem_toArray, List.getElem_cons_zero, List.getElem_cons_succ, List.setIfInBounds_toArray, List.set_cons_zero, List.set_cons_succ])
          refine wpAnyH_take (i := 22) (v := ?_) rfl (by kernel_rfl) (by kernel_rfl) (by kernel_rfl) (fun _ _ _ h => h) (Or.inl ⟨by rfl, ?_⟩) (by assumption) ?_; rotate_left 1; (intro w hSw; (try dsimp only at hSw); go_simp; try with_reducible rfl); (try simp only [Act.put, List.getElem_toArray, List.getElem_cons_zero, List.getElem_cons_succ, List.setIfInBounds_toArray, List.set_cons_zero, List.set_cons_succ])
          refine wpAnyH_done (by kernel_rfl) ?_ _
          have hl := hl'.out
          rw [hsd.out]
          clear hcv hcv0 hcv0' hHeld hln h0 h1 h2 h3 h4 hsd Q D hl'
          obtain ⟨S, hS⟩ : ∃ S, said ⟨k, ep, sq, ln, sm⟩ = S := ⟨_, rfl⟩
          rw [hS]
          have hhS : Hid (fill (S ++ leb 4 (more 0 S)) = headL ⟨k, ep, sq, ln, sm⟩) := hid (by rw [hhd.out, hS])
          rw [hS] at hl
          have hlS := hid hl
          clear hl hhd hS
          go_wp2_with fail
          refine (refsum_any (bs S) _ (by rw [bs_size, hlS.out]; decide)).mono ?_
          rw [bs_list]
          rintro e w5 ⟨rfl, rfl⟩
          go_wp2_with fail
          refine (rput32_bs (more 0 S) _ (more_lt' S)).mono ?_
          rintro e w6 ⟨rfl, b6⟩
          have hB6 := hid (bt hB.out b6)
          have hl := hlS.out
          go_wp2_with fail
          refine (padded_any (bs (S ++ leb 4 (more 0 S))) _ (by rw [bs_size, List.length_append, hlS.out, leb_len]; decide)).mono ?_
          rw [bs_list]
          rintro e w7 ⟨rfl, b7⟩
          have hB7 := hid (bt hB6.out b7)
          clear hl
          go_wp2_with fail
          go_ret
          exact ⟨by rw [← hhS.out]; rfl, hB7.out⟩
end Go.Proofs.Ytiegocbdgimimaa.Rec
namespace Go.Proofs.Ytiegocbdgimimaa.Rec
open Go.ChangeShapes Go.WideShapes Go.ChangeAt Go.RowKit
open Go.Proofs.Ytiegocbdgimimaa.Mem Go.Proofs.Ytiegocbdgimimaa.CrcMath
open Go.Proofs.Ytiegocbdgimimaa.Crc (refsum_any)
set_option linter.unusedVariables false
set_option maxRecDepth 100000

theorem frcheck_any (k ep sq : Nat) (p : ByteArray) (w : World) (hp : p.size ≤ 9223372036854775807) :
    Calls Try.prog 43 #[.agg #[.int .u8 k, .int .u64 ep, .int .u64 sq, .string p]] w fun e w' => e = .returned (.int .i64 (fchk k p.size)) ∧ Below w.heap.size w w' := by
  by_cases hk : k = 0
  · have h1 : ((k : Int) == 0) = true := by simp [hk]
    have hf : Hid (fchk k p.size = 1) := hid (by simp [fchk, hk])
    clear hk
    go_enter Try.func43, Try.ntmps43
    go_wp2_with fail
    go_ret
    exact ⟨by rw [hf.out]; rfl, by go_grown⟩
  · have h1 : ((k : Int) == 0) = false := by simp; omega
    by_cases hn : 16384 < p.size
    · have hf : Hid (fchk k p.size = 3) := hid (by simp [fchk, hk, hn])
      have h2 : (16384 : Int) < (p.size : Int) := by omega
      clear hk hn
      go_enter Try.func43, Try.ntmps43
      go_wp2_with fail
      go_ret
      exact ⟨by rw [hf.out]; rfl, by go_grown⟩
    · have hf : Hid (fchk k p.size = 0) := hid (by simp [fchk, hk]; omega)
      have h2 : ¬ (16384 : Int) < (p.size : Int) := by omega
      clear hk hn
      go_enter Try.func43, Try.ntmps43
      go_wp2_with fail
      go_ret
      exact ⟨by rw [hf.out]; rfl, by go_grown⟩
theorem rsectors_no (k ep sq : Nat) (p : ByteArray) (w : World) (hs : p.size ≤ 9223372036854775807) (hk : Hid (fchk k p.size ≠ 0)) :
    Calls Try.prog 22 #[.agg #[.int .u8 k, .int .u64 ep, .int .u64 sq, .string p]] w fun e w' =>
      e = .returned (.tuple #[.slice none 0 0, .int .i64 (fchk k p.size)]) ∧ Below w.heap.size w w' := by
  have hne : (fchk k p.size != 0) = true := by simpa using hk.out
  obtain ⟨c, hc⟩ : ∃ c, fchk k p.size = c := ⟨_, rfl⟩
  rw [hc] at hne
  have hc' := hid hc
  clear hk
  rw [hc]
  clear hc
  go_enter Try.func22, Try.ntmps22
  go_wp2_with fail
  refine (frcheck_any k ep sq p _ hs).mono ?_
  rintro e w1 ⟨rfl, b1⟩
  have hB1 := hid ((show Below w.heap.size w _ from by go_grown).trans (b1.mono (by simp)))
  rw [hc'.out]
  clear b1
  go_wp2_with fail
  go_ret2
  exact ⟨rfl, hB1.out⟩
theorem own_one {w : World} {b base : Nat} {s : ByteArray} {t : TypeId} (h : Blk w b [.string s] t) (hb : base ≤ b) : w.ownsRow base t 1 (.slice (some ⟨b, 0, none⟩) 1 1) 1 (strC [s]) :=
  ⟨by simp [strC], .inr ⟨b, 1, _, rfl, hb, h.at', Nat.le_refl _, by decide, by simp, by simp [strC]⟩⟩
set_option maxHeartbeats 4000000 in
theorem rsectors_ok (k ep sq : Nat) (p : ByteArray) (w : World) (h0 : k < 256) (h1 : ep < 18446744073709551616) (h2 : sq < 18446744073709551616) (hk : Hid (fchk k p.size = 0)) :
    Calls Try.prog 22 #[.agg #[.int .u8 k, .int .u64 ep, .int .u64 sq, .string p]] w fun e w' =>
      ∃ sv, e = .returned (.tuple #[sv, .int .i64 0]) ∧ w'.ownsRow w.heap.size 9 1 sv (pcs p.size + 1) (strC (secsL ⟨k, ep, sq, p⟩)) ∧ Below w.heap.size w w' := by
  have hp2 := (fchk_zero hk.out).2
  have hp3 := hid hp2
  have hpe := hid (pcsE_nat p.size hp2)
  go_enter Try.func22, Try.ntmps22
  go_wp2_with fail
  refine (frcheck_any k ep sq p _ (by omega)).mono ?_
  rintro e w1 ⟨rfl, b1⟩
  have F1 := (Blk.new w [.int .u8 k, .int .u64 ep, .int .u64 sq, .string p] 30).below b1 (by simp)
  have hB1 := hid ((show Below w.heap.size w _ from by go_grown).trans (b1.mono (by simp)))
  have D := hid F1.drew
  have hB := hid hB1.out.drew
  have hz := hid F1.lt
  clear b1 hB1
  obtain ⟨d0, d1, d2, d3, df⟩ := F1.four
  rw [hk.out]
  clear F1
  go_wp2_with fail
  clear d0 d1 d2 d3 df
  obtain ⟨d0, d1, d2, d3, df⟩ := D.out.four
  go_region_held3 (fun W => W.cell? ⟨w.heap.size, 0, none⟩ = some (.int .u8 k) ∧ W.cell? ⟨w.heap.size, 1, none⟩ = some (.int .u64 ep) ∧ W.cell? ⟨w.heap.size, 2, none⟩ = some (.int .u64 sq) ∧ W.cell? ⟨w.heap.size, 3, none⟩ = some (.string p)) (first | (with_reducible exact ⟨d0, d1, d2, d3⟩) | (with_reducible exact ⟨e0, e1, e2, e3⟩) | (with_reducible exact ⟨ca e0, ca e1, ca e2, ca e3⟩)) (first
    | (go_at_call 45; (with_reducible refine (refsum_any p _ (by unfold maxLen; omega)).mono ?_); rintro e wx ⟨rfl, rfl⟩)
    | (go_at_call 44; (with_reducible refine (first_any k ep sq p.size (more 0 p.data.toList) _ h0 h1 h2 (by omega) (more_lt' _)).mono ?_); rintro e w2 ⟨rfl, b2⟩
       have D2 := hid (D.out.below b2 D.out.lt)
       have hB2 := hid (bt hB.out b2)
       obtain ⟨e0, e1, e2, e3, ef⟩ := D2.out.four))
  rename_i hHeld
  clear hHeld
  rw [show (⟨k, ep, sq, p.size, more 0 p.data.toList⟩ : Hd) = hdOf ⟨k, ep, sq, p⟩ from rfl]
  obtain ⟨H, hH⟩ : ∃ H, bs (headL (hdOf ⟨k, ep, sq, p⟩)) = H := ⟨_, rfl⟩
  rw [hH]
  have hH' := hid hH
  have F3 := D2.out.alloc (.cells #[.string H] 9)
  have X3 := Blk.new w2 [.string H] 9
  have hB3 := hB2.out.alloc hB2.out.size (.cells #[.string H] 9)
  have hz2 : w.heap.size < w2.heap.size := D2.out.lt
  have R3 := own_one (base := w.heap.size + 1) X3 hz2
  have hsz : w.heap.size + 1 ≤ (w2.alloc (.cells #[.string H] 9)).heap.size := by simp; omega
  clear hH b2 D2 hB2 e0 e1 e2 e3 ef d0 d1 d2 d3 df D hB hz X3
  generalize w2.heap.size = hb at hz2 R3 ⊢
  generalize w2.alloc (.cells #[.string H] 9) = W3 at F3 hB3 R3 hsz ⊢
  obtain ⟨d0, d1, d2, d3, df⟩ := F3.four
  have F3' := hid F3
  have hB3' := hid hB3
  have R3' := hid R3
  have hsz' := hid hsz
  have hmm := hid (show pcs p.size ≤ 269 by unfold pcs; omega)
  have hmm2 := hid (show ∀ j, j < pcs p.size → j * 61 ≤ p.size by intro j hj; unfold pcs at hj; omega)
  clear F3 hB3 R3 hsz hz2
  go_wp2_with fail
  refine (rpieces_any p.size _).mono ?_
  rw [hpe.out]
  rintro e w4 ⟨rfl, rfl⟩
  have hfin := hid (show bs (headL (hdOf ⟨k, ep, sq, p⟩)) :: piecesL p.data.toList (pcs p.size) = secsL ⟨k, ep, sq, p⟩ from rfl)
  rw [hH'.out] at hfin
  obtain ⟨m, hm⟩ : ∃ m, pcs p.size = m := ⟨_, rfl⟩
  rw [hm] at hmm hmm2 hfin ⊢
  have hmq := hid hm
  clear hm
  clear d0 d1 d2 d3 df
  go_wp2_with fail
  go_loopw [5, 8] (fun v i wr => ∃ j : Nat, j ≤ m ∧ i = .int .i64 j ∧ (∃ ao cap, v = .slice ao (j + 1) cap ∧ Hid (wr.ownsRow (w.heap.size + 1) 9 1 (.slice ao (j + 1) cap) (j + 1) (strC (H :: piecesL p.data.toList j)))) ∧ Hid (Below (w.heap.size + 1) W3 wr)) (fun _ i _ => m - (intOf i).toNat)
  case atStart => exact ⟨0, by omega, rfl, ⟨_, _, rfl, hid R3'.out⟩, hid (Below.refl _ _)⟩
  case round =>
    obtain ⟨j, hj, rfl, ⟨ao, cap, rfl, hown⟩, hbr⟩ := hrel
    by_cases hlt : j < m
    · have Fr := F3'.out.below hbr.out (Nat.lt_succ_self _)
      obtain ⟨c0, c1, c2, c3, cf⟩ := Fr.four
      have hjm : (j : Int) < (m : Int) := by omega
      have hj0 : (0 : Int) ≤ (j : Int) := by omega
      have hjb : j ≤ 300 := by have := hmm.out; omega
      have hpi := hid (hmm2.out j hlt)
      have hjb' := hid hjb
      clear Fr
      go_wp2_with fail
      refine (rpiece_any p j _ hpi.out hp3.out).mono ?_
      rintro e w5 ⟨rfl, b5⟩
      have hown5 := ownsRow_below hown.out b5
      have hbr5 := hbr.out.trans (b5.mono (Nat.le_trans hsz'.out hbr.out.size))
      have hg5 : w.heap.size + 1 ≤ w5.heap.size := Nat.le_trans hsz'.out hbr5.size
      obtain ⟨i0, hi, hz0, hz1, hz2⟩ := info_parts info_string
      obtain ⟨s, hs⟩ : ∃ s, bs (pieceL j (part p.data.toList j)) = s := ⟨_, rfl⟩
      rw [hs]
      have hs' := hid hs
      clear hs c0 c1 c2 c3 cf b5 hown hbr
      go_wp2_with (at_builtin; refine wpList_append_own _ rfl _ _ 22 rfl (w.heap.size + 1) 9 i0 (.string ⟨#[]⟩) 1 16 Try.underlying22 hi hz0 hz1 hz2 rfl (by decide) _ _ _ rfl (hown5.alloc _) ⟨w5.heap.size, 0, none⟩ 1 1 [.string s] rfl rfl ?c1 ?c2 ?c3 ?c4 ?c5 ?_)
      case c1 =>
        intro i u hu
        match i, hu with
        | 0, hu => simp at hu; subst hu; simp [go_sem]
      case c2 => simp [Value.oneCell']
      case c3 => unfold maxLen; omega
      case c4 => omega
      case c5 => simp; omega
      intro v' w6 hown6 hg6 _
      have hb6 := (hbr5.alloc hg5 (.cells #[.string s] 9)).grown hg6 (by simp; omega) (fun k hk => (hown5.lt k hk).1)
      have hown7 : w6.ownsRow (w.heap.size + 1) 9 1 v' (j + 1 + 1) (strC (H :: piecesL p.data.toList (j + 1))) := by
        rw [piecesL_succ, hs'.out, ← List.cons_append, strC_append]
        exact hown6
      obtain ⟨ao', cap', rfl, _, _⟩ := ownsRow_form hown6
      have hown7' := hid hown7
      have hb6' := hid hb6
      clear hown6 hg6 hown7 hb6 hown5 hbr5 hg5 hi hz0 hz1 hz2
      go_wp2_with fail
      go_roundw
      case rel => exact ⟨j + 1, by omega, by go_num, ⟨_, _, rfl, hown7'⟩, hb6'⟩
      case measure => simp [intOf]; omega
    · obtain rfl : j = m := by omega
      rw [hfin.out] at hown
      go_wp2_with fail
      go_ret2
      exact ⟨_, rfl, by rw [hmq.out]; exact ownsRow_mono hown.out (Nat.le_succ _), hB3'.out.trans (hbr.out.mono (Nat.le_succ _))⟩
theorem rsecs_any (f : Fr) (w : World) (h : f.has) : Calls Try.prog 22 #[frV f] w (SecTold w f) := by
  obtain ⟨k, ep, sq, p⟩ := f
  by_cases hc : fchk k p.size = 0
  · refine (rsectors_ok k ep sq p w h.1 h.2.1 h.2.2.1 (hid hc)).mono ?_
    rintro e w' ⟨sv, rfl, hown, hb⟩
    obtain ⟨ao, cap, rfl, _, _⟩ := ownsRow_form hown
    have he : sectorsE ⟨k, ep, sq, p⟩ = (secsL ⟨k, ep, sq, p⟩, 0) := by unfold sectorsE; rw [if_pos hc]
    refine ⟨ao, pcs p.size + 1, cap, ?_, ?_, ?_, hb⟩
    · rw [he]; exact (secsL_len ⟨k, ep, sq, p⟩).symm
    · rw [he]
    · rw [he]; exact hown
  · refine (rsectors_no k ep sq p w h.2.2.2 (hid hc)).mono ?_
    rintro e w' ⟨rfl, hb⟩
    have he : sectorsE ⟨k, ep, sq, p⟩ = ([], fchk k p.size) := by unfold sectorsE; rw [if_neg hc]
    refine ⟨none, 0, 0, ?_, ?_, ?_, hb⟩
    · rw [he]; rfl
    · rw [he]
    · rw [he]; exact World.ownsRow_nil _ _ _ _
end Go.Proofs.Ytiegocbdgimimaa.Rec
namespace Go.Proofs.Ytiegocbdgimimaa.Wal
open Go.Proofs.Ytiegocbdgimimaa.Mem Go.Proofs.Ytiegocbdgimimaa.Rec Go.Proofs.Ytiegocbdgimimaa.Sector
set_option linter.unusedVariables false
set_option maxRecDepth 10000
theorem piece_no' (i : Nat) (q : By) : headOk (pieceL i q) = false := by
  rw [Bool.eq_false_iff]
  intro h
  have h4 := (headOk_facts h).2.2.2
  have h5 := congrArg List.head? h4
  have h6 : (headL (readHd (pieceL i q))).head? = some 72 := rfl
  rw [h6] at h5
  exact absurd (Option.some.inj h5) (by decide)
/-- Whatever is kept, a sector holds what is such. -/
structure Poss (Q : ByteArray → Prop) (d : Disk) (i : Int) : Prop where
  held : Q (d.secs.getD i.toNat ⟨#[]⟩)
  pend : ∀ p ∈ d.pend, p.1 = i → Q p.2
theorem sett_poss {Q : ByteArray → Prop} (kp : Nat → Bool) {pend : List (Int × ByteArray)} {secs : List ByteArray} {i : Int} (h0 : 0 ≤ i) (hp : ∀ p ∈ pend, 0 ≤ p.1) (h1 : Q (secs.getD i.toNat ⟨#[]⟩)) (h2 : ∀ p ∈ pend, p.1 = i → Q p.2) : ∀ k, k ≤ pend.length → Q ((sett kp pend secs k).getD i.toNat ⟨#[]⟩) := by
  intro k
  induction k with
  | zero => intro _; exact h1
  | succ k ih =>
    intro hk
    have hk' : k < pend.length := by omega
    simp only [sett]
    split
    · have hm := List.getElem_mem hk'
      have hq := hp _ hm
      have e : pend.getD k (0, ⟨#[]⟩) = pend[k] := by simp [List.getD, hk']
      rw [e]
      by_cases hi : pend[k].1 = i
      · by_cases hr : i.toNat < (sett kp pend secs k).length
        · have := h2 _ hm hi
          rw [hi]
          simpa [List.getD, hr] using this
        · rw [hi, List.set_eq_of_length_le (by omega)]
          exact ih (by omega)
      · have : ((sett kp pend secs k).set pend[k].1.toNat pend[k].2).getD i.toNat ⟨#[]⟩ = (sett kp pend secs k).getD i.toNat ⟨#[]⟩ := by
          simp only [List.getD]
          rw [List.getElem?_set_ne (by omega)]
        rw [this]
        exact ih (by omega)
    · exact ih (by omega)
theorem ok_pos {d : Disk} (h : okB d = true) : ∀ p ∈ d.pend, 0 ≤ p.1 := by
  intro p hp
  obtain ⟨h1, h2, h3, h4, h5⟩ := okp h
  have := h5 p hp
  simp [badB, missB] at this
  omega
theorem Poss.syn {Q : ByteArray → Prop} {d : Disk} {i : Int} (h : Poss Q d i) (i0 : 0 ≤ i) (ok : okB d = true) : Poss Q (synD d) i :=
  ⟨sett_poss _ i0 (ok_pos ok) h.held h.pend _ (Nat.le_refl _), by simp [synD]⟩
theorem Poss.aft {Q : ByteArray → Prop} {d : Disk} {i : Int} (h : Poss Q d i) (i0 : 0 ≤ i) (ok : okB d = true) (l : List Bool) : Q (aft d l i) := sett_poss _ i0 (ok_pos ok) h.held h.pend _ (Nat.le_refl _)
theorem Poss.more {Q : ByteArray → Prop} {d : Disk} {i m : Int} {s : ByteArray} (h : Poss Q d i) (hs : m = i → Q s) (off : Bool) (f : Int) : Poss Q ⟨d.secs, d.pend ++ [(m, s)], off, f⟩ i :=
  ⟨h.held, fun p hp he => (List.mem_append.1 hp).elim (fun h' => h.pend p h' he) (fun h' => by rw [List.mem_singleton] at h'; subst h'; exact hs he)⟩
theorem puts_poss {Q : ByteArray → Prop} {i : Int} (t : List ByteArray) (hQ : ∀ s ∈ t, Q s) : ∀ (d : Disk) (m : Int), okB d = true → d.off = false → 0 ≤ m → m + t.length ≤ d.secs.length → (∀ s ∈ t, s.size = 64) → d.pend.length + t.length ≤ 4096 → Poss Q d i →
    Poss Q (runE d (puts m t)).1 i := by
  induction t with
  | nil => intro d m _ _ _ _ _ _ h; exact h
  | cons s t ih =>
    intro d m ok off h0 h1 hs hp h
    rw [List.length_cons] at h1 hp
    have hr : refuseE d m s = 0 := refuse_ok h0 (by push_cast at h1; omega) (hs s List.mem_cons_self) (by omega)
    have hsQ := hQ s List.mem_cons_self
    rcases put_go ok off hr with ⟨hf, h'⟩ | h'
    · simp only [puts, runE, stpE, h', if_true]
      exact ih (fun x hx => hQ x (List.mem_cons_of_mem _ hx)) (putD d m s) (m + 1) (ok_put ok hr) rfl (by omega) (by show m + 1 + _ ≤ (d.secs.length : Int); push_cast at h1; omega) (fun x hx => hs x (List.mem_cons_of_mem _ hx)) (by show (d.pend ++ [(m, s)]).length + _ ≤ _; simp; omega) (h.more (fun _ => hsQ) _ _)
    · simp only [puts, runE, stpE, h']
      rw [if_neg (by decide)]
      exact h.more (fun _ => hsQ) _ _
theorem lay_poss {Q : ByteArray → Prop} {i : Int} (n : Int) (hd : ByteArray) (t : List ByteArray) (d : Disk) (hn : 0 ≤ n) (hl : n + t.length < d.secs.length) (ok : okB d = true) (off : d.off = false) (hp : d.pend = []) (hh : hd.size = 64) (ht : ∀ s ∈ t, s.size = 64) (htl : t.length ≤ 4000) (hQ : ∀ s ∈ t, Q s) (i0 : 0 ≤ i) (hne : n ≠ i) (h : Poss Q d i) :
    okB (runE d (layE n hd t)).1 = true ∧ Poss Q (runE d (layE n hd t)).1 i := by
  unfold layE
  have hP := puts_poss (i := i) t hQ d (n + 1) ok off (by omega) (by omega) ht (by rw [hp]; simp; omega) h
  rw [runE_app]
  rcases puts_go t d (n + 1) ok off (by omega) (by omega) ht (by rw [hp]; simp; omega) with ⟨d1, q1, q2, q3, q4, q5⟩ | ⟨e, k, q1, q2, q3, q4⟩
  · rw [q1] at hP
    rw [q1, if_pos rfl]
    dsimp only at hP ⊢
    rcases sync_go q2 q3 with ⟨_, h1⟩ | h1
    · simp only [runE, stpE, h1, if_true]
      have okS := ok_syn q2
      have hr : refuseE (synD d1) n hd = 0 := refuse_ok hn (by rw [synD_len]; rw [q4]; omega) hh (by simp [synD])
      have hS := hP.syn i0 q2
      rcases put_go okS (by show d1.off = false; exact q3) hr with ⟨_, h2⟩ | h2
      · rw [h2]
        dsimp only
        rw [if_pos rfl]
        have okP := ok_put okS hr
        have hM : Poss Q (putD (synD d1) n hd) i := hS.more (fun he => absurd he hne) _ _
        rcases sync_go okP rfl with ⟨_, h3⟩ | h3
        · rw [h3]
          dsimp only
          rw [if_pos rfl]
          exact ⟨ok_syn okP, hM.syn i0 okP⟩
        · rw [h3]
          dsimp only
          rw [if_neg (by decide)]
          exact ⟨okP, hM.held, hM.pend⟩
      · rw [h2]
        dsimp only
        rw [if_neg (by decide)]
        exact ⟨ok_pend okS hr true _, hS.more (fun he => absurd he hne) _ _⟩
    · simp only [runE, stpE, h1]
      rw [if_neg (by decide)]
      exact ⟨q2, hP.held, hP.pend⟩
  · rw [q1] at hP
    rw [q1, if_neg (show ¬ ((15 : Int) = 0) by decide)]
    exact ⟨q2, hP⟩
/-- Sectors that hold no head hold none behind a crash, but for that of the frame. -/
theorem app_rest {d : Disk} {r : Rg} {a : Nat} {f : Fr} (h0 : walChk d r = 0) (off : d.off = false) (hp : d.pend = []) (keep : List Bool) {i : Int} (i0 : 0 ≤ i) (hne : r.f + a ≠ i) (hi : (headE (now d i).data.toList).2 ≠ 0) :
    (headE (now (crashD (appE d r a f).d keep) i).data.toList).2 ≠ 0 := by
  obtain ⟨k1, k2, k3, k4, k5⟩ := walChk_zero h0
  have hP : Poss (fun s => (headE s.data.toList).2 ≠ 0) d i := ⟨by
    have : now d i = d.secs.getD i.toNat ⟨#[]⟩ := by unfold now; rw [hp]; rfl
    rw [← this]; exact hi, by rw [hp]; simp⟩
  have hbase : (headE (now (crashD d keep) i).data.toList).2 ≠ 0 := by
    rw [crash_now]; exact hP.aft i0 k1 keep
  unfold appE
  rw [if_neg (by simpa using h0)]
  by_cases h1 : (sectorsE f).2 = 0
  · obtain ⟨hc, hs⟩ := sectorsE_zero h1
    have hps := (fchk_zero hc).2
    rw [if_neg (by simpa using h1), hs]
    by_cases h2 : (a : Int) < 0 ∨ r.s < a
    · rw [if_pos h2]; exact hbase
    · rw [if_neg h2]
      dsimp only
      rw [secsL_len]
      by_cases h3 : r.s - a < ((pcs f.pay.size + 1 : Nat) : Int)
      · rw [if_pos h3]; exact hbase
      · rw [if_neg h3]
        have hsz := secsL_size f
        have hpc : pcs f.pay.size ≤ 269 := by unfold pcs; omega
        have hQ : ∀ s ∈ (secsL f).tail, (headE s.data.toList).2 ≠ 0 := by
          intro s hs'
          simp only [secsL, List.tail_cons, List.mem_map] at hs'
          obtain ⟨j, _, rfl⟩ := hs'
          rw [bs_list, hd_bad (piece_no' j _)]
          decide
        have key : okB (runE d (layE (r.f + a) ((secsL f).headD ⟨#[]⟩) (secsL f).tail)).1 = true ∧ Poss (fun s => (headE s.data.toList).2 ≠ 0) (runE d (layE (r.f + a) ((secsL f).headD ⟨#[]⟩) (secsL f).tail)).1 i := by
          obtain ⟨t, hL, htl⟩ := secsL_head f
          rw [hL] at hsz hQ ⊢
          generalize bs (headL (hdOf f)) = hd at hsz hQ
          dsimp only [List.headD_cons, List.tail_cons] at hQ ⊢
          push_cast at h3
          exact lay_poss (i := i) (r.f + a) hd t d (by omega) (by omega) k1 off hp (hsz hd List.mem_cons_self) (fun s hs => hsz s (List.mem_cons_of_mem _ hs)) (by omega) hQ i0 hne hP
        generalize runE d (layE (r.f + a) ((secsL f).headD ⟨#[]⟩) (secsL f).tail) = x at key ⊢
        by_cases h4 : x.2 = 0
        · rw [if_neg (by simpa using h4), crash_now]; exact key.2.aft i0 key.1 keep
        · rw [if_pos h4, crash_now]; exact key.2.aft i0 key.1 keep
  · rw [if_pos h1]; exact hbase
/-- A log behind whose end there is no head. -/
structure Lg (d : Disk) (S ep at' : Nat) (l : List Fr) : Prop where
  chk : walChk d ⟨0, S⟩ = 0
  off : d.off = false
  pend : d.pend = []
  num : cnt (cont d ⟨0, S⟩) S ep = l.length
  log : logF (cont d ⟨0, S⟩) S ep = l
  till : endF (cont d ⟨0, S⟩) S ep = at'
  rest : ∀ i, at' ≤ i → i < S → (headE (cont d ⟨0, S⟩ i).data.toList).2 ≠ 0
theorem Lg.fuse {d : Disk} {S ep at' : Nat} {l : List Fr} (g : Lg d S ep at' l) (f : Int) : Lg ⟨d.secs, d.pend, d.off, f⟩ S ep at' l := by
  obtain ⟨secs, pend, off, fuse⟩ := d
  exact ⟨g.chk, g.off, g.pend, g.num, g.log, g.till, g.rest⟩
theorem Written.lg {d : Disk} {S ep at' : Nat} {l : List Fr} (w : Written d S ep at' l) : Lg d S ep at' l :=
  ⟨w.chk, w.off, w.pend, w.num, w.log, w.till, fun i hi hi2 => by rw [w.rest i hi hi2, blank_head]; decide⟩
theorem frAt_headless {h : Nat → ByteArray} {s a : Nat} (hh : (headE (h a).data.toList).2 ≠ 0) : (frAt h s a).2 = 0 := by
  unfold frAt
  by_cases h1 : s ≤ a
  · rw [if_pos h1]
  · rw [if_neg h1, if_pos hh]
theorem Lg.scan {d : Disk} {S ep at' : Nat} {l : List Fr} (g : Lg d S ep at' l) : scanE d ⟨0, S⟩ ep = (l, at', 0) := by
  unfold scanE
  rw [if_neg (by simpa using g.chk), if_neg (by rw [g.off]; simp)]
  have e1 := g.log
  have e2 := g.till
  show (logF (cont d ⟨0, S⟩) S ep, endF (cont d ⟨0, S⟩) S ep, (0 : Int)) = _
  rw [e1, e2]
theorem Lg.le {d : Disk} {S ep at' : Nat} {l : List Fr} (g : Lg d S ep at' l) : at' ≤ S := by rw [← g.till]; exact pos_le _ _ _
theorem Lg.app {d : Disk} {S ep at' : Nat} {l : List Fr} {f : Fr} (g : Lg d S ep at' l) (hk : f.kind = 1) (hep : f.epoch = ep) (hep' : ep < 18446744073709551616) (hsq : f.seq = l.length) (hl : l.length ≤ 1000) (keep : List Bool) :
    ((appE d ⟨0, S⟩ at' f).d = d ∧ ((appE d ⟨0, S⟩ at' f).c = 3 ∨ (appE d ⟨0, S⟩ at' f).c = 16)) ∨
    (((appE d ⟨0, S⟩ at' f).c = 0 ∧ (appE d ⟨0, S⟩ at' f).at' = ((at' + (pcs f.pay.size + 1) : Nat) : Int) ∨ (appE d ⟨0, S⟩ at' f).c = 15) ∧ okB (appE d ⟨0, S⟩ at' f).d = true ∧
      (Lg (crashD (appE d ⟨0, S⟩ at' f).d keep) S ep (at' + (pcs f.pay.size + 1)) (l ++ [f]) ∨ ((appE d ⟨0, S⟩ at' f).c = 15 ∧ Lg (crashD (appE d ⟨0, S⟩ at' f).d keep) S ep at' l))) := by
  have hle := g.le
  obtain ⟨k1, k2, k3, k4, k5⟩ := walChk_zero g.chk
  have hrest := fun (i : Int) => app_rest (r := ⟨0, S⟩) (a := at') (f := f) g.chk g.off g.pend keep (i := i)
  have hfo : fchk f.kind f.pay.size = 0 → f.okn := fun hc => ⟨by rw [hk]; decide, by rw [hep]; exact hep', by rw [hsq]; omega, by have := (fchk_zero hc).2; omega⟩
  rcases app_crash (r := ⟨0, S⟩) (a := at') (f := f) g.chk g.off g.pend hfo keep with ⟨h1, _, h3⟩ | ⟨h1, h2, x⟩
  · rcases h3 with ⟨e, h⟩ | ⟨e, _⟩ | ⟨e, _⟩
    · exfalso
      rcases h with h | h
      · unfold fchk at h
        rw [if_neg (by rw [hk]; decide)] at h
        split at h <;> exact absurd h (by decide)
      · dsimp only at h; omega
    · exact .inl ⟨h1, .inl e⟩
    · exact .inl ⟨h1, .inr e⟩
  · refine .inr ⟨h1.imp (fun h => ⟨h.1, by rw [h.2]; push_cast; rfl⟩) And.left, h2, ?_⟩
    generalize (appE d ⟨0, S⟩ at' f).c = C at x h1 ⊢
    generalize crashD (appE d ⟨0, S⟩ at' f).d keep = e at x hrest ⊢
    have hr := x.room
    dsimp only at hr
    have hcn : ∀ i : Nat, i < S → cont e ⟨0, S⟩ i = now e i ∧ cont d ⟨0, S⟩ i = now d i := fun i hi => by
      have a1 := cont_now x.chk x.off (i := i) (by dsimp only; omega)
      have a2 := cont_now g.chk g.off (i := i) (by dsimp only; omega)
      rw [a1, a2]
      constructor <;> congr 1 <;> dsimp only <;> omega
    have hrest' : ∀ i : Nat, at' ≤ i → i ≠ at' → i < S → (headE (cont e ⟨0, S⟩ i).data.toList).2 ≠ 0 := fun i hi hne hi2 => by
      have := g.rest i hi hi2
      rw [(hcn i hi2).2] at this
      rw [(hcn i hi2).1]
      exact hrest i (by omega) (by dsimp only; omega) this
    rcases x.head g.chk g.off with ⟨h15, hh⟩ | li
    · have hR : ∀ i : Nat, at' ≤ i → i < S → (headE (cont e ⟨0, S⟩ i).data.toList).2 ≠ 0 := fun i hi hi2 => by
        by_cases he : i = at'
        · rw [he, hh]; exact g.rest _ (Nat.le_refl _) (by omega)
        · exact hrest' i hi he hi2
      have hsame : ∀ i, i < endF (cont d ⟨0, S⟩) S ep → cont e ⟨0, S⟩ i = cont d ⟨0, S⟩ i := fun i hi => by
        rw [g.till] at hi
        exact x.out' g.chk g.off (by dsimp only; omega) (.inl hi)
      have hg : ∀ j, j < cnt (cont d ⟨0, S⟩) S ep → good (cont d ⟨0, S⟩) S ep j = true := fun j hj => cnt_good _ S ep hj
      have p := pos_ext hg hsame
      have hpe : pos (cont e ⟨0, S⟩) S (cnt (cont d ⟨0, S⟩) S ep) = at' := by rw [(p _ (Nat.le_refl _)).1]; exact g.till
      have hng : good (cont e ⟨0, S⟩) S ep (cnt (cont d ⟨0, S⟩) S ep) = false := none_good (by
        rw [hpe]
        by_cases hs : S ≤ at'
        · unfold frAt; rw [if_pos hs]
        · exact frAt_headless (hR _ (Nat.le_refl _) (by omega)))
      obtain ⟨s1, s2, s3⟩ := log_same hsame (fun _ => hng)
      exact .inr ⟨h15, x.chk, x.off, x.pend, s1.trans g.num, s2.trans g.log, s3.trans g.till, hR⟩
    · dsimp only at li
      rw [Int.toNat_natCast] at li
      have hout : ∀ i, i < at' → cont e ⟨0, S⟩ i = cont d ⟨0, S⟩ i := fun i hi => x.out' g.chk g.off (by dsimp only; omega) (.inl hi)
      rw [← g.till] at li
      obtain ⟨m1, m2, m3, m4, m5⟩ := log_more (by rw [g.till]; exact hout) (by rw [g.num]; omega) li hep (by rw [g.num]; exact hsq)
      rw [g.num] at m1 m2 m3 m4 m5
      rw [g.till] at m4 m5
      have hR : ∀ i : Nat, at' + (pcs f.pay.size + 1) ≤ i → i < S → (headE (cont e ⟨0, S⟩ i).data.toList).2 ≠ 0 := fun i hi hi2 => hrest' i (by omega) (by omega) hi2
      have hng : good (cont e ⟨0, S⟩) S ep (l.length + 1) = false := none_good (by
        rw [m5]
        by_cases hs : S ≤ at' + (pcs f.pay.size + 1)
        · unfold frAt; rw [if_pos hs]
        · exact frAt_headless (hR _ (Nat.le_refl _) (by omega)))
      have hnum : cnt (cont e ⟨0, S⟩) S ep = l.length + 1 := by
        rcases Nat.lt_or_ge (l.length + 1) (cnt (cont e ⟨0, S⟩) S ep) with hlt | hge
        · rw [cnt_good _ _ _ hlt] at hng; exact absurd hng (by simp)
        · omega
      refine .inl ⟨x.chk, x.off, x.pend, by rw [hnum]; simp, ?_, ?_, hR⟩
      · unfold logF
        rw [hnum, List.range_succ, List.map_append, List.map_singleton, m3]
        have hlog := g.log
        unfold logF at hlog
        rw [g.num] at hlog
        have hmap : (List.range l.length).map (fun k => (frAt (cont e ⟨0, S⟩) S (pos (cont e ⟨0, S⟩) S k)).1) = (List.range l.length).map (fun k => (frAt (cont d ⟨0, S⟩) S (pos (cont d ⟨0, S⟩) S k)).1) := List.map_congr_left (fun k hk => m2 k (List.mem_range.1 hk))
        rw [hmap, hlog]
      · unfold endF
        rw [hnum, m5]
theorem Lg.kept {d e : Disk} {S ep at' : Nat} {a te : Int} {l : List Fr} {f : Fr} (h : appE d ⟨0, S⟩ a f = ⟨e, te, 0⟩) (keep : List Bool) (g : Lg (crashD e keep) S ep at' l) : Lg e S ep at' l := by
  have x := app_ok h
  have : crashD e keep = ⟨e.secs, e.pend, e.off, -1⟩ := by
    unfold crashD
    rw [x.pend, x.off]
    rfl
  rw [this] at g
  exact g.fuse e.fuse
end Go.Proofs.Ytiegocbdgimimaa.Wal
namespace Go.Proofs.Ytiegocbdgimimaa.Mem
open Go.ChangeShapes Go.WideShapes Go.ChangeAt Go.RowKit
open Go.Proofs.Ytiegocbdgimimaa.Mem Go.Proofs.Ytiegocbdgimimaa.Sector Go.Proofs.Ytiegocbdgimimaa.Wal Go.Proofs.Ytiegocbdgimimaa.Rec
set_option linter.unusedVariables false
theorem row_put {w : World} {base e size n : Nat} {v : Value} {xs : List Value} (h : w.ownsRow base e size v n xs) {b : Nat} {cs : List Value} {t : TypeId} (hb : Blk w b cs t) (hne : t ≠ e) (i : Nat) (x : Value) : (w.setCell ⟨b, i, none⟩ x).ownsRow base e size v n xs := by
  have hn := not_row h hb hne
  obtain ⟨q1, q2⟩ := h
  refine ⟨q1, ?_⟩
  rcases q2 with q2 | ⟨g, cap, cur, rfl, hg, hh, r⟩
  · exact .inl q2
  · refine .inr ⟨g, cap, cur, rfl, hg, ?_, r⟩
    rw [Below.heap_setCell _ _ _ _ (fun e => hn (by simp [Value.ownBlock]; exact e))]
    exact hh
theorem Bag.grown {w0 w w' : World} {L : List Bx} {O : List Dk} (h : Bag w0 w L O) {base e size n : Nat} {v : Value} {xs : List Value} (hown : w.ownsRow base e size v n xs) (hg : w.grownBy w' v.ownBlock) (hbase : w0.heap.size ≤ base) (hL : ∀ x ∈ L, x.t ≠ e) (he1 : e ≠ 9) (he2 : e ≠ 62) : Bag w0 w' L O := by
  have key : ∀ (B2 : Nat) (e2 : TypeId) (size2 n2 : Nat) (u : Value) (ys : List Value), w.ownsRow B2 e2 size2 u n2 ys → e ≠ e2 → w'.ownsRow B2 e2 size2 u n2 ys := fun B2 e2 size2 n2 u ys hr hne =>
    hr.kept hg (by
      cases hk : u.ownBlock with
      | none => exact .inl rfl
      | some k =>
        refine .inr (fun e' => ?_)
        rcases hown.2 with ⟨rfl, _⟩ | ⟨g', cap', cur', rfl, _, hg', _⟩
        · simp [Value.ownBlock] at e'
        · have : g' = k := by simpa [Value.ownBlock] using e'.symm
          subst this
          rcases hr.2 with ⟨rfl, _⟩ | ⟨g2, cap2, cur2, rfl, _, hg2, _⟩
          · simp [Value.ownBlock] at hk
          · have : g2 = g' := by simpa [Value.ownBlock] using hk
            subst this
            rw [hg'] at hg2
            simp at hg2
            exact hne hg2.2)
  refine ⟨h.bel.grown hg h.bel.size (fun k hk => Nat.le_trans hbase (hown.lt k hk).1), h.up, h.ge, fun x hx => Blk.grown' (h.at' x hx) hg (not_row hown (h.at' x hx) (hL x hx)), fun o ho => ?_⟩
  obtain ⟨h1, M, h2, h3, h4, h5⟩ := h.own o ho
  exact ⟨key _ _ _ _ _ _ h1 he1, M, h2, Nat.le_trans h3 hg.size, h4, key _ _ _ _ _ _ h5 he2⟩
structure BagR (w0 w : World) (L : List Bx) (O : List Dk) (v : Value) (l : List Fr) : Prop where
  bag : Bag w0 w L O
  row : w.ownsRow w0.heap.size 30 4 v l.length (frC l)
theorem BagR.bel {w0 w : World} {L : List Bx} {O : List Dk} {v : Value} {l : List Fr} (h : BagR w0 w L O v l) : Below w0.heap.size w0 w := h.bag.bel
theorem BagR.below {w0 w w' : World} {L : List Bx} {O : List Dk} {v : Value} {l : List Fr} (h : BagR w0 w L O v l) (hb : Below w.heap.size w w') : BagR w0 w' L O v l := ⟨h.bag.below hb, ownsRow_below h.row hb⟩
theorem BagR.alloc {w0 w : World} {L : List Bx} {O : List Dk} {v : Value} {l : List Fr} (h : BagR w0 w L O v l) (o : Obj) : BagR w0 (w.alloc o) L O v l := h.below ((Below.refl _ w).alloc (Nat.le_refl _) o)
theorem BagR.push {w0 w : World} {L : List Bx} {O : List Dk} {v : Value} {l : List Fr} (h : BagR w0 w L O v l) (cs : List Value) (t : TypeId) (n : Nat) (hn : n = w.heap.size) : BagR w0 (w.alloc (.cells cs.toArray t)) (L ++ [⟨n, cs, t⟩]) O v l := ⟨h.bag.push cs t n hn, (h.alloc _).row⟩
theorem BagR.res {w0 w w' : World} {L : List Bx} {O : List Dk} {v : Value} {l : List Fr} (h : BagR w0 w L O v l) {sv pv : Value} {d : Disk} (o : OwnDisk w.heap.size w' sv pv d) (hb : Below w.heap.size w w') : BagR w0 w' L (O ++ [⟨sv, pv, d⟩]) v l := ⟨h.bag.res o hb, ownsRow_below h.row hb⟩
theorem BagR.get {w0 w : World} {L : List Bx} {O : List Dk} {v : Value} {l : List Fr} (h : BagR w0 w L O v l) {b : Nat} {cs : List Value} {t : TypeId} (k : Nat) (hk : L[k]? = some ⟨b, cs, t⟩) : Blk w b cs t := h.bag.get k hk
theorem BagR.view {w0 w : World} {L : List Bx} {O : List Dk} {v : Value} {l : List Fr} (h : BagR w0 w L O v l) {sv pv : Value} {d : Disk} (k : Nat) (hk : O[k]? = some ⟨sv, pv, d⟩) : DiskV w (.agg #[sv, pv, .bool d.off, .int .i64 d.fuse]) d := h.bag.view k hk
theorem BagR.put {w0 w : World} {L : List Bx} {O : List Dk} {v : Value} {l : List Fr} (h : BagR w0 w L O v l) {b : Nat} {cs : List Value} {t : TypeId} (k : Nat) (hk : L[k]? = some ⟨b, cs, t⟩) (h1 : t ≠ 9) (h2 : t ≠ 62) (h3 : t ≠ 30) (i : Nat) (x : Value) :
    BagR w0 (w.setCell ⟨b, i, none⟩ x) (L.set k ⟨b, cs.set i x, t⟩) O v l := ⟨h.bag.put k hk h1 h2 i x, row_put h.row (h.bag.get k hk) h3 i x⟩
theorem BagR.refuse2 {w0 w : World} {L : List Bx} {O : List Dk} {v : Value} {l : List Fr} (h : BagR w0 w L O v l) {sv pv : Value} {d : Disk} (k : Nat) (hk : O[k]? = some ⟨sv, pv, d⟩) (f : Int) : BagR w0 w L [⟨sv, pv, ⟨d.secs, d.pend, d.off, f⟩⟩] v l :=
  ⟨⟨h.bag.bel, h.bag.up, h.bag.ge, h.bag.at', fun o ho => by
    rw [List.mem_singleton] at ho
    subst ho
    have := h.bag.own ⟨sv, pv, d⟩ (List.mem_of_getElem? hk)
    exact ⟨this.secs, this.far⟩⟩, h.row⟩
theorem BagR.erase {w0 w : World} {L : List Bx} {O : List Dk} {v : Value} {l : List Fr} (h : BagR w0 w L O v l) (k : Nat) : BagR w0 w (L.eraseIdx k) O v l := ⟨h.bag.less (List.eraseIdx_sublist _ _) (List.Sublist.refl _), h.row⟩
theorem BagR.cut {w0 w : World} {L : List Bx} {O : List Dk} {v : Value} {l : List Fr} (h : BagR w0 w L O v l) (k i j : Nat) : BagR w0 w (L.take k) ((O.drop i).take j) v l := ⟨h.bag.cut k i j, h.row⟩
/-- a frame is appended to the row -/
theorem BagR.app {w0 w : World} {L : List Bx} {O : List Dk} {v : Value} {l l' : List Fr} (h : BagR w0 w L O v l) (f : Fr) (hl' : l' = l ++ [f]) (hn : l.length ≤ 2000) (hL : ∀ x ∈ L, x.t ≠ 30) :
    ∃ so cp w1, (Builtin.append_ #[41, 41] 41 #[v, .slice (some ⟨w.heap.size, 0, none⟩) 1 1]).run Try.prog (w.alloc (.cells #[.int .u8 f.kind, .int .u64 f.epoch, .int .u64 f.seq, .string f.pay] 30)) = .ok (.slice so l'.length cp) w1 ∧
      BagR w0 w1 L O (.slice so l'.length cp) l' := by
  obtain ⟨i0, hi, hz0, hz1, hz2⟩ := info_parts info_frame
  have hx := Blk.new w [.int .u8 f.kind, .int .u64 f.epoch, .int .u64 f.seq, .string f.pay] 30
  obtain ⟨x0, x1, x2, x3, _⟩ := hx.four
  have hA := h.alloc (.cells #[.int .u8 f.kind, .int .u64 f.epoch, .int .u64 f.seq, .string f.pay] 30)
  generalize w.heap.size = x at hx x0 x1 x2 x3 ⊢
  generalize w.alloc (.cells #[.int .u8 f.kind, .int .u64 f.epoch, .int .u64 f.seq, .string f.pay] 30) = W at hx x0 x1 x2 x3 hA ⊢
  obtain ⟨v', w8, hr8, ho8, hg8, _⟩ := run_append_own (P := Try.prog) W w0.heap.size 41 41 30 i0 (.agg #[.int .u8 0, .int .u64 0, .int .u64 0, .string ⟨#[]⟩]) 4 40 Try.underlying41 hi hz0 hz1 hz2 rfl (by decide) _ _ _ hA.row ⟨x, 0, none⟩ 1 1 [.int .u8 f.kind, .int .u64 f.epoch, .int .u64 f.seq, .string f.pay] rfl
    (by
      intro j u hu
      match j, hu with
      | 0, hu => simp at hu; subst hu; exact x0
      | 1, hu => simp at hu; subst hu; exact x1
      | 2, hu => simp at hu; subst hu; exact x2
      | 3, hu => simp at hu; subst hu; exact x3) (by simp [Value.oneCell']) (by unfold maxLen; omega) (by omega) hA.bel.size
  obtain ⟨so', cp', rfl, _, _⟩ := ownsRow_form ho8
  rw [show frC l ++ [Value.int .u8 f.kind, .int .u64 f.epoch, .int .u64 f.seq, .string f.pay] = frC l' by rw [hl', frC_app]; rfl, show l.length + 1 = l'.length by rw [hl']; simp] at ho8
  rw [show l.length + 1 = l'.length by rw [hl']; simp] at hr8
  exact ⟨so', cp', w8, hr8, hA.bag.grown hA.row hg8 (Nat.le_refl _) hL (by decide) (by decide), ho8⟩
end Go.Proofs.Ytiegocbdgimimaa.Mem
namespace Go.Proofs.Ytiegocbdgimimaa.Rec
open Go.ChangeShapes Go.WideShapes Go.ChangeAt Go.RowKit
open Go.Proofs.Ytiegocbdgimimaa.Mem Go.Proofs.Ytiegocbdgimimaa.CrcMath
open Go.Proofs.Ytiegocbdgimimaa.Crc (num num_lt get32_yes get64_yes)
set_option linter.unusedVariables false
set_option maxRecDepth 100000
theorem rget64_bs (l : By) (w : World) (h : l.length = 8) : Calls Try.prog 93 #[.string (bs l)] w fun e w' => e = .returned (.tuple #[.int .u64 (num l : Nat), .int .i64 0]) ∧ w = w' := Crc.refget64_yes (bs l) w (by rw [bs_size]; exact h)
theorem rget32_bs (l : By) (w : World) (h : l.length = 4) : Calls Try.prog 94 #[.string (bs l)] w fun e w' => e = .returned (.tuple #[.int .u32 (num l : Nat), .int .i64 0]) ∧ w = w' := Crc.refget32_yes (bs l) w (by rw [bs_size]; exact h)
theorem rhead_short (s : ByteArray) (w : World) (h : s.size ≠ 64) : Calls Try.prog 64 #[.string s] w (HeadTold w (headE s.data.toList)) := by
  have hf : Hid (headE s.data.toList = (zeroHd, 14)) := hid (by
    unfold headE headOk
    rw [show decide (s.data.toList.length = 64) = false by simpa using h]
    simp)
  have h1 : ((s.size : Int) != 64) = true := by rw [bne_iff_ne]; omega
  clear h
  go_enter Try.func64, Try.ntmps64
  go_wp2_with fail
  exact bodyPost_ret (v := .tuple #[.agg #[.int .u8 0, .int .u64 0, .int .u64 0, .int .i64 0, .int .u32 0], .int .i64 14]) (by simp [results, Try.results64, go_sem]) rfl ⟨by rw [hf.out]; rfl, by go_grown⟩
set_option maxHeartbeats 4000000 in
theorem rhead_long (s : ByteArray) (w : World) (h : s.size = 64) : Calls Try.prog 64 #[.string s] w (HeadTold w (headE s.data.toList)) := by
  have hl : s.data.toList.length = 64 := h
  have h1 : ((s.size : Int) != 64) = false := by rw [h]; rfl
  have g1 : (1 : Int) < (s.size : Int) := by omega
  have g10 : (10 : Int) ≤ (s.size : Int) := by omega
  have g18 : (18 : Int) ≤ (s.size : Int) := by omega
  have g22 : (22 : Int) ≤ (s.size : Int) := by omega
  have g26 : (26 : Int) ≤ (s.size : Int) := by omega
  have hi1 : 1 < s.size := by omega
  have e1 := hid (extract_sub s 2 10)
  have e2 := hid (extract_sub s 10 18)
  have e3 := hid (extract_sub s 18 22)
  have e4 := hid (extract_sub s 22 26)
  have hok := hid (readHd_okn s.data.toList hl)
  have l1 := hid (sub_len s.data.toList 2 8 (by omega))
  have l2 := hid (sub_len s.data.toList 10 8 (by omega))
  have l3 := hid (sub_len s.data.toList 18 4 (by omega))
  have l4 := hid (sub_len s.data.toList 22 4 (by omega))
  have hl' := hid hl
  have hs' := hid h
  have ha := at1 s hi1
  have hnlt : (num (sub s.data.toList 18 4) : Int) < 4294967296 := by have := hok.out.2.2.2.1; have e : (readHd s.data.toList).len = num (sub s.data.toList 18 4) := rfl; omega
  have hkd : (s[1]'hi1).toNat = (readHd s.data.toList).kind := by rw [ha]; rfl
  have hoku : Hid (headOk s.data.toList = (decide ((readHd s.data.toList).kind ≠ 0) && decide ((readHd s.data.toList).len ≤ 16384) && decide (headL (readHd s.data.toList) = s.data.toList))) := hid (by unfold headOk; rw [hl]; rfl)
  by_cases hk : (s[1]'hi1).toNat = 0
  · have hf := hid (hd_bad (l := s.data.toList) (by rw [hoku.out, ← hkd, hk]; rfl))
    have k0 : ((((s[1]'hi1).toNat : Nat) : Int) == 0) = true := by rw [hk]; rfl
    clear h hl ha hkd hk hoku
    go_enter Try.func64, Try.ntmps64
    go_wp2_with fail
    rw [e1.out]
    refine (rget64_bs _ _ l1.out).mono ?_
    rintro e w1 ⟨rfl, rfl⟩
    go_wp2_with fail
    rw [e2.out]
    refine (rget64_bs _ _ l2.out).mono ?_
    rintro e w1 ⟨rfl, rfl⟩
    go_wp2_with fail
    rw [e3.out]
    refine (rget32_bs _ _ l3.out).mono ?_
    rintro e w1 ⟨rfl, rfl⟩
    go_wp2_with fail
    rw [e4.out]
    refine (rget32_bs _ _ l4.out).mono ?_
    rintro e w1 ⟨rfl, rfl⟩
    go_upto_region 8 with fail
    have M := hid (((Bag.nil w).push [.int .u8 0, .int .u64 0, .int .u64 0, .int .i64 0, .int .u32 0] 46 w.heap.size rfl).push [.int .u8 ((s[1]'hi1).toNat : Nat), .int .u64 (num (sub s.data.toList 2 8) : Nat), .int .u64 (num (sub s.data.toList 10 8) : Nat), .int .i64 (num (sub s.data.toList 18 4) : Nat), .int .u32 (num (sub s.data.toList 22 4) : Nat)] 46 (w.heap.size + 1) (by simp))
    generalize (w.alloc (.cells #[.int .u8 0, .int .u64 0, .int .u64 0, .int .i64 0, .int .u32 0] 46)).alloc (.cells #[.int .u8 ((s[1]'hi1).toNat : Nat), .int .u64 (num (sub s.data.toList 2 8) : Nat), .int .u64 (num (sub s.data.toList 10 8) : Nat), .int .i64 (num (sub s.data.toList 18 4) : Nat), .int .u32 (num (sub s.data.toList 22 4) : Nat)] 46) = X0 at M ⊢
    obtain ⟨r0, r1, r2, r3, r4, rf⟩ := five (M.out.get 0 rfl)
    obtain ⟨c0, c1, c2, c3, c4, cf⟩ := five (M.out.get 1 rfl)
    have M9 := hid (((((M.out.put 0 rfl (by decide) (by decide) 0 (.int .u8 0)).put 0 rfl (by decide) (by decide) 1 (.int .u64 0)).put 0 rfl (by decide) (by decide) 2 (.int .u64 0)).put 0 rfl (by decide) (by decide) 3 (.int .i64 0)).put 0 rfl (by decide) (by decide) 4 (.int .u32 0))
    go_wp2_with fail
    clear r0 r1 r2 r3 r4 rf c0 c1 c2 c3 c4 cf
    obtain ⟨q0, q1, q2, q3, q4, qf⟩ := five (M9.out.get 0 rfl)
    exact bodyPost_ret (v := .tuple #[.agg #[.int .u8 0, .int .u64 0, .int .u64 0, .int .i64 0, .int .u32 0], .int .i64 14]) (by simp [results, Try.results64, go_sem, q0, q1, q2, q3, q4]) rfl ⟨by rw [hf.out]; rfl, M9.out.bel⟩
  · have k0 : ((((s[1]'hi1).toNat : Nat) : Int) == 0) = false := by rw [beq_eq_false_iff_ne]; omega
    by_cases hn : 16384 < num (sub s.data.toList 18 4)
    · have hf := hid (hd_bad (l := s.data.toList) (by rw [hoku.out, show decide ((readHd s.data.toList).len ≤ 16384) = false by rw [decide_eq_false_iff_not]; exact Nat.not_le_of_lt hn]; simp))
      have n0 : (16384 : Int) < (num (sub s.data.toList 18 4) : Int) := by omega
      clear h hl ha hkd hk hn hoku
      go_enter Try.func64, Try.ntmps64
      go_wp2_with fail
      rw [e1.out]
      refine (rget64_bs _ _ l1.out).mono ?_
      rintro e w1 ⟨rfl, rfl⟩
      go_wp2_with fail
      rw [e2.out]
      refine (rget64_bs _ _ l2.out).mono ?_
      rintro e w1 ⟨rfl, rfl⟩
      go_wp2_with fail
      rw [e3.out]
      refine (rget32_bs _ _ l3.out).mono ?_
      rintro e w1 ⟨rfl, rfl⟩
      go_wp2_with fail
      rw [e4.out]
      refine (rget32_bs _ _ l4.out).mono ?_
      rintro e w1 ⟨rfl, rfl⟩
      go_upto_region 8 with fail
      have M := hid (((Bag.nil w).push [.int .u8 0, .int .u64 0, .int .u64 0, .int .i64 0, .int .u32 0] 46 w.heap.size rfl).push [.int .u8 ((s[1]'hi1).toNat : Nat), .int .u64 (num (sub s.data.toList 2 8) : Nat), .int .u64 (num (sub s.data.toList 10 8) : Nat), .int .i64 (num (sub s.data.toList 18 4) : Nat), .int .u32 (num (sub s.data.toList 22 4) : Nat)] 46 (w.heap.size + 1) (by simp))
      generalize (w.alloc (.cells #[.int .u8 0, .int .u64 0, .int .u64 0, .int .i64 0, .int .u32 0] 46)).alloc (.cells #[.int .u8 ((s[1]'hi1).toNat : Nat), .int .u64 (num (sub s.data.toList 2 8) : Nat), .int .u64 (num (sub s.data.toList 10 8) : Nat), .int .i64 (num (sub s.data.toList 18 4) : Nat), .int .u32 (num (sub s.data.toList 22 4) : Nat)] 46) = X0 at M ⊢
      obtain ⟨r0, r1, r2, r3, r4, rf⟩ := five (M.out.get 0 rfl)
      obtain ⟨c0, c1, c2, c3, c4, cf⟩ := five (M.out.get 1 rfl)
      have M9 := hid (((((M.out.put 0 rfl (by decide) (by decide) 0 (.int .u8 0)).put 0 rfl (by decide) (by decide) 1 (.int .u64 0)).put 0 rfl (by decide) (by decide) 2 (.int .u64 0)).put 0 rfl (by decide) (by decide) 3 (.int .i64 0)).put 0 rfl (by decide) (by decide) 4 (.int .u32 0))
      go_wp2_with fail
      clear r0 r1 r2 r3 r4 rf c0 c1 c2 c3 c4 cf
      obtain ⟨q0, q1, q2, q3, q4, qf⟩ := five (M9.out.get 0 rfl)
      exact bodyPost_ret (v := .tuple #[.agg #[.int .u8 0, .int .u64 0, .int .u64 0, .int .i64 0, .int .u32 0], .int .i64 14]) (by simp [results, Try.results64, go_sem, q0, q1, q2, q3, q4]) rfl ⟨by rw [hf.out]; rfl, M9.out.bel⟩
    · have n0 : (num (sub s.data.toList 18 4) : Int) ≤ 16384 := by omega
      have hhd : Hid ((⟨(s[1]'hi1).toNat, num (sub s.data.toList 2 8), num (sub s.data.toList 10 8), num (sub s.data.toList 18 4), num (sub s.data.toList 22 4)⟩ : Hd) = readHd s.data.toList) := hid (by rw [hkd]; rfl)
      have hk0 := hid (by rw [hkd]; exact hok.out.1 : (s[1]'hi1).toNat < 256)
      have hoku2 : Hid (headOk s.data.toList = decide (headL (readHd s.data.toList) = s.data.toList)) := hid (by
        rw [hoku.out, show decide ((readHd s.data.toList).kind ≠ 0) = true by rw [← hkd]; simpa using hk, show decide ((readHd s.data.toList).len ≤ 16384) = true by rw [decide_eq_true_eq]; exact Nat.le_of_not_lt hn]; rfl)
      have hkd' := hid hkd
      clear h hl ha hkd hk hn hoku
      go_enter Try.func64, Try.ntmps64
      go_wp2_with fail
      rw [e1.out]
      refine (rget64_bs _ _ l1.out).mono ?_
      rintro e w1 ⟨rfl, rfl⟩
      go_wp2_with fail
      rw [e2.out]
      refine (rget64_bs _ _ l2.out).mono ?_
      rintro e w1 ⟨rfl, rfl⟩
      go_wp2_with fail
      rw [e3.out]
      refine (rget32_bs _ _ l3.out).mono ?_
      rintro e w1 ⟨rfl, rfl⟩
      go_wp2_with fail
      rw [e4.out]
      refine (rget32_bs _ _ l4.out).mono ?_
      rintro e w1 ⟨rfl, rfl⟩
      go_upto_region 8 with fail
      have M := hid (((Bag.nil w).push [.int .u8 0, .int .u64 0, .int .u64 0, .int .i64 0, .int .u32 0] 46 w.heap.size rfl).push [.int .u8 ((s[1]'hi1).toNat : Nat), .int .u64 (num (sub s.data.toList 2 8) : Nat), .int .u64 (num (sub s.data.toList 10 8) : Nat), .int .i64 (num (sub s.data.toList 18 4) : Nat), .int .u32 (num (sub s.data.toList 22 4) : Nat)] 46 (w.heap.size + 1) (by simp))
      generalize (w.alloc (.cells #[.int .u8 0, .int .u64 0, .int .u64 0, .int .i64 0, .int .u32 0] 46)).alloc (.cells #[.int .u8 ((s[1]'hi1).toNat : Nat), .int .u64 (num (sub s.data.toList 2 8) : Nat), .int .u64 (num (sub s.data.toList 10 8) : Nat), .int .i64 (num (sub s.data.toList 18 4) : Nat), .int .u32 (num (sub s.data.toList 22 4) : Nat)] 46) = X0 at M ⊢
      obtain ⟨c0, c1, c2, c3, c4, cf⟩ := five (M.out.get 1 rfl)
      go_wp2_with fail
      refine (first_any (s[1]'hi1).toNat (num (sub s.data.toList 2 8)) (num (sub s.data.toList 10 8)) (num (sub s.data.toList 18 4)) (num (sub s.data.toList 22 4)) _ hk0.out hok.out.2.1 hok.out.2.2.1 hok.out.2.2.2.1 hok.out.2.2.2.2).mono ?_
      rw [hhd.out]
      rintro e w2 ⟨rfl, b2⟩
      replace M := hid (M.out.below b2)
      clear b2 c0 c1 c2 c3 c4 cf
      by_cases hx : bs (headL (readHd s.data.toList)) = s
      · have hxe := str_yes hx
        have hf : Hid (headE s.data.toList = (readHd s.data.toList, 0)) := hid (by unfold headE; rw [hoku2.out, show decide (headL (readHd s.data.toList) = s.data.toList) = true by rw [decide_eq_true_eq, ← bs_list (headL (readHd s.data.toList)), hx]]; rfl)
        clear hx
        have hfin : Hid (headE s.data.toList = (⟨(s[1]'hi1).toNat, num (sub s.data.toList 2 8), num (sub s.data.toList 10 8), num (sub s.data.toList 18 4), num (sub s.data.toList 22 4)⟩, 0)) := hid (by rw [hf.out, ← hhd.out])
        clear hf hhd hoku2 hkd' hok hk0
        generalize (s[1]'hi1).toNat = kd at M k0 hfin ⊢
        generalize num (sub s.data.toList 2 8) = v1 at M hfin ⊢
        generalize num (sub s.data.toList 10 8) = v2 at M hfin ⊢
        generalize num (sub s.data.toList 18 4) = v3 at M n0 hnlt hfin ⊢
        generalize num (sub s.data.toList 22 4) = v4 at M hfin ⊢
        clear hnlt g1 g10 g18 g22 g26 hi1 h1 hl' hs' e1 e2 e3 e4 l1 l2 l3 l4
        go_upto_region 10 with fail
        obtain ⟨r0, r1, r2, r3, r4, rf⟩ := five (M.out.get 0 rfl)
        obtain ⟨c0, c1, c2, c3, c4, cf⟩ := five (M.out.get 1 rfl)
        have M9 := hid (((((M.out.put 0 rfl (by decide) (by decide) 0 (.int .u8 (kd : Nat))).put 0 rfl (by decide) (by decide) 1 (.int .u64 (v1 : Nat))).put 0 rfl (by decide) (by decide) 2 (.int .u64 (v2 : Nat))).put 0 rfl (by decide) (by decide) 3 (.int .i64 (v3 : Nat))).put 0 rfl (by decide) (by decide) 4 (.int .u32 (v4 : Nat)))
        go_wp2_with fail
        clear r0 r1 r2 r3 r4 rf c0 c1 c2 c3 c4 cf
        obtain ⟨q0, q1, q2, q3, q4, qf⟩ := five (M9.out.get 0 rfl)
        exact bodyPost_ret (v := .tuple #[.agg #[.int .u8 (kd : Nat), .int .u64 (v1 : Nat), .int .u64 (v2 : Nat), .int .i64 (v3 : Nat), .int .u32 (v4 : Nat)], .int .i64 0]) (by simp [results, Try.results64, go_sem, q0, q1, q2, q3, q4]) rfl ⟨by rw [hfin.out]; rfl, M9.out.bel⟩
      · have hxe := str_no hx
        have hf : Hid (headE s.data.toList = (zeroHd, 14)) := hid (hd_bad (by rw [hoku2.out, decide_eq_false_iff_not]; intro h; exact hx (by rw [h, bs_of])))
        clear hx
        obtain ⟨r0, r1, r2, r3, r4, rf⟩ := five (M.out.get 0 rfl)
        obtain ⟨c0, c1, c2, c3, c4, cf⟩ := five (M.out.get 1 rfl)
        have M9 := hid (((((M.out.put 0 rfl (by decide) (by decide) 0 (.int .u8 0)).put 0 rfl (by decide) (by decide) 1 (.int .u64 0)).put 0 rfl (by decide) (by decide) 2 (.int .u64 0)).put 0 rfl (by decide) (by decide) 3 (.int .i64 0)).put 0 rfl (by decide) (by decide) 4 (.int .u32 0))
        go_wp2_with fail
        clear r0 r1 r2 r3 r4 rf c0 c1 c2 c3 c4 cf
        obtain ⟨q0, q1, q2, q3, q4, qf⟩ := five (M9.out.get 0 rfl)
        exact bodyPost_ret (v := .tuple #[.agg #[.int .u8 0, .int .u64 0, .int .u64 0, .int .i64 0, .int .u32 0], .int .i64 14]) (by simp [results, Try.results64, go_sem, q0, q1, q2, q3, q4]) rfl ⟨by rw [hf.out]; rfl, M9.out.bel⟩
theorem rhd_any (s : ByteArray) (w : World) : Calls Try.prog 64 #[.string s] w (HeadTold w (headE s.data.toList)) := by
  by_cases h : s.size = 64
  · exact rhead_long s w h
  · exact rhead_short s w h
end Go.Proofs.Ytiegocbdgimimaa.Rec
namespace Go.Proofs.Ytiegocbdgimimaa.Rec
open Go.Proofs.Ytiegocbdgimimaa.Mem Go.Proofs.Ytiegocbdgimimaa.CrcMath
set_option linter.unusedVariables false
set_option maxRecDepth 10000
def payE (t : List ByteArray) (n k : Nat) : By := (bodies (t.take k)).take n
theorem payE_zero (t : List ByteArray) (n : Nat) : payE t n 0 = [] := by simp [payE, bodies]
theorem take_len {t : List ByteArray} {k : Nat} (hk : k ≤ t.length) : (t.take k).length = k := by rw [List.length_take]; omega
theorem payE_len {t : List ByteArray} {n k : Nat} (hk : k ≤ t.length) (h : all64 (t.take k) = true) : (payE t n k).length = min n (61 * k) := by
  unfold payE
  rw [List.length_take, bodies_len _ h, take_len hk]
theorem all64_succ {t : List ByteArray} {k : Nat} (hk : k < t.length) (h : all64 (t.take k) = true) (hs : t[k].size = 64) : all64 (t.take (k + 1)) = true := by
  rw [List.take_succ_eq_append_getElem hk]
  unfold all64 at h ⊢
  rw [List.all_append, h]
  simp [hs]
theorem payE_succ {t : List ByteArray} {n k : Nat} (hk : k < t.length) (h : all64 (t.take k) = true) (hs : t[k].size = 64) (hn : 61 * k < n) : payE t n (k + 1) = payE t n k ++ sub t[k].data.toList 3 (min 61 (n - 61 * k)) := by
  have hl : (bodies (t.take k)).length = 61 * k := by rw [bodies_len _ h, take_len (by omega)]
  unfold payE sub
  rw [List.take_succ_eq_append_getElem hk, bodies_snoc, List.take_append, hl]
  congr 1
  have hd : (t[k].data.toList.drop 3).length = 61 := by
    have : t[k].data.toList.length = 64 := hs
    rw [List.length_drop, this]
  rcases Nat.le_total 61 (n - 61 * k) with h1 | h1
  · rw [Nat.min_eq_left h1, List.take_of_length_le (by omega), List.take_of_length_le (by omega)]
  · rw [Nat.min_eq_right h1]
theorem part_same (p q : By) (j : Nat) (h : (j + 1) * 61 ≤ p.length) : part (p ++ q) j = part p j := by
  unfold part
  rw [List.drop_append_of_le_length (by omega), List.take_append_of_le_length (by rw [List.length_drop]; omega)]
theorem join_not {s : ByteArray} {t : List ByteArray} (h : ∀ f, secsL f = s :: t → f.okn → fchk f.kind f.pay.size = 0 → False) : joinE (s :: t) = (zeroFr, 14) := by
  rcases join_two (s :: t) with h0 | ⟨f, _, h2, h3, h4, h5, h6⟩
  · exact h0
  · exact (h f h2 ⟨h4, h5, h6, by have := (fchk_zero h3).2; omega⟩ h3).elim
theorem secs_facts {f : Fr} {s : ByteArray} {t : List ByteArray} (h : secsL f = s :: t) (ok : f.okn) (hf : fchk f.kind f.pay.size = 0) : readHd s.data.toList = hdOf f ∧ t = piecesL f.pay.data.toList (pcs f.pay.size) := by
  rw [secsL_eq] at h
  obtain ⟨h1, h2⟩ := List.cons.inj h
  refine ⟨?_, h2.symm⟩
  have hh := head_of f ok hf
  rw [h1] at hh
  unfold headE at hh
  by_cases hk : headOk s.data.toList = true
  · rw [if_pos hk] at hh; exact (Prod.mk.inj hh).1
  · rw [if_neg hk] at hh; exact absurd (Prod.mk.inj hh).2 (by decide)
theorem pieces_len (p : By) (k : Nat) : (piecesL p k).length = k := by simp [piecesL]
theorem pieces_take (p : By) (k m : Nat) (h : k ≤ m) : (piecesL p m).take k = piecesL p k := by
  unfold piecesL
  rw [← List.map_take, List.take_range, Nat.min_eq_left h]
theorem pieces_get (p : By) (k m : Nat) (h : k < m) : (piecesL p m)[k]'(by rw [pieces_len]; exact h) = bs (pieceL k (part p k)) := by simp [piecesL]
theorem payE_pieces (p : By) (k : Nat) (hk : k ≤ pcs p.length) : payE (piecesL p (pcs p.length)) p.length k = p.take (k * 61) := by
  unfold payE
  rw [pieces_take _ _ _ hk, bodies_pieces p k hk]
  rcases Nat.le_total (k * 61) p.length with h | h
  · rw [show k * 61 - p.length = 0 by omega, List.replicate_zero, List.append_nil, List.take_take, Nat.min_eq_right h]
  · rw [List.take_of_length_le h, List.take_append_of_le_length (Nat.le_refl _), List.take_of_length_le (Nat.le_refl _)]
theorem part_take (p : By) (k : Nat) : part (p.take ((k + 1) * 61)) k = part p k := by
  unfold part
  rw [List.drop_take, List.take_take, show min 61 ((k + 1) * 61 - k * 61) = 61 by omega]
theorem no_head {s : ByteArray} {t : List ByteArray} (h : headOk s.data.toList = false) : joinE (s :: t) = (zeroFr, 14) := by rw [joinE_cons, h]; simp
theorem no_len {s : ByteArray} {t : List ByteArray} (h : t.length ≠ pcs (readHd s.data.toList).len) : joinE (s :: t) = (zeroFr, 14) := by
  refine join_not fun f h2 ok hf => ?_
  obtain ⟨e1, e2⟩ := secs_facts h2 ok hf
  rw [e1, e2, pieces_len] at h
  exact h rfl
theorem no_size {s : ByteArray} {t : List ByteArray} {k : Nat} (hk : k < t.length) (h : t[k].size ≠ 64) : joinE (s :: t) = (zeroFr, 14) := by
  refine join_not fun f h2 ok hf => ?_
  obtain ⟨e1, e2⟩ := secs_facts h2 ok hf
  subst e2
  rw [pieces_len] at hk
  rw [pieces_get _ _ _ hk] at h
  exact h (by rw [bs_size, pieceL_len _ _ (part_le _ _)])
theorem no_piece {s : ByteArray} {t : List ByteArray} {k : Nat} (hk : k < t.length) (h : bs (pieceL k (part (payE t (readHd s.data.toList).len (k + 1)) k)) ≠ t[k]) : joinE (s :: t) = (zeroFr, 14) := by
  refine join_not fun f h2 ok hf => ?_
  obtain ⟨e1, e2⟩ := secs_facts h2 ok hf
  subst e2
  rw [pieces_len] at hk
  rw [pieces_get _ _ _ hk, e1] at h
  have hl : (hdOf f).len = f.pay.data.toList.length := rfl
  rw [hl, show f.pay.size = f.pay.data.toList.length from rfl, payE_pieces _ _ (by show k + 1 ≤ pcs f.pay.size; omega), part_take] at h
  exact h rfl
theorem no_sum {s : ByteArray} {t : List ByteArray} (h : more 0 (payE t (readHd s.data.toList).len t.length) ≠ (readHd s.data.toList).sum) : joinE (s :: t) = (zeroFr, 14) := by
  refine join_not fun f h2 ok hf => ?_
  obtain ⟨e1, e2⟩ := secs_facts h2 ok hf
  subst e2
  rw [e1] at h
  have hl : (hdOf f).len = f.pay.data.toList.length := rfl
  rw [hl, pieces_len, show f.pay.size = f.pay.data.toList.length from rfl, payE_pieces _ _ (Nat.le_refl _), List.take_of_length_le (by unfold pcs; omega)] at h
  exact h rfl
theorem yes_all {s : ByteArray} {t : List ByteArray} (hok : headOk s.data.toList = true) (hl : t.length = pcs (readHd s.data.toList).len) (ha : all64 (t.take t.length) = true)
    (hp : ∀ j (h : j < t.length), t[j] = bs (pieceL j (part (payE t (readHd s.data.toList).len t.length) j))) (hs : more 0 (payE t (readHd s.data.toList).len t.length) = (readHd s.data.toList).sum) :
    joinE (s :: t) = (⟨(readHd s.data.toList).kind, (readHd s.data.toList).epoch, (readHd s.data.toList).seq, bs (payE t (readHd s.data.toList).len t.length)⟩, 0) := by
  obtain ⟨f1, f2, f3, f4⟩ := headOk_facts hok
  obtain ⟨o1, o2, o3, o4, o5⟩ := readHd_okn s.data.toList f1
  have hpl := payE_len (n := (readHd s.data.toList).len) (Nat.le_refl _) ha
  rw [hl, Nat.min_eq_left (by unfold pcs; omega), ← hl] at hpl
  generalize payE t (readHd s.data.toList).len t.length = P at hp hs hpl ⊢
  have hsz : (bs P).size = (readHd s.data.toList).len := by rw [bs_size, hpl]
  have hf : fchk (readHd s.data.toList).kind (bs P).size = 0 := by
    unfold fchk
    rw [if_neg f2, hsz, if_neg (by omega)]
  have hsec : secsL ⟨(readHd s.data.toList).kind, (readHd s.data.toList).epoch, (readHd s.data.toList).seq, bs P⟩ = s :: t := by
    rw [secsL_eq]
    have hh : hdOf ⟨(readHd s.data.toList).kind, (readHd s.data.toList).epoch, (readHd s.data.toList).seq, bs P⟩ = readHd s.data.toList := by
      unfold hdOf
      dsimp only
      rw [hsz, bs_list, hs]
    rw [hh, f4, bs_of]
    congr 1
    dsimp only
    rw [hsz, bs_list]
    apply List.ext_getElem
    · rw [pieces_len, hl]
    · intro j h1 h2
      rw [pieces_len] at h1
      rw [pieces_get _ _ _ h1, hp j h2]
  rw [← hsec]
  exact join_secs _ ⟨o1, o2, o3, by rw [hsz]; omega⟩ hf
end Go.Proofs.Ytiegocbdgimimaa.Rec
namespace Go.Proofs.Ytiegocbdgimimaa.Rec
open Go.ChangeShapes Go.WideShapes Go.ChangeAt Go.RowKit
open Go.Proofs.Ytiegocbdgimimaa.Mem Go.Proofs.Ytiegocbdgimimaa.CrcMath
open Go.Proofs.Ytiegocbdgimimaa.Sector (below_drewN)
set_option linter.unusedVariables false
set_option linter.unusedSimpArgs false
set_option maxRecDepth 100000
theorem rsum_bs (l : By) (w : World) (h : l.length ≤ 16384) : Calls Try.prog 45 #[.string (bs l)] w fun e w' => e = .returned (.int .u32 (more 0 l : Nat)) ∧ w' = w := by
  have := Crc.refsum_any (bs l) w (by rw [bs_size]; unfold maxLen; omega)
  rw [bs_list] at this
  exact this.mono fun _ _ ⟨a, b⟩ => ⟨a, b.symm⟩
theorem rjoin_nil (v : Value) (w : World) (h : StrsV w v []) : Calls Try.prog 65 #[v] w (JoinTold w (joinE [])) := by
  obtain ⟨so, scap, rfl, hs2, hs3⟩ := h.form
  clear h
  go_enter Try.func65, Try.ntmps65
  go_wp2_with fail
  exact bodyPost_ret (v := .tuple #[.agg #[.int .u8 0, .int .u64 0, .int .u64 0, .string ⟨#[]⟩], .int .i64 14]) (by simp [results, Try.results65, go_sem]) rfl ⟨rfl, by go_grown⟩
set_option maxHeartbeats 8000000 in
theorem rjoin_cons (s : ByteArray) (t : List ByteArray) (v : Value) (w : World) (h : StrsV w v (s :: t)) : Calls Try.prog 65 #[v] w (JoinTold w (joinE (s :: t))) := by
  obtain ⟨so, scap, rfl, _, _⟩ := h.form
  obtain ⟨b, off, rfl, hb, hc0, hc1, hc2, htl, htl1⟩ := strs_tail h
  obtain ⟨n, hn⟩ : ∃ n, n = t.length + 1 := ⟨_, rfl⟩
  rw [show (s :: t).length = n from hn.symm]
  have hcell := hid (show ∀ j (h : j < t.length), w.cell? ⟨b, off + 1 + j, none⟩ = some (.string t[j]) from fun j hj => by
    obtain ⟨b', off', cap', hv, _, _, _, hcc⟩ := htl.open (by omega)
    simp only [Value.slice.injEq, Option.some.injEq, Addr.mk.injEq] at hv
    obtain ⟨⟨rfl, rfl, -⟩, -, -⟩ := hv
    exact hcc j hj)
  have hn0 : (0 : Int) < (n : Int) := by omega
  have hn1 : (1 : Int) ≤ (n : Int) := by omega
  have hnc : (n : Int) ≤ (scap : Int) := by omega
  have hnz : ((n : Int) == 0) = false := by rw [beq_eq_false_iff_ne]; omega
  have hnm : (n : Int) ≤ 9223372036854775807 := by unfold maxLen at hc2; omega
  have hsm : (scap : Int) ≤ 9223372036854775807 := by unfold maxLen at hc2; omega
  have hn' := hid hn
  replace hc2 := hid hc2
  replace hc1 := hid hc1
  replace hb := hid hb
  clear h htl htl1 hn
  go_enter Try.func65, Try.ntmps65
  go_upto_region 1 with fail
  have M := hid ((Bag.nil w).push [.int .u8 0, .int .u64 0, .int .u64 0, .string ⟨#[]⟩] 30 w.heap.size rfl)
  generalize w.alloc (.cells #[.int .u8 0, .int .u64 0, .int .u64 0, .string ⟨#[]⟩] 30) = X0 at M ⊢
  have hca := (M.out.bel.cell (p := ⟨b, off, none⟩) hb.out).trans hc0
  clear hc0
  go_wp2_with fail
  refine (rhd_any s _).mono ?_
  rintro e w1 ⟨rfl, b1⟩
  replace M := hid (M.out.below b1)
  clear hca b1
  cases hok : headOk s.data.toList with
  | false =>
    have hf := hid (no_head (t := t) hok)
    rw [headE_no hok]
    unfold hdV zeroHd
    dsimp only
    go_upto_region 4 with fail
    replace M := hid (M.out.push [.int .u8 0, .int .u64 0, .int .u64 0, .int .i64 0, .int .u32 0] 46 w1.heap.size rfl)
    generalize w1.alloc (.cells #[.int .u8 0, .int .u64 0, .int .u64 0, .int .i64 0, .int .u32 0] 46) = X1 at M ⊢
    generalize w1.heap.size = n1 at M ⊢
    obtain ⟨c0, c1, c2, c3, c4, cf⟩ := five (M.out.get 1 rfl)
    go_wp2_with fail
    refine (rpieces_any _ _).mono ?_
    rintro e w2 ⟨rfl, rfl⟩
    clear c0 c1 c2 c3 c4 cf
    dsimp only [pcsE]
    obtain ⟨c0, c1, c2, c3, c4, cf⟩ := five (M.out.get 1 rfl)
    obtain ⟨r0, r1, r2, r3, rf⟩ := (M.out.get 0 rfl).four
    have M9 := hid ((((M.out.put 0 rfl (by decide) (by decide) 0 (.int .u8 0)).put 0 rfl (by decide) (by decide) 1 (.int .u64 0)).put 0 rfl (by decide) (by decide) 2 (.int .u64 0)).put 0 rfl (by decide) (by decide) 3 (.string ⟨#[]⟩))
    go_wp2_with fail
    all_goals
      clear r0 r1 r2 r3 rf c0 c1 c2 c3 c4 cf
      obtain ⟨q0, q1, q2, q3, qf⟩ := (M9.out.get 0 rfl).four
      exact bodyPost_ret (v := .tuple #[.agg #[.int .u8 0, .int .u64 0, .int .u64 0, .string ⟨#[]⟩], .int .i64 14]) (by simp [results, Try.results65, go_sem, q0, q1, q2, q3]) rfl ⟨by rw [hf.out]; rfl, M9.out.bel⟩
  | true =>
    have hokn := hid (readHd_okn s.data.toList (headOk_facts hok).1)
    have hln := hid (show ((readHd s.data.toList).len : Int) ≤ 16384 by have := (headOk_facts hok).2.2.1; omega)
    have hnl := hid (no_len (s := s) (t := t))
    have hns := hid (fun k (hk : k < t.length) h => no_size (s := s) hk h)
    have hnp := hid (fun k (hk : k < t.length) h => no_piece (s := s) hk h)
    have hnsum := hid (no_sum (s := s) (t := t))
    have hyes := hid (yes_all (s := s) (t := t) hok)
    rw [headE_ok hok]
    unfold hdV
    clear hok
    generalize readHd s.data.toList = H at hokn hln hnl hnp hnsum hyes ⊢
    obtain ⟨kd, ep, sq, ln, sm⟩ := H
    dsimp only at hokn hln hnl hnp hnsum hyes ⊢
    go_upto_region 4 with fail
    replace M := hid (M.out.push [.int .u8 kd, .int .u64 ep, .int .u64 sq, .int .i64 ln, .int .u32 sm] 46 w1.heap.size rfl)
    generalize w1.alloc (.cells #[.int .u8 kd, .int .u64 ep, .int .u64 sq, .int .i64 ln, .int .u32 sm] 46) = X1 at M ⊢
    generalize w1.heap.size = n1 at M ⊢
    obtain ⟨c0, c1, c2, c3, c4, cf⟩ := five (M.out.get 1 rfl)
    go_wp2_with fail
    refine (rpieces_any _ _).mono ?_
    rw [pcsE_nat ln (by have := hln.out; omega)]
    rintro e w2 ⟨rfl, rfl⟩
    clear c0 c1 c2 c3 c4 cf
    dsimp only
    have hpc : (pcs ln : Int) ≤ 270 := by have := hln.out; unfold pcs; omega
    have wp1 : IntKind.i64.wrap ((pcs ln : Nat) + 1) = (pcs ln : Int) + 1 := by rw [IntWalk.i64_in _ (by omega)]
    by_cases hlen : t.length = pcs ln
    · have hne : ((n : Int) != (pcs ln : Int) + 1) = false := by rw [bne_eq_false_iff_eq]; have := hn'.out; omega
      replace hlen := hid hlen
      have htl3 := hid (show (t.length : Int) ≤ 270 by have := hlen.out; omega)
      have hnt : n - 1 = t.length := by have := hn'.out; omega
      by_cases hcap : scap = 1
      · have hcap1 := hid (show t.length = 0 by have := hc1.out; omega)
        have hcap2 : (scap : Int) = 1 := by omega
        go_wp2_with fail
        go_loopw [8, 42] (fun pl i wr => ∃ k : Nat, k ≤ t.length ∧ i = .int .i64 k ∧ pl = .string (bs (payE t ln k)) ∧ Hid (all64 (t.take k) = true) ∧ Hid (∀ j (h : j < t.length), j < k → t[j] = bs (pieceL j (part (payE t ln k) j))) ∧ Hid (Bag w wr [⟨w.heap.size, [.int .u8 0, .int .u64 0, .int .u64 0, .string ⟨#[]⟩], 30⟩, ⟨n1, [.int .u8 kd, .int .u64 ep, .int .u64 sq, .int .i64 ln, .int .u32 sm], 46⟩] [])) (fun _ i _ => t.length - (intOf i).toNat)
        case atStart => exact ⟨0, by omega, rfl, by rw [payE_zero]; rfl, hid rfl, hid (fun j hj h0 => absurd h0 (by omega)), M⟩
        case round =>
          clear M
          obtain ⟨k, hk, rfl, rfl, ha, hj0, M⟩ := hrel
          by_cases hlt : k < t.length
          · exact absurd hcap1.out (by omega)
          · obtain rfl : k = t.length := by omega
            have hsum0 := hid (fun h => hnsum.out h)
            have hj1 := hid (fun h => hyes.out hlen.out ha.out (fun j hj => hj0.out j hj hj) h)
            have ha1 := ha.out
            clear hlt hj0 ha
            have hpl := payE_len (n := ln) (k := t.length) (Nat.le_refl _) ha1
            have hps : (payE t ln t.length).length ≤ 16384 := by have := hln.out; omega
            clear hpl ha1
            by_cases hs : more 0 (payE t ln t.length) = sm
            · have hf := hid (hj1.out hs)
              have hse : ((more 0 (payE t ln t.length) : Int) != (sm : Int)) = false := by rw [hs]; simp
              clear hs hsum0 hj1
              obtain ⟨c0, c1, c2, c3, c4, cf⟩ := five (M.out.get 1 rfl)
              go_upto_region 20 with fail
              go_quiet ((go_at_call 45; exact Calls.quiet_of_same (rsum_bs _ _ hps)))
              clear c0 c1 c2 c3 c4 cf
              rename_i nq
              replace M := hid (M.out.below (below_drewN (Below.refl wr.heap.size wr) nq))
              generalize wr.drewN nq = wq at M ⊢
              go_upto_region 22 with fail
              obtain ⟨c0, c1, c2, c3, c4, cf⟩ := five (M.out.get 1 rfl)
              obtain ⟨r0, r1, r2, r3, rf⟩ := (M.out.get 0 rfl).four
              have M9 := hid ((((M.out.put 0 rfl (by decide) (by decide) 0 (.int .u8 kd)).put 0 rfl (by decide) (by decide) 1 (.int .u64 ep)).put 0 rfl (by decide) (by decide) 2 (.int .u64 sq)).put 0 rfl (by decide) (by decide) 3 (.string (bs (payE t ln t.length))))
              go_wp2_with fail
              all_goals
                clear r0 r1 r2 r3 rf c0 c1 c2 c3 c4 cf
                obtain ⟨q0, q1, q2, q3, qf⟩ := (M9.out.get 0 rfl).four
                exact bodyPost_ret (v := .tuple #[.agg #[.int .u8 kd, .int .u64 ep, .int .u64 sq, .string (bs (payE t ln t.length))], .int .i64 0]) (by simp [results, Try.results65, go_sem, q0, q1, q2, q3]) rfl ⟨by rw [hf.out]; rfl, M9.out.bel⟩
            · have hf := hid (hsum0.out hs)
              have hse : ((more 0 (payE t ln t.length) : Int) != (sm : Int)) = true := by rw [bne_iff_ne]; omega
              clear hs hsum0 hj1
              obtain ⟨c0, c1, c2, c3, c4, cf⟩ := five (M.out.get 1 rfl)
              go_upto_region 20 with fail
              go_quiet ((go_at_call 45; exact Calls.quiet_of_same (rsum_bs _ _ hps)))
              clear c0 c1 c2 c3 c4 cf
              rename_i nq
              replace M := hid (M.out.below (below_drewN (Below.refl wr.heap.size wr) nq))
              generalize wr.drewN nq = wq at M ⊢
              obtain ⟨c0, c1, c2, c3, c4, cf⟩ := five (M.out.get 1 rfl)
              obtain ⟨r0, r1, r2, r3, rf⟩ := (M.out.get 0 rfl).four
              have M9 := hid ((((M.out.put 0 rfl (by decide) (by decide) 0 (.int .u8 0)).put 0 rfl (by decide) (by decide) 1 (.int .u64 0)).put 0 rfl (by decide) (by decide) 2 (.int .u64 0)).put 0 rfl (by decide) (by decide) 3 (.string ⟨#[]⟩))
              go_wp2_with fail
              all_goals
                clear r0 r1 r2 r3 rf c0 c1 c2 c3 c4 cf
                obtain ⟨q0, q1, q2, q3, qf⟩ := (M9.out.get 0 rfl).four
                exact bodyPost_ret (v := .tuple #[.agg #[.int .u8 0, .int .u64 0, .int .u64 0, .string ⟨#[]⟩], .int .i64 14]) (by simp [results, Try.results65, go_sem, q0, q1, q2, q3]) rfl ⟨by rw [hf.out]; rfl, M9.out.bel⟩
      · have hcap2 : ¬ (scap : Int) = 1 := by omega
        go_wp2_with fail
        go_loopw [8, 42] (fun pl i wr => ∃ k : Nat, k ≤ t.length ∧ i = .int .i64 k ∧ pl = .string (bs (payE t ln k)) ∧ Hid (all64 (t.take k) = true) ∧ Hid (∀ j (h : j < t.length), j < k → t[j] = bs (pieceL j (part (payE t ln k) j))) ∧ Hid (Bag w wr [⟨w.heap.size, [.int .u8 0, .int .u64 0, .int .u64 0, .string ⟨#[]⟩], 30⟩, ⟨n1, [.int .u8 kd, .int .u64 ep, .int .u64 sq, .int .i64 ln, .int .u32 sm], 46⟩] [])) (fun _ i _ => t.length - (intOf i).toNat)
        case atStart => exact ⟨0, by omega, rfl, by rw [payE_zero]; rfl, hid rfl, hid (fun j hj h0 => absurd h0 (by omega)), M⟩
        case round =>
          clear M
          obtain ⟨k, hk, rfl, rfl, ha, hj0, M⟩ := hrel
          by_cases hlt : k < t.length
          · have tc := (M.out.bel.cell (p := ⟨b, off + 1 + k, none⟩) hb.out).trans (hcell.out k hlt)
            have hki : (k : Int) < (t.length : Int) := by omega
            have hk0 : (0 : Int) ≤ (k : Int) := by omega
            have hk3 : (k : Int) ≤ 270 := by have := htl3.out; omega
            have hln0 : (ln : Int) ≤ 16384 := hln.out
            have hk61 : 61 * k < ln := by have := hlen.out; unfold pcs at this; omega
            have wm : IntKind.i64.wrap ((k : Int) * 61) = (k : Int) * 61 := by rw [IntWalk.i64_in _ (by omega)]
            have ws : IntKind.i64.wrap ((ln : Int) - (k : Int) * 61) = (ln : Int) - (k : Int) * 61 := by rw [IntWalk.i64_in _ (by omega)]
            have hno := hid (fun h => hnp.out k hlt h)
            have hns' := hid (fun h => hns.out k hlt h)
            have hsu := hid (fun (h1 : t[k].size = 64) => payE_succ (n := ln) hlt ha.out h1 hk61)
            have ha1 := hid (fun (h1 : t[k].size = 64) => all64_succ hlt ha.out h1)
            have hpl := payE_len (n := ln) hk ha.out
            rw [Nat.min_eq_right (by omega)] at hpl
            have hjj := hid (fun (h1 : t[k].size = 64) (h2 : bs (pieceL k (part (payE t ln (k + 1)) k)) = t[k]) => (show ∀ j (h : j < t.length), j < k + 1 → t[j] = bs (pieceL j (part (payE t ln (k + 1)) j)) from fun j hj hjk => by
              by_cases e : j = k
              · subst e; exact h2.symm
              · rw [payE_succ (n := ln) hlt ha.out h1 hk61, part_same _ _ _ (by rw [hpl]; omega)]
                exact hj0.out j hj (by omega)))
            generalize t[k] = x at tc hno hns' hsu ha1 hjj
            obtain ⟨c0, c1, c2, c3, c4, cf⟩ := five (M.out.get 1 rfl)
            go_upto_region 12 with fail
            clear c0 c1 c2 c3 c4 cf wm
            by_cases hs : x.size = 64
            · have hsz : ((x.size : Int) != 64) = false := by rw [hs]; rfl
              have hx64 : (64 : Int) ≤ (x.size : Int) := by omega
              by_cases hm : 61 < ln - 61 * k
              · have hmi : (61 : Int) < (ln : Int) - (k : Int) * 61 := by omega
                have hadd : (bs (payE t ln k)).size + (min 64 x.size - 3) ≤ 9223372036854775807 := by rw [bs_size, hpl]; omega
                replace hs := hid hs
                go_upto_region 17 with fail
                have hcat : bs (payE t ln k) ++ x.extract 3 64 = bs (payE t ln (k + 1)) := by
                  rw [hsu.out hs.out, ← bs_app, extract_sub, show 64 - 3 = min 61 (ln - 61 * k) by omega]
                rw [hcat]
                clear hcat hadd
                have hpl1 := payE_len (n := ln) (k := k + 1) (by omega) (ha1.out hs.out)
                go_wp2_with fail
                refine (rpiece_any (bs (payE t ln (k + 1))) k _ (by rw [bs_size, hpl1]; omega) (by rw [bs_size, hpl1]; omega)).mono ?_
                rw [bs_list]
                rintro e w4 ⟨rfl, b4⟩
                replace M := hid (M.out.below b4)
                clear b4 hpl1 hpl
                by_cases hx : bs (pieceL k (part (payE t ln (k + 1)) k)) = x
                · have hxe := str_yes hx
                  have hj9 := hid (hjj.out hs.out hx)
                  have ha9 := hid (ha1.out hs.out)
                  clear hx hsu ha1 hjj hno hns'
                  go_wp2_with fail
                  go_roundw
                  case rel => exact ⟨k + 1, by omega, by go_num, rfl, ha9, hj9, M⟩
                  case measure => simp [intOf]; omega
                · have hxe := str_no hx
                  have hf := hid (hno.out hx)
                  clear hx hsu ha1 hjj hno hns'
                  obtain ⟨c0, c1, c2, c3, c4, cf⟩ := five (M.out.get 1 rfl)
                  obtain ⟨r0, r1, r2, r3, rf⟩ := (M.out.get 0 rfl).four
                  have M9 := hid ((((M.out.put 0 rfl (by decide) (by decide) 0 (.int .u8 0)).put 0 rfl (by decide) (by decide) 1 (.int .u64 0)).put 0 rfl (by decide) (by decide) 2 (.int .u64 0)).put 0 rfl (by decide) (by decide) 3 (.string ⟨#[]⟩))
                  go_wp2_with fail
                  all_goals
                    clear r0 r1 r2 r3 rf c0 c1 c2 c3 c4 cf
                    obtain ⟨q0, q1, q2, q3, qf⟩ := (M9.out.get 0 rfl).four
                    exact bodyPost_ret (v := .tuple #[.agg #[.int .u8 0, .int .u64 0, .int .u64 0, .string ⟨#[]⟩], .int .i64 14]) (by simp [results, Try.results65, go_sem, q0, q1, q2, q3]) rfl ⟨by rw [hf.out]; rfl, M9.out.bel⟩
              · have hmi : (ln : Int) - (k : Int) * 61 ≤ 61 := by omega
                have hmp : (0 : Int) < (ln : Int) - (k : Int) * 61 := by omega
                have w3 : IntKind.i64.wrap (3 + ((ln : Int) - (k : Int) * 61)) = 3 + ((ln : Int) - (k : Int) * 61) := by rw [IntWalk.i64_in _ (by omega)]
                have hx3 : 3 + ((ln : Int) - (k : Int) * 61) ≤ (x.size : Int) := by omega
                have hadd : (bs (payE t ln k)).size + (min (3 + (ln - k * 61)) x.size - 3) ≤ 9223372036854775807 := by rw [bs_size, hpl]; omega
                replace hs := hid hs
                go_upto_region 17 with fail
                have hcat : bs (payE t ln k) ++ x.extract 3 (3 + (ln - k * 61)) = bs (payE t ln (k + 1)) := by
                  rw [hsu.out hs.out, ← bs_app, extract_sub, show 3 + (ln - k * 61) - 3 = min 61 (ln - 61 * k) by omega]
                rw [hcat]
                clear hcat hadd
                have hpl1 := payE_len (n := ln) (k := k + 1) (by omega) (ha1.out hs.out)
                go_wp2_with fail
                refine (rpiece_any (bs (payE t ln (k + 1))) k _ (by rw [bs_size, hpl1]; omega) (by rw [bs_size, hpl1]; omega)).mono ?_
                rw [bs_list]
                rintro e w4 ⟨rfl, b4⟩
                replace M := hid (M.out.below b4)
                clear b4 hpl1 hpl
                by_cases hx : bs (pieceL k (part (payE t ln (k + 1)) k)) = x
                · have hxe := str_yes hx
                  have hj9 := hid (hjj.out hs.out hx)
                  have ha9 := hid (ha1.out hs.out)
                  clear hx hsu ha1 hjj hno hns'
                  go_wp2_with fail
                  go_roundw
                  case rel => exact ⟨k + 1, by omega, by go_num, rfl, ha9, hj9, M⟩
                  case measure => simp [intOf]; omega
                · have hxe := str_no hx
                  have hf := hid (hno.out hx)
                  clear hx hsu ha1 hjj hno hns'
                  obtain ⟨c0, c1, c2, c3, c4, cf⟩ := five (M.out.get 1 rfl)
                  obtain ⟨r0, r1, r2, r3, rf⟩ := (M.out.get 0 rfl).four
                  have M9 := hid ((((M.out.put 0 rfl (by decide) (by decide) 0 (.int .u8 0)).put 0 rfl (by decide) (by decide) 1 (.int .u64 0)).put 0 rfl (by decide) (by decide) 2 (.int .u64 0)).put 0 rfl (by decide) (by decide) 3 (.string ⟨#[]⟩))
                  go_wp2_with fail
                  all_goals
                    clear r0 r1 r2 r3 rf c0 c1 c2 c3 c4 cf
                    obtain ⟨q0, q1, q2, q3, qf⟩ := (M9.out.get 0 rfl).four
                    exact bodyPost_ret (v := .tuple #[.agg #[.int .u8 0, .int .u64 0, .int .u64 0, .string ⟨#[]⟩], .int .i64 14]) (by simp [results, Try.results65, go_sem, q0, q1, q2, q3]) rfl ⟨by rw [hf.out]; rfl, M9.out.bel⟩
            · have hsz : ((x.size : Int) != 64) = true := by rw [bne_iff_ne]; omega
              have hf := hid (hns'.out hs)
              clear hs
              obtain ⟨c0, c1, c2, c3, c4, cf⟩ := five (M.out.get 1 rfl)
              obtain ⟨r0, r1, r2, r3, rf⟩ := (M.out.get 0 rfl).four
              have M9 := hid ((((M.out.put 0 rfl (by decide) (by decide) 0 (.int .u8 0)).put 0 rfl (by decide) (by decide) 1 (.int .u64 0)).put 0 rfl (by decide) (by decide) 2 (.int .u64 0)).put 0 rfl (by decide) (by decide) 3 (.string ⟨#[]⟩))
              go_wp2_with fail
              all_goals
                clear r0 r1 r2 r3 rf c0 c1 c2 c3 c4 cf
                obtain ⟨q0, q1, q2, q3, qf⟩ := (M9.out.get 0 rfl).four
                exact bodyPost_ret (v := .tuple #[.agg #[.int .u8 0, .int .u64 0, .int .u64 0, .string ⟨#[]⟩], .int .i64 14]) (by simp [results, Try.results65, go_sem, q0, q1, q2, q3]) rfl ⟨by rw [hf.out]; rfl, M9.out.bel⟩
          · obtain rfl : k = t.length := by omega
            have hsum0 := hid (fun h => hnsum.out h)
            have hj1 := hid (fun h => hyes.out hlen.out ha.out (fun j hj => hj0.out j hj hj) h)
            have ha1 := ha.out
            clear hlt hj0 ha
            have hpl := payE_len (n := ln) (k := t.length) (Nat.le_refl _) ha1
            have hps : (payE t ln t.length).length ≤ 16384 := by have := hln.out; omega
            clear hpl ha1
            by_cases hs : more 0 (payE t ln t.length) = sm
            · have hf := hid (hj1.out hs)
              have hse : ((more 0 (payE t ln t.length) : Int) != (sm : Int)) = false := by rw [hs]; simp
              clear hs hsum0 hj1
              obtain ⟨c0, c1, c2, c3, c4, cf⟩ := five (M.out.get 1 rfl)
              go_upto_region 20 with fail
              go_quiet ((go_at_call 45; exact Calls.quiet_of_same (rsum_bs _ _ hps)))
              clear c0 c1 c2 c3 c4 cf
              rename_i nq
              replace M := hid (M.out.below (below_drewN (Below.refl wr.heap.size wr) nq))
              generalize wr.drewN nq = wq at M ⊢
              go_upto_region 22 with fail
              obtain ⟨c0, c1, c2, c3, c4, cf⟩ := five (M.out.get 1 rfl)
              obtain ⟨r0, r1, r2, r3, rf⟩ := (M.out.get 0 rfl).four
              have M9 := hid ((((M.out.put 0 rfl (by decide) (by decide) 0 (.int .u8 kd)).put 0 rfl (by decide) (by decide) 1 (.int .u64 ep)).put 0 rfl (by decide) (by decide) 2 (.int .u64 sq)).put 0 rfl (by decide) (by decide) 3 (.string (bs (payE t ln t.length))))
              go_wp2_with fail
              all_goals
                clear r0 r1 r2 r3 rf c0 c1 c2 c3 c4 cf
                obtain ⟨q0, q1, q2, q3, qf⟩ := (M9.out.get 0 rfl).four
                exact bodyPost_ret (v := .tuple #[.agg #[.int .u8 kd, .int .u64 ep, .int .u64 sq, .string (bs (payE t ln t.length))], .int .i64 0]) (by simp [results, Try.results65, go_sem, q0, q1, q2, q3]) rfl ⟨by rw [hf.out]; rfl, M9.out.bel⟩
            · have hf := hid (hsum0.out hs)
              have hse : ((more 0 (payE t ln t.length) : Int) != (sm : Int)) = true := by rw [bne_iff_ne]; omega
              clear hs hsum0 hj1
              obtain ⟨c0, c1, c2, c3, c4, cf⟩ := five (M.out.get 1 rfl)
              go_upto_region 20 with fail
              go_quiet ((go_at_call 45; exact Calls.quiet_of_same (rsum_bs _ _ hps)))
              clear c0 c1 c2 c3 c4 cf
              rename_i nq
              replace M := hid (M.out.below (below_drewN (Below.refl wr.heap.size wr) nq))
              generalize wr.drewN nq = wq at M ⊢
              obtain ⟨c0, c1, c2, c3, c4, cf⟩ := five (M.out.get 1 rfl)
              obtain ⟨r0, r1, r2, r3, rf⟩ := (M.out.get 0 rfl).four
              have M9 := hid ((((M.out.put 0 rfl (by decide) (by decide) 0 (.int .u8 0)).put 0 rfl (by decide) (by decide) 1 (.int .u64 0)).put 0 rfl (by decide) (by decide) 2 (.int .u64 0)).put 0 rfl (by decide) (by decide) 3 (.string ⟨#[]⟩))
              go_wp2_with fail
              all_goals
                clear r0 r1 r2 r3 rf c0 c1 c2 c3 c4 cf
                obtain ⟨q0, q1, q2, q3, qf⟩ := (M9.out.get 0 rfl).four
                exact bodyPost_ret (v := .tuple #[.agg #[.int .u8 0, .int .u64 0, .int .u64 0, .string ⟨#[]⟩], .int .i64 14]) (by simp [results, Try.results65, go_sem, q0, q1, q2, q3]) rfl ⟨by rw [hf.out]; rfl, M9.out.bel⟩
    · have hne : ((n : Int) != (pcs ln : Int) + 1) = true := by rw [bne_iff_ne]; have := hn'.out; omega
      have hf := hid (hnl.out hlen)
      clear hlen
      obtain ⟨c0, c1, c2, c3, c4, cf⟩ := five (M.out.get 1 rfl)
      obtain ⟨r0, r1, r2, r3, rf⟩ := (M.out.get 0 rfl).four
      have M9 := hid ((((M.out.put 0 rfl (by decide) (by decide) 0 (.int .u8 0)).put 0 rfl (by decide) (by decide) 1 (.int .u64 0)).put 0 rfl (by decide) (by decide) 2 (.int .u64 0)).put 0 rfl (by decide) (by decide) 3 (.string ⟨#[]⟩))
      go_wp2_with fail
      all_goals
        clear r0 r1 r2 r3 rf c0 c1 c2 c3 c4 cf
        obtain ⟨q0, q1, q2, q3, qf⟩ := (M9.out.get 0 rfl).four
        exact bodyPost_ret (v := .tuple #[.agg #[.int .u8 0, .int .u64 0, .int .u64 0, .string ⟨#[]⟩], .int .i64 14]) (by simp [results, Try.results65, go_sem, q0, q1, q2, q3]) rfl ⟨by rw [hf.out]; rfl, M9.out.bel⟩
theorem rjoin_any (l : List ByteArray) (v : Value) (w : World) (h : StrsV w v l) : Calls Try.prog 65 #[v] w (JoinTold w (joinE l)) := by
  cases l with
  | nil => exact rjoin_nil v w h
  | cons s t => exact rjoin_cons s t v w h
end Go.Proofs.Ytiegocbdgimimaa.Rec
namespace Go.Proofs.Ytiegocbdgimimaa.Mem
open Go.ChangeShapes Go.WideShapes Go.ChangeAt Go.RowKit
open Go.Proofs.Ytiegocbdgimimaa.Sector Go.Proofs.Ytiegocbdgimimaa.Wal
set_option linter.unusedVariables false
/-- a string is appended to a row of the call's own -/
theorem Bag.sapp {w0 w : World} {L : List Bx} {v : Value} {l l' : List ByteArray} (h : Bag w0 w L []) (hrow : w.ownsRow w0.heap.size 9 1 v l.length (strC l)) (s : ByteArray) (hl' : l' = l ++ [s]) (hL : ∀ x ∈ L, x.t ≠ 9) (hn : l.length ≤ 2000) :
    ∃ so cp w1, (Builtin.append_ #[22, 22] 22 #[v, .slice (some ⟨w.heap.size, 0, none⟩) 1 1]).run Try.prog (w.alloc (.cells #[.string s] 9)) = .ok (.slice so l'.length cp) w1 ∧
      Bag w0 w1 L [] ∧ w1.ownsRow w0.heap.size 9 1 (.slice so l'.length cp) l'.length (strC l') := by
  obtain ⟨i0, hi, hz0, hz1, hz2⟩ := info_parts Rec.info_string
  have hx := Blk.new w [.string s] 9
  obtain ⟨x0, _⟩ := hx.one
  have hA := h.alloc (.cells #[.string s] 9)
  have hR := ownsRow_below hrow ((Below.refl _ w).alloc (Nat.le_refl _) (.cells #[.string s] 9))
  generalize w.heap.size = x at hx x0 ⊢
  generalize w.alloc (.cells #[.string s] 9) = W at hx x0 hA hR ⊢
  obtain ⟨v', w8, hr8, ho8, hg8, _⟩ := run_append_own (P := Try.prog) W w0.heap.size 22 22 9 i0 (.string ⟨#[]⟩) 1 16 Try.underlying22 hi hz0 hz1 hz2 rfl (by decide) _ _ _ hR ⟨x, 0, none⟩ 1 1 [.string s] rfl
    (by
      intro j u hu
      match j, hu with
      | 0, hu => simp at hu; subst hu; exact x0) (by simp [Value.oneCell']) (by unfold maxLen; omega) (by omega) hA.bel.size
  obtain ⟨so', cp', rfl, _, _⟩ := ownsRow_form ho8
  rw [show l.length + 1 = l'.length by rw [hl']; simp] at hr8 ho8
  refine ⟨so', cp', w8, hr8, ⟨hA.bel.grown hg8 hA.bel.size (fun k hk => (hR.lt k hk).1), hA.up, hA.ge, fun x hx => Blk.grown' (hA.at' x hx) hg8 (not_row hR (hA.at' x hx) (hL x hx)), by simp⟩, ?_⟩
  rw [hl', strC_append]
  rw [hl'] at ho8
  exact ho8
end Go.Proofs.Ytiegocbdgimimaa.Mem
namespace Go.Proofs.Ytiegocbdgimimaa.Wal
open Go.ChangeShapes Go.WideShapes Go.ChangeAt Go.RowKit
open Go.Proofs.Ytiegocbdgimimaa.Mem Go.Proofs.Ytiegocbdgimimaa.Rec Go.Proofs.Ytiegocbdgimimaa.Sector
set_option linter.unusedVariables false
set_option linter.unusedSimpArgs false
set_option maxRecDepth 100000
set_option maxHeartbeats 8000000 in
theorem rframe_any (d : Disk) (v : Value) (F S a : Nat) (w : World) (h : DiskV w v d) (hc : walChk d ⟨F, S⟩ = 0) (ho : d.off = false) (ha : a ≤ 2000) :
    Calls Try.prog 33 #[v, rgV ⟨F, S⟩, .int .i64 (a : Nat)] w (FrTold w (frAt (cont d ⟨F, S⟩) S a)) := by
  obtain ⟨k1, k2, k3, k4, k5⟩ := walChk_zero hc
  dsimp only at k2 k3 k4
  have hcn := hid (fun (i : Nat) (hi : i < S) => (show cont d ⟨F, S⟩ i = heldS d.secs d.pend ((F + i : Nat) : Int) from by
    rw [cont_now hc ho (by dsimp only; omega)]; unfold now; dsimp only; rw [show (F : Int) + (i : Int) = ((F + i : Nat) : Int) by push_cast; rfl]))
  have hhold := hid (fun (i : Nat) (v : Value) (W : World) (hi : i < S) (h : DiskV W v d) => rholds_any d v (F + i) W h (by omega))
  have hv := hid h
  obtain ⟨sv, pv, rfl, hs, hp⟩ := h
  obtain ⟨so, scap, rfl, _⟩ := hs.form
  obtain ⟨po, pcap, rfl, _⟩ := hp.form
  have hF : (F : Int) ≤ 1024 := by omega
  have hS : (S : Int) ≤ 1024 := by omega
  have hai : (a : Int) ≤ 2000 := by omega
  clear hs hp hc ho k1 k2 k3 k4 k5
  generalize cont d ⟨F, S⟩ = HH at hcn ⊢
  rw [show rgV ⟨F, S⟩ = .agg #[.int .i64 (F : Nat), .int .i64 (S : Nat)] from rfl]
  go_enter Try.func33, Try.ntmps33
  go_upto_region 1 with fail
  have M := hid ((((Bag.nil w).push [.slice so d.secs.length scap, .slice po d.pend.length pcap, .bool d.off, .int .i64 d.fuse] 25 w.heap.size rfl).push [.int .i64 (F : Nat), .int .i64 (S : Nat)] 27 (w.heap.size + 1) (by simp)).push [.int .u8 0, .int .u64 0, .int .u64 0, .string ⟨#[]⟩] 30 (w.heap.size + 2) (by simp))
  generalize ((w.alloc (.cells #[.slice so d.secs.length scap, .slice po d.pend.length pcap, .bool d.off, .int .i64 d.fuse] 25)).alloc (.cells #[.int .i64 (F : Nat), .int .i64 (S : Nat)] 27)).alloc (.cells #[.int .u8 0, .int .u64 0, .int .u64 0, .string ⟨#[]⟩] 30) = X0 at M ⊢
  by_cases hsa : S ≤ a
  · have hE := hid (frAt_1 (h := HH) hsa)
    have h1 : (S : Int) ≤ (a : Int) := by omega
    obtain ⟨b0, b1, bf⟩ := (M.out.get 1 rfl).two
    obtain ⟨r0, r1, r2, r3, rf⟩ := (M.out.get 2 rfl).four
    have M9 := hid ((((M.out.put 2 rfl (by decide) (by decide) 0 (.int .u8 0)).put 2 rfl (by decide) (by decide) 1 (.int .u64 0)).put 2 rfl (by decide) (by decide) 2 (.int .u64 0)).put 2 rfl (by decide) (by decide) 3 (.string ⟨#[]⟩))
    go_wp2_with fail
    clear r0 r1 r2 r3 rf
    obtain ⟨q0, q1, q2, q3, qf⟩ := (M9.out.get 2 rfl).four
    exact bodyPost_ret (v := .tuple #[.agg #[.int .u8 0, .int .u64 0, .int .u64 0, .string ⟨#[]⟩], .int .i64 0]) (by simp [results, Try.results33, go_sem, q0, q1, q2, q3]) rfl ⟨by rw [hE.out]; rfl, M9.out.bel⟩
  · have h1 : ¬ (S : Int) ≤ (a : Int) := by omega
    have ha0 := hhold.out a
    obtain ⟨d0, d1, d2, d3, df⟩ := (M.out.get 0 rfl).four
    obtain ⟨b0, b1, bf⟩ := (M.out.get 1 rfl).two
    go_wp2_with fail
    rw [show (F : Int) + (a : Int) = ((F + a : Nat) : Int) by push_cast; rfl]
    refine (ha0 _ _ (by omega) (hv.out.below M.out.bel)).mono ?_
    rintro e w1 ⟨rfl, bw⟩
    rw [← hcn.out a (by omega)]
    replace M := hid (M.out.below bw)
    clear bw ha0 d0 d1 d2 d3 df b0 b1 bf
    go_wp2_with fail
    refine (rhd_any (HH a) _).mono ?_
    rintro e w2 ⟨rfl, bw⟩
    replace M := hid (M.out.below bw)
    clear bw
    cases hok : headOk (HH a).data.toList with
    | false =>
      have hE := hid (frAt_2 (h := HH) hsa (by rw [headE_no hok]; show (14 : Int) ≠ 0; decide))
      rw [headE_no hok]
      unfold hdV zeroHd
      dsimp only
      go_upto_region 4 with fail
      replace M := hid (M.out.push [.int .u8 0, .int .u64 0, .int .u64 0, .int .i64 0, .int .u32 0] 46 w2.heap.size rfl)
      generalize w2.alloc (.cells #[.int .u8 0, .int .u64 0, .int .u64 0, .int .i64 0, .int .u32 0] 46) = X1 at M ⊢
      generalize w2.heap.size = n1 at M ⊢
      obtain ⟨c0, c1, c2, c3, c4, cf⟩ := five (M.out.get 3 rfl)
      go_wp2_with fail
      refine (rpieces_any _ _).mono ?_
      rintro e w3 ⟨rfl, rfl⟩
      clear c0 c1 c2 c3 c4 cf
      dsimp only [pcsE]
      obtain ⟨r0, r1, r2, r3, rf⟩ := (M.out.get 2 rfl).four
      have M9 := hid ((((M.out.put 2 rfl (by decide) (by decide) 0 (.int .u8 0)).put 2 rfl (by decide) (by decide) 1 (.int .u64 0)).put 2 rfl (by decide) (by decide) 2 (.int .u64 0)).put 2 rfl (by decide) (by decide) 3 (.string ⟨#[]⟩))
      go_wp2_with fail
      clear r0 r1 r2 r3 rf
      obtain ⟨q0, q1, q2, q3, qf⟩ := (M9.out.get 2 rfl).four
      exact bodyPost_ret (v := .tuple #[.agg #[.int .u8 0, .int .u64 0, .int .u64 0, .string ⟨#[]⟩], .int .i64 0]) (by simp [results, Try.results33, go_sem, q0, q1, q2, q3]) rfl ⟨by rw [hE.out]; rfl, M9.out.bel⟩
    | true =>
      have hx' := hid (headE_ok hok)
      have hln := hid (show ((readHd (HH a).data.toList).len : Int) ≤ 16384 by have := (headOk_facts hok).2.2.1; omega)
      rw [headE_ok hok]
      unfold hdV
      clear hok
      generalize readHd (HH a).data.toList = x at hx' hln ⊢
      obtain ⟨kd, ep, sq, ln, sm⟩ := x
      dsimp only at hln ⊢
      have hE3 := hid (fun h3 => frAt_3 (x := ⟨kd, ep, sq, ln, sm⟩) hsa hx'.out h3)
      have hE4 := hid (fun h3 => frAt_4 (x := ⟨kd, ep, sq, ln, sm⟩) hsa hx'.out h3)
      have hE5 := hid (fun h3 f => frAt_5 (x := ⟨kd, ep, sq, ln, sm⟩) (f := f) hsa hx'.out h3)
      dsimp only at hE3 hE4 hE5
      go_upto_region 4 with fail
      replace M := hid (M.out.push [.int .u8 kd, .int .u64 ep, .int .u64 sq, .int .i64 ln, .int .u32 sm] 46 w2.heap.size rfl)
      generalize w2.alloc (.cells #[.int .u8 kd, .int .u64 ep, .int .u64 sq, .int .i64 ln, .int .u32 sm] 46) = X1 at M ⊢
      generalize w2.heap.size = n1 at M ⊢
      obtain ⟨c0, c1, c2, c3, c4, cf⟩ := five (M.out.get 3 rfl)
      go_wp2_with fail
      refine (rpieces_any _ _).mono ?_
      rw [pcsE_nat ln (by have := hln.out; omega)]
      rintro e w3 ⟨rfl, rfl⟩
      clear c0 c1 c2 c3 c4 cf
      dsimp only
      have hpc : (pcs ln : Int) ≤ 270 := by have := hln.out; unfold pcs; omega
      have wsa : IntKind.i64.wrap ((S : Int) - (a : Int)) = (S : Int) - (a : Int) := by rw [IntWalk.i64_in _ (by omega)]
      have wsb : IntKind.i64.wrap ((S : Int) - (a : Int) - 1) = (S : Int) - (a : Int) - 1 := by rw [IntWalk.i64_in _ (by omega)]
      by_cases h3 : S - a ≤ pcs ln
      · have hE := hid (hE3.out h3)
        have h3i : (S : Int) - (a : Int) - 1 < (pcs ln : Int) := by omega
        clear hE3 hE4 hE5
        obtain ⟨b0, b1, bf⟩ := (M.out.get 1 rfl).two
        obtain ⟨r0, r1, r2, r3, rf⟩ := (M.out.get 2 rfl).four
        have M9 := hid ((((M.out.put 2 rfl (by decide) (by decide) 0 (.int .u8 0)).put 2 rfl (by decide) (by decide) 1 (.int .u64 0)).put 2 rfl (by decide) (by decide) 2 (.int .u64 0)).put 2 rfl (by decide) (by decide) 3 (.string ⟨#[]⟩))
        go_wp2_with fail
        clear r0 r1 r2 r3 rf
        obtain ⟨q0, q1, q2, q3, qf⟩ := (M9.out.get 2 rfl).four
        exact bodyPost_ret (v := .tuple #[.agg #[.int .u8 0, .int .u64 0, .int .u64 0, .string ⟨#[]⟩], .int .i64 0]) (by simp [results, Try.results33, go_sem, q0, q1, q2, q3]) rfl ⟨by rw [hE.out]; rfl, M9.out.bel⟩
      · have h3i : ¬ (S : Int) - (a : Int) - 1 < (pcs ln : Int) := by omega
        replace hE4 := hid (hE4.out h3)
        replace hE5 := hid (hE5.out h3)
        have hroom := hid (show a + pcs ln < S by omega)
        clear hE3
        obtain ⟨b0, b1, bf⟩ := (M.out.get 1 rfl).two
        go_wp2_with fail
        clear b0 b1 bf
        clear h3i wsa wsb h3
        go_loopw [12, 13] (fun lv i wr => ∃ (k : Nat) (lo : Option Addr) (lc : Nat), k ≤ pcs ln + 1 ∧ i = .int .i64 k ∧ lv = .slice lo (texts HH a k).length lc ∧ Hid (Bag w wr [⟨w.heap.size, [.slice so d.secs.length scap, .slice po d.pend.length pcap, .bool d.off, .int .i64 d.fuse], 25⟩, ⟨w.heap.size + 1, [.int .i64 (F : Nat), .int .i64 (S : Nat)], 27⟩, ⟨w.heap.size + 2, [.int .u8 0, .int .u64 0, .int .u64 0, .string ⟨#[]⟩], 30⟩, ⟨n1, [.int .u8 kd, .int .u64 ep, .int .u64 sq, .int .i64 ln, .int .u32 sm], 46⟩] []) ∧ Hid (wr.ownsRow w.heap.size 9 1 (.slice lo (texts HH a k).length lc) (texts HH a k).length (strC (texts HH a k)))) (fun _ i _ => pcs ln + 1 - (intOf i).toNat)
        case atStart => exact ⟨0, none, 0, by omega, rfl, rfl, M, hid (World.ownsRow_nil _ _ _ _)⟩
        case round =>
          clear M
          obtain ⟨k, lo, lc, hk, rfl, rfl, M, hrow⟩ := hrel
          have hki : (k : Int) ≤ 271 := by omega
          have hk0 : (0 : Int) ≤ (k : Int) := by omega
          by_cases hlt : k ≤ pcs ln
          · have hlti : (k : Int) ≤ (pcs ln : Int) := by omega
            have ha0 := hhold.out (a + k)
            have hkr := hid (show a + k < S by have := hroom.out; omega)
            obtain ⟨d0, d1, d2, d3, df⟩ := (M.out.get 0 rfl).four
            obtain ⟨b0, b1, bf⟩ := (M.out.get 1 rfl).two
            go_wp2_with fail
            rw [show (F : Int) + (a : Int) + (k : Int) = ((F + (a + k) : Nat) : Int) by push_cast; omega]
            refine (ha0 _ _ hkr.out (hv.out.below M.out.bel)).mono ?_
            rintro e w4 ⟨rfl, bw⟩
            rw [← hcn.out (a + k) hkr.out]
            replace M := hid (M.out.below bw)
            replace hrow := hid (ownsRow_below hrow.out bw)
            clear bw ha0 d0 d1 d2 d3 df b0 b1 bf
            obtain ⟨so6, cp6, X6, hrun, M6, row6⟩ := M.out.sapp hrow.out (HH (a + k)) (texts_succ HH a k) (by simp) (by rw [texts_len]; omega)
            have hrun' := hid hrun
            clear hrun
            go_upto_region 10 with (at_builtin; refine Sector.wpList_app rfl (.tmp 53) (.tmp 62) _ _ rfl _ _ _ _ rfl rfl hrun'.out ?_)
            replace M := hid M6
            have hrow6 := hid row6
            clear M6 row6 hrun' hrow hkr
            go_wp2_with fail
            go_roundw
            case rel => exact ⟨k + 1, so6, cp6, by omega, by go_num, rfl, M, hrow6⟩
            case measure => simp [intOf]; omega
          · obtain rfl : k = pcs ln + 1 := by omega
            have hst := hid (show StrsV wr (.slice lo (texts HH a (pcs ln + 1)).length lc) (texts HH a (pcs ln + 1)) from SlV.own hrow.out)
            clear hlt hrow
            go_wp2_with fail
            refine (rjoin_any _ _ _ hst.out).mono ?_
            rintro e w5 ⟨rfl, bw⟩
            replace M := hid (M.out.below bw)
            clear bw hst
            rw [Nat.add_comm (pcs ln) 1]
            obtain ⟨y, hy⟩ : ∃ y, joinE (texts HH a (1 + pcs ln)) = y := ⟨_, rfl⟩
            rw [hy] at hE4 hE5 ⊢
            clear hy
            obtain ⟨g, c⟩ := y
            unfold frV
            dsimp only
            go_upto_region 13 with fail
            replace M := hid (M.out.push [.int .u8 g.kind, .int .u64 g.epoch, .int .u64 g.seq, .string g.pay] 30 w5.heap.size rfl)
            generalize w5.alloc (.cells #[.int .u8 g.kind, .int .u64 g.epoch, .int .u64 g.seq, .string g.pay] 30) = X7 at M ⊢
            generalize w5.heap.size = n7 at M ⊢
            by_cases hcz : c = 0
            · subst hcz
              have hE := hid (hE5.out g rfl)
              have wp1 : IntKind.i64.wrap ((pcs ln : Int) + 1) = (pcs ln : Int) + 1 := by rw [IntWalk.i64_in _ (by omega)]
              clear hE4 hE5
              obtain ⟨j0, j1, j2, j3, jf⟩ := (M.out.get 4 rfl).four
              obtain ⟨r0, r1, r2, r3, rf⟩ := (M.out.get 2 rfl).four
              have M9 := hid ((((M.out.put 2 rfl (by decide) (by decide) 0 (.int .u8 g.kind)).put 2 rfl (by decide) (by decide) 1 (.int .u64 g.epoch)).put 2 rfl (by decide) (by decide) 2 (.int .u64 g.seq)).put 2 rfl (by decide) (by decide) 3 (.string g.pay))
              go_wp2_with fail
              clear j0 j1 j2 j3 jf r0 r1 r2 r3 rf
              obtain ⟨q0, q1, q2, q3, qf⟩ := (M9.out.get 2 rfl).four
              exact bodyPost_ret (v := .tuple #[.agg #[.int .u8 g.kind, .int .u64 g.epoch, .int .u64 g.seq, .string g.pay], .int .i64 ((pcs ln : Int) + 1)]) (by simp [results, Try.results33, go_sem, q0, q1, q2, q3]) rfl ⟨by rw [hE.out]; unfold frV; dsimp only; rw [show (((1 + pcs ln : Nat)) : Int) = (pcs ln : Int) + 1 by omega], M9.out.bel⟩
            · have hE := hid (hE4.out hcz)
              have hcb : (c != 0) = true := by simpa using hcz
              clear hE4 hE5
              obtain ⟨r0, r1, r2, r3, rf⟩ := (M.out.get 2 rfl).four
              have M9 := hid ((((M.out.put 2 rfl (by decide) (by decide) 0 (.int .u8 0)).put 2 rfl (by decide) (by decide) 1 (.int .u64 0)).put 2 rfl (by decide) (by decide) 2 (.int .u64 0)).put 2 rfl (by decide) (by decide) 3 (.string ⟨#[]⟩))
              go_wp2_with fail
              clear r0 r1 r2 r3 rf
              obtain ⟨q0, q1, q2, q3, qf⟩ := (M9.out.get 2 rfl).four
              exact bodyPost_ret (v := .tuple #[.agg #[.int .u8 0, .int .u64 0, .int .u64 0, .string ⟨#[]⟩], .int .i64 0]) (by simp [results, Try.results33, go_sem, q0, q1, q2, q3]) rfl ⟨by rw [hE.out]; rfl, M9.out.bel⟩
end Go.Proofs.Ytiegocbdgimimaa.Wal
namespace Go.Proofs.Ytiegocbdgimimaa.Wal
open Go.ChangeShapes Go.WideShapes Go.ChangeAt Go.RowKit
open Go.Proofs.Ytiegocbdgimimaa.Mem Go.Proofs.Ytiegocbdgimimaa.Rec Go.Proofs.Ytiegocbdgimimaa.Sector
set_option linter.unusedVariables false
set_option linter.unusedSimpArgs false
set_option maxRecDepth 100000
set_option maxHeartbeats 4000000 in
theorem rwcheck_any (d : Disk) (v : Value) (r : Rg) (w : World) (h : DiskV w v d) (hr : r.has) :
    Calls Try.prog 21 #[v, rgV r] w fun e w' => e = .returned (.int .i64 (walChk d r)) ∧ Below w.heap.size w w' := by
  have hv := hid h
  obtain ⟨rf, rs⟩ := r
  obtain ⟨r0, r1, r2, r3⟩ := hr
  dsimp only at r0 r1 r2 r3
  obtain ⟨sv, pv, rfl, hs, hp⟩ := h
  obtain ⟨so, scap, rfl, _⟩ := hs.form
  obtain ⟨po, pcap, rfl, _⟩ := hp.form
  clear hs hp
  unfold rgV
  dsimp only
  go_enter Try.func21, Try.ntmps21
  go_upto_region 1 with fail
  have M := hid (((Bag.nil w).push [.slice so d.secs.length scap, .slice po d.pend.length pcap, .bool d.off, .int .i64 d.fuse] 25 w.heap.size rfl).push [.int .i64 rf, .int .i64 rs] 27 (w.heap.size + 1) (by simp))
  generalize (w.alloc (.cells #[.slice so d.secs.length scap, .slice po d.pend.length pcap, .bool d.off, .int .i64 d.fuse] 25)).alloc (.cells #[.int .i64 rf, .int .i64 rs] 27) = X0 at M ⊢
  obtain ⟨d0, d1, d2, d3, df⟩ := (M.out.get 0 rfl).four
  go_wp2_with fail
  refine (rcheck_any d _ _ (hv.out.below M.out.bel)).mono ?_
  rintro e w1 ⟨rfl, bw⟩
  replace M := hid (M.out.below bw)
  clear bw hv d0 d1 d2 d3 df
  obtain ⟨d0, d1, d2, d3, df⟩ := (M.out.get 0 rfl).four
  obtain ⟨q0, q1, qf⟩ := (M.out.get 1 rfl).two
  cases hok : okB d with
  | false =>
    have hk := hid (chk_bad hok)
    have hw : Hid (walChk d ⟨rf, rs⟩ = 13) := hid (by unfold walChk; rw [if_pos hok])
    clear hok
    rw [hk.out]
    go_wp2_with fail
    go_ret
    exact ⟨by rw [hw.out]; rfl, M.out.bel⟩
  | true =>
    have hk := hid (chk_ok hok)
    have hl := (okp hok).2.1
    have hl2 : (d.secs.length : Int) ≤ 1024 := by omega
    by_cases h1 : rf < 0
    · clear hl
      have hw : Hid (walChk d ⟨rf, rs⟩ = 1) := hid (by unfold walChk; rw [if_neg (by simp [hok]), if_pos (by simp [rgB, h1])])
      clear hok
      rw [hk.out]
      go_wp2_with fail
      go_ret
      exact ⟨by rw [hw.out]; rfl, M.out.bel⟩
    · by_cases h2 : rs < 1
      · clear hl
        have hw : Hid (walChk d ⟨rf, rs⟩ = 1) := hid (by unfold walChk; rw [if_neg (by simp [hok]), if_pos (by simp [rgB, h2])])
        clear hok
        rw [hk.out]
        go_wp2_with fail
        go_ret
        exact ⟨by rw [hw.out]; rfl, M.out.bel⟩
      · by_cases h4 : (d.secs.length : Int) < rf
        · clear hl
          have hw : Hid (walChk d ⟨rf, rs⟩ = 1) := hid (by unfold walChk; rw [if_neg (by simp [hok]), if_pos (by simp [rgB]; omega)])
          clear hok
          rw [hk.out]
          go_wp2_with fail
          go_ret
          exact ⟨by rw [hw.out]; rfl, M.out.bel⟩
        · by_cases h3 : (d.secs.length : Int) - rf < rs
          · clear hl
            have hw : Hid (walChk d ⟨rf, rs⟩ = 1) := hid (by unfold walChk; rw [if_neg (by simp [hok]), if_pos (by simp [rgB, h3])])
            clear hok
            rw [hk.out]
            go_wp2_with fail
            go_ret
            exact ⟨by rw [hw.out]; rfl, M.out.bel⟩
          · clear hl
            have hw : Hid (walChk d ⟨rf, rs⟩ = 0) := hid (by unfold walChk; rw [if_neg (by simp [hok]), if_neg (by simp [rgB]; omega)])
            clear hok
            rw [hk.out]
            go_wp2_with fail
            go_ret
            exact ⟨by rw [hw.out]; rfl, M.out.bel⟩
/-- the first frames that lie one behind the other -/
def lgF (h : Nat → ByteArray) (s k : Nat) : List Fr := (List.range k).map fun j => (frAt h s (pos h s j)).1
theorem lgF_len (h : Nat → ByteArray) (s k : Nat) : (lgF h s k).length = k := by simp [lgF]
theorem lgF_succ (h : Nat → ByteArray) (s k : Nat) : lgF h s (k + 1) = lgF h s k ++ [(frAt h s (pos h s k)).1] := by simp [lgF, List.range_succ]
end Go.Proofs.Ytiegocbdgimimaa.Wal
