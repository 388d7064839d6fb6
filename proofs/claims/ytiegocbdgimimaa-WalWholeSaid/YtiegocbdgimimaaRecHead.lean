/-
  The contract of a frame's head: the program's, the document's. (Written by wip/headgen.py.)
-/
import Derived.Test.YtiegocbdgimimaaRecLeaf
namespace Go.Proofs.Ytiegocbdgimimaa.Rec
open Go.ChangeShapes Go.WideShapes Go.ChangeAt Go.RowKit
open Go.Proofs.Ytiegocbdgimimaa.Mem Go.Proofs.Ytiegocbdgimimaa.CrcMath
open Go.Proofs.Ytiegocbdgimimaa.Crc (leb leb_len put32_any put64_any sum_any refput32_any refput64_any refsum_any)
set_option linter.unusedVariables false
set_option linter.unusedSimpArgs false
set_option maxRecDepth 100000

theorem five {w : World} {b : Nat} {a0 a1 a2 a3 a4 : Value} {t : TypeId} (h : Blk w b [a0, a1, a2, a3, a4] t) :
    w.cell? ⟨b, 0, none⟩ = some a0 ∧ w.cell? ⟨b, 1, none⟩ = some a1 ∧ w.cell? ⟨b, 2, none⟩ = some a2 ∧ w.cell? ⟨b, 3, none⟩ = some a3 ∧ w.cell? ⟨b, 4, none⟩ = some a4 ∧ ∀ o, w.frozen? ⟨b, o, none⟩ = false :=
  ⟨h.cell 0 (by simp), h.cell 1 (by simp), h.cell 2 (by simp), h.cell 3 (by simp), h.cell 4 (by simp), h.free⟩
theorem ca {w : World} {a : Addr} {x : Value} {o : Obj} (h : w.cell? a = some x) : (w.alloc o).cell? a = some x := cell_below ((Below.refl _ w).alloc (Nat.le_refl _) o) _ _ h
theorem wpAnyH_mono {P : Program} {md : Region.Mode} {ops : Array Oper} {Q : Exit → Act → World → Prop} {S0 S1 : World → Prop} (h : ∀ w, S1 w → S0 w) :
    ∀ {fuel : Nat} {listed : Array Bool} {a : Act} {w : World}, wpAnyH P md ops Q S1 fuel listed a w → wpAnyH P md ops Q S0 fuel listed a w
  | 0, _, _, _, H => H
  | fuel + 1, _, _, _, H => ⟨H.1, fun i hi => wpOp_mono (fun a' w' h' => ⟨h _ h'.1, wpAnyH_mono h h'.2⟩) (H.2 i hi)⟩
theorem put64_bs (n : Nat) (w : World) (hn : n < 18446744073709551616) : Calls Try.prog 60 #[.int .u64 n] w fun e w' => e = .returned (.string (bs (leb 8 n))) ∧ Below w.heap.size w w' := put64_any n w hn
theorem put32_bs (n : Nat) (w : World) (hn : n < 4294967296) : Calls Try.prog 61 #[.int .u32 n] w fun e w' => e = .returned (.string (bs (leb 4 n))) ∧ Below w.heap.size w w' := put32_any n w hn
theorem rput64_bs (n : Nat) (w : World) (hn : n < 18446744073709551616) : Calls Try.prog 74 #[.int .u64 n] w fun e w' => e = .returned (.string (bs (leb 8 n))) ∧ Below w.heap.size w w' := refput64_any n w hn
theorem rput32_bs (n : Nat) (w : World) (hn : n < 4294967296) : Calls Try.prog 75 #[.int .u32 n] w fun e w' => e = .returned (.string (bs (leb 4 n))) ∧ Below w.heap.size w w' := refput32_any n w hn
attribute [local go_sem] bs_size leb_len List.length_append List.length_cons List.length_nil bs_app
set_option maxHeartbeats 4000000 in
theorem head_any (k ep sq ln sm : Nat) (w : World) (h0 : k < 256) (h1 : ep < 18446744073709551616) (h2 : sq < 18446744073709551616) (h3 : ln < 4294967296) (h4 : sm < 4294967296) :
    Calls Try.prog 32 #[.agg #[.int .u8 k, .int .u64 ep, .int .u64 sq, .int .i64 ln, .int .u32 sm]] w fun e w' => e = .returned (.string (bs (headL ⟨k, ep, sq, ln, sm⟩))) ∧ Below w.heap.size w w' := by
  have hln : IntKind.u32.wrap (ln : Int) = (ln : Int) := by rw [IntWalk.u32_in _ (by omega)]
  have D := hid (Blk.new w [.int .u8 k, .int .u64 ep, .int .u64 sq, .int .i64 ln, .int .u32 sm] 46).drew
  have hB := hid ((Below.refl _ w).alloc (Nat.le_refl _) (.cells #[.int .u8 k, .int .u64 ep, .int .u64 sq, .int .i64 ln, .int .u32 sm] 46)).drew
  have hcv0 : ∀ (b : Nat) (W' : World), W'.cell? ⟨b, 0, none⟩ = some (.int .u8 72) → W'.cell? ⟨b, 1, none⟩ = some (.int .u8 k) →
      (convert 82 9 (.slice (some ⟨b, 0, none⟩) 2 2)).run Try.prog W' = .ok (.string (bs [72, UInt8.ofNat k])) W' := fun b W' c0 c1 =>
    (run_convert_bytes_arg W' 82 5 Try.underlying82 Try.underlying5 b 0 2 2 [72, (k : Int)] rfl (fun i hi => match i, hi with
      | 0, _ => c0
      | 1, _ => c1) 9 Try.underlying9).trans rfl
  have hcv0' := hid hcv0
  have hsd : Hid (72 :: UInt8.ofNat k :: (leb 8 ep ++ (leb 8 sq ++ (leb 4 ln ++ leb 4 sm))) = said ⟨k, ep, sq, ln, sm⟩) := hid (by simp [said])
  have hl' := hid (said_len ⟨k, ep, sq, ln, sm⟩)
  have hhd : Hid (headL ⟨k, ep, sq, ln, sm⟩ = fill (said ⟨k, ep, sq, ln, sm⟩ ++ leb 4 (more 0 (said ⟨k, ep, sq, ln, sm⟩)))) := hid rfl
  clear hcv0
  have hcv0 := hcv0'.out
  go_enter Try.func32, Try.ntmps32
  go_wp2_with fail
  obtain ⟨d0, d1, d2, d3, d4, df⟩ := five D.out
  refine wp_region_held_drew (S := (fun W : World => W.cell? ⟨w.heap.size, 0, none⟩ = some (.int .u8 k) ∧ W.cell? ⟨w.heap.size, 1, none⟩ = some (.int .u64 ep) ∧ W.cell? ⟨w.heap.size, 2, none⟩ = some (.int .u64 sq) ∧ W.cell? ⟨w.heap.size, 3, none⟩ = some (.int .i64 ln) ∧ W.cell? ⟨w.heap.size, 4, none⟩ = some (.int .u32 sm))) (by kernel_rfl) ⟨d0, d1, d2, d3, d4⟩ (fun hHeld => ?_)
  clear d0 d1 d2 d3 d4 df
  generalize (w.alloc (.cells #[.int .u8 k, .int .u64 ep, .int .u64 sq, .int .i64 ln, .int .u32 sm] 46)).drew = w0 at D hB hHeld ⊢
  refine wpAnyH_take (i := 0) (v := ?_) rfl (by kernel_rfl) (by kernel_rfl) (by kernel_rfl) (fun _ _ _ h => h) (Or.inl ⟨by rfl, ?_⟩) (by assumption) ?_; rotate_left 1; (intro w hSw; (try dsimp only at hSw); go_simp; try with_reducible rfl); (try simp only [Act.put, List.getElem_toArray, List.getElem_cons_zero, List.getElem_cons_succ, List.setIfInBounds_toArray, List.set_cons_zero, List.set_cons_succ])
  refine wpAnyH_take (i := 1) (v := ?_) rfl (by kernel_rfl) (by kernel_rfl) (by kernel_rfl) (fun _ _ _ h => h) (Or.inl ⟨by rfl, ?_⟩) (by assumption) ?_; rotate_left 1; (intro w hSw; (try dsimp only at hSw); go_simp; try with_reducible rfl); (try simp only [Act.put, List.getElem_toArray, List.getElem_cons_zero, List.getElem_cons_succ, List.setIfInBounds_toArray, List.set_cons_zero, List.set_cons_succ])
  refine wpAnyH_take (i := 4) (v := ?_) rfl (by kernel_rfl) (by kernel_rfl) (by kernel_rfl) (fun _ _ _ h => h) (Or.inl ⟨by rfl, ?_⟩) (by assumption) ?_; rotate_left 1; (intro w hSw; (try dsimp only at hSw); go_simp; try with_reducible rfl); (try simp only [Act.put, List.getElem_toArray, List.getElem_cons_zero, List.getElem_cons_succ, List.setIfInBounds_toArray, List.set_cons_zero, List.set_cons_succ])
  refine wpAnyH_take (i := 5) (v := ?_) rfl (by kernel_rfl) (by kernel_rfl) (by kernel_rfl) (fun _ _ _ h => h) (Or.inl ⟨by rfl, ?_⟩) (by assumption) ?_; rotate_left 1; (intro w hSw; (try dsimp only at hSw); go_simp; try with_reducible rfl); (try simp only [Act.put, List.getElem_toArray, List.getElem_cons_zero, List.getElem_cons_succ, List.setIfInBounds_toArray, List.set_cons_zero, List.set_cons_succ])
  refine wpAnyH_take (i := 8) (v := ?_) rfl (by kernel_rfl) (by kernel_rfl) (by kernel_rfl) (fun _ _ _ h => h) (Or.inl ⟨by rfl, ?_⟩) (by assumption) ?_; rotate_left 1; (intro w hSw; (try dsimp only at hSw); go_simp; try with_reducible rfl); (try simp only [Act.put, List.getElem_toArray, List.getElem_cons_zero, List.getElem_cons_succ, List.setIfInBounds_toArray, List.set_cons_zero, List.set_cons_succ])
  refine wpAnyH_take (i := 9) (v := ?_) rfl (by kernel_rfl) (by kernel_rfl) (by kernel_rfl) (fun _ _ _ h => h) (Or.inl ⟨by rfl, ?_⟩) (by assumption) ?_; rotate_left 1; (intro w hSw; (try dsimp only at hSw); go_simp; try with_reducible rfl); (try simp only [Act.put, List.getElem_toArray, List.getElem_cons_zero, List.getElem_cons_succ, List.setIfInBounds_toArray, List.set_cons_zero, List.set_cons_succ])
  refine wpAnyH_take (i := 12) (v := ?_) rfl (by kernel_rfl) (by kernel_rfl) (by kernel_rfl) (fun _ _ _ h => h) (Or.inl ⟨by rfl, ?_⟩) (by assumption) ?_; rotate_left 1; (intro w hSw; (try dsimp only at hSw); go_simp; try with_reducible rfl); (try simp only [Act.put, List.getElem_toArray, List.getElem_cons_zero, List.getElem_cons_succ, List.setIfInBounds_toArray, List.set_cons_zero, List.set_cons_succ])
  refine wpAnyH_take (i := 13) (v := ?_) rfl (by kernel_rfl) (by kernel_rfl) (by kernel_rfl) (fun _ _ _ h => h) (Or.inl ⟨by rfl, ?_⟩) (by assumption) ?_; rotate_left 1; (intro w hSw; (try dsimp only at hSw); go_simp; try with_reducible rfl); (try simp only [Act.put, List.getElem_toArray, List.getElem_cons_zero, List.getElem_cons_succ, List.setIfInBounds_toArray, List.set_cons_zero, List.set_cons_succ])
  refine wpAnyH_take (i := 14) (v := ?_) rfl (by kernel_rfl) (by kernel_rfl) (by kernel_rfl) (fun _ _ _ h => h) (Or.inl ⟨by rfl, ?_⟩) (by assumption) ?_; rotate_left 1; (intro w hSw; (try dsimp only at hSw); go_simp; try with_reducible rfl); (try simp only [Act.put, List.getElem_toArray, List.getElem_cons_zero, List.getElem_cons_succ, List.setIfInBounds_toArray, List.set_cons_zero, List.set_cons_succ])
  refine wpAnyH_take (i := 17) (v := ?_) rfl (by kernel_rfl) (by kernel_rfl) (by kernel_rfl) (fun _ _ _ h => h) (Or.inl ⟨by rfl, ?_⟩) (by assumption) ?_; rotate_left 1; (intro w hSw; (try dsimp only at hSw); go_simp; try with_reducible rfl); (try simp only [Act.put, List.getElem_toArray, List.getElem_cons_zero, List.getElem_cons_succ, List.setIfInBounds_toArray, List.set_cons_zero, List.set_cons_succ])
  refine wpAnyH_take (i := 18) (v := ?_) rfl (by kernel_rfl) (by kernel_rfl) (by kernel_rfl) (fun _ _ _ h => h) (Or.inl ⟨by rfl, ?_⟩) (by assumption) ?_; rotate_left 1; (intro w hSw; (try dsimp only at hSw); go_simp; try with_reducible rfl); (try simp only [Act.put, List.getElem_toArray, List.getElem_cons_zero, List.getElem_cons_succ, List.setIfInBounds_toArray, List.set_cons_zero, List.set_cons_succ])
  refine wpAnyH_ready (rs := [2, 6]) (by kernel_rfl) (by simp) ?_
  refine AllReadyH.cons rfl (fun K hK => ?_) ?_
  · skip
    go_simp
    obtain ⟨d0, d1, d2, d3, d4, df⟩ := five D.out
    refine hK.out _ _ ⟨ca d0, ca d1, ca d2, ca d3, ca d4⟩ (fun hHeldN => ?_)
    clear hK K hHeld
    have hHeld := hHeldN
    clear hHeldN
    (try simp only [Act.put, List.getElem_toArray, List.getElem_cons_zero, List.getElem_cons_succ, List.setIfInBounds_toArray, List.set_cons_zero, List.set_cons_succ])
    have Q := hid (Blk.new w0 [.int .u8 72, .int .u8 k] 5)
    replace D := hid (D.out.alloc (.cells #[.int .u8 72, .int .u8 k] 5))
    replace hB := hid (hB.out.alloc hB.out.size (.cells #[.int .u8 72, .int .u8 k] 5))
    clear d0 d1 d2 d3 d4 df
    have hcv := hcv0 w0.heap.size
    generalize hbn : w0.heap.size = bn at Q hcv ⊢
    clear hbn
    generalize w0.alloc (.cells #[.int .u8 72, .int .u8 k] 5) = wn at D hB Q hHeld ⊢
    refine wpAnyH_mono (S1 := (fun W : World => (W.cell? ⟨w.heap.size, 0, none⟩ = some (.int .u8 k) ∧ W.cell? ⟨w.heap.size, 1, none⟩ = some (.int .u64 ep) ∧ W.cell? ⟨w.heap.size, 2, none⟩ = some (.int .u64 sq) ∧ W.cell? ⟨w.heap.size, 3, none⟩ = some (.int .i64 ln) ∧ W.cell? ⟨w.heap.size, 4, none⟩ = some (.int .u32 sm)) ∧ W.cell? ⟨bn, 0, none⟩ = some (.int .u8 72) ∧ W.cell? ⟨bn, 1, none⟩ = some (.int .u8 k))) (fun _ h => h.1) ?_
    have hHeld1 : (fun W : World => (W.cell? ⟨w.heap.size, 0, none⟩ = some (.int .u8 k) ∧ W.cell? ⟨w.heap.size, 1, none⟩ = some (.int .u64 ep) ∧ W.cell? ⟨w.heap.size, 2, none⟩ = some (.int .u64 sq) ∧ W.cell? ⟨w.heap.size, 3, none⟩ = some (.int .i64 ln) ∧ W.cell? ⟨w.heap.size, 4, none⟩ = some (.int .u32 sm)) ∧ W.cell? ⟨bn, 0, none⟩ = some (.int .u8 72) ∧ W.cell? ⟨bn, 1, none⟩ = some (.int .u8 k)) wn := ⟨hHeld, Q.out.two.1, Q.out.two.2.1⟩
    clear hHeld
    have hHeld := hHeld1
    clear hHeld1
    refine wpAnyH_take (i := 3) (v := ?_) rfl (by kernel_rfl) (by kernel_rfl) (by kernel_rfl) (fun _ _ _ h => h) (Or.inl ⟨by rfl, ?_⟩) (by assumption) ?_; rotate_left 1; (intro w hSw; (try dsimp only at hSw); go_simp; try with_reducible rfl); (try simp only [Act.put, List.getElem_toArray, List.getElem_cons_zero, List.getElem_cons_succ, List.setIfInBounds_toArray, List.set_cons_zero, List.set_cons_succ])
    refine wpAnyH_ready (rs := [6]) (by kernel_rfl) (by simp) ?_
    refine AllReadyH.cons rfl (fun K hK => ?_) AllReadyH.nil
    go_simp
    (with_reducible refine (put64_bs ep _ h1).mono ?_)
    rintro e w1 ⟨rfl, b1⟩
    go_wp2_with fail
    replace D := hid (D.out.below b1 D.out.lt)
    replace hB := hid (bt hB.out b1)
    obtain ⟨d0, d1, d2, d3, d4, df⟩ := five D.out
    replace Q := hid (Q.out.below b1 Q.out.lt)
    have hq := Q.out.two
    refine hK.out _ _ ⟨⟨d0, d1, d2, d3, d4⟩, hq.1, hq.2.1⟩ (fun hHeldN => ?_)
    clear hK K b1 hHeld
    have hHeld := hHeldN
    clear hHeldN
    (try simp only [Act.put, List.getElem_toArray, List.getElem_cons_zero, List.getElem_cons_succ, List.setIfInBounds_toArray, List.set_cons_zero, List.set_cons_succ])
    clear d0 d1 d2 d3 d4 df
    clear hq
    refine wpAnyH_take (i := 7) (v := ?_) rfl (by kernel_rfl) (by kernel_rfl) (by kernel_rfl) (fun _ _ _ h => h) (Or.inl ⟨by rfl, ?_⟩) (by assumption) ?_; rotate_left 1; (intro w hSw; (try dsimp only at hSw); go_simp; try with_reducible rfl); (try simp only [Act.put, List.getElem_toArray, List.getElem_cons_zero, List.getElem_cons_succ, List.setIfInBounds_toArray, List.set_cons_zero, List.set_cons_succ])
    refine wpAnyH_ready (rs := [10]) (by kernel_rfl) (by simp) ?_
    refine AllReadyH.cons rfl (fun K hK => ?_) AllReadyH.nil
    go_simp
    (with_reducible refine (put64_bs sq _ h2).mono ?_)
    rintro e w2 ⟨rfl, b1⟩
    go_wp2_with fail
    replace D := hid (D.out.below b1 D.out.lt)
    replace hB := hid (bt hB.out b1)
    obtain ⟨d0, d1, d2, d3, d4, df⟩ := five D.out
    replace Q := hid (Q.out.below b1 Q.out.lt)
    have hq := Q.out.two
    refine hK.out _ _ ⟨⟨d0, d1, d2, d3, d4⟩, hq.1, hq.2.1⟩ (fun hHeldN => ?_)
    clear hK K b1 hHeld
    have hHeld := hHeldN
    clear hHeldN
    (try simp only [Act.put, List.getElem_toArray, List.getElem_cons_zero, List.getElem_cons_succ, List.setIfInBounds_toArray, List.set_cons_zero, List.set_cons_succ])
    clear d0 d1 d2 d3 d4 df
    clear hq
    refine wpAnyH_take (i := 11) (v := ?_) rfl (by kernel_rfl) (by kernel_rfl) (by kernel_rfl) (fun _ _ _ h => h) (Or.inl ⟨by rfl, ?_⟩) (by assumption) ?_; rotate_left 1; (intro w hSw; (try dsimp only at hSw); go_simp; try with_reducible rfl); (try simp only [Act.put, List.getElem_toArray, List.getElem_cons_zero, List.getElem_cons_succ, List.setIfInBounds_toArray, List.set_cons_zero, List.set_cons_succ])
    refine wpAnyH_ready (rs := [15]) (by kernel_rfl) (by simp) ?_
    refine AllReadyH.cons rfl (fun K hK => ?_) AllReadyH.nil
    go_simp
    (with_reducible refine (put32_bs ln _ h3).mono ?_)
    rintro e w3 ⟨rfl, b1⟩
    go_wp2_with fail
    replace D := hid (D.out.below b1 D.out.lt)
    replace hB := hid (bt hB.out b1)
    obtain ⟨d0, d1, d2, d3, d4, df⟩ := five D.out
    replace Q := hid (Q.out.below b1 Q.out.lt)
    have hq := Q.out.two
    refine hK.out _ _ ⟨⟨d0, d1, d2, d3, d4⟩, hq.1, hq.2.1⟩ (fun hHeldN => ?_)
    clear hK K b1 hHeld
    have hHeld := hHeldN
    clear hHeldN
    (try simp only [Act.put, List.getElem_toArray, List.getElem_cons_zero, List.getElem_cons_succ, List.setIfInBounds_toArray, List.set_cons_zero, List.set_cons_succ])
    clear d0 d1 d2 d3 d4 df
    clear hq
    refine wpAnyH_take (i := 16) (v := ?_) rfl (by kernel_rfl) (by kernel_rfl) (by kernel_rfl) (fun _ _ _ h => h) (Or.inl ⟨by rfl, ?_⟩) (by assumption) ?_; rotate_left 1; (intro w hSw; (try dsimp only at hSw); go_simp; try with_reducible rfl); (try simp only [Act.put, List.getElem_toArray, List.getElem_cons_zero, List.getElem_cons_succ, List.setIfInBounds_toArray, List.set_cons_zero, List.set_cons_succ])
    refine wpAnyH_ready (rs := [19]) (by kernel_rfl) (by simp) ?_
    refine AllReadyH.cons rfl (fun K hK => ?_) AllReadyH.nil
    go_simp
    (with_reducible refine (put32_bs sm _ h4).mono ?_)
    rintro e w4 ⟨rfl, b1⟩
    go_wp2_with fail
    replace D := hid (D.out.below b1 D.out.lt)
    replace hB := hid (bt hB.out b1)
    obtain ⟨d0, d1, d2, d3, d4, df⟩ := five D.out
    replace Q := hid (Q.out.below b1 Q.out.lt)
    have hq := Q.out.two
    refine hK.out _ _ ⟨⟨d0, d1, d2, d3, d4⟩, hq.1, hq.2.1⟩ (fun hHeldN => ?_)
    clear hK K b1 hHeld
    have hHeld := hHeldN
    clear hHeldN
    (try simp only [Act.put, List.getElem_toArray, List.getElem_cons_zero, List.getElem_cons_succ, List.setIfInBounds_toArray, List.set_cons_zero, List.set_cons_succ])
    clear d0 d1 d2 d3 d4 df
    clear hq
    refine wpAnyH_take (i := 20) (v := ?_) rfl (by kernel_rfl) (by kernel_rfl) (by kernel_rfl) (fun _ _ _ h => h) (Or.inl ⟨by rfl, ?_⟩) (by assumption) ?_; rotate_left 1; (intro w hSw; (try dsimp only at hSw); go_simp; try with_reducible rfl); (try simp only [Act.put, List.getElem_toArray, List.getElem_cons_zero, List.getElem_cons_succ, List.setIfInBounds_toArray, List.set_cons_zero, List.set_cons_succ])
    refine wpAnyH_take (i := 21) (v := ?_) rfl (by kernel_rfl) (by kernel_rfl) (by kernel_rfl) (fun _ _ _ h => h) (Or.inl ⟨by rfl, ?_⟩) (by assumption) ?_; rotate_left 1; (intro w hSw; (try dsimp only at hSw); go_simp; try with_reducible rfl); (try simp only [Act.put, List.getElem_toArray, List.getElem_cons_zero, List.getElem_cons_succ, List.setIfInBounds_toArray, List.set_cons_zero, List.set_cons_succ])
    refine wpAnyH_done (by kernel_rfl) ?_ _
    have hl := hl'.out
    rw [hsd.out]
    clear hcv hcv0 hcv0' hHeld hln h0 h1 h2 h3 h4 hsd Q D hl'
    obtain ⟨S, hS⟩ : ∃ S, said ⟨k, ep, sq, ln, sm⟩ = S := ⟨_, rfl⟩
    rw [hS]
    have hhS : Hid (fill (S ++ leb 4 (more 0 S)) = headL ⟨k, ep, sq, ln, sm⟩) := hid (by rw [hhd.out, hS])
    rw [hS] at hl
    have hlS := hid hl
    clear hl hhd hS
    go_wp2_with fail
    refine (sum_any (bs S) _ (by rw [bs_size, hlS.out]; decide)).mono ?_
    rw [bs_list]
    rintro e w5 ⟨rfl, b5⟩
    go_wp2_with fail
    refine (put32_bs (more 0 S) _ (more_lt' S)).mono ?_
    rintro e w6 ⟨rfl, b6⟩
    have hB6 := hid (bt (bt hB.out b5) b6)
    have hl := hlS.out
    go_wp2_with fail
    refine (filled_any (bs (S ++ leb 4 (more 0 S))) _ (by rw [bs_size, List.length_append, hlS.out, leb_len]; decide)).mono ?_
    rw [bs_list]
    rintro e w7 ⟨rfl, b7⟩
    have hB7 := hid (bt hB6.out b7)
    clear hl
    go_wp2_with fail
    go_ret
    exact ⟨by rw [← hhS.out]; rfl, hB7.out⟩
  · refine AllReadyH.cons rfl (fun K hK => ?_) AllReadyH.nil
    go_simp
    (with_reducible refine (put64_bs ep _ h1).mono ?_)
    rintro e w1 ⟨rfl, b1⟩
    go_wp2_with fail
    replace D := hid (D.out.below b1 D.out.lt)
    replace hB := hid (bt hB.out b1)
    obtain ⟨d0, d1, d2, d3, d4, df⟩ := five D.out
    refine hK.out _ _ ⟨d0, d1, d2, d3, d4⟩ (fun hHeldN => ?_)
    clear hK K b1 hHeld
    have hHeld := hHeldN
    clear hHeldN
    (try simp only [Act.put, List.getElem_toArray, List.getElem_cons_zero, List.getElem_cons_succ, List.setIfInBounds_toArray, List.set_cons_zero, List.set_cons_succ])
    clear d0 d1 d2 d3 d4 df
    refine wpAnyH_ready (rs := [2, 10]) (by kernel_rfl) (by simp) ?_
    refine AllReadyH.cons rfl (fun K hK => ?_) ?_
    · skip
      go_simp
      obtain ⟨d0, d1, d2, d3, d4, df⟩ := five D.out
      refine hK.out _ _ ⟨ca d0, ca d1, ca d2, ca d3, ca d4⟩ (fun hHeldN => ?_)
      clear hK K hHeld
      have hHeld := hHeldN
      clear hHeldN
      (try simp only [Act.put, List.getElem_toArray, List.getElem_cons_zero, List.getElem_cons_succ, List.setIfInBounds_toArray, List.set_cons_zero, List.set_cons_succ])
      have Q := hid (Blk.new w1 [.int .u8 72, .int .u8 k] 5)
      replace D := hid (D.out.alloc (.cells #[.int .u8 72, .int .u8 k] 5))
      replace hB := hid (hB.out.alloc hB.out.size (.cells #[.int .u8 72, .int .u8 k] 5))
      clear d0 d1 d2 d3 d4 df
      have hcv := hcv0 w1.heap.size
      generalize hbn : w1.heap.size = bn at Q hcv ⊢
      clear hbn
      generalize w1.alloc (.cells #[.int .u8 72, .int .u8 k] 5) = wn at D hB Q hHeld ⊢
      refine wpAnyH_mono (S1 := (fun W : World => (W.cell? ⟨w.heap.size, 0, none⟩ = some (.int .u8 k) ∧ W.cell? ⟨w.heap.size, 1, none⟩ = some (.int .u64 ep) ∧ W.cell? ⟨w.heap.size, 2, none⟩ = some (.int .u64 sq) ∧ W.cell? ⟨w.heap.size, 3, none⟩ = some (.int .i64 ln) ∧ W.cell? ⟨w.heap.size, 4, none⟩ = some (.int .u32 sm)) ∧ W.cell? ⟨bn, 0, none⟩ = some (.int .u8 72) ∧ W.cell? ⟨bn, 1, none⟩ = some (.int .u8 k))) (fun _ h => h.1) ?_
      have hHeld1 : (fun W : World => (W.cell? ⟨w.heap.size, 0, none⟩ = some (.int .u8 k) ∧ W.cell? ⟨w.heap.size, 1, none⟩ = some (.int .u64 ep) ∧ W.cell? ⟨w.heap.size, 2, none⟩ = some (.int .u64 sq) ∧ W.cell? ⟨w.heap.size, 3, none⟩ = some (.int .i64 ln) ∧ W.cell? ⟨w.heap.size, 4, none⟩ = some (.int .u32 sm)) ∧ W.cell? ⟨bn, 0, none⟩ = some (.int .u8 72) ∧ W.cell? ⟨bn, 1, none⟩ = some (.int .u8 k)) wn := ⟨hHeld, Q.out.two.1, Q.out.two.2.1⟩
      clear hHeld
      have hHeld := hHeld1
      clear hHeld1
      refine wpAnyH_take (i := 3) (v := ?_) rfl (by kernel_rfl) (by kernel_rfl) (by kernel_rfl) (fun _ _ _ h => h) (Or.inl ⟨by rfl, ?_⟩) (by assumption) ?_; rotate_left 1; (intro w hSw; (try dsimp only at hSw); go_simp; try with_reducible rfl); (try simp only [Act.put, List.getElem_toArray, List.getElem_cons_zero, List.getElem_cons_succ, List.setIfInBounds_toArray, List.set_cons_zero, List.set_cons_succ])
      refine wpAnyH_take (i := 7) (v := ?_) rfl (by kernel_rfl) (by kernel_rfl) (by kernel_rfl) (fun _ _ _ h => h) (Or.inl ⟨by rfl, ?_⟩) (by assumption) ?_; rotate_left 1; (intro w hSw; (try dsimp only at hSw); go_simp; try with_reducible rfl); (try simp only [Act.put, List.getElem_toArray, List.getElem_cons_zero, List.getElem_cons_succ, List.setIfInBounds_toArray, List.set_cons_zero, List.set_cons_succ])
      refine wpAnyH_ready (rs := [10]) (by kernel_rfl) (by simp) ?_
      refine AllReadyH.cons rfl (fun K hK => ?_) AllReadyH.nil
      go_simp
      (with_reducible refine (put64_bs sq _ h2).mono ?_)
      rintro e w2 ⟨rfl, b1⟩
      go_wp2_with fail
      replace D := hid (D.out.below b1 D.out.lt)
      replace hB := hid (bt hB.out b1)
      obtain ⟨d0, d1, d2, d3, d4, df⟩ := five D.out
      replace Q := hid (Q.out.below b1 Q.out.lt)
      have hq := Q.out.two
      refine hK.out _ _ ⟨⟨d0, d1, d2, d3, d4⟩, hq.1, hq.2.1⟩ (fun hHeldN => ?_)
      clear hK K b1 hHeld
      have hHeld := hHeldN
      clear hHeldN
      (try simp only [Act.put, List.getElem_toArray, List.getElem_cons_zero, List.getElem_cons_succ, List.setIfInBounds_toArray, List.set_cons_zero, List.set_cons_succ])
      clear d0 d1 d2 d3 d4 df
      clear hq
      refine wpAnyH_take (i := 11) (v := ?_) rfl (by kernel_rfl) (by kernel_rfl) (by kernel_rfl) (fun _ _ _ h => h) (Or.inl ⟨by rfl, ?_⟩) (by assumption) ?_; rotate_left 1; (intro w hSw; (try dsimp only at hSw); go_simp; try with_reducible rfl); (try simp only [Act.put, List.getElem_toArray, List.getElem_cons_zero, List.getElem_cons_succ, List.setIfInBounds_toArray, List.set_cons_zero, List.set_cons_succ])
      refine wpAnyH_ready (rs := [15]) (by kernel_rfl) (by simp) ?_
      refine AllReadyH.cons rfl (fun K hK => ?_) AllReadyH.nil
      go_simp
      (with_reducible refine (put32_bs ln _ h3).mono ?_)
      rintro e w3 ⟨rfl, b1⟩
      go_wp2_with fail
      replace D := hid (D.out.below b1 D.out.lt)
      replace hB := hid (bt hB.out b1)
      obtain ⟨d0, d1, d2, d3, d4, df⟩ := five D.out
      replace Q := hid (Q.out.below b1 Q.out.lt)
      have hq := Q.out.two
      refine hK.out _ _ ⟨⟨d0, d1, d2, d3, d4⟩, hq.1, hq.2.1⟩ (fun hHeldN => ?_)
      clear hK K b1 hHeld
      have hHeld := hHeldN
      clear hHeldN
      (try simp only [Act.put, List.getElem_toArray, List.getElem_cons_zero, List.getElem_cons_succ, List.setIfInBounds_toArray, List.set_cons_zero, List.set_cons_succ])
      clear d0 d1 d2 d3 d4 df
      clear hq
      refine wpAnyH_take (i := 16) (v := ?_) rfl (by kernel_rfl) (by kernel_rfl) (by kernel_rfl) (fun _ _ _ h => h) (Or.inl ⟨by rfl, ?_⟩) (by assumption) ?_; rotate_left 1; (intro w hSw; (try dsimp only at hSw); go_simp; try with_reducible rfl); (try simp only [Act.put, List.getElem_toArray, List.getElem_cons_zero, List.getElem_cons_succ, List.setIfInBounds_toArray, List.set_cons_zero, List.set_cons_succ])
      refine wpAnyH_ready (rs := [19]) (by kernel_rfl) (by simp) ?_
      refine AllReadyH.cons rfl (fun K hK => ?_) AllReadyH.nil
      go_simp
      (with_reducible refine (put32_bs sm _ h4).mono ?_)
      rintro e w4 ⟨rfl, b1⟩
      go_wp2_with fail
      replace D := hid (D.out.below b1 D.out.lt)
      replace hB := hid (bt hB.out b1)
      obtain ⟨d0, d1, d2, d3, d4, df⟩ := five D.out
      replace Q := hid (Q.out.below b1 Q.out.lt)
      have hq := Q.out.two
      refine hK.out _ _ ⟨⟨d0, d1, d2, d3, d4⟩, hq.1, hq.2.1⟩ (fun hHeldN => ?_)
      clear hK K b1 hHeld
      have hHeld := hHeldN
      clear hHeldN
      (try simp only [Act.put, List.getElem_toArray, List.getElem_cons_zero, List.getElem_cons_succ, List.setIfInBounds_toArray, List.set_cons_zero, List.set_cons_succ])
      clear d0 d1 d2 d3 d4 df
      clear hq
      refine wpAnyH_take (i := 20) (v := ?_) rfl (by kernel_rfl) (by kernel_rfl) (by kernel_rfl) (fun _ _ _ h => h) (Or.inl ⟨by rfl, ?_⟩) (by assumption) ?_; rotate_left 1; (intro w hSw; (try dsimp only at hSw); go_simp; try with_reducible rfl); (try simp only [Act.put, List.getElem_toArray, List.getElem_cons_zero, List.getElem_cons_succ, List.setIfInBounds_toArray, List.set_cons_zero, List.set_cons_succ])
      refine wpAnyH_take (i := 21) (v := ?_) rfl (by kernel_rfl) (by kernel_rfl) (by kernel_rfl) (fun _ _ _ h => h) (Or.inl ⟨by rfl, ?_⟩) (by assumption) ?_; rotate_left 1; (intro w hSw; (try dsimp only at hSw); go_simp; try with_reducible rfl); (try simp only [Act.put, List.getElem_toArray, List.getElem_cons_zero, List.getElem_cons_succ, List.setIfInBounds_toArray, List.set_cons_zero, List.set_cons_succ])
      refine wpAnyH_done (by kernel_rfl) ?_ _
      have hl := hl'.out
      rw [hsd.out]
      clear hcv hcv0 hcv0' hHeld hln h0 h1 h2 h3 h4 hsd Q D hl'
      obtain ⟨S, hS⟩ : ∃ S, said ⟨k, ep, sq, ln, sm⟩ = S := ⟨_, rfl⟩
      rw [hS]
      have hhS : Hid (fill (S ++ leb 4 (more 0 S)) = headL ⟨k, ep, sq, ln, sm⟩) := hid (by rw [hhd.out, hS])
      rw [hS] at hl
      have hlS := hid hl
      clear hl hhd hS
      go_wp2_with fail
      refine (sum_any (bs S) _ (by rw [bs_size, hlS.out]; decide)).mono ?_
      rw [bs_list]
      rintro e w5 ⟨rfl, b5⟩
      go_wp2_with fail
      refine (put32_bs (more 0 S) _ (more_lt' S)).mono ?_
      rintro e w6 ⟨rfl, b6⟩
      have hB6 := hid (bt (bt hB.out b5) b6)
      have hl := hlS.out
      go_wp2_with fail
      refine (filled_any (bs (S ++ leb 4 (more 0 S))) _ (by rw [bs_size, List.length_append, hlS.out, leb_len]; decide)).mono ?_
      rw [bs_list]
      rintro e w7 ⟨rfl, b7⟩
      have hB7 := hid (bt hB6.out b7)
      clear hl
      go_wp2_with fail
      go_ret
      exact ⟨by rw [← hhS.out]; rfl, hB7.out⟩
    · refine AllReadyH.cons rfl (fun K hK => ?_) AllReadyH.nil
      go_simp
      (with_reducible refine (put64_bs sq _ h2).mono ?_)
      rintro e w2 ⟨rfl, b1⟩
      go_wp2_with fail
      replace D := hid (D.out.below b1 D.out.lt)
      replace hB := hid (bt hB.out b1)
      obtain ⟨d0, d1, d2, d3, d4, df⟩ := five D.out
      refine hK.out _ _ ⟨d0, d1, d2, d3, d4⟩ (fun hHeldN => ?_)
      clear hK K b1 hHeld
      have hHeld := hHeldN
      clear hHeldN
      (try simp only [Act.put, List.getElem_toArray, List.getElem_cons_zero, List.getElem_cons_succ, List.setIfInBounds_toArray, List.set_cons_zero, List.set_cons_succ])
      clear d0 d1 d2 d3 d4 df
      refine wpAnyH_ready (rs := [2, 15]) (by kernel_rfl) (by simp) ?_
      refine AllReadyH.cons rfl (fun K hK => ?_) ?_
      · skip
        go_simp
        obtain ⟨d0, d1, d2, d3, d4, df⟩ := five D.out
        refine hK.out _ _ ⟨ca d0, ca d1, ca d2, ca d3, ca d4⟩ (fun hHeldN => ?_)
        clear hK K hHeld
        have hHeld := hHeldN
        clear hHeldN
        (try simp only [Act.put, List.getElem_toArray, List.getElem_cons_zero, List.getElem_cons_succ, List.setIfInBounds_toArray, List.set_cons_zero, List.set_cons_succ])
        have Q := hid (Blk.new w2 [.int .u8 72, .int .u8 k] 5)
        replace D := hid (D.out.alloc (.cells #[.int .u8 72, .int .u8 k] 5))
        replace hB := hid (hB.out.alloc hB.out.size (.cells #[.int .u8 72, .int .u8 k] 5))
        clear d0 d1 d2 d3 d4 df
        have hcv := hcv0 w2.heap.size
        generalize hbn : w2.heap.size = bn at Q hcv ⊢
        clear hbn
        generalize w2.alloc (.cells #[.int .u8 72, .int .u8 k] 5) = wn at D hB Q hHeld ⊢
        refine wpAnyH_mono (S1 := (fun W : World => (W.cell? ⟨w.heap.size, 0, none⟩ = some (.int .u8 k) ∧ W.cell? ⟨w.heap.size, 1, none⟩ = some (.int .u64 ep) ∧ W.cell? ⟨w.heap.size, 2, none⟩ = some (.int .u64 sq) ∧ W.cell? ⟨w.heap.size, 3, none⟩ = some (.int .i64 ln) ∧ W.cell? ⟨w.heap.size, 4, none⟩ = some (.int .u32 sm)) ∧ W.cell? ⟨bn, 0, none⟩ = some (.int .u8 72) ∧ W.cell? ⟨bn, 1, none⟩ = some (.int .u8 k))) (fun _ h => h.1) ?_
        have hHeld1 : (fun W : World => (W.cell? ⟨w.heap.size, 0, none⟩ = some (.int .u8 k) ∧ W.cell? ⟨w.heap.size, 1, none⟩ = some (.int .u64 ep) ∧ W.cell? ⟨w.heap.size, 2, none⟩ = some (.int .u64 sq) ∧ W.cell? ⟨w.heap.size, 3, none⟩ = some (.int .i64 ln) ∧ W.cell? ⟨w.heap.size, 4, none⟩ = some (.int .u32 sm)) ∧ W.cell? ⟨bn, 0, none⟩ = some (.int .u8 72) ∧ W.cell? ⟨bn, 1, none⟩ = some (.int .u8 k)) wn := ⟨hHeld, Q.out.two.1, Q.out.two.2.1⟩
        clear hHeld
        have hHeld := hHeld1
        clear hHeld1
        refine wpAnyH_take (i := 3) (v := ?_) rfl (by kernel_rfl) (by kernel_rfl) (by kernel_rfl) (fun _ _ _ h => h) (Or.inl ⟨by rfl, ?_⟩) (by assumption) ?_; rotate_left 1; (intro w hSw; (try dsimp only at hSw); go_simp; try with_reducible rfl); (try simp only [Act.put, List.getElem_toArray, List.getElem_cons_zero, List.getElem_cons_succ, List.setIfInBounds_toArray, List.set_cons_zero, List.set_cons_succ])
        refine wpAnyH_take (i := 7) (v := ?_) rfl (by kernel_rfl) (by kernel_rfl) (by kernel_rfl) (fun _ _ _ h => h) (Or.inl ⟨by rfl, ?_⟩) (by assumption) ?_; rotate_left 1; (intro w hSw; (try dsimp only at hSw); go_simp; try with_reducible rfl); (try simp only [Act.put, List.getElem_toArray, List.getElem_cons_zero, List.getElem_cons_succ, List.setIfInBounds_toArray, List.set_cons_zero, List.set_cons_succ])
        refine wpAnyH_take (i := 11) (v := ?_) rfl (by kernel_rfl) (by kernel_rfl) (by kernel_rfl) (fun _ _ _ h => h) (Or.inl ⟨by rfl, ?_⟩) (by assumption) ?_; rotate_left 1; (intro w hSw; (try dsimp only at hSw); go_simp; try with_reducible rfl); (try simp only [Act.put, List.getElem_toArray, List.getElem_cons_zero, List.getElem_cons_succ, List.setIfInBounds_toArray, List.set_cons_zero, List.set_cons_succ])
        refine wpAnyH_ready (rs := [15]) (by kernel_rfl) (by simp) ?_
        refine AllReadyH.cons rfl (fun K hK => ?_) AllReadyH.nil
        go_simp
        (with_reducible refine (put32_bs ln _ h3).mono ?_)
        rintro e w3 ⟨rfl, b1⟩
        go_wp2_with fail
        replace D := hid (D.out.below b1 D.out.lt)
        replace hB := hid (bt hB.out b1)
        obtain ⟨d0, d1, d2, d3, d4, df⟩ := five D.out
        replace Q := hid (Q.out.below b1 Q.out.lt)
        have hq := Q.out.two
        refine hK.out _ _ ⟨⟨d0, d1, d2, d3, d4⟩, hq.1, hq.2.1⟩ (fun hHeldN => ?_)
        clear hK K b1 hHeld
        have hHeld := hHeldN
        clear hHeldN
        (try simp only [Act.put, List.getElem_toArray, List.getElem_cons_zero, List.getElem_cons_succ, List.setIfInBounds_toArray, List.set_cons_zero, List.set_cons_succ])
        clear d0 d1 d2 d3 d4 df
        clear hq
        refine wpAnyH_take (i := 16) (v := ?_) rfl (by kernel_rfl) (by kernel_rfl) (by kernel_rfl) (fun _ _ _ h => h) (Or.inl ⟨by rfl, ?_⟩) (by assumption) ?_; rotate_left 1; (intro w hSw; (try dsimp only at hSw); go_simp; try with_reducible rfl); (try simp only [Act.put, List.getElem_toArray, List.getElem_cons_zero, List.getElem_cons_succ, List.setIfInBounds_toArray, List.set_cons_zero, List.set_cons_succ])
        refine wpAnyH_ready (rs := [19]) (by kernel_rfl) (by simp) ?_
        refine AllReadyH.cons rfl (fun K hK => ?_) AllReadyH.nil
        go_simp
        (with_reducible refine (put32_bs sm _ h4).mono ?_)
        rintro e w4 ⟨rfl, b1⟩
        go_wp2_with fail
        replace D := hid (D.out.below b1 D.out.lt)
        replace hB := hid (bt hB.out b1)
        obtain ⟨d0, d1, d2, d3, d4, df⟩ := five D.out
        replace Q := hid (Q.out.below b1 Q.out.lt)
        have hq := Q.out.two
        refine hK.out _ _ ⟨⟨d0, d1, d2, d3, d4⟩, hq.1, hq.2.1⟩ (fun hHeldN => ?_)
        clear hK K b1 hHeld
        have hHeld := hHeldN
        clear hHeldN
        (try simp only [Act.put, List.getElem_toArray, List.getElem_cons_zero, List.getElem_cons_succ, List.setIfInBounds_toArray, List.set_cons_zero, List.set_cons_succ])
        clear d0 d1 d2 d3 d4 df
        clear hq
        refine wpAnyH_take (i := 20) (v := ?_) rfl (by kernel_rfl) (by kernel_rfl) (by kernel_rfl) (fun _ _ _ h => h) (Or.inl ⟨by rfl, ?_⟩) (by assumption) ?_; rotate_left 1; (intro w hSw; (try dsimp only at hSw); go_simp; try with_reducible rfl); (try simp only [Act.put, List.getElem_toArray, List.getElem_cons_zero, List.getElem_cons_succ, List.setIfInBounds_toArray, List.set_cons_zero, List.set_cons_succ])
        refine wpAnyH_take (i := 21) (v := ?_) rfl (by kernel_rfl) (by kernel_rfl) (by kernel_rfl) (fun _ _ _ h => h) (Or.inl ⟨by rfl, ?_⟩) (by assumption) ?_; rotate_left 1; (intro w hSw; (try dsimp only at hSw); go_simp; try with_reducible rfl); (try simp only [Act.put, List.getElem_toArray, List.getElem_cons_zero, List.getElem_cons_succ, List.setIfInBounds_toArray, List.set_cons_zero, List.set_cons_succ])
        refine wpAnyH_done (by kernel_rfl) ?_ _
        have hl := hl'.out
        rw [hsd.out]
        clear hcv hcv0 hcv0' hHeld hln h0 h1 h2 h3 h4 hsd Q D hl'
        obtain ⟨S, hS⟩ : ∃ S, said ⟨k, ep, sq, ln, sm⟩ = S := ⟨_, rfl⟩
        rw [hS]
        have hhS : Hid (fill (S ++ leb 4 (more 0 S)) = headL ⟨k, ep, sq, ln, sm⟩) := hid (by rw [hhd.out, hS])
        rw [hS] at hl
        have hlS := hid hl
        clear hl hhd hS
        go_wp2_with fail
        refine (sum_any (bs S) _ (by rw [bs_size, hlS.out]; decide)).mono ?_
        rw [bs_list]
        rintro e w5 ⟨rfl, b5⟩
        go_wp2_with fail
        refine (put32_bs (more 0 S) _ (more_lt' S)).mono ?_
        rintro e w6 ⟨rfl, b6⟩
        have hB6 := hid (bt (bt hB.out b5) b6)
        have hl := hlS.out
        go_wp2_with fail
        refine (filled_any (bs (S ++ leb 4 (more 0 S))) _ (by rw [bs_size, List.length_append, hlS.out, leb_len]; decide)).mono ?_
        rw [bs_list]
        rintro e w7 ⟨rfl, b7⟩
        have hB7 := hid (bt hB6.out b7)
        clear hl
        go_wp2_with fail
        go_ret
        exact ⟨by rw [← hhS.out]; rfl, hB7.out⟩
      · refine AllReadyH.cons rfl (fun K hK => ?_) AllReadyH.nil
        go_simp
        (with_reducible refine (put32_bs ln _ h3).mono ?_)
        rintro e w3 ⟨rfl, b1⟩
        go_wp2_with fail
        replace D := hid (D.out.below b1 D.out.lt)
        replace hB := hid (bt hB.out b1)
        obtain ⟨d0, d1, d2, d3, d4, df⟩ := five D.out
        refine hK.out _ _ ⟨d0, d1, d2, d3, d4⟩ (fun hHeldN => ?_)
        clear hK K b1 hHeld
        have hHeld := hHeldN
        clear hHeldN
        (try simp only [Act.put, List.getElem_toArray, List.getElem_cons_zero, List.getElem_cons_succ, List.setIfInBounds_toArray, List.set_cons_zero, List.set_cons_succ])
        clear d0 d1 d2 d3 d4 df
        refine wpAnyH_ready (rs := [2, 19]) (by kernel_rfl) (by simp) ?_
        refine AllReadyH.cons rfl (fun K hK => ?_) ?_
        · skip
          go_simp
          obtain ⟨d0, d1, d2, d3, d4, df⟩ := five D.out
          refine hK.out _ _ ⟨ca d0, ca d1, ca d2, ca d3, ca d4⟩ (fun hHeldN => ?_)
          clear hK K hHeld
          have hHeld := hHeldN
          clear hHeldN
          (try simp only [Act.put, List.getElem_toArray, List.getElem_cons_zero, List.getElem_cons_succ, List.setIfInBounds_toArray, List.set_cons_zero, List.set_cons_succ])
          have Q := hid (Blk.new w3 [.int .u8 72, .int .u8 k] 5)
          replace D := hid (D.out.alloc (.cells #[.int .u8 72, .int .u8 k] 5))
          replace hB := hid (hB.out.alloc hB.out.size (.cells #[.int .u8 72, .int .u8 k] 5))
          clear d0 d1 d2 d3 d4 df
          have hcv := hcv0 w3.heap.size
          generalize hbn : w3.heap.size = bn at Q hcv ⊢
          clear hbn
          generalize w3.alloc (.cells #[.int .u8 72, .int .u8 k] 5) = wn at D hB Q hHeld ⊢
          refine wpAnyH_mono (S1 := (fun W : World => (W.cell? ⟨w.heap.size, 0, none⟩ = some (.int .u8 k) ∧ W.cell? ⟨w.heap.size, 1, none⟩ = some (.int .u64 ep) ∧ W.cell? ⟨w.heap.size, 2, none⟩ = some (.int .u64 sq) ∧ W.cell? ⟨w.heap.size, 3, none⟩ = some (.int .i64 ln) ∧ W.cell? ⟨w.heap.size, 4, none⟩ = some (.int .u32 sm)) ∧ W.cell? ⟨bn, 0, none⟩ = some (.int .u8 72) ∧ W.cell? ⟨bn, 1, none⟩ = some (.int .u8 k))) (fun _ h => h.1) ?_
          have hHeld1 : (fun W : World => (W.cell? ⟨w.heap.size, 0, none⟩ = some (.int .u8 k) ∧ W.cell? ⟨w.heap.size, 1, none⟩ = some (.int .u64 ep) ∧ W.cell? ⟨w.heap.size, 2, none⟩ = some (.int .u64 sq) ∧ W.cell? ⟨w.heap.size, 3, none⟩ = some (.int .i64 ln) ∧ W.cell? ⟨w.heap.size, 4, none⟩ = some (.int .u32 sm)) ∧ W.cell? ⟨bn, 0, none⟩ = some (.int .u8 72) ∧ W.cell? ⟨bn, 1, none⟩ = some (.int .u8 k)) wn := ⟨hHeld, Q.out.two.1, Q.out.two.2.1⟩
          clear hHeld
          have hHeld := hHeld1
          clear hHeld1
          refine wpAnyH_take (i := 3) (v := ?_) rfl (by kernel_rfl) (by kernel_rfl) (by kernel_rfl) (fun _ _ _ h => h) (Or.inl ⟨by rfl, ?_⟩) (by assumption) ?_; rotate_left 1; (intro w hSw; (try dsimp only at hSw); go_simp; try with_reducible rfl); (try simp only [Act.put, List.getElem_toArray, List.getElem_cons_zero, List.getElem_cons_succ, List.setIfInBounds_toArray, List.set_cons_zero, List.set_cons_succ])
          refine wpAnyH_take (i := 7) (v := ?_) rfl (by kernel_rfl) (by kernel_rfl) (by kernel_rfl) (fun _ _ _ h => h) (Or.inl ⟨by rfl, ?_⟩) (by assumption) ?_; rotate_left 1; (intro w hSw; (try dsimp only at hSw); go_simp; try with_reducible rfl); (try simp only [Act.put, List.getElem_toArray, List.getElem_cons_zero, List.getElem_cons_succ, List.setIfInBounds_toArray, List.set_cons_zero, List.set_cons_succ])
          refine wpAnyH_take (i := 11) (v := ?_) rfl (by kernel_rfl) (by kernel_rfl) (by kernel_rfl) (fun _ _ _ h => h) (Or.inl ⟨by rfl, ?_⟩) (by assumption) ?_; rotate_left 1; (intro w hSw; (try dsimp only at hSw); go_simp; try with_reducible rfl); (try simp only [Act.put, List.getElem_toArray, List.getElem_cons_zero, List.getElem_cons_succ, List.setIfInBounds_toArray, List.set_cons_zero, List.set_cons_succ])
          refine wpAnyH_take (i := 16) (v := ?_) rfl (by kernel_rfl) (by kernel_rfl) (by kernel_rfl) (fun _ _ _ h => h) (Or.inl ⟨by rfl, ?_⟩) (by assumption) ?_; rotate_left 1; (intro w hSw; (try dsimp only at hSw); go_simp; try with_reducible rfl); (try simp only [Act.put, List.getElem_toArray, List.getElem_cons_zero, List.getElem_cons_succ, List.setIfInBounds_toArray, List.set_cons_zero, List.set_cons_succ])
          refine wpAnyH_ready (rs := [19]) (by kernel_rfl) (by simp) ?_
          refine AllReadyH.cons rfl (fun K hK => ?_) AllReadyH.nil
          go_simp
          (with_reducible refine (put32_bs sm _ h4).mono ?_)
          rintro e w4 ⟨rfl, b1⟩
          go_wp2_with fail
          replace D := hid (D.out.below b1 D.out.lt)
          replace hB := hid (bt hB.out b1)
          obtain ⟨d0, d1, d2, d3, d4, df⟩ := five D.out
          replace Q := hid (Q.out.below b1 Q.out.lt)
          have hq := Q.out.two
          refine hK.out _ _ ⟨⟨d0, d1, d2, d3, d4⟩, hq.1, hq.2.1⟩ (fun hHeldN => ?_)
          clear hK K b1 hHeld
          have hHeld := hHeldN
          clear hHeldN
          (try simp only [Act.put, List.getElem_toArray, List.getElem_cons_zero, List.getElem_cons_succ, List.setIfInBounds_toArray, List.set_cons_zero, List.set_cons_succ])
          clear d0 d1 d2 d3 d4 df
          clear hq
          refine wpAnyH_take (i := 20) (v := ?_) rfl (by kernel_rfl) (by kernel_rfl) (by kernel_rfl) (fun _ _ _ h => h) (Or.inl ⟨by rfl, ?_⟩) (by assumption) ?_; rotate_left 1; (intro w hSw; (try dsimp only at hSw); go_simp; try with_reducible rfl); (try simp only [Act.put, List.getElem_toArray, List.getElem_cons_zero, List.getElem_cons_succ, List.setIfInBounds_toArray, List.set_cons_zero, List.set_cons_succ])
          refine wpAnyH_take (i := 21) (v := ?_) rfl (by kernel_rfl) (by kernel_rfl) (by kernel_rfl) (fun _ _ _ h => h) (Or.inl ⟨by rfl, ?_⟩) (by assumption) ?_; rotate_left 1; (intro w hSw; (try dsimp only at hSw); go_simp; try with_reducible rfl); (try simp only [Act.put, List.getElem_toArray, List.getElem_cons_zero, List.getElem_cons_succ, List.setIfInBounds_toArray, List.set_cons_zero, List.set_cons_succ])
          refine wpAnyH_done (by kernel_rfl) ?_ _
          have hl := hl'.out
          rw [hsd.out]
          clear hcv hcv0 hcv0' hHeld hln h0 h1 h2 h3 h4 hsd Q D hl'
          obtain ⟨S, hS⟩ : ∃ S, said ⟨k, ep, sq, ln, sm⟩ = S := ⟨_, rfl⟩
          rw [hS]
          have hhS : Hid (fill (S ++ leb 4 (more 0 S)) = headL ⟨k, ep, sq, ln, sm⟩) := hid (by rw [hhd.out, hS])
          rw [hS] at hl
          have hlS := hid hl
          clear hl hhd hS
          go_wp2_with fail
          refine (sum_any (bs S) _ (by rw [bs_size, hlS.out]; decide)).mono ?_
          rw [bs_list]
          rintro e w5 ⟨rfl, b5⟩
          go_wp2_with fail
          refine (put32_bs (more 0 S) _ (more_lt' S)).mono ?_
          rintro e w6 ⟨rfl, b6⟩
          have hB6 := hid (bt (bt hB.out b5) b6)
          have hl := hlS.out
          go_wp2_with fail
          refine (filled_any (bs (S ++ leb 4 (more 0 S))) _ (by rw [bs_size, List.length_append, hlS.out, leb_len]; decide)).mono ?_
          rw [bs_list]
          rintro e w7 ⟨rfl, b7⟩
          have hB7 := hid (bt hB6.out b7)
          clear hl
          go_wp2_with fail
          go_ret
          exact ⟨by rw [← hhS.out]; rfl, hB7.out⟩
        · refine AllReadyH.cons rfl (fun K hK => ?_) AllReadyH.nil
          go_simp
          (with_reducible refine (put32_bs sm _ h4).mono ?_)
          rintro e w4 ⟨rfl, b1⟩
          go_wp2_with fail
          replace D := hid (D.out.below b1 D.out.lt)
          replace hB := hid (bt hB.out b1)
          obtain ⟨d0, d1, d2, d3, d4, df⟩ := five D.out
          refine hK.out _ _ ⟨d0, d1, d2, d3, d4⟩ (fun hHeldN => ?_)
          clear hK K b1 hHeld
          have hHeld := hHeldN
          clear hHeldN
          (try simp only [Act.put, List.getElem_toArray, List.getElem_cons_zero, List.getElem_cons_succ, List.setIfInBounds_toArray, List.set_cons_zero, List.set_cons_succ])
          clear d0 d1 d2 d3 d4 df
          refine wpAnyH_ready (rs := [2]) (by kernel_rfl) (by simp) ?_
          refine AllReadyH.cons rfl (fun K hK => ?_) AllReadyH.nil
          go_simp
          obtain ⟨d0, d1, d2, d3, d4, df⟩ := five D.out
          refine hK.out _ _ ⟨ca d0, ca d1, ca d2, ca d3, ca d4⟩ (fun hHeldN => ?_)
          clear hK K hHeld
          have hHeld := hHeldN
          clear hHeldN
          (try simp only [Act.put, List.getElem_toArray, List.getElem_cons_zero, List.getElem_cons_succ, List.setIfInBounds_toArray, List.set_cons_zero, List.set_cons_succ])
          have Q := hid (Blk.new w4 [.int .u8 72, .int .u8 k] 5)
          replace D := hid (D.out.alloc (.cells #[.int .u8 72, .int .u8 k] 5))
          replace hB := hid (hB.out.alloc hB.out.size (.cells #[.int .u8 72, .int .u8 k] 5))
          clear d0 d1 d2 d3 d4 df
          have hcv := hcv0 w4.heap.size
          generalize hbn : w4.heap.size = bn at Q hcv ⊢
          clear hbn
          generalize w4.alloc (.cells #[.int .u8 72, .int .u8 k] 5) = wn at D hB Q hHeld ⊢
          refine wpAnyH_mono (S1 := (fun W : World => (W.cell? ⟨w.heap.size, 0, none⟩ = some (.int .u8 k) ∧ W.cell? ⟨w.heap.size, 1, none⟩ = some (.int .u64 ep) ∧ W.cell? ⟨w.heap.size, 2, none⟩ = some (.int .u64 sq) ∧ W.cell? ⟨w.heap.size, 3, none⟩ = some (.int .i64 ln) ∧ W.cell? ⟨w.heap.size, 4, none⟩ = some (.int .u32 sm)) ∧ W.cell? ⟨bn, 0, none⟩ = some (.int .u8 72) ∧ W.cell? ⟨bn, 1, none⟩ = some (.int .u8 k))) (fun _ h => h.1) ?_
          have hHeld1 : (fun W : World => (W.cell? ⟨w.heap.size, 0, none⟩ = some (.int .u8 k) ∧ W.cell? ⟨w.heap.size, 1, none⟩ = some (.int .u64 ep) ∧ W.cell? ⟨w.heap.size, 2, none⟩ = some (.int .u64 sq) ∧ W.cell? ⟨w.heap.size, 3, none⟩ = some (.int .i64 ln) ∧ W.cell? ⟨w.heap.size, 4, none⟩ = some (.int .u32 sm)) ∧ W.cell? ⟨bn, 0, none⟩ = some (.int .u8 72) ∧ W.cell? ⟨bn, 1, none⟩ = some (.int .u8 k)) wn := ⟨hHeld, Q.out.two.1, Q.out.two.2.1⟩
          clear hHeld
          have hHeld := hHeld1
          clear hHeld1
          refine wpAnyH_take (i := 3) (v := ?_) rfl (by kernel_rfl) (by kernel_rfl) (by kernel_rfl) (fun _ _ _ h => h) (Or.inl ⟨by rfl, ?_⟩) (by assumption) ?_; rotate_left 1; (intro w hSw; (try dsimp only at hSw); go_simp; try with_reducible rfl); (try simp only [Act.put, List.getElem_toArray, List.getElem_cons_zero, List.getElem_cons_succ, List.setIfInBounds_toArray, List.set_cons_zero, List.set_cons_succ])
          refine wpAnyH_take (i := 7) (v := ?_) rfl (by kernel_rfl) (by kernel_rfl) (by kernel_rfl) (fun _ _ _ h => h) (Or.inl ⟨by rfl, ?_⟩) (by assumption) ?_; rotate_left 1; (intro w hSw; (try dsimp only at hSw); go_simp; try with_reducible rfl); (try simp only [Act.put, List.getElem_toArray, List.getElem_cons_zero, List.getElem_cons_succ, List.setIfInBounds_toArray, List.set_cons_zero, List.set_cons_succ])
          refine wpAnyH_take (i := 11) (v := ?_) rfl (by kernel_rfl) (by kernel_rfl) (by kernel_rfl) (fun _ _ _ h => h) (Or.inl ⟨by rfl, ?_⟩) (by assumption) ?_; rotate_left 1; (intro w hSw; (try dsimp only at hSw); go_simp; try with_reducible rfl); (try simp only [Act.put, List.getElem_toArray, List.getElem_cons_zero, List.getElem_cons_succ, List.setIfInBounds_toArray, List.set_cons_zero, List.set_cons_succ])
          refine wpAnyH_take (i := 16) (v := ?_) rfl (by kernel_rfl) (by kernel_rfl) (by kernel_rfl) (fun _ _ _ h => h) (Or.inl ⟨by rfl, ?_⟩) (by assumption) ?_; rotate_left 1; (intro w hSw; (try dsimp only at hSw); go_simp; try with_reducible rfl); (try simp only [Act.put, List.getElem_toArray, List.getElem_cons_zero, List.getElem_cons_succ, List.setIfInBounds_toArray, List.set_cons_zero, List.set_cons_succ])
          refine wpAnyH_take (i := 20) (v := ?_) rfl (by kernel_rfl) (by kernel_rfl) (by kernel_rfl) (fun _ _ _ h => h) (Or.inl ⟨by rfl, ?_⟩) (by assumption) ?_; rotate_left 1; (intro w hSw; (try dsimp only at hSw); go_simp; try with_reducible rfl); (try simp only [Act.put, List.getElem_toArray, List.getElem_cons_zero, List.getElem_cons_succ, List.setIfInBounds_toArray, List.set_cons_zero, List.set_cons_succ])
          refine wpAnyH_take (i := 21) (v := ?_) rfl (by kernel_rfl) (by kernel_rfl) (by kernel_rfl) (fun _ _ _ h => h) (Or.inl ⟨by rfl, ?_⟩) (by assumption) ?_; rotate_left 1; (intro w hSw; (try dsimp only at hSw); go_simp; try with_reducible rfl); (try simp only [Act.put, List.getElem_toArray, List.getElem_cons_zero, List.getElem_cons_succ, List.setIfInBounds_toArray, List.set_cons_zero, List.set_cons_succ])
          refine wpAnyH_done (by kernel_rfl) ?_ _
          have hl := hl'.out
          rw [hsd.out]
          clear hcv hcv0 hcv0' hHeld hln h0 h1 h2 h3 h4 hsd Q D hl'
          obtain ⟨S, hS⟩ : ∃ S, said ⟨k, ep, sq, ln, sm⟩ = S := ⟨_, rfl⟩
          rw [hS]
          have hhS : Hid (fill (S ++ leb 4 (more 0 S)) = headL ⟨k, ep, sq, ln, sm⟩) := hid (by rw [hhd.out, hS])
          rw [hS] at hl
          have hlS := hid hl
          clear hl hhd hS
          go_wp2_with fail
          refine (sum_any (bs S) _ (by rw [bs_size, hlS.out]; decide)).mono ?_
          rw [bs_list]
          rintro e w5 ⟨rfl, b5⟩
          go_wp2_with fail
          refine (put32_bs (more 0 S) _ (more_lt' S)).mono ?_
          rintro e w6 ⟨rfl, b6⟩
          have hB6 := hid (bt (bt hB.out b5) b6)
          have hl := hlS.out
          go_wp2_with fail
          refine (filled_any (bs (S ++ leb 4 (more 0 S))) _ (by rw [bs_size, List.length_append, hlS.out, leb_len]; decide)).mono ?_
          rw [bs_list]
          rintro e w7 ⟨rfl, b7⟩
          have hB7 := hid (bt hB6.out b7)
          clear hl
          go_wp2_with fail
          go_ret
          exact ⟨by rw [← hhS.out]; rfl, hB7.out⟩
end Go.Proofs.Ytiegocbdgimimaa.Rec
