/-
  RecordWrites: the walk.
-/
import Derived.Test.YtocoodccobipiaaRecLives
import Derived.Test.YtocoodccobipiaaRecRef
namespace Go.Proofs.Ytocoodccobipiaa.recordWrites
open Go.ChangeShapes Go.WideShapes Go.ChangeAt Go.RowKit
open Go.Proofs.Ytocoodccobipiaa.Mem Go.Proofs.Ytocoodccobipiaa.Rec
set_option linter.unusedVariables false
set_option maxRecDepth 100000
theorem strsEq_self (l : List ByteArray) : strsEq l l = true := by simp [strsEq]
set_option maxHeartbeats 4000000 in
theorem walk (f : Fr) (n : Int) (w : World) (h : f.has) (wf : (Lit.int .i64 n).wf = true) : Calls Try.prog 6 #[frV f, .int .i64 n] w fun e w' => e = .returned (.bool true) ∧ Below w.heap.size w w' := by
  have hsec := hid (fun w => secs_any f w h)
  have hrsec := hid (fun w => rsecs_any f w h)
  obtain ⟨k, ep, sq, p⟩ := f
  obtain ⟨o0, o1, o2, o3⟩ := h
  dsimp only at o0 o1 o2 o3
  have ho3 := hid o3
  unfold frV
  dsimp only
  clear o0 o1 o2 o3 wf
  have D := hid (Blk.new w [.int .u8 k, .int .u64 ep, .int .u64 sq, .string p] 45)
  have hB := hid ((Below.refl _ w).alloc (Nat.le_refl _) (.cells #[.int .u8 k, .int .u64 ep, .int .u64 sq, .string p] 45))
  go_enter Try.func6, Try.ntmps6
  go_wp2_with fail
  refine (hsec.out _).mono ?_
  rintro e w1 ⟨ao, m, cap, hm, rfl, hown, b1⟩
  have hv := hid (SecTold.strs hown hm)
  replace D := hid (D.out.below b1 D.out.lt)
  replace hB := hid (bt hB.out b1)
  have hmh := hid hm
  clear hown b1 hm hsec
  obtain ⟨d0, d1, d2, d3, df⟩ := D.out.four
  go_wp2_with fail
  refine (hrsec.out _).mono ?_
  rintro e w2 ⟨ao2, m2, cap2, hm2, rfl, hown, b2⟩
  have hu := hid (SecTold.strs hown hm2)
  replace hv := hid (hv.out.below b2)
  replace D := hid (D.out.below b2 D.out.lt)
  replace hB := hid (bt hB.out b2)
  have hmh2 := hid hm2
  clear hown b2 hm2 hrsec d0 d1 d2 d3 df
  obtain ⟨d0, d1, d2, d3, df⟩ := D.out.four
  obtain ⟨S, hS⟩ : ∃ S, sectorsE ⟨k, ep, sq, p⟩ = S := ⟨_, rfl⟩
  obtain ⟨L, c⟩ := S
  rw [hS] at hv hu ⊢
  dsimp only at hv hu ⊢
  clear hS hmh hmh2
  go_wp2_with fail
  refine (pieces_any n _).mono ?_
  rintro e w3 ⟨rfl, rfl⟩
  go_wp2_with fail
  refine (rpieces_any n _).mono ?_
  rintro e w3 ⟨rfl, rfl⟩
  generalize pcsE n = pe
  obtain ⟨p1, p2⟩ := pe
  dsimp only
  have q1 : (p1 == p1) = true := by simp
  have q2 : (p2 == p2) = true := by simp
  have q3 : (c == c) = true := by simp
  have q4 : (fchk k p.size == fchk k p.size) = true := by simp
  have hse := hid (strsEq_self L)
  go_wp2_with fail
  go_region_held3 (fun W => W.cell? ⟨w.heap.size, 0, none⟩ = some (.int .u8 k) ∧ W.cell? ⟨w.heap.size, 1, none⟩ = some (.int .u64 ep) ∧ W.cell? ⟨w.heap.size, 2, none⟩ = some (.int .u64 sq) ∧ W.cell? ⟨w.heap.size, 3, none⟩ = some (.string p)) (exact ⟨d0, d1, d2, d3⟩) (first
    | (go_at_call 36; (with_reducible refine (lives_any _).mono ?_); rintro e w4 ⟨rfl, b4⟩
       have b4' := (Below.refl w2.heap.size w2).drew.trans b4
       replace D := hid (D.out.below b4' D.out.lt)
       replace hB := hid (bt hB.out b4')
       replace hv := hid (hv.out.below b4')
       replace hu := hid (hu.out.below b4')
       clear b4 b4' d0 d1 d2 d3 df
       obtain ⟨d0, d1, d2, d3, df⟩ := D.out.four)
    | (go_at_call 37; (with_reducible refine (rsame_any L L _ _ _ hv.out hu.out).mono ?_); rw [hse.out]; rintro e w5 ⟨rfl, b5⟩
       replace D := hid (D.out.below b5 D.out.lt)
       replace hB := hid (bt hB.out b5)
       clear b5 d0 d1 d2 d3 df
       obtain ⟨d0, d1, d2, d3, df⟩ := D.out.four)
    | (go_at_call 38; (with_reducible refine (fcheck_any k ep sq p _ ho3.out).mono ?_); rintro e w6 ⟨rfl, b6⟩
       replace D := hid (D.out.below b6 D.out.lt)
       replace hB := hid (bt hB.out b6)
       clear b6 d0 d1 d2 d3 df
       obtain ⟨d0, d1, d2, d3, df⟩ := D.out.four)
    | (go_at_call 39; (with_reducible refine (frcheck_any k ep sq p _ ho3.out).mono ?_); rintro e w7 ⟨rfl, b7⟩
       replace D := hid (D.out.below b7 D.out.lt)
       replace hB := hid (bt hB.out b7)
       clear b7 d0 d1 d2 d3 df
       obtain ⟨d0, d1, d2, d3, df⟩ := D.out.four))
  all_goals
    go_wp2_with fail
    go_ret
    exact ⟨rfl, hB.out⟩
end Go.Proofs.Ytocoodccobipiaa.recordWrites
