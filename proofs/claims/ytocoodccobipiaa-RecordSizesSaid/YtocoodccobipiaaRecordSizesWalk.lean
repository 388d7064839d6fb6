/-
  RecordSizes: the walk.
-/
import Derived.Test.YtocoodccobipiaaRecLives
import Derived.Test.YtocoodccobipiaaRecArgs
namespace Go.Proofs.Ytocoodccobipiaa.recordSizes
open Go.ChangeShapes Go.WideShapes Go.ChangeAt Go.RowKit
open Go.Proofs.Ytocoodccobipiaa.Mem Go.Proofs.Ytocoodccobipiaa.Rec
set_option linter.unusedVariables false
set_option maxRecDepth 100000
theorem secs64 (f : Fr) : ∀ s ∈ secsL f, s.size = 64 := by
  intro s hs
  rw [secsL_eq] at hs
  rcases List.mem_cons.1 hs with rfl | hs
  · rw [bs_size, headL_len]
  · have := all64_pieces f.pay.data.toList (pcs f.pay.size)
    simp only [all64, List.all_eq_true, decide_eq_true_eq] at this
    exact this s hs
set_option maxHeartbeats 2000000 in
theorem walk (f : Fr) (w : World) (h : f.has) : Calls Try.prog 9 #[frV f] w fun e w' => e = .returned (.bool true) ∧ Below w.heap.size w w' := by
  have hsec := hid (fun w => secs_any f w h)
  obtain ⟨k, ep, sq, p⟩ := f
  obtain ⟨o0, o1, o2, o3⟩ := h
  dsimp only at o0 o1 o2 o3
  unfold frV
  go_enter Try.func9, Try.ntmps9
  go_wp2_with fail
  have F0 := Blk.new w [.int .u8 k, .int .u64 ep, .int .u64 sq, .string p] 45
  refine (lives_any _).mono ?_
  rintro e w1 ⟨rfl, b1⟩
  have F1 := F0.below b1 F0.lt
  have hB1 := hid ((show Below w.heap.size w _ from by go_grown).trans (b1.mono (by simp)))
  obtain ⟨c0, c1, c2, c3, cf⟩ := F1.four
  have F1' := hid F1
  clear F0 F1 b1
  go_wp2_with fail
  refine (hsec.out _).mono ?_
  rintro e w2 ⟨ao, n, cap, hn, rfl, hown, b2⟩
  have F2 := F1'.out.below b2 F1'.out.lt
  have hB2 := hid (bt hB1.out b2)
  have hsv := hid (SecTold.strs hown hn)
  clear c0 c1 c2 c3 cf F1' hB1 b2 hown hsec
  obtain ⟨c0, c1, c2, c3, cf⟩ := F2.four
  have F2' := hid F2
  clear F2
  by_cases hc : fchk k p.size = 0
  · have he : sectorsE ⟨k, ep, sq, p⟩ = (secsL ⟨k, ep, sq, p⟩, 0) := by unfold sectorsE; rw [if_pos hc]
    have hz := fchk_zero hc
    rw [he] at hn hsv ⊢
    have hn2 : n = pcs p.size + 1 := by rw [hn]; exact secsL_len ⟨k, ep, sq, p⟩
    have hl : (secsL ⟨k, ep, sq, p⟩).length = n := hn.symm
    have h64 := hid (secs64 ⟨k, ep, sq, p⟩)
    have hl' := hid hl
    obtain ⟨m, hm⟩ : ∃ m : Nat, pcs p.size = m := ⟨_, rfl⟩
    have hmp : Hid (pcsE (p.size : Int) = ((m : Int), 0)) := hid (by rw [pcsE_nat _ hz.2, hm])
    rw [hm] at hn2
    have hm1 : p.size ≤ 61 * m := by rw [← hm]; unfold pcs; omega
    have hm2 : 61 * m ≤ p.size + 60 := by rw [← hm]; unfold pcs; omega
    have hnb : n ≤ 300 := by have := hz.2; omega
    have hn3 := hid hn2
    have hm1' := hid hm1
    have hm2' := hid hm2
    have hzz := hid hz.2
    clear hc he hz hn hm hn2 hm1 hm2 hl
    go_wp2_with fail
    refine (pieces_any p.size _).mono ?_
    rw [hmp.out]
    rintro e w3 ⟨rfl, rfl⟩
    generalize secsL ⟨k, ep, sq, p⟩ = L at hsv h64 hl'
    go_wp2_with fail
    go_loop [41] (fun i => ∃ j : Nat, j ≤ n ∧ i = .int .i64 j) (fun i => n - (intOf i).toNat)
    case atStart => exact ⟨0, by omega, rfl⟩
    case round =>
      obtain ⟨j, hj, rfl⟩ := hrel
      by_cases hlt : j < n
      · obtain ⟨b, off, cap', hv, _, _, hb, hcc⟩ := hsv.out.open (by rw [hl'.out]; omega)
        simp only [Value.slice.injEq] at hv
        obtain ⟨rfl, _, rfl⟩ := hv
        have hjl : j < L.length := by rw [hl'.out]; exact hlt
        have x0 := hcc j hjl
        have g1 := h64.out L[j] (List.getElem_mem hjl)
        obtain ⟨s, hs⟩ : ∃ s, L[j] = s := ⟨_, rfl⟩
        rw [hs] at x0 g1
        have g2 : ((s.size : Int) != 64) = false := by rw [g1]; rfl
        have hjn : (j : Int) < (n : Int) := by omega
        have hj0 : (0 : Int) ≤ (j : Int) := by omega
        clear hcc g1 hs
        go_wp2_with fail
        go_round
        case rel => exact ⟨j + 1, by omega, by go_num⟩
        case measure => simp [intOf]; omega
      · obtain rfl : j = n := by omega
        have q1 : ((j : Int) == (m : Int) + 1) = true := by rw [beq_iff_eq, hn3.out]; rfl
        have q2 : (p.size : Int) ≤ 61 * (m : Int) := by have := hm1'.out; omega
        have q3 : 61 * ((m : Int) - 1) < max (p.size : Int) 1 := by have := hm2'.out; omega
        have q4 : (m : Int) ≤ 300 := by have := hm2'.out; have := hzz.out; omega
        go_wp2_with fail
        go_ret
        exact ⟨rfl, hB2.out⟩
  · have he : sectorsE ⟨k, ep, sq, p⟩ = ([], fchk k p.size) := by unfold sectorsE; rw [if_neg hc]
    rw [he] at hn ⊢
    have hn0 : n = 0 := hn
    subst hn0
    by_cases hk : k = 0
    · have hf : fchk k p.size = 1 := by unfold fchk; rw [if_pos hk]
      have hk0 : ((k : Int) == 0) = true := by simp [hk]
      rw [hf]
      clear hc he hn hk hf hsv
      go_wp2_with fail
      go_ret
      exact ⟨rfl, hB2.out⟩
    · have hbig : 16384 < p.size := by
        unfold fchk at hc
        rw [if_neg hk] at hc
        split at hc
        · assumption
        · exact absurd rfl hc
      have hf : fchk k p.size = 3 := by unfold fchk; rw [if_neg hk, if_pos hbig]
      have hk0 : ((k : Int) == 0) = false := by simp; omega
      have hb : (16384 : Int) < (p.size : Int) := by omega
      rw [hf]
      clear hc he hn hk hf hsv hbig
      go_wp2_with fail
      go_ret
      exact ⟨rfl, hB2.out⟩
end Go.Proofs.Ytocoodccobipiaa.recordSizes
