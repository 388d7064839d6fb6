/-
  RecordApart: the walk.
-/
import Derived.Test.YtocoodccobipiaaRecLives
import Derived.Test.YtocoodccobipiaaRecArgs
namespace Go.Proofs.Ytocoodccobipiaa.recordApart
open Go.ChangeShapes Go.WideShapes Go.ChangeAt Go.RowKit
open Go.Proofs.Ytocoodccobipiaa.Mem Go.Proofs.Ytocoodccobipiaa.Rec
set_option linter.unusedVariables false
set_option maxRecDepth 100000
theorem secs_inj {f g : Fr} (hf : f.has) (hg : g.has) (cf : fchk f.kind f.pay.size = 0) (cg : fchk g.kind g.pay.size = 0) (h : secsL f = secsL g) : f = g := by
  have h1 := join_secs f (hf.okn cf) cf
  have h2 := join_secs g (hg.okn cg) cg
  rw [h, h2] at h1
  exact (Prod.mk.inj h1).1.symm
def eqB (f g : Fr) : Bool := ((f.kind : Int) == (g.kind : Int)) && ((f.epoch : Int) == (g.epoch : Int)) && ((f.seq : Int) == (g.seq : Int)) && (f.pay.toList == g.pay.toList)
theorem eqB_no {f g : Fr} (h : f ≠ g) : eqB f g = false := by
  obtain ⟨k, ep, sq, p⟩ := f
  obtain ⟨k2, ep2, sq2, p2⟩ := g
  rw [Bool.eq_false_iff]
  intro e
  simp only [eqB, Bool.and_eq_true, beq_iff_eq] at e
  obtain ⟨⟨⟨e1, e2⟩, e3⟩, e4⟩ := e
  apply h
  have e5 : p = p2 := by rw [ByteArray.toList_eq, ByteArray.toList_eq] at e4; exact ByteArray.ext (Array.ext' e4)
  subst e5
  congr 1 <;> omega
set_option maxHeartbeats 2000000 in
theorem walk (f g : Fr) (w : World) (hf : f.has) (hg : g.has) : Calls Try.prog 10 #[frV f, frV g] w fun e w' => e = .returned (.bool true) ∧ Below w.heap.size w w' := by
  have hsf := hid (fun w => secs_any f w hf)
  have hsg := hid (fun w => secs_any g w hg)
  have hinj := hid (fun cf cg => @secs_inj f g hf hg cf cg)
  obtain ⟨k, ep, sq, p⟩ := f
  obtain ⟨k2, ep2, sq2, p2⟩ := g
  unfold frV
  dsimp only
  go_enter Try.func10, Try.ntmps10
  go_wp2_with fail
  have F0 := (Blk.new w [.int .u8 k, .int .u64 ep, .int .u64 sq, .string p] 45).alloc (.cells #[.int .u8 k2, .int .u64 ep2, .int .u64 sq2, .string p2] 45)
  have G0 := Blk.new' (w.alloc (.cells #[.int .u8 k, .int .u64 ep, .int .u64 sq, .string p] 45)) [.int .u8 k2, .int .u64 ep2, .int .u64 sq2, .string p2] 45 (w.heap.size + 1) (by simp)
  refine (lives_any _).mono ?_
  rintro e w1 ⟨rfl, b1⟩
  have F1 := F0.below b1 F0.lt
  have G1 := G0.below b1 G0.lt
  have hB1 := hid ((show Below w.heap.size w _ from by go_grown).trans (b1.mono (by simp; omega)))
  obtain ⟨c0, c1, c2, c3, cf⟩ := F1.four
  have F1' := hid F1
  have G1' := hid G1
  clear F0 F1 G0 G1 b1
  go_wp2_with fail
  refine (hsf.out _).mono ?_
  rintro e w2 ⟨ao, n, cap, hn, rfl, hown, b2⟩
  have F2 := hid (F1'.out.below b2 F1'.out.lt)
  have G2 := G1'.out.below b2 G1'.out.lt
  have hB2 := hid (bt hB1.out b2)
  have hsv := hid (SecTold.strs hown hn)
  have hnh := hid hn
  clear hn
  clear c0 c1 c2 c3 cf F1' G1' hB1 b2 hown hsf
  obtain ⟨c0, c1, c2, c3, cf⟩ := G2.four
  have G2' := hid G2
  clear G2
  go_wp2_with fail
  refine (hsg.out _).mono ?_
  rintro e w3 ⟨ao2, n2, cap2, hn2, rfl, hown, b3⟩
  have F3 := F2.out.below b3 F2.out.lt
  have G3 := G2'.out.below b3 G2'.out.lt
  have hB3 := hid (bt hB2.out b3)
  have hsu := hid (SecTold.strs hown hn2)
  have hnh2 := hid hn2
  clear hn2
  have hsv3 := hid (hsv.out.below b3)
  clear c0 c1 c2 c3 cf F2 G2' hB2 b3 hown hsg hsv
  obtain ⟨c0, c1, c2, c3, cf⟩ := F3.four
  obtain ⟨g0, g1, g2, g3, gf⟩ := G3.four
  have F3' := hid F3
  have G3' := hid G3
  clear F3 G3
  by_cases hc : fchk k p.size = 0
  · have he : sectorsE ⟨k, ep, sq, p⟩ = (secsL ⟨k, ep, sq, p⟩, 0) := by unfold sectorsE; rw [if_pos hc]
    rw [he] at hnh hsv3 ⊢
    by_cases hc2 : fchk k2 p2.size = 0
    · have he2 : sectorsE ⟨k2, ep2, sq2, p2⟩ = (secsL ⟨k2, ep2, sq2, p2⟩, 0) := by unfold sectorsE; rw [if_pos hc2]
      rw [he2] at hnh2 hsu ⊢
      have hin := hid (hinj.out hc hc2)
      have hsame : (⟨k, ep, sq, p⟩ : Fr) = ⟨k2, ep2, sq2, p2⟩ → secsL ⟨k, ep, sq, p⟩ = secsL ⟨k2, ep2, sq2, p2⟩ := fun h => by rw [h]
      have hsm := hid hsame
      clear hc he hc2 he2 hsame hinj
      generalize secsL ⟨k, ep, sq, p⟩ = L at hnh hsv3 hin hsm
      generalize secsL ⟨k2, ep2, sq2, p2⟩ = M at hnh2 hsu hin hsm
      dsimp only at hnh hnh2 hsv3 hsu
      have hLl : Hid (L.length = n) := hid hnh.out.symm
      have hMl : Hid (M.length = n2) := hid hnh2.out.symm
      have hnm : n ≤ 9223372036854775807 := by have := hsv3.out.len; unfold maxLen at this; have := hLl.out; omega
      have hnm2 : n2 ≤ 9223372036854775807 := by have := hsu.out.len; unfold maxLen at this; have := hMl.out; omega
      clear hnh hnh2
      by_cases hl : n = n2
      · subst hl
        have hq : ((n : Int) == (n : Int)) = true := by simp
        go_wp2_with fail
        go_loopw [9, 10] (fun al i wr => ∃ j : Nat, j ≤ n ∧ i = .int .i64 j ∧ (∃ q, wr = w3.drewN q) ∧ ∃ t : Bool, al = .bool t ∧ Hid ((t = true → L.take j = M.take j) ∧ (t = false → L ≠ M))) (fun _ i _ => n - (intOf i).toNat)
        case atStart => exact ⟨0, by omega, rfl, ⟨0, rfl⟩, true, by rfl, hid ⟨fun _ => by simp, fun h => by cases h⟩⟩
        case round =>
          obtain ⟨j, hj, rfl, ⟨q, rfl⟩, t, rfl, ht⟩ := hrel
          cases t with
          | false =>
            have hne : Hid (eqB ⟨k, ep, sq, p⟩ ⟨k2, ep2, sq2, p2⟩ = false) := hid (eqB_no fun h => ht.out.2 rfl (hsm.out h))
            go_wp2_with fail
            all_goals first
              | (go_ret; exact ⟨rfl, hB3.out.trans (below_drewN' _ _ _)⟩)
              | (exfalso; have h9 := hne.out; simp [eqB, *] at h9)
          | true =>
            by_cases hlt : j < n
            · obtain ⟨b, off, cap', hv, _, _, hb, hcc⟩ := hsv3.out.open (by rw [hLl.out]; omega)
              simp only [Value.slice.injEq] at hv
              obtain ⟨rfl, -, rfl⟩ := hv
              obtain ⟨b2, off2, cap2', hv, _, _, hb2, hcc2⟩ := hsu.out.open (by rw [hMl.out]; omega)
              simp only [Value.slice.injEq] at hv
              obtain ⟨rfl, -, rfl⟩ := hv
              have hjl : j < L.length := by rw [hLl.out]; exact hlt
              have hjm : j < M.length := by rw [hMl.out]; exact hlt
              have x0 := hcc j hjl
              have y0 := hcc2 j hjm
              have hjn : (j : Int) < (n : Int) := by omega
              have hj0 : (0 : Int) ≤ (j : Int) := by omega
              clear hcc hcc2
              have hts := hid (List.take_succ_eq_append_getElem hjl)
              have htm := hid (List.take_succ_eq_append_getElem hjm)
              by_cases hx : L[j] = M[j]
              · have hxe := str_yes hx
                have hnx : Hid ((true = true → L.take (j + 1) = M.take (j + 1)) ∧ (true = false → L ≠ M)) := hid ⟨fun _ => by rw [hts.out, htm.out, ht.out.1 rfl, hx], fun h => by cases h⟩
                clear hx
                go_wp2_with fail
                go_quiet (fail)
                go_wp2_with fail
                go_roundw
                case rel => exact ⟨j + 1, by omega, by go_num, ⟨_, rfl⟩, true, rfl, hid ⟨(fun _ => hnx.out.1 trivial), (fun h => by cases h)⟩⟩
                case measure => simp [intOf]; omega
              · have hxe := str_no hx
                have hnx : Hid ((false = true → L.take (j + 1) = M.take (j + 1)) ∧ (false = false → L ≠ M)) := hid ⟨(fun h => by cases h), (fun _ h => hx (by subst h; rfl))⟩
                clear hx
                go_wp2_with fail
                go_quiet (fail)
                go_wp2_with fail
                go_roundw
                case rel => exact ⟨j + 1, by omega, by go_num, ⟨_, rfl⟩, false, rfl, hid ⟨(fun h => by cases h), (fun _ => hnx.out.2 trivial)⟩⟩
                case measure => simp [intOf]; omega
            · obtain rfl : j = n := by omega
              have hLM : L = M := by
                have := ht.out.1 rfl
                rwa [List.take_of_length_le (by rw [hLl.out]; exact Nat.le_refl _), List.take_of_length_le (by rw [hMl.out]; exact Nat.le_refl _)] at this
              have hsame := hin.out hLM
              clear hLM
              simp only [Fr.mk.injEq] at hsame
              obtain ⟨rfl, rfl, rfl, rfl⟩ := hsame
              have hpp : (p.toList == p.toList) = true := str_yes rfl
              go_wp2_with fail
              go_ret
              exact ⟨by simp, below_drewN' _ _ _ |> fun h => hB3.out.trans h⟩
      · have hq : ((n : Int) == (n2 : Int)) = false := by rw [beq_eq_false_iff_ne]; omega
        have hne : Hid (eqB ⟨k, ep, sq, p⟩ ⟨k2, ep2, sq2, p2⟩ = false) := hid (eqB_no fun h => hl (by rw [← hLl.out, ← hMl.out, hsm.out h]))
        clear hl
        go_wp2_with fail
        go_rounds 1
        all_goals first
          | (go_ret; exact ⟨rfl, hB3.out⟩)
          | (exfalso; have h9 := hne.out; simp [eqB, *] at h9)
    · have he2 : sectorsE ⟨k2, ep2, sq2, p2⟩ = ([], fchk k2 p2.size) := by unfold sectorsE; rw [if_neg hc2]
      have hq : (fchk k2 p2.size != 0) = true := by simpa using hc2
      rw [he2] at hnh2 hsu ⊢
      generalize fchk k2 p2.size = c at hq ⊢
      clear hc he hc2 he2 hinj hsu
      go_wp2_with fail
      go_ret
      exact ⟨rfl, hB3.out⟩
  · have he : sectorsE ⟨k, ep, sq, p⟩ = ([], fchk k p.size) := by unfold sectorsE; rw [if_neg hc]
    have hq : (fchk k p.size != 0) = true := by simpa using hc
    rw [he] at hnh hsv3 ⊢
    generalize fchk k p.size = c at hq ⊢
    clear hc he hinj hsv3
    go_wp2_with fail
    go_ret
    exact ⟨rfl, hB3.out⟩
end Go.Proofs.Ytocoodccobipiaa.recordApart
