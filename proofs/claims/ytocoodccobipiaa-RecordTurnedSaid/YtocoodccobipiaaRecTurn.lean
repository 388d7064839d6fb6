/-
  What a bit turned does to a frame's sectors; no piece is a head. No walk.
-/
import Derived.Test.YtocoodccobipiaaRecFacts
namespace Go.Proofs.Ytocoodccobipiaa.Rec
open Go.Proofs.Ytocoodccobipiaa.Mem Go.Proofs.Ytocoodccobipiaa.CrcMath
open Go.Proofs.Ytocoodccobipiaa.Crc (leb leb_len num num_leb4 num_leb8)
set_option linter.unusedVariables false
set_option maxRecDepth 10000

theorem flip_ne (l : By) (p : Nat) (h : p / 8 < l.length) : flip l p ≠ l := fun e => more_flip 0 l p h (by rw [e])
theorem flip_at (l : By) (p t : Nat) (h : p / 8 < l.length) (ht : t ≠ p / 8) : (flip l p)[t]? = l[t]? := by
  unfold CrcMath.flip
  rw [List.getElem?_set_ne (fun e => ht e.symm)]
theorem flip_same (l : By) (p : Nat) (h : p / 8 < l.length) : (flip l p)[p / 8]? = some (turn (l.getD (p / 8) 0) (p % 8)) := by
  unfold CrcMath.flip
  rw [List.getElem?_set_self h]
theorem head_take (h : Hd) : (headL h).take 26 = said h := by
  unfold headL fill
  rw [List.append_assoc, List.take_append_of_le_length (by rw [said_len]; exact Nat.le_refl _), List.take_of_length_le (by rw [said_len]; exact Nat.le_refl _)]
theorem head_rest (h : Hd) : ((headL h).drop 26).take 4 = leb 4 (more 0 (said h)) := by
  unfold headL fill
  rw [List.append_assoc, List.drop_append_of_le_length (by rw [said_len]; exact Nat.le_refl _), List.drop_of_length_le (by rw [said_len]; exact Nat.le_refl _), List.nil_append, List.take_append_of_le_length (by rw [leb_len]; exact Nat.le_refl _), List.take_of_length_le (by rw [leb_len]; exact Nat.le_refl _)]
theorem head_flip (g h : Hd) (p : Nat) (hp : p / 8 < 64) : headL g ≠ flip (headL h) p := by
  intro e
  have hlen : p / 8 < (headL h).length := by rw [headL_len]; exact hp
  by_cases hs : p / 8 < 26
  · have e1 : said g = flip (said h) p := by
      rw [← head_take g, e, ← head_take h]
      unfold CrcMath.flip
      rw [List.take_set]
      congr 2
      simp only [List.getD, List.getElem?_take, if_pos hs]
    have e2 : leb 4 (more 0 (said g)) = leb 4 (more 0 (said h)) := by
      rw [← head_rest g, ← head_rest h, e]
      unfold CrcMath.flip
      rw [List.drop_set_of_lt hs]
    have e3 := congrArg num e2
    rw [num_leb4 _ (more_lt' _), num_leb4 _ (more_lt' _), e1] at e3
    exact more_flip 0 (said h) p (by rw [said_len]; exact hs) e3
  · have e1 : said g = said h := by
      rw [← head_take g, e, ← head_take h]
      unfold CrcMath.flip
      rw [List.take_set, List.set_eq_of_length_le (by rw [List.length_take, headL_len]; omega)]
    have e2 : headL g = headL h := by unfold headL; rw [e1]
    exact flip_ne _ p hlen (e.symm.trans e2)
theorem piece_at (p : By) (i r : Nat) (hr : r < 61) (h : i * 61 + r < p.length) : (pieceL i (part p i))[3 + r]? = p[i * 61 + r]? := by
  unfold pieceL fill
  rw [List.getElem?_append_left (by simp [part]; omega), Nat.add_comm 3 r]
  show (part p i)[r]? = _
  unfold part
  rw [List.getElem?_take, if_pos hr, List.getElem?_drop]
theorem secs_zero (f : Fr) : (secsL f)[0]? = some (bs (headL (hdOf f))) := rfl
theorem secs_at (f : Fr) (i : Nat) (h : i < pcs f.pay.size) : (secsL f)[i + 1]? = some (bs (pieceL i (part f.pay.data.toList i))) := by
  simp [secsL, h]
theorem piece_flip (a b : By) (k j p : Nat) (hl : b.length = a.length) (hk : k = pcs a.length) (hj : j < k) (hp : p / 8 < 64) (hsum : more 0 b = more 0 a)
    (ho : ∀ i, i < k → i ≠ j → pieceL i (part b i) = pieceL i (part a i)) (hf : pieceL j (part b j) = flip (pieceL j (part a j)) p) : False := by
  have hpl : p / 8 < (pieceL j (part a j)).length := by rw [pieceL_len _ _ (by rw [part_len]; omega)]; exact hp
  have hat : ∀ t, t < a.length → ¬ (t / 61 = j ∧ 3 + t % 61 = p / 8) → b[t]? = a[t]? := by
    intro t ht hn
    have hd : t / 61 * 61 + t % 61 = t := Nat.div_add_mod' t 61
    have hr : t % 61 < 61 := Nat.mod_lt _ (by omega)
    have h1 := piece_at b (t / 61) (t % 61) hr (by rw [hd]; omega)
    have h2 := piece_at a (t / 61) (t % 61) hr (by rw [hd]; exact ht)
    rw [hd] at h1 h2
    rw [← h1, ← h2]
    by_cases hi : t / 61 = j
    · rw [hi, hf, flip_at _ _ _ hpl (fun e => hn ⟨hi, e⟩)]
    · rw [ho _ (by rw [hk]; unfold pcs; omega) hi]
  by_cases hin : 3 ≤ p / 8 ∧ j * 61 + (p / 8 - 3) < a.length
  · obtain ⟨h3, hlt⟩ := hin
    have hm : (8 * (j * 61 + (p / 8 - 3)) + p % 8) / 8 = j * 61 + (p / 8 - 3) := by omega
    have hm2 : (8 * (j * 61 + (p / 8 - 3)) + p % 8) % 8 = p % 8 := by omega
    have e : b = flip a (8 * (j * 61 + (p / 8 - 3)) + p % 8) := by
      apply List.ext_getElem?
      intro t
      by_cases ht : t < a.length
      · by_cases hc : t / 61 = j ∧ 3 + t % 61 = p / 8
        · have htt : t = j * 61 + (p / 8 - 3) := by omega
          have hd : t / 61 * 61 + t % 61 = t := Nat.div_add_mod' t 61
          have hr : t % 61 < 61 := Nat.mod_lt _ (by omega)
          have h1 := piece_at b (t / 61) (t % 61) hr (by rw [hd]; omega)
          have h2 := piece_at a (t / 61) (t % 61) hr (by rw [hd]; exact ht)
          rw [hd, hc.1, hc.2] at h1 h2
          have h3 := flip_same a (8 * (j * 61 + (p / 8 - 3)) + p % 8) (by rw [hm]; exact hlt)
          rw [hm, hm2, ← htt] at h3
          rw [← htt, h3, ← h1, hf, flip_same _ _ hpl]
          simp only [List.getD, h2]
        · rw [hat t ht hc, flip_at _ _ _ (by rw [hm]; exact hlt) (by rw [hm]; intro e; apply hc; omega)]
      · rw [List.getElem?_eq_none (by omega), List.getElem?_eq_none (by rw [flip_length]; omega)]
    rw [e] at hsum
    exact more_flip 0 a _ (by rw [hm]; exact hlt) hsum
  · have e : b = a := by
      apply List.ext_getElem?
      intro t
      by_cases ht : t < a.length
      · exact hat t ht (by intro hc; apply hin; omega)
      · rw [List.getElem?_eq_none (by omega), List.getElem?_eq_none (by omega)]
    rw [e] at hf
    exact flip_ne _ p hpl hf.symm
theorem sec_len (f : Fr) (i : Nat) (h : i < (secsL f).length) : (secsL f)[i].size = 64 := by
  cases i with
  | zero => show (bs (headL (hdOf f))).size = 64; rw [bs_size, headL_len]
  | succ j =>
    rw [secsL_len] at h
    have := secs_at f j (by omega)
    rw [List.getElem?_eq_getElem (by rw [secsL_len]; exact h)] at this
    rw [Option.some.inj this, bs_size, pieceL_len _ _ (by rw [part_len]; omega)]
/-- A bit turned: no frame. -/
theorem join_turned (f : Fr) (ok : f.okn) (hf : fchk f.kind f.pay.size = 0) (i p : Nat) (hi : i < (secsL f).length) (hp : p / 8 < 64) :
    joinE ((secsL f).set i (bs (flip (secsL f)[i].data.toList p))) = (zeroFr, 14) := by
  rcases join_two ((secsL f).set i (bs (flip (secsL f)[i].data.toList p))) with h | ⟨g, _, hs, hc, k1, k2, k3⟩
  · exact h
  · exfalso
    have hgo : g.okn := ⟨k1, k2, k3, by have := (fchk_zero hc).2; omega⟩
    have hlen := congrArg List.length hs
    rw [List.length_set, secsL_len, secsL_len] at hlen
    cases i with
    | zero =>
      have e0 := congrArg (·[0]?) hs
      try dsimp only at e0
      rw [secs_zero, List.getElem?_set_self hi] at e0
      have e1 := bs_inj (Option.some.inj e0)
      have e2 : (secsL f)[0].data.toList = headL (hdOf f) := bs_list _
      rw [e2] at e1
      exact head_flip _ _ p hp e1
    | succ j =>
      have hj : j < pcs f.pay.size := by rw [secsL_len] at hi; omega
      have e0 := congrArg (·[0]?) hs
      try dsimp only at e0
      rw [secs_zero, List.getElem?_set_ne (by omega), secs_zero] at e0
      have e1 := bs_inj (Option.some.inj e0)
      have e2 := congrArg readHd e1
      rw [readHd_headL _ (hdOf_okn hgo (fchk_zero hc).2), readHd_headL _ (hdOf_okn ok (fchk_zero hf).2)] at e2
      have e3 : g.pay.data.toList.length = f.pay.data.toList.length := congrArg Hd.len e2
      have e4 : more 0 g.pay.data.toList = more 0 f.pay.data.toList := congrArg Hd.sum e2
      have e5 : g.pay.size = f.pay.size := e3
      have hij : (secsL f)[j + 1].data.toList = pieceL j (part f.pay.data.toList j) := by
        have := secs_at f j hj
        rw [List.getElem?_eq_getElem hi] at this
        rw [Option.some.inj this, bs_list]
      refine piece_flip f.pay.data.toList g.pay.data.toList (pcs f.pay.size) j p e3 rfl hj hp e4 (fun t ht hne => ?_) ?_
      · have e6 := congrArg (·[t + 1]?) hs
        try dsimp only at e6
        rw [secs_at g t (by rw [e5]; exact ht), List.getElem?_set_ne (by omega), secs_at f t ht] at e6
        exact bs_inj (Option.some.inj e6)
      · have e6 := congrArg (·[j + 1]?) hs
        try dsimp only at e6
        rw [secs_at g j (by rw [e5]; exact hj), List.getElem?_set_self hi, hij] at e6
        exact bs_inj (Option.some.inj e6)
/-- No piece is a head. -/
theorem piece_no (i : Nat) (q : By) : headOk (pieceL i q) = false := by
  rw [Bool.eq_false_iff]
  intro h
  have h4 := (headOk_facts h).2.2.2
  have h5 := congrArg List.head? h4
  have h6 : (headL (readHd (pieceL i q))).head? = some 72 := rfl
  rw [h6] at h5
  exact absurd (Option.some.inj h5) (by decide)
theorem tail_no (f : Fr) (i : Nat) (h : i + 1 < (secsL f).length) : headE (secsL f)[i + 1].data.toList = (zeroHd, 14) := by
  have hj : i < pcs f.pay.size := by rw [secsL_len] at h; omega
  have := secs_at f i hj
  rw [List.getElem?_eq_getElem h] at this
  rw [Option.some.inj this, bs_list]
  exact hd_bad (piece_no i _)
end Go.Proofs.Ytocoodccobipiaa.Rec
