/-
  What frames' sectors come to: there and back. No walk.
-/
import Derived.Test.YtiegocbdgimimaaRecJoin
namespace Go.Proofs.Ytiegocbdgimimaa.Rec
open Go.Proofs.Ytiegocbdgimimaa.Mem Go.Proofs.Ytiegocbdgimimaa.CrcMath
open Go.Proofs.Ytiegocbdgimimaa.Crc (leb leb_len num num_leb4 num_leb8)
set_option linter.unusedVariables false
set_option maxRecDepth 10000

theorem sub_mid (a b c : By) (i n : Nat) (hi : a.length = i) (hn : b.length = n) : sub (a ++ b ++ c) i n = b := by
  unfold sub
  rw [List.append_assoc, List.drop_append_of_le_length (by omega), List.drop_of_length_le (by omega), List.nil_append, List.take_append_of_le_length (by omega), List.take_of_length_le (by omega)]
theorem headL_eq (h : Hd) : headL h = [72, UInt8.ofNat h.kind] ++ leb 8 h.epoch ++ leb 8 h.seq ++ leb 4 h.len ++ leb 4 h.sum ++ (leb 4 (more 0 (said h)) ++ List.replicate 34 0) := by
  unfold headL fill
  rw [List.length_append, said_len, leb_len]
  simp [said]
theorem readHd_headL (h : Hd) (ok : h.okn) : readHd (headL h) = h := by
  obtain ⟨k, ep, sq, ln, sm⟩ := h
  obtain ⟨o0, o1, o2, o3, o4⟩ := ok
  dsimp only at o0 o1 o2 o3 o4
  have e := headL_eq ⟨k, ep, sq, ln, sm⟩
  dsimp only at e
  have s1 : sub (headL ⟨k, ep, sq, ln, sm⟩) 2 8 = leb 8 ep := by
    rw [e]; simp only [List.append_assoc]
    have := sub_mid [72, UInt8.ofNat k] (leb 8 ep) (leb 8 sq ++ (leb 4 ln ++ (leb 4 sm ++ (leb 4 (more 0 (said ⟨k, ep, sq, ln, sm⟩)) ++ List.replicate 34 0)))) 2 8 rfl (leb_len _ _)
    simpa only [List.append_assoc] using this
  have s2 : sub (headL ⟨k, ep, sq, ln, sm⟩) 10 8 = leb 8 sq := by
    rw [e]
    have := sub_mid ([72, UInt8.ofNat k] ++ leb 8 ep) (leb 8 sq) (leb 4 ln ++ (leb 4 sm ++ (leb 4 (more 0 (said ⟨k, ep, sq, ln, sm⟩)) ++ List.replicate 34 0))) 10 8 (by simp [leb_len]) (leb_len _ _)
    simpa only [List.append_assoc] using this
  have s3 : sub (headL ⟨k, ep, sq, ln, sm⟩) 18 4 = leb 4 ln := by
    rw [e]
    have := sub_mid ([72, UInt8.ofNat k] ++ leb 8 ep ++ leb 8 sq) (leb 4 ln) (leb 4 sm ++ (leb 4 (more 0 (said ⟨k, ep, sq, ln, sm⟩)) ++ List.replicate 34 0)) 18 4 (by simp [leb_len]) (leb_len _ _)
    simpa only [List.append_assoc] using this
  have s4 : sub (headL ⟨k, ep, sq, ln, sm⟩) 22 4 = leb 4 sm := by
    rw [e]
    have := sub_mid ([72, UInt8.ofNat k] ++ leb 8 ep ++ leb 8 sq ++ leb 4 ln) (leb 4 sm) (leb 4 (more 0 (said ⟨k, ep, sq, ln, sm⟩)) ++ List.replicate 34 0) 22 4 (by simp [leb_len]) (leb_len _ _)
    simpa only [List.append_assoc] using this
  have s0 : (headL ⟨k, ep, sq, ln, sm⟩).getD 1 0 = UInt8.ofNat k := by rw [e]; rfl
  unfold readHd
  rw [s0, s1, s2, s3, s4, num_leb8 _ o1, num_leb8 _ o2, num_leb4 _ o3, num_leb4 _ o4]
  congr 1
  simp
  omega
theorem headOk_headL (h : Hd) (ok : h.okn) (hk : h.kind ≠ 0) (hl : h.len ≤ 16384) : headOk (headL h) = true := by
  unfold headOk
  rw [readHd_headL h ok, headL_len]
  simp [hk, hl]
theorem drop_piece (i : Nat) (q : By) (h : q.length ≤ 61) : (pieceL i q).drop 3 = q ++ List.replicate (61 - q.length) 0 := by
  unfold pieceL fill
  rw [show [66, UInt8.ofNat i, UInt8.ofNat (i / 256)] ++ q = 66 :: UInt8.ofNat i :: UInt8.ofNat (i / 256) :: q from rfl]
  simp only [List.length_cons, List.cons_append, List.drop_succ_cons, List.drop_zero]
  congr 2
  omega
def piecesL (p : By) (k : Nat) : List ByteArray := (List.range k).map fun i => bs (pieceL i (part p i))
theorem piecesL_succ (p : By) (k : Nat) : piecesL p (k + 1) = piecesL p k ++ [bs (pieceL k (part p k))] := by simp [piecesL, List.range_succ]
theorem bodies_pieces (p : By) (k : Nat) (hk : k ≤ pcs p.length) : bodies (piecesL p k) = p.take (k * 61) ++ List.replicate (k * 61 - p.length) 0 := by
  induction k with
  | zero => simp [piecesL, bodies]
  | succ k ih =>
    have hlt : k * 61 < p.length := by unfold pcs at hk; omega
    rw [piecesL_succ, bodies_snoc, ih (by omega), bs_list, drop_piece _ _ (by rw [part_len]; omega), show k * 61 - p.length = 0 by omega]
    simp only [List.replicate_zero, List.append_nil]
    rw [← List.append_assoc]
    congr 1
    · unfold part
      rw [show (k + 1) * 61 = k * 61 + 61 by omega, List.take_add]
    · congr 1
      rw [part_len]; omega
theorem all64_pieces (p : By) (k : Nat) : all64 (piecesL p k) = true := by
  unfold all64 piecesL
  rw [List.all_eq_true]
  intro s hs
  obtain ⟨i, _, rfl⟩ := List.mem_map.1 hs
  rw [decide_eq_true_eq, bs_size, pieceL_len _ _ (by rw [part_len]; omega)]
theorem joined_pieces (p : By) : joinedE (piecesL p (pcs p.length)) p.length = (p, 0) := by
  unfold joinedE
  rw [if_pos ⟨by simp [piecesL], all64_pieces _ _⟩, bodies_pieces p _ (Nat.le_refl _), List.take_append_of_le_length (by rw [List.length_take]; unfold pcs; omega), List.take_of_length_le (by rw [List.length_take]; omega), List.take_of_length_le (by unfold pcs; omega)]
theorem secsL_eq (f : Fr) : secsL f = bs (headL (hdOf f)) :: piecesL f.pay.data.toList (pcs f.pay.size) := rfl
/-- There and back. -/
theorem join_secs (f : Fr) (ok : f.okn) (hf : fchk f.kind f.pay.size = 0) : joinE (secsL f) = (f, 0) := by
  obtain ⟨h1, h2⟩ := fchk_zero hf
  have hok := hdOf_okn ok h2
  have e1 : readHd (bs (headL (hdOf f))).data.toList = hdOf f := by rw [bs_list]; exact readHd_headL _ hok
  have e2 : headOk (bs (headL (hdOf f))).data.toList = true := by rw [bs_list]; exact headOk_headL _ hok h1 h2
  have e3 : joinedE (piecesL f.pay.data.toList (pcs f.pay.size)) f.pay.size = (f.pay.data.toList, 0) := joined_pieces f.pay.data.toList
  have e4 : frOf (bs (headL (hdOf f))) (piecesL f.pay.data.toList (pcs f.pay.size)) = f := by
    unfold frOf
    rw [e1]
    show (⟨f.kind, f.epoch, f.seq, bs (joinedE (piecesL f.pay.data.toList (pcs f.pay.size)) f.pay.size).1⟩ : Fr) = f
    rw [e3, bs_of]
  rw [secsL_eq, joinE_cons, e1, e2, e4]
  rw [if_pos ⟨rfl, by show (joinedE _ f.pay.size).2 = 0; rw [e3], by unfold strsEq; rw [secsL_eq]; simp⟩]
/-- And back again. -/
theorem join_two (l : List ByteArray) : joinE l = (zeroFr, 14) ∨ ∃ f, joinE l = (f, 0) ∧ secsL f = l ∧ fchk f.kind f.pay.size = 0 ∧ f.kind < 256 ∧ f.epoch < 18446744073709551616 ∧ f.seq < 18446744073709551616 := by
  cases l with
  | nil => exact .inl rfl
  | cons s t =>
    rw [joinE_cons]
    split
    · rename_i h
      obtain ⟨h1, h2, h3⟩ := h
      refine .inr ⟨_, rfl, by unfold strsEq at h3; simpa using h3, ?_, ?_⟩
      · obtain ⟨f1, f2, f3, f4⟩ := headOk_facts h1
        show fchk (readHd s.data.toList).kind (bs (joinedE t (readHd s.data.toList).len).1).size = 0
        unfold fchk
        rw [if_neg f2, bs_size, joinedE_len h2, if_neg (by omega)]
      · have := readHd_okn s.data.toList (headOk_facts h1).1
        exact ⟨this.1, this.2.1, this.2.2.1⟩
    · exact .inl rfl
end Go.Proofs.Ytiegocbdgimimaa.Rec
