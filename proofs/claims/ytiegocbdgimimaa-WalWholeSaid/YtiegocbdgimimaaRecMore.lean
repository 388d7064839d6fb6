/-
  One sector more or less is no frame; a frame's head. No walk.
-/
import Derived.Test.YtiegocbdgimimaaRecFacts
namespace Go.Proofs.Ytiegocbdgimimaa.Rec
open Go.Proofs.Ytiegocbdgimimaa.Mem Go.Proofs.Ytiegocbdgimimaa.CrcMath
set_option linter.unusedVariables false
set_option maxRecDepth 10000
theorem join_other (f : Fr) (ok : f.okn) (hf : fchk f.kind f.pay.size = 0) (l : List ByteArray) (h0 : ∀ s t, l = s :: t → s = bs (headL (hdOf f))) (hne : l.length ≠ pcs f.pay.size + 1) : joinE l = (zeroFr, 14) := by
  rcases join_two l with h | ⟨g, _, hs, hc, k1, k2, k3⟩
  · exact h
  · exfalso
    have hgo : g.okn := ⟨k1, k2, k3, by have := (fchk_zero hc).2; omega⟩
    have e1 := bs_inj (h0 (bs (headL (hdOf g))) _ (by rw [← hs]; exact secsL_eq g))
    have e2 := congrArg readHd e1
    rw [readHd_headL _ (hdOf_okn hgo (fchk_zero hc).2), readHd_headL _ (hdOf_okn ok (fchk_zero hf).2)] at e2
    have e3 : g.pay.size = f.pay.size := congrArg Hd.len e2
    apply hne
    rw [← hs, secsL_len, e3]
theorem join_less (f : Fr) (ok : f.okn) (hf : fchk f.kind f.pay.size = 0) : joinE ((secsL f).take (pcs f.pay.size)) = (zeroFr, 14) := by
  refine join_other f ok hf _ (fun s t h => ?_) (by rw [List.length_take, secsL_len]; omega)
  rw [secsL_eq] at h
  cases hk : pcs f.pay.size with
  | zero => rw [hk] at h; simp at h
  | succ k => rw [hk, List.take_succ_cons] at h; exact (List.cons.inj h).1.symm
theorem join_more (f : Fr) (ok : f.okn) (hf : fchk f.kind f.pay.size = 0) (x : ByteArray) : joinE (secsL f ++ [x]) = (zeroFr, 14) := by
  refine join_other f ok hf _ (fun s t h => ?_) (by rw [List.length_append, secsL_len, List.length_singleton]; omega)
  rw [secsL_eq, List.cons_append] at h
  exact (List.cons.inj h).1.symm
theorem head_of (f : Fr) (ok : f.okn) (hf : fchk f.kind f.pay.size = 0) : headE (bs (headL (hdOf f))).data.toList = (hdOf f, 0) := by
  have hok := hdOf_okn ok (fchk_zero hf).2
  obtain ⟨h1, h2⟩ := fchk_zero hf
  rw [bs_list]
  unfold headE
  rw [headOk_headL _ hok h1 h2, readHd_headL _ hok]
  rfl
theorem secsL_head (f : Fr) : ∃ t, secsL f = bs (headL (hdOf f)) :: t ∧ t.length = pcs f.pay.size := ⟨_, rfl, by simp⟩
end Go.Proofs.Ytiegocbdgimimaa.Rec
