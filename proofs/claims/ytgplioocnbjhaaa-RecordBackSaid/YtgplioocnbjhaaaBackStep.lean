/-
  RecordBack: appending a list to an empty literal, and one text more. No walk.
-/
import Derived.Test.YtgplioocnbjhaaaRecSectors
namespace Go.Proofs.Ytgplioocnbjhaaa.Rec
open Go.ChangeShapes Go.WideShapes Go.ChangeAt Go.RowKit
open Go.Proofs.Ytgplioocnbjhaaa.Mem
set_option linter.unusedVariables false
set_option maxRecDepth 100000
theorem Blk.kept' {w w' : World} {b : Nat} {cs : List Value} {t : TypeId} {row : Option Nat} (h : Blk w b cs t) (hg : w.grownBy w' row) (hne : row ≠ some b) : Blk w' b cs t := ⟨(hg.block b h.lt (fun e => hne e.symm)).trans h.at'⟩
theorem row_other {w : World} {base size n b : Nat} {v : Value} {xs cs : List Value} {t : TypeId} (hown : w.ownsRow base 9 size v n xs) (hb : Blk w b cs t) (hne : t ≠ 9) : v.ownBlock ≠ some b := by
  rcases hown.2 with ⟨rfl, _⟩ | ⟨g', cap, cur, rfl, _, hg, _⟩
  · simp [Value.ownBlock]
  · intro h
    have : g' = b := by simpa [Value.ownBlock] using h
    subst this
    rw [hb.at'] at hg
    simp at hg
    exact hne hg.2
theorem app_list (B : Nat) (W : World) (g : Nat) (l : List ByteArray) (a : Addr) (n cap : Nat) (h : StrsV W (.slice (some a) n cap) l) (hn : l.length = n) (h16 : n * 16 ≤ 140737488355328) (hm : n ≤ 1000) (hg : Blk W g [] 9) (hB : B ≤ g) :
    ∃ so sc W1, (Builtin.append_ #[22, 22] 22 #[.slice (some ⟨g, 0, none⟩) 0 0, .slice (some a) n cap]).run Try.prog W = .ok (.slice so n sc) W1 ∧ W1.ownsRow B 9 1 (.slice so n sc) n (strC l) ∧ Below B W W1 ∧
      (∀ b cs t, Blk W b cs t → b ≠ g → Blk W1 b cs t) := by
  have hown : W.ownsRow B 9 1 (.slice (some ⟨g, 0, none⟩) 0 0) 0 [] := ⟨rfl, .inr ⟨g, 0, _, rfl, hB, hg.at', Nat.le_refl _, by decide, by simp, by simp⟩⟩
  obtain ⟨i0, hi, hz0, hz1, hz2⟩ := info_parts info_string
  obtain ⟨ao', cap', hv, _, _, _, _, h6⟩ := h
  simp only [Value.slice.injEq] at hv
  obtain ⟨rfl, _, rfl⟩ := hv
  obtain ⟨v', w', hrun, ho, hgr, _⟩ := run_append_own (P := Try.prog) W B 22 22 9 i0 (.string ⟨#[]⟩) 1 16 Try.underlying22 hi hz0 hz1 hz2 rfl (by decide) _ _ _ hown a n cap (strC l) (by rw [strC_len, hn]; omega)
    (fun j u hu => by
      obtain ⟨hj, e⟩ := List.getElem?_eq_some_iff.1 hu
      rw [← e]; exact h6 a rfl j hj) (by intro u hu; simp only [strC, List.mem_map] at hu; obtain ⟨s, _, rfl⟩ := hu; rfl) (by unfold maxLen; omega) (by omega) (by have := hg.lt; omega)
  rw [Nat.zero_add, List.nil_append] at ho
  obtain ⟨so, sc, rfl, _⟩ := ownsRow_form ho
  exact ⟨so, sc, w', hrun, ho, (Below.refl B W).grown hgr (by have := hg.lt; omega) (fun k hk => (hown.lt k hk).1), fun b cs t hb hne => Blk.kept' hb hgr (by simp [Value.ownBlock]; omega)⟩
theorem app_last (B : Nat) (W : World) (x : Nat) (l : List ByteArray) (s : ByteArray) (v : Value) (n : Nat) (hr : W.ownsRow B 9 1 v n (strC l)) (hx : Blk W x [.string s] 9) (hm : n ≤ 1000) (hB : B ≤ W.heap.size) :
    ∃ so sc W1, (Builtin.append_ #[22, 22] 22 #[v, .slice (some ⟨x, 0, none⟩) 1 1]).run Try.prog W = .ok (.slice so (n + 1) sc) W1 ∧ W1.ownsRow B 9 1 (.slice so (n + 1) sc) (n + 1) (strC (l ++ [s])) ∧ Below B W W1 ∧
      (∀ b cs t, Blk W b cs t → t ≠ 9 → Blk W1 b cs t) := by
  obtain ⟨i0, hi, hz0, hz1, hz2⟩ := info_parts info_string
  obtain ⟨v', w', hrun, ho, hgr, _⟩ := run_append_own (P := Try.prog) W B 22 22 9 i0 (.string ⟨#[]⟩) 1 16 Try.underlying22 hi hz0 hz1 hz2 rfl (by decide) _ _ _ hr ⟨x, 0, none⟩ 1 1 [.string s] rfl
    (by
      intro j u hu
      match j, hu with
      | 0, hu => simp at hu; subst hu; exact hx.one.1) (by simp [Value.oneCell']) (by unfold maxLen; omega) (by omega) hB
  obtain ⟨so, sc, rfl, _⟩ := ownsRow_form ho
  rw [show strC l ++ [.string s] = strC (l ++ [s]) by rw [strC_append]; rfl] at ho
  exact ⟨so, sc, w', hrun, ho, (Below.refl B W).grown hgr hB (fun k hk => (hr.lt k hk).1), fun b cs t hb hne => Blk.kept' hb hgr (row_other hr hb hne)⟩
theorem own_strs {W : World} {B : Nat} {v : Value} {l : List ByteArray} {n : Nat} (h : W.ownsRow B 9 1 v n (strC l)) (hn : l.length = n) : StrsV W v l := by subst hn; exact SlV.own h
end Go.Proofs.Ytgplioocnbjhaaa.Rec
