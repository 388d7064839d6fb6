/-
  What the answers of sector come to: lemmas without a walk.
-/
import Derived.Test.YtiegocbdgimimaaSectorHolds
import Derived.Test.YtiegocbdgimimaaSectorPut
import Derived.Test.YtiegocbdgimimaaSectorCrash
namespace Go.Proofs.Ytiegocbdgimimaa.Sector
open Go.Proofs.Ytiegocbdgimimaa.Mem
set_option linter.unusedVariables false
theorem okp {d : Disk} (h : okB d = true) : 1 ≤ d.secs.length ∧ d.secs.length ≤ 1024 ∧ d.pend.length ≤ 4096 ∧ (∀ s ∈ d.secs, oddB s = false) ∧ (∀ p ∈ d.pend, badB d.secs.length p = false) := by
  simp only [okB, Bool.and_eq_true, decide_eq_true_eq, Bool.not_eq_true', List.any_eq_false, Bool.not_eq_true] at h
  obtain ⟨⟨⟨⟨h1, h2⟩, h3⟩, h4⟩, h5⟩ := h
  exact ⟨h1, h2, h3, h4, h5⟩
theorem okm {d : Disk} (h1 : 1 ≤ d.secs.length) (h2 : d.secs.length ≤ 1024) (h3 : d.pend.length ≤ 4096) (h4 : ∀ s ∈ d.secs, oddB s = false) (h5 : ∀ p ∈ d.pend, badB d.secs.length p = false) : okB d = true := by
  simp only [okB, Bool.and_eq_true, decide_eq_true_eq, Bool.not_eq_true', List.any_eq_false, Bool.not_eq_true]
  exact ⟨⟨⟨⟨h1, h2⟩, h3⟩, h4⟩, h5⟩
theorem refuse_zero {d : Disk} {n : Int} {s : ByteArray} (h : refuseE d n s = 0) : missB d.secs.length n = false ∧ oddB s = false ∧ d.pend.length < 4096 := by
  unfold refuseE at h
  cases h1 : missB d.secs.length n <;> cases h2 : oddB s <;> simp [h1, h2] at h ⊢
  omega
theorem ok_pend {d : Disk} (h : okB d = true) {n : Int} {s : ByteArray} (hr : refuseE d n s = 0) (o : Bool) (f : Int) : okB ⟨d.secs, d.pend ++ [(n, s)], o, f⟩ = true := by
  obtain ⟨h1, h2, h3, h4, h5⟩ := okp h
  obtain ⟨r1, r2, r3⟩ := refuse_zero hr
  refine okm h1 h2 (by simp; omega) h4 (fun p hp => ?_)
  rcases List.mem_append.1 hp with hp | hp
  · exact h5 p hp
  · rw [List.mem_singleton] at hp; subst hp; simp [badB, r1, r2]
theorem sett_snoc_yes (L : List (Int × ByteArray)) (p : Int × ByteArray) (secs : List ByteArray) : sett yes (L ++ [p]) secs (L ++ [p]).length = (sett yes L secs L.length).set p.1.toNat p.2 := by
  have key : ∀ k, k ≤ L.length → sett yes (L ++ [p]) secs k = sett yes L secs k := by
    intro k
    induction k with
    | zero => intro _; rfl
    | succ k ih =>
      intro hk
      have hk' : k < L.length := by omega
      simp only [sett, ih (by omega), List.getD, List.getElem?_append_left hk']
  rw [List.length_append, List.length_singleton]
  simp only [sett, key L.length (Nat.le_refl _), yes, if_true, List.getD]
  simp
/-- What is put last is what is read; the others stay. -/
theorem read_put {d : Disk} {n : Int} {s : ByteArray} (h : okB d = true) (hr : refuseE d n s = 0) (f : Int) : readE ⟨d.secs, d.pend ++ [(n, s)], false, f⟩ n = (s, 0) := by
  obtain ⟨r1, r2, r3⟩ := refuse_zero hr
  unfold readE
  rw [ok_pend h hr, r1]
  simp [heldS_snoc]
theorem read_other {d : Disk} {n m : Int} {s : ByteArray} (h : okB d = true) (ho : d.off = false) (hr : refuseE d n s = 0) (f : Int) : (readE d m).2 = (readE ⟨d.secs, d.pend ++ [(n, s)], false, f⟩ m).2 ∧ (m ≠ n → (readE d m).1 = (readE ⟨d.secs, d.pend ++ [(n, s)], false, f⟩ m).1) := by
  unfold readE
  rw [ok_pend h hr, h, ho]
  cases hm : missB d.secs.length m
  · simp only [Bool.true_eq_false, if_false, heldS_snoc, Bool.false_eq_true]
    exact ⟨trivial, fun hne => by rw [if_neg (fun e => hne e.symm)]⟩
  · simp
/-- The disk that a write leaves. -/
def putD (d : Disk) (n : Int) (s : ByteArray) : Disk := ⟨d.secs, d.pend ++ [(n, s)], false, if 0 < d.fuse then d.fuse - 1 else d.fuse⟩
/-- The disk that a sync leaves. -/
def synD (d : Disk) : Disk := ⟨sett yes d.pend d.secs d.pend.length, [], d.off, if 0 < d.fuse then d.fuse - 1 else d.fuse⟩
theorem sett_good' {d : Disk} (h : okB d = true) (kp : Nat → Bool) : ∀ k, k ≤ d.pend.length → ∀ s ∈ sett kp d.pend d.secs k, oddB s = false := by
  obtain ⟨_, _, _, h4, h5⟩ := okp h
  intro k
  induction k with
  | zero => intro _; exact h4
  | succ k ih =>
    intro hk s hs
    simp only [sett] at hs
    split at hs
    · rcases List.mem_or_eq_of_mem_set hs with hs | rfl
      · exact ih (by omega) s hs
      · have hk' : k < d.pend.length := by omega
        have := h5 d.pend[k] (List.getElem_mem hk')
        simp only [List.getD, List.getElem?_eq_getElem hk', Option.getD_some]
        unfold badB at this
        rw [Bool.or_eq_false_iff] at this
        exact this.2
    · exact ih (by omega) s hs
theorem ok_syn {d : Disk} (h : okB d = true) : okB (synD d) = true := by
  obtain ⟨h1, h2, h3, h4, h5⟩ := okp h
  refine okm ?_ ?_ (by simp [synD]) (sett_good' h _ _ (Nat.le_refl _)) (by simp [synD])
  · simp only [synD, sett_len]; exact h1
  · simp only [synD, sett_len]; exact h2
theorem ok_put {d : Disk} (h : okB d = true) {n : Int} {s : ByteArray} (hr : refuseE d n s = 0) : okB (putD d n s) = true := ok_pend h hr _ _
theorem sync_put {d : Disk} (h : okB d = true) {n : Int} {s : ByteArray} (hr : refuseE d n s = 0) : syncE (putD d n s) = if (putD d n s).fuse = 0 then (⟨(putD d n s).secs, (putD d n s).pend, true, (putD d n s).fuse⟩, 15) else (synD (putD d n s), 0) := by
  unfold syncE workE
  rw [ok_put h hr, if_neg (by simp), if_neg (by simp [putD]), if_neg (by simp)]
  rfl
theorem crash_syn {d : Disk} (h : okB d = true) (l : List Bool) : crashE (synD d) l = (⟨(synD d).secs, [], false, -1⟩, 0) := by
  unfold crashE
  rw [if_pos (ok_syn h)]
  rfl
theorem read_syn {d : Disk} (h : okB d = true) {n : Int} {s : ByteArray} (hr : refuseE d n s = 0) : readE ⟨(synD (putD d n s)).secs, [], false, -1⟩ n = (s, 0) := by
  have h1 := ok_syn (ok_put h hr)
  obtain ⟨r1, r2, r3⟩ := refuse_zero hr
  obtain ⟨k1, k2, k3, k4, k5⟩ := okp h1
  have hl : (synD (putD d n s)).secs.length = d.secs.length := by simp only [synD, putD, sett_len]
  have h2 : okB ⟨(synD (putD d n s)).secs, [], false, -1⟩ = true := okm k1 k2 (by simp) k4 (by simp)
  unfold readE
  rw [h2, if_neg (by simp), if_neg (by simp), hl, r1, if_neg (by simp)]
  have hn : n.toNat < d.secs.length := by simp [missB] at r1; omega
  have : (synD (putD d n s)).secs = (sett yes d.pend d.secs d.pend.length).set n.toNat s := sett_snoc_yes d.pend (n, s) d.secs
  rw [this]
  simp [heldS, lastW, List.getD, sett_len, hn]
end Go.Proofs.Ytiegocbdgimimaa.Sector
