/-
  What a crash leaves, sector by sector. No walk.
-/
import Derived.Test.YtiegocbdgimimaaSectorMath
namespace Go.Proofs.Ytiegocbdgimimaa.Sector
open Go.Proofs.Ytiegocbdgimimaa.Mem
set_option linter.unusedVariables false
theorem sett_held (secs : List ByteArray) (n : Int) (hn : 0 ≤ n) (hl : n.toNat < secs.length) : ∀ r : List (Int × ByteArray), (∀ p ∈ r, 0 ≤ p.1) →
    (sett yes r.reverse secs r.reverse.length).getD n.toNat ⟨#[]⟩ = heldS secs r.reverse n := by
  intro r
  induction r with
  | nil => intro _; rfl
  | cons p r ih =>
    intro hr
    have h1 := ih (fun q hq => hr q (List.mem_cons_of_mem _ hq))
    have h0 := hr p List.mem_cons_self
    rw [List.reverse_cons, sett_snoc_yes]
    obtain ⟨m, s⟩ := p
    rw [heldS_snoc]
    dsimp only at h0 ⊢
    by_cases e : m = n
    · subst e
      rw [if_pos rfl]
      simp [List.getD, sett_len, hl]
    · rw [if_neg e, ← h1]
      simp only [List.getD]
      rw [List.getElem?_set_ne (by omega)]
theorem sett_true (pend : List (Int × ByteArray)) (secs : List ByteArray) (k : Nat) : ∀ j, j ≤ k → sett (kept (List.replicate k true)) pend secs j = sett yes pend secs j := by
  intro j
  induction j with
  | zero => intro _; rfl
  | succ j ih =>
    intro hj
    have e : kept (List.replicate k true) j = true := by unfold kept; simp [List.getD, show j < k by omega]
    simp only [sett, ih (by omega), e, yes]
def mayB (secs : List ByteArray) (pend : List (Int × ByteArray)) (n : Int) (s : ByteArray) : Nat → Bool
  | 0 => decide (s = secs.getD n.toNat ⟨#[]⟩)
  | k + 1 => mayB secs pend n s k || (decide ((pend.getD k (0, ⟨#[]⟩)).1 = n) && decide ((pend.getD k (0, ⟨#[]⟩)).2 = s))
theorem mayB_up (secs : List ByteArray) (pend : List (Int × ByteArray)) (n : Int) (s : ByteArray) (k : Nat) (h : mayB secs pend n s k = true) : ∀ m, k ≤ m → mayB secs pend n s m = true := by
  intro m
  induction m with
  | zero => intro hk; obtain rfl : k = 0 := (by omega); exact h
  | succ m ih =>
    intro hk
    by_cases e : k = m + 1
    · subst e; exact h
    · simp only [mayB, ih (by omega), Bool.true_or]
theorem sett_may (kp : Nat → Bool) (pend : List (Int × ByteArray)) (secs : List ByteArray) (n : Int) (hn : 0 ≤ n) (hp : ∀ p ∈ pend, 0 ≤ p.1) (hl : n.toNat < secs.length) : ∀ k, k ≤ pend.length →
    mayB secs pend n ((sett kp pend secs k).getD n.toNat ⟨#[]⟩) k = true := by
  intro k
  induction k with
  | zero => intro _; simp [mayB, sett]
  | succ k ih =>
    intro hk
    have hk' : k < pend.length := by omega
    have h0 := hp pend[k] (List.getElem_mem hk')
    have hg : pend.getD k (0, ⟨#[]⟩) = pend[k] := by simp [List.getD, hk']
    simp only [sett]
    split
    · rw [hg]
      by_cases e : pend[k].1 = n
      · have : ((sett kp pend secs k).set pend[k].1.toNat pend[k].2).getD n.toNat ⟨#[]⟩ = pend[k].2 := by
          rw [e]; simp [List.getD, sett_len, hl]
        rw [this]
        simp only [mayB, hg, e, decide_true, Bool.and_self, Bool.or_true]
      · have : ((sett kp pend secs k).set pend[k].1.toNat pend[k].2).getD n.toNat ⟨#[]⟩ = (sett kp pend secs k).getD n.toNat ⟨#[]⟩ := by
          simp only [List.getD]
          rw [List.getElem?_set_ne (by omega)]
        rw [this]
        simp only [mayB, ih (by omega), Bool.true_or]
    · simp only [mayB, ih (by omega), Bool.true_or]
theorem ok_crash {d : Disk} (h : okB d = true) (l : List Bool) : okB (crashD d l) = true := by
  obtain ⟨h1, h2, h3, h4, h5⟩ := okp h
  refine okm ?_ ?_ (by simp [crashD]) (sett_good' h _ _ (Nat.le_refl _)) (by simp [crashD])
  · simp only [crashD, sett_len]; exact h1
  · simp only [crashD, sett_len]; exact h2
theorem pend_pos {d : Disk} (h : okB d = true) : ∀ p ∈ d.pend, 0 ≤ p.1 := by
  intro p hp
  have := (okp h).2.2.2.2 p hp
  simp [badB, missB] at this
  omega
theorem read_crash {d : Disk} (h : okB d = true) (l : List Bool) (n : Int) : readE (crashD d l) n = if missB d.secs.length n then (⟨#[]⟩, 1) else ((sett (kept l) d.pend d.secs d.pend.length).getD n.toNat ⟨#[]⟩, 0) := by
  unfold readE
  rw [ok_crash h, if_neg (by simp), if_neg (by simp [crashD])]
  have hl : (crashD d l).secs.length = d.secs.length := by simp only [crashD, sett_len]
  rw [hl]
  split
  · rfl
  · rfl
theorem read_now {d : Disk} (h : okB d = true) (n : Int) (hm : missB d.secs.length n = false) (f : Int) : readE ⟨d.secs, d.pend, false, f⟩ n = (heldS d.secs d.pend n, 0) := by
  unfold readE
  have hk : okB ⟨d.secs, d.pend, false, f⟩ = true := h
  rw [hk, if_neg (by simp), if_neg (by simp)]
  dsimp only
  rw [hm, if_neg (by simp)]
/-- Kept all, a sector holds what it held. -/
theorem read_all {d : Disk} (h : okB d = true) (n : Int) (hm : missB d.secs.length n = false) : (sett (kept (List.replicate d.pend.length true)) d.pend d.secs d.pend.length).getD n.toNat ⟨#[]⟩ = heldS d.secs d.pend n := by
  have hn : 0 ≤ n ∧ n.toNat < d.secs.length := by simp [missB] at hm; omega
  rw [sett_true _ _ _ _ (Nat.le_refl _)]
  have := sett_held d.secs n hn.1 hn.2 d.pend.reverse (fun p hp => pend_pos h p (List.mem_reverse.1 hp))
  rwa [List.reverse_reverse] at this
/-- Behind a crash a sector holds what was synced, or one of the writes since. -/
theorem read_may {d : Disk} (h : okB d = true) (l : List Bool) (n : Int) (hm : missB d.secs.length n = false) :
    mayB d.secs d.pend n ((sett (kept l) d.pend d.secs d.pend.length).getD n.toNat ⟨#[]⟩) d.pend.length = true := by
  have hn : 0 ≤ n ∧ n.toNat < d.secs.length := by simp [missB] at hm; omega
  exact sett_may (kept l) d.pend d.secs n hn.1 (pend_pos h) hn.2 _ (Nat.le_refl _)
end Go.Proofs.Ytiegocbdgimimaa.Sector
