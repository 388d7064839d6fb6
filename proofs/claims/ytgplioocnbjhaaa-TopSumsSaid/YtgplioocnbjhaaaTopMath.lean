/-
  TopSums: what the disk is, from step to step. No walk.
-/
import Derived.Test.YtgplioocnbjhaaaSectorSafeMath
import Derived.Test.YtgplioocnbjhaaaSectorNew
import Derived.Test.YtgplioocnbjhaaaTopSum
import Derived.Test.YtgplioocnbjhaaaTopTurn
namespace Go.Proofs.Ytgplioocnbjhaaa.Top
open Go.Proofs.Ytgplioocnbjhaaa.Mem Go.Proofs.Ytgplioocnbjhaaa.Sector
set_option linter.unusedVariables false
set_option maxRecDepth 100000
structure Okd (d : Disk) (k : Nat) : Prop where
  ok : okB d = true
  off : d.off = false
  fuse : d.fuse = -1
  four : d.secs.length = 4
  pl : d.pend.length ≤ k
  gs : ∀ s ∈ d.secs, goodB s.data.toList = true
  gp : ∀ p ∈ d.pend, goodB p.2.data.toList = true
theorem good_odd {s : ByteArray} (h : goodB s.data.toList = true) : oddB s = false := by
  have h1 : s.data.toList.length = 64 := (goodB_two h).1
  have h2 : s.size = 64 := h1
  simp [oddB, h2]
theorem put_e {d : Disk} {n : Int} {s : ByteArray} (ok : okB d = true) (off : d.off = false) (fuse : d.fuse = -1) (hr : refuseE d n s = 0) : putE d n s = (putD d n s, 0) := by
  unfold putE workE putD pendD
  rw [ok, hr, if_neg (by simp), off, if_neg (by simp), if_neg (by simp), fuse, if_neg (by simp)]
theorem Okd.put {d : Disk} {k : Nat} {n : Int} {s : ByteArray} (h : Okd d k) (hk : k < 4096) (h0 : 0 ≤ n) (h4 : n < 4) (hs : goodB s.data.toList = true) : putE d n s = (putD d n s, 0) ∧ Okd (putD d n s) (k + 1) := by
  obtain ⟨ok, off, fuse, four, pl, gs, gp⟩ := h
  have hm : missB d.secs.length n = false := by simp [missB, four]; omega
  have hr : refuseE d n s = 0 := by unfold refuseE; rw [hm, if_neg (by simp), good_odd hs, if_neg (by simp), if_neg (by omega)]
  refine ⟨put_e ok off fuse hr, ok_put ok hr, rfl, ?_, four, ?_, gs, ?_⟩
  · unfold putD; dsimp only; rw [fuse]; rfl
  · unfold putD; simp; omega
  · intro p hp
    unfold putD at hp
    rcases List.mem_append.1 hp with hp | hp
    · exact gp p hp
    · rw [List.mem_singleton] at hp; subst hp; exact hs
theorem sett_goodB (kp : Nat → Bool) (pend : List (Int × ByteArray)) (secs : List ByteArray) (gs : ∀ s ∈ secs, goodB s.data.toList = true) (gp : ∀ p ∈ pend, goodB p.2.data.toList = true) : ∀ k, k ≤ pend.length → ∀ s ∈ sett kp pend secs k, goodB s.data.toList = true := by
  intro k
  induction k with
  | zero => intro _; exact gs
  | succ k ih =>
    intro hk s hs
    simp only [sett] at hs
    split at hs
    · rcases List.mem_or_eq_of_mem_set hs with hs | rfl
      · exact ih (by omega) s hs
      · have hk' : k < pend.length := by omega
        have := gp pend[k] (List.getElem_mem hk')
        simpa [List.getD, hk'] using this
    · exact ih (by omega) s hs
theorem sync_e {d : Disk} (ok : okB d = true) (off : d.off = false) (fuse : d.fuse = -1) : syncE d = (synD d, 0) := by
  unfold syncE workE synD syncD
  rw [ok, if_neg (by simp), off, if_neg (by simp), if_neg (by simp), fuse, if_neg (by simp)]
theorem Okd.sync {d : Disk} {k : Nat} (h : Okd d k) : syncE d = (synD d, 0) ∧ Okd (synD d) k := by
  obtain ⟨ok, off, fuse, four, pl, gs, gp⟩ := h
  refine ⟨sync_e ok off fuse, ok_syn ok, off, ?_, ?_, Nat.zero_le _, sett_goodB yes d.pend d.secs gs gp _ (Nat.le_refl _), by simp [synD]⟩
  · unfold synD; dsimp only; rw [fuse]; rfl
  · simp only [synD, sett_len]; exact four
theorem Okd.crash {d : Disk} {k : Nat} (h : Okd d k) (l : List Bool) : crashE d l = (crashD d l, 0) ∧ Okd (crashD d l) 0 := by
  obtain ⟨ok, off, fuse, four, pl, gs, gp⟩ := h
  refine ⟨by unfold crashE; rw [if_pos ok], ok_crash ok l, rfl, rfl, ?_, Nat.le_refl _, sett_goodB (kept l) d.pend d.secs gs gp _ (Nat.le_refl _), by simp [crashD]⟩
  simp only [crashD, sett_len]; exact four
theorem Okd.read {d : Disk} (h : Okd d 0) (i : Nat) (hi : i < 4) : ∃ s, readE d i = (s, 0) ∧ goodB s.data.toList = true ∧ s.size = 64 := by
  obtain ⟨ok, off, fuse, four, pl, gs, gp⟩ := h
  have hp : d.pend = [] := List.eq_nil_of_length_eq_zero (by omega)
  have hi' : i < d.secs.length := by omega
  have hg := gs d.secs[i] (List.getElem_mem hi')
  refine ⟨d.secs[i], ?_, hg, (goodB_two hg).1⟩
  unfold readE
  rw [ok, if_neg (by simp), off, if_neg (by simp), if_neg (by simp [missB, four]; omega), hp]
  simp [heldS, lastW, List.getD, hi']
/-- The sector of no text. -/
def S0 : ByteArray := Rec.bs (summedL [])
theorem S0_good : goodB S0.data.toList = true := by
  have : S0.data.toList = summedL [] := by simp [S0, Rec.bs]
  rw [this]; exact good_summed [] (by simp)
/-- The disk behind the first k writes. -/
def preD (k : Nat) : Disk := ⟨List.replicate 4 Sector.blank, (List.range k).map (fun (i : Nat) => ((i : Int), S0)), false, -1⟩
theorem pre_ok (k : Nat) (hk : k ≤ 4) : okB (preD k) = true := by
  refine okm (by simp [preD]) (by simp [preD]) (by simp [preD]; omega) ?_ ?_
  · intro s hs
    simp only [preD] at hs
    rw [List.eq_of_mem_replicate hs]; decide
  · intro p hp
    simp only [preD, List.mem_map, List.mem_range] at hp
    obtain ⟨i, hi, rfl⟩ := hp
    have hg := good_odd S0_good
    simp only [badB, hg, Bool.or_false, preD, List.length_replicate]
    simp [missB]; omega
theorem pre_put (k : Nat) (hk : k < 4) : putE (preD k) k S0 = (preD (k + 1), 0) := by
  have hm : missB (preD k).secs.length k = false := by simp [missB, preD]; omega
  have hr : refuseE (preD k) k S0 = 0 := by unfold refuseE; rw [hm, if_neg (by simp), good_odd S0_good, if_neg (by simp), if_neg (by simp [preD]; omega)]
  rw [put_e (pre_ok k (by omega)) rfl rfl hr]
  unfold putD preD
  simp [List.range_succ]
theorem pre_sync : ∃ d, syncE (preD 4) = (d, 0) ∧ Okd d 0 := by
  refine ⟨synD (preD 4), sync_e (pre_ok 4 (by omega)) rfl rfl, ok_syn (pre_ok 4 (by omega)), rfl, rfl, ?_, Nat.le_refl _, ?_, by simp [synD]⟩
  · simp only [synD, sett_len]; rfl
  · have : (synD (preD 4)).secs = [S0, S0, S0, S0] := rfl
    rw [this]
    intro s hs
    have : s = S0 := by simpa using hs
    rw [this]; exact S0_good
theorem new_four : newE 4 = (preD 0, 0) := rfl
end Go.Proofs.Ytgplioocnbjhaaa.Top
