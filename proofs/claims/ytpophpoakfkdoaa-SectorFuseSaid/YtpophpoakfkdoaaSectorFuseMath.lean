/-
  SectorFuse: what the disk is behind so many writes.
-/
import Derived.Test.YtpophpoakfkdoaaSectorLives
import Derived.Test.YtpophpoakfkdoaaSectorMath
namespace Go.Proofs.Ytpophpoakfkdoaa.sectorFuse
open Go.Proofs.Ytpophpoakfkdoaa.Mem Go.Proofs.Ytpophpoakfkdoaa.Sector
set_option linter.unusedVariables false
/-- The disk behind i writes. -/
def st (f : Nat) (s : ByteArray) (i : Nat) : Disk :=
  if i ≤ f then ⟨[Sector.blank], List.replicate i ((0 : Int), s), false, ((f : Int) - (i : Int))⟩ else ⟨[Sector.blank], List.replicate (f + 1) ((0 : Int), s), true, 0⟩
theorem ok_fuse {s : ByteArray} (hs : s.size = 64) (k : Nat) (hk : k ≤ 4096) (o : Bool) (x : Int) : okB ⟨[Sector.blank], List.replicate k ((0 : Int), s), o, x⟩ = true := by
  refine okm (by simp) (by simp) (by simpa using hk) (fun t ht => ?_) (fun p hp => ?_)
  · rw [List.mem_singleton] at ht; subst ht; decide
  · have := List.eq_of_mem_replicate hp
    subst this
    simp [badB, missB, oddB, hs]
theorem ok_st {f : Nat} (hf : f < 256) {s : ByteArray} (hs : s.size = 64) (i : Nat) : okB (st f s i) = true := by
  unfold st
  split
  · exact ok_fuse hs i (by omega) _ _
  · exact ok_fuse hs (f + 1) (by omega) _ _
theorem put_st {f : Nat} (hf : f < 256) {s : ByteArray} (hs : s.size = 64) (i : Nat) : putE (st f s i) 0 s = (st f s (i + 1), if i < f then 0 else 15) := by
  have hok := ok_st hf hs i
  unfold putE workE
  rw [hok, if_neg (by simp)]
  by_cases h : i ≤ f
  · have e : st f s i = ⟨[Sector.blank], List.replicate i ((0 : Int), s), false, ((f : Int) - (i : Int))⟩ := if_pos h
    rw [e, if_neg (by simp)]
    have hr : refuseE ⟨[Sector.blank], List.replicate i ((0 : Int), s), false, ((f : Int) - (i : Int))⟩ 0 s = 0 := by
      simp only [refuseE, missB, oddB, hs, List.length_singleton, List.length_replicate]
      simp; omega
    rw [hr, if_neg (by simp)]
    by_cases h2 : i = f
    · subst h2
      have e2 : st i s (i + 1) = ⟨[Sector.blank], List.replicate (i + 1) ((0 : Int), s), true, 0⟩ := if_neg (by omega)
      rw [if_pos (by simp), e2, if_neg (by omega)]
      simp [pendD, List.replicate_succ']
    · have e2 : st f s (i + 1) = ⟨[Sector.blank], List.replicate (i + 1) ((0 : Int), s), false, ((f : Int) - ((i + 1 : Nat) : Int))⟩ := if_pos (by omega)
      have hpos : 0 < (f : Int) - (i : Int) := by omega
      rw [if_neg (by simp; omega), e2, if_pos hpos, if_pos (show i < f by omega)]
      simp only [pendD, List.replicate_succ']
      rw [show (f : Int) - (i : Int) - 1 = (f : Int) - ((i + 1 : Nat) : Int) by omega]
  · have e : st f s i = ⟨[Sector.blank], List.replicate (f + 1) ((0 : Int), s), true, 0⟩ := if_neg h
    have e2 : st f s (i + 1) = ⟨[Sector.blank], List.replicate (f + 1) ((0 : Int), s), true, 0⟩ := if_neg (by omega)
    rw [e, e2, if_pos rfl, if_neg (by omega)]
theorem off_st (f : Nat) (s : ByteArray) (i : Nat) (h : ¬ i < f) : (st f s (i + 1)).off = true := by
  unfold st; rw [if_neg (by omega)]
theorem fuse_st {f : Nat} (hf : f < 256) (s : ByteArray) (i : Nat) : 0 ≤ (st f s i).fuse ∧ (st f s i).fuse ≤ 255 := by
  unfold st
  split
  · simp; omega
  · simp
theorem st_zero (f : Nat) (s : ByteArray) : st f s 0 = ⟨[Sector.blank], [], false, (f : Int)⟩ := by
  unfold st; rw [if_pos (by omega)]; simp
end Go.Proofs.Ytpophpoakfkdoaa.sectorFuse
