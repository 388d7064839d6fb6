/-
  SectorTwice: the walk.
-/
import Derived.Test.YtpophpoakfkdoaaSectorLives
import Derived.Test.YtpophpoakfkdoaaSectorSame
import Derived.Deep.RegionHeld3
import Derived.Deep.QuietTactic
import Derived.BigQuiet
namespace Go.Proofs.Ytpophpoakfkdoaa.sectorTwice
open Go.ChangeShapes Go.WideShapes Go.ChangeAt Go.RowKit
open Go.Proofs.Ytpophpoakfkdoaa.Mem Go.Proofs.Ytpophpoakfkdoaa.Sector
set_option linter.unusedVariables false
theorem ok_parts {d : Disk} (h : okB d = true) : 1 ≤ d.secs.length ∧ d.secs.length ≤ 1024 ∧ d.pend.length ≤ 4096 ∧ (∀ s ∈ d.secs, oddB s = false) ∧ (∀ p ∈ d.pend, badB d.secs.length p = false) := by
  simp only [okB, Bool.and_eq_true, decide_eq_true_eq, Bool.not_eq_true', List.any_eq_false, Bool.not_eq_true] at h
  obtain ⟨⟨⟨⟨h1, h2⟩, h3⟩, h4⟩, h5⟩ := h
  exact ⟨h1, h2, h3, h4, h5⟩
theorem ok_of {d : Disk} (h1 : 1 ≤ d.secs.length) (h2 : d.secs.length ≤ 1024) (h3 : d.pend.length ≤ 4096) (h4 : ∀ s ∈ d.secs, oddB s = false) (h5 : ∀ p ∈ d.pend, badB d.secs.length p = false) : okB d = true := by
  simp only [okB, Bool.and_eq_true, decide_eq_true_eq, Bool.not_eq_true', List.any_eq_false, Bool.not_eq_true]
  exact ⟨⟨⟨⟨h1, h2⟩, h3⟩, h4⟩, h5⟩
theorem sett_good {d : Disk} (h : okB d = true) (kp : Nat → Bool) : ∀ k, k ≤ d.pend.length → ∀ s ∈ sett kp d.pend d.secs k, oddB s = false := by
  obtain ⟨_, _, _, h4, h5⟩ := ok_parts h
  intro k
  induction k with
  | zero => intro _; exact h4
  | succ k ih =>
    intro hk s hs
    simp only [sett] at hs
    split at hs
    · rcases List.mem_or_eq_of_mem_set hs with hs | rfl
      · exact ih (by omega) s hs
      · have hk' : k < d.pend.length := by omega
        have := h5 d.pend[k] (List.getElem_mem hk')
        simp only [List.getD, List.getElem?_eq_getElem hk', Option.getD_some]
        unfold badB at this
        rw [Bool.or_eq_false_iff] at this
        exact this.2
    · exact ih (by omega) s hs
theorem ok_crash {d : Disk} (h : okB d = true) (l : List Bool) : okB (crashD d l) = true := by
  obtain ⟨h1, h2, h3, h4, h5⟩ := ok_parts h
  refine ok_of ?_ ?_ (by simp [crashD]) (sett_good h _ _ (Nat.le_refl _)) (by simp [crashD])
  · simp only [crashD, sett_len]; exact h1
  · simp only [crashD, sett_len]; exact h2
theorem crash_again (d : Disk) (l m : List Bool) (h : okB d = true) : crashE (crashD d l) m = (crashD d l, 0) := by
  unfold crashE
  rw [if_pos (ok_crash h l)]
  rfl

set_option maxHeartbeats 4000000 in
theorem walk (v0 : Value) (a0 : Disk) (v1 : Value) (a1 : List Bool) (v2 : Value) (a2 : List Bool) (w : World) (h0 : DiskV w v0 a0) (f0 : (Lit.int .i64 a0.fuse).wf = true) (h1 : BoolsV w v1 a1) (h2 : BoolsV w v2 a2) :
    Calls Try.prog 9 #[v0, v1, v2] w fun e w' => e = .returned (.bool true) ∧ Below w.heap.size w w' := by
  have hv := hid h0
  have g1 := hid h1
  have g2 := hid h2
  obtain ⟨sv, pv, rfl, hs, hp⟩ := h0
  obtain ⟨so, scap, rfl, _⟩ := hs.form
  obtain ⟨po, pcap, rfl, _, hpc⟩ := hp.form
  obtain ⟨ko, kcap, rfl, _⟩ := h1.form
  obtain ⟨ko2, kcap2, rfl, _⟩ := h2.form
  have hss := hid hs
  clear hs hp f0 h1 h2
  go_enter Try.func9, Try.ntmps9
  go_wp2_with fail
  refine (lives_any _).mono ?_
  rintro e w1 ⟨rfl, b1⟩
  have D1 : Blk w1 w.heap.size [.slice so a0.secs.length scap, .slice po a0.pend.length pcap, .bool a0.off, .int .i64 a0.fuse] 25 := (Blk.new w _ _).below b1 (by simp)
  have h1 := hid ((show Below w.heap.size w _ from by go_grown).trans (b1.mono (by simp)))
  obtain ⟨d0, d1, d2, d3, df⟩ := D1.four
  have D1' := hid D1
  clear D1 b1
  go_wp2_with fail
  refine (crash_any a0 _ _ a1 _ (hv.out.below h1.out) (g1.out.below h1.out)).mono ?_
  rintro e w2 hr
  cases hok : okB a0 with
  | false =>
    unfold crashE at hr
    rw [hok, if_neg (by simp)] at hr
    obtain ⟨s2, sc2, p2, pc2, rfl, o2, b2⟩ := hr.open
    clear hr hok d0 d1 d2 d3 df
    have h2 := hid (bt h1.out b2)
    clear o2 b2
    dsimp only [zeroDisk, List.length_nil]
    go_wp2_with fail
    go_ret
    exact ⟨rfl, h2.out.alloc h2.out.size _⟩
  | true =>
    unfold crashE at hr
    rw [hok, if_pos rfl] at hr
    have k1 := hid (crash_again a0 a1 a2 hok)
    have k2 : Hid (a0.pend.length = 0 → (crashD a0 a1).secs = a0.secs) := hid (fun h => by unfold crashD; rw [h]; rfl)
    have k3 : Hid ((crashD a0 a1).secs.length = a0.secs.length) := hid (by simp only [crashD, sett_len])
    have k4 : Hid (a0.secs.length ≤ 1024 ∧ a0.pend.length ≤ 4096) := hid ⟨(ok_parts hok).2.1, (ok_parts hok).2.2.1⟩
    generalize crashD a0 a1 = c at hr k1 k2 k3
    obtain ⟨s2, sc2, p2, pc2, rfl, o2, b2⟩ := hr.open
    clear hr hok
    dsimp only at o2
    have D2 := D1'.out.below b2 D1'.out.lt
    have h2 := hid (bt h1.out b2)
    have o2' := hid o2
    clear d0 d1 d2 d3 df D1' h1 o2 b2
    obtain ⟨d0, d1, d2, d3, df⟩ := D2.four
    have D2' := hid D2
    clear D2
    go_wp2_with fail
    have hal := (Below.refl _ w2).alloc (Nat.le_refl _) (.cells #[.slice s2 c.secs.length sc2, .slice p2 c.pend.length pc2, .bool c.off, .int .i64 c.fuse] 25)
    have v2 := hid (o2'.out.v.below hal)
    have h2' := hid (bt h2.out hal)
    refine (crash_any c _ _ a2 _ v2.out (g2.out.below h2'.out)).mono ?_
    rw [k1.out]
    rintro e w3 hr
    obtain ⟨s3, sc3, p3, pc3, rfl, o3, b3⟩ := hr.open
    dsimp only at o3
    have D3 := (D2'.out.alloc _).below b3 (Nat.lt_of_lt_of_le D2'.out.lt hal.size)
    have A3 : Blk w3 w2.heap.size [.slice s2 c.secs.length sc2, .slice p2 c.pend.length pc2, .bool c.off, .int .i64 c.fuse] 25 := (Blk.new w2 _ _).below b3 (by simp)
    have h3 := bt h2'.out b3
    have v3 := v2.out.below b3
    have hal3 := (Below.refl _ w3).alloc (Nat.le_refl _) (.cells #[.slice s3 c.secs.length sc3, .slice p3 c.pend.length pc3, .bool c.off, .int .i64 c.fuse] 25)
    have D4 := D3.below hal3 D3.lt
    have A4 := A3.below hal3 A3.lt
    have B4 : Blk (w3.alloc (.cells #[.slice s3 c.secs.length sc3, .slice p3 c.pend.length pc3, .bool c.off, .int .i64 c.fuse] 25)) w3.heap.size [.slice s3 c.secs.length sc3, .slice p3 c.pend.length pc3, .bool c.off, .int .i64 c.fuse] 25 := Blk.new w3 _ _
    have h4 := hid (bt h3 hal3)
    have v4 := hid (v3.below hal3)
    have u4 := hid (o3.v.below hal3)
    clear d0 d1 d2 d3 df D2' h2 h2' o2' hr o3 b3 v2 hal h3 v3 hal3 D3 A3
    obtain ⟨d0, d1, d2, d3, df⟩ := D4.four
    obtain ⟨e0, e1, e2, e3, ef⟩ := A4.four
    have D4' := hid D4
    have A4' := hid A4
    have B4' := hid B4
    clear D4 A4 B4
    have hcl0 := k3.out
    have hcl1 := k4.out.1
    have hcl2 : c.secs.length ≤ 1024 := by omega
    have hpl2 := k4.out.2
    clear hcl0 hcl1
    go_wp2_with fail
    have hcl : Hid (c.secs.length ≤ 1024) := hid (by rw [k3.out]; exact k4.out.1)
    generalize hW : w3.alloc (.cells #[.slice s3 c.secs.length sc3, .slice p3 c.pend.length pc3, .bool c.off, .int .i64 c.fuse] 25) = W4 at d0 d1 d2 d3 df e0 e1 e2 e3 ef D4' A4' B4' h4 v4 u4 ⊢
    clear hW
    go_loopw [35] (fun i wr => ∃ k : Nat, k ≤ c.secs.length ∧ i = .int .i64 k ∧ ∃ q, wr = W4.drewN q) (fun i _ => c.secs.length - (intOf i).toNat)
    case atStart => exact ⟨0, by omega, rfl, 0, rfl⟩
    case round =>
      obtain ⟨k, hk, rfl, q, rfl⟩ := hrel
      by_cases hlt : k < c.secs.length
      · have hkl : (k : Int) < (c.secs.length : Int) := by omega
        have hk0 : (0 : Int) ≤ (k : Int) := by omega
        by_cases hz : a0.pend.length = 0
        · have hzz : ((a0.pend.length : Int) == 0) = true := by simpa using hz
          have hce := k2.out hz
          have hlt2 : k < a0.secs.length := by rw [← hce]; exact hlt
          have hkl2 : (k : Int) < (a0.secs.length : Int) := by omega
          obtain ⟨ab, aoff, cap', hv', _, _, hab, hac⟩ := (show StrsV W4 (.slice s2 c.secs.length sc2) c.secs by obtain ⟨x, y, he, hx, _⟩ := v4.out; simp only [Value.agg.injEq, Array.mk.injEq, List.cons.injEq] at he; rw [he.1]; exact hx).open (by omega)
          simp only [Value.slice.injEq] at hv'
          obtain ⟨rfl, _, rfl⟩ := hv'
          obtain ⟨db, doff, cap2, hv', _, _, hdb, hdc⟩ := (hss.out.below h4.out).open (by omega)
          simp only [Value.slice.injEq] at hv'
          obtain ⟨rfl, _, rfl⟩ := hv'
          have x0 := hac k hlt
          have y0 := hdc k hlt2
          have hee : a0.secs[k] = c.secs[k] := by simp only [hce]
          rw [hee] at y0
          clear hac hdc hce hee
          go_wp2_with fail
          go_quiet (fail)
          go_wp2_with fail
          go_roundw
          case rel => exact ⟨k + 1, by omega, by go_num, _, rfl⟩
          case measure => simp [intOf]; omega
        · have hzz : ((a0.pend.length : Int) == 0) = false := beq_eq_false_iff_ne.2 (by omega)
          go_wp2_with fail
          go_quiet (fail)
          go_wp2_with fail
          go_roundw
          case rel => exact ⟨k + 1, by omega, by go_num, _, rfl⟩
          case measure => simp [intOf]; omega
      · obtain rfl : k = c.secs.length := by omega
        obtain ⟨i0, i1, i2, i3, jf⟩ := B4'.out.four
        go_wp2_with fail
        refine (same_self c _ _ _ (v4.out.below ?_) (u4.out.below ?_)).mono ?_
        · exact below_drewN (Below.refl _ _) _
        · exact below_drewN (Below.refl _ _) _
        rintro e w5 ⟨rfl, b5⟩
        have h5 := hid (bt h4.out ((below_drewN (Below.refl W4.heap.size W4) _).trans b5))
        go_wp2_with fail
        go_ret
        exact ⟨rfl, h5.out⟩
end Go.Proofs.Ytpophpoakfkdoaa.sectorTwice
