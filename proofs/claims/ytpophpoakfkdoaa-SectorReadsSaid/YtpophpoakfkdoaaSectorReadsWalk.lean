/-
  SectorReads: the walk.
-/
import Derived.Test.YtpophpoakfkdoaaSectorLives
import Derived.Deep.RegionHeld3
namespace Go.Proofs.Ytpophpoakfkdoaa.sectorReads
open Go.ChangeShapes Go.WideShapes Go.ChangeAt Go.RowKit
open Go.Proofs.Ytpophpoakfkdoaa.Mem Go.Proofs.Ytpophpoakfkdoaa.Sector
set_option linter.unusedVariables false
set_option maxHeartbeats 1000000 in
theorem walk (v0 : Value) (a0 : Disk) (a1 : Int) (w : World) (h0 : DiskV w v0 a0) (f0 : (Lit.int .i64 a0.fuse).wf = true) (w1 : (Lit.int .i64 a1).wf = true) :
    Calls Try.prog 4 #[v0, .int .i64 a1] w fun e w' => e = .returned (.bool true) ∧ Below w.heap.size w w' := by
  have hv := hid h0
  obtain ⟨sv, pv, rfl, hs, hp⟩ := h0
  obtain ⟨so, scap, rfl, _⟩ := hs.form
  obtain ⟨po, pcap, rfl, _⟩ := hp.form
  clear hs hp f0 w1
  go_enter Try.func4, Try.ntmps4
  go_wp2_with fail
  obtain ⟨s, hs⟩ : ∃ s, (readE a0 a1).1 = s := ⟨_, rfl⟩
  obtain ⟨c, hc⟩ : ∃ c, (readE a0 a1).2 = c := ⟨_, rfl⟩
  have hs' := hid hs
  have hc' := hid hc
  clear hs hc
  refine (read_any a0 _ a1 _ (hv.out.below (by go_grown))).mono ?_
  rintro e w1 ⟨rfl, b1⟩
  rw [hs'.out, hc'.out]
  have D1 : Blk w1 w.heap.size [.slice so a0.secs.length scap, .slice po a0.pend.length pcap, .bool a0.off, .int .i64 a0.fuse] 25 := (Blk.new w _ _).below b1 (by simp)
  have h1 := hid ((show Below w.heap.size w _ from by go_grown).trans (b1.mono (by simp)))
  obtain ⟨d0, d1, d2, d3, df⟩ := D1.four
  have D1' := hid D1
  clear D1 b1
  go_wp2_with fail
  refine (rread_any a0 _ a1 _ (hv.out.below h1.out)).mono ?_
  rintro e w2 ⟨rfl, b2⟩
  rw [hs'.out, hc'.out]
  have D2 := D1'.out.below b2 D1'.out.lt
  have h2 := hid (bt h1.out b2)
  clear d0 d1 d2 d3 df h1 D1'
  obtain ⟨d0, d1, d2, d3, df⟩ := D2.four
  have D2' := hid D2
  clear D2 b2
  go_wp2_with fail
  go_region_held3 (fun W => W.cell? ⟨w.heap.size, 0, none⟩ = some (.slice so a0.secs.length scap) ∧ W.cell? ⟨w.heap.size, 1, none⟩ = some (.slice po a0.pend.length pcap) ∧ W.cell? ⟨w.heap.size, 2, none⟩ = some (.bool a0.off) ∧ W.cell? ⟨w.heap.size, 3, none⟩ = some (.int .i64 a0.fuse)) (exact ⟨d0, d1, d2, d3⟩) (first
    | (go_at_call 16; refine (lives_any _).mono ?_; rintro e w3 ⟨rfl, b3⟩; have h3 := hid (bt h2.out ((Below.refl _ w2).drew.trans b3)); have D3 := D2'.out.drew.below b3 D2'.out.lt; obtain ⟨d0, d1, d2, d3, df⟩ := D3.four; have D3' := hid D3; clear D3)
    | (go_at_call 20; refine (check_any a0 _ _ (hv.out.below h3.out)).mono ?_; rintro e w4 ⟨rfl, b4⟩; have h4 := hid (bt h3.out b4); have D4 := D3'.out.below b4 D3'.out.lt; obtain ⟨d0, d1, d2, d3, df⟩ := D4.four; have D4' := hid D4; clear D4)
    | (go_at_call 21; refine (rcheck_any a0 _ _ (hv.out.below h4.out)).mono ?_; rintro e w5 ⟨rfl, b5⟩; have h5 := hid (bt h4.out b5); have D5 := D4'.out.below b5 D4'.out.lt; obtain ⟨d0, d1, d2, d3, df⟩ := D5.four; have D5' := hid D5; clear D5))
  all_goals
    go_wp2_with fail
    go_ret
    exact ⟨by simp, h5.out⟩
end Go.Proofs.Ytpophpoakfkdoaa.sectorReads
