/-
  Same, of two disks that are one.
-/
import Derived.Test.YtiegocbdgimimaaSectorCalls
import Derived.RegionTactic
import Derived.ChangeAlike
import Derived.Deep.QuietTactic
import Derived.BigQuiet
namespace Go.Proofs.Ytiegocbdgimimaa.Sector
open Go.ChangeShapes Go.WideShapes Go.ChangeAt Go.RowKit
open Go.Proofs.Ytiegocbdgimimaa.Mem
set_option linter.unusedVariables false

theorem below_drewN {B : Nat} {w w' : World} (h : Below B w w') (n : Nat) : Below B w (w'.drewN n) := ⟨h.os, h.tape, h.output, h.size, h.block⟩
theorem same_self (d : Disk) (v u : Value) (w : World) (h : DiskV w v d) (g : DiskV w u d) :
    Calls Try.prog 9 #[v, u] w fun e w' => e = .returned (.bool true) ∧ Below w.heap.size w w' := by
  obtain ⟨sv, pv, rfl, hs, hp⟩ := h
  obtain ⟨so, scap, rfl, hs2, hs3⟩ := hs.form
  obtain ⟨po, pcap, rfl, hp2, hp3⟩ := hp.form
  obtain ⟨su, pu, rfl, gs, gp⟩ := g
  obtain ⟨uo, ucap, rfl, gs2, gs3⟩ := gs.form
  obtain ⟨qo, qcap, rfl, gp2, gp3⟩ := gp.form
  have hsl := hs.len
  have hpl := hp.len
  have hs' := hid hs
  have hp' := hid hp
  have gs' := hid gs
  have gp' := hid gp
  unfold maxLen at hs3 hp3 hsl hpl gs3 gp3
  clear hs hp gs gp
  go_enter Try.func9, Try.ntmps9
  go_wp2_with fail
  go_loopw [40] (fun i wr => ∃ k : Nat, k ≤ d.secs.length ∧ i = .int .i64 k ∧ Blk wr w.heap.size [.slice so d.secs.length scap, .slice po d.pend.length pcap, .bool d.off, .int .i64 d.fuse] 25 ∧ Blk wr (w.heap.size + 1) [.slice uo d.secs.length ucap, .slice qo d.pend.length qcap, .bool d.off, .int .i64 d.fuse] 25 ∧ Below w.heap.size w wr) (fun i _ => d.secs.length - (intOf i).toNat)
  case atStart => exact ⟨0, by omega, rfl, (Blk.new w _ _).alloc _, Blk.new' _ _ _ _ (by simp), by go_grown⟩
  case round =>
    obtain ⟨k, hk, rfl, hD, hE, hbr⟩ := hrel
    have hD' := hid hD
    have hE' := hid hE
    obtain ⟨d0, d1, d2, d3, df⟩ := hD.four
    obtain ⟨e0, e1, e2, e3, ef⟩ := hE.four
    clear hD hE
    by_cases hlt : k < d.secs.length
    · obtain ⟨b, off, cap', hv, _, _, hb, hc⟩ := hs'.out.open (by omega)
      simp only [Value.slice.injEq] at hv
      obtain ⟨rfl, _, rfl⟩ := hv
      obtain ⟨c, coff, cap2, hv, _, _, hcb, hcc⟩ := gs'.out.open (by omega)
      simp only [Value.slice.injEq] at hv
      obtain ⟨rfl, _, rfl⟩ := hv
      have x0 := (hbr.cell (p := ⟨b, off + k, none⟩) hb).trans (hc k hlt)
      have y0 := (hbr.cell (p := ⟨c, coff + k, none⟩) hcb).trans (hcc k hlt)
      have hkl : (k : Int) < (d.secs.length : Int) := by omega
      have hk0 : (0 : Int) ≤ (k : Int) := by omega
      clear hc hcc
      go_wp2_with fail
      go_quiet (fail)
      go_wp2_with fail
      go_roundw
      case rel => exact ⟨k + 1, by omega, by go_num, ⟨hD'.out.at'⟩, ⟨hE'.out.at'⟩, below_drewN hbr _⟩
      case measure => simp [intOf]; omega
    · obtain rfl : k = d.secs.length := by omega
      go_wp2_with fail
      go_loopw [58] (fun i wr => ∃ k : Nat, k ≤ d.pend.length ∧ i = .int .i64 k ∧ Blk wr w.heap.size [.slice so d.secs.length scap, .slice po d.pend.length pcap, .bool d.off, .int .i64 d.fuse] 25 ∧ Blk wr (w.heap.size + 1) [.slice uo d.secs.length ucap, .slice qo d.pend.length qcap, .bool d.off, .int .i64 d.fuse] 25 ∧ Below w.heap.size w wr) (fun i _ => d.pend.length - (intOf i).toNat)
      case atStart => exact ⟨0, by omega, rfl, hD'.out, hE'.out, hbr⟩
      clear d0 d1 d2 d3 df e0 e1 e2 e3 ef hD' hE' hbr
      case round =>
        obtain ⟨k, hk, rfl, hD, hE, hbr⟩ := hrel
        have hD' := hid hD
        have hE' := hid hE
        obtain ⟨d0, d1, d2, d3, df⟩ := hD.four
        obtain ⟨e0, e1, e2, e3, ef⟩ := hE.four
        clear hD hE
        by_cases hlt : k < d.pend.length
        · obtain ⟨b, off, cap', hv, _, _, hb, hc⟩ := hp'.out.open (by omega)
          simp only [Value.slice.injEq] at hv
          obtain ⟨rfl, _, rfl⟩ := hv
          obtain ⟨c, coff, cap2, hv, _, _, hcb, hcc⟩ := gp'.out.open (by omega)
          simp only [Value.slice.injEq] at hv
          obtain ⟨rfl, _, rfl⟩ := hv
          have x0 := (hbr.cell (p := ⟨b, off + k * 2, none⟩) hb).trans (hc k hlt).1
          have x1 := (hbr.cell (p := ⟨b, off + k * 2 + 1, none⟩) hb).trans (hc k hlt).2
          have y0 := (hbr.cell (p := ⟨c, coff + k * 2, none⟩) hcb).trans (hcc k hlt).1
          have y1 := (hbr.cell (p := ⟨c, coff + k * 2 + 1, none⟩) hcb).trans (hcc k hlt).2
          have hkl : (k : Int) < (d.pend.length : Int) := by omega
          have hk0 : (0 : Int) ≤ (k : Int) := by omega
          clear hc hcc
          go_wp2_with fail
          go_quiet (fail)
          go_wp2_with fail
          go_roundw
          case rel => exact ⟨k + 1, by omega, by go_num, ⟨hD'.out.at'⟩, ⟨hE'.out.at'⟩, below_drewN hbr _⟩
          case measure => simp [intOf]; omega
        · obtain rfl : k = d.pend.length := by omega
          go_wp2_with fail
          go_ret
          exact ⟨rfl, hbr⟩
end Go.Proofs.Ytiegocbdgimimaa.Sector
