/-
  The contracts of settle and pend.
-/
import Derived.Test.YtiegocbdgimimaaSectorCopy
import Derived.OwnWalk
import Derived.RegionTactic
import Derived.ChangeAlike
namespace Go.Proofs.Ytiegocbdgimimaa.Sector
open Go.ChangeShapes Go.WideShapes Go.ChangeAt Go.RowKit
open Go.Proofs.Ytiegocbdgimimaa.Mem
set_option linter.unusedVariables false

/-- The sectors, the first k writes that are kept being done. -/
def sett (kp : Nat → Bool) (pend : List (Int × ByteArray)) (secs : List ByteArray) : Nat → List ByteArray
  | 0 => secs
  | k + 1 => if kp k then (sett kp pend secs k).set (pend.getD k (0, ⟨#[]⟩)).1.toNat (pend.getD k (0, ⟨#[]⟩)).2 else sett kp pend secs k
theorem sett_len (kp : Nat → Bool) (pend : List (Int × ByteArray)) (secs : List ByteArray) (k : Nat) : (sett kp pend secs k).length = secs.length := by
  induction k with
  | zero => rfl
  | succ k ih => simp only [sett]; split <;> simp [ih]
theorem ownsRow_setCell_other {w : World} {base : Nat} {e : TypeId} {size : Nat} {v : Value} {n : Nat} {xs : List Value} (h : w.ownsRow base e size v n xs) {a : Addr} (ha : v.ownBlock ≠ some a.block) (u : Value) : (w.setCell a u).ownsRow base e size v n xs := by
  obtain ⟨h1, h2⟩ := h
  refine ⟨h1, ?_⟩
  rcases h2 with h2 | ⟨g, cap, cur, rfl, hg, hh, r⟩
  · exact Or.inl h2
  · refine Or.inr ⟨g, cap, cur, rfl, hg, ?_, r⟩
    rw [Below.heap_setCell _ _ _ _ (fun e => ha (by simp [Value.ownBlock, e]))]; exact hh
theorem strC_set (l : List ByteArray) (i : Nat) (s : ByteArray) : strC (l.set i s) = (strC l).set i (.string s) := by simp [strC]

def Settled (w : World) (B db : Nat) (sv : Value) (secs : List ByteArray) (e0 : Ending) (w' : World) : Prop :=
  ∃ W, e0 = .returned (.tuple #[]) ∧ w' = W.setCell ⟨db, 1, none⟩ (.slice none 0 0) ∧ Below B w W ∧ W.ownsRow B 9 1 sv secs.length (strC secs)

/-- A row with elements leads to a block of its own. -/
theorem ownsRow_some {w : World} {base : Nat} {e : TypeId} {size : Nat} {v : Value} {n : Nat} {xs : List Value} (h : w.ownsRow base e size v n xs) (hn : 0 < n) : ∃ g cap, v = .slice (some ⟨g, 0, none⟩) n cap ∧ base ≤ g ∧ g < w.heap.size := by
  rcases h.2 with ⟨_, h0⟩ | ⟨g, cap, cur, hv, hb, hg, _⟩
  · omega
  · exact ⟨g, cap, hv, hb, (Array.getElem?_eq_some_iff.1 hg).1⟩

theorem settle_step {B db g : Nat} {w wr W W2 : World} {scap pg pcap : Nat} {d : Disk} {kp : Nat → Bool} {k : Nat} (hk : k < d.pend.length) (hW : W = wr.alloc (.cells #[.int .i64 d.pend[k].1, .string d.pend[k].2] 62))
    (hW2 : W2 = ((wr.setCell ⟨g, d.pend[k].1.toNat, none⟩ (.string d.pend[k].2)).alloc (.cells #[.int .i64 d.pend[k].1, .string d.pend[k].2] 62)).drew) (hg : B ≤ g) (hne : g ≠ pg)
    (hB : B ≤ wr.heap.size) (hbr : Below B w wr) (hs : wr.ownsRow B 9 1 (.slice (some ⟨g, 0, none⟩) d.secs.length scap) d.secs.length (strC (sett kp d.pend d.secs k)))
    (hp : wr.ownsRow B 62 2 (.slice (some ⟨pg, 0, none⟩) d.pend.length pcap) d.pend.length (prC d.pend)) :
    (kp k = false → W.ownsRow B 9 1 (.slice (some ⟨g, 0, none⟩) d.secs.length scap) d.secs.length (strC (sett kp d.pend d.secs (k + 1))) ∧ W.ownsRow B 62 2 (.slice (some ⟨pg, 0, none⟩) d.pend.length pcap) d.pend.length (prC d.pend) ∧ Below B w W) ∧
    (kp k = true → W2.ownsRow B 9 1 (.slice (some ⟨g, 0, none⟩) d.secs.length scap) d.secs.length (strC (sett kp d.pend d.secs (k + 1))) ∧
      W2.ownsRow B 62 2 (.slice (some ⟨pg, 0, none⟩) d.pend.length pcap) d.pend.length (prC d.pend) ∧ Below B w W2) := by
  refine ⟨fun h => ⟨?_, ?_, ?_⟩, fun h => ⟨?_, ?_, ?_⟩⟩
  · rw [hW]; simp only [sett, h]; exact hs.alloc _
  · rw [hW]; exact hp.alloc _
  · rw [hW]; exact hbr.alloc hB _
  · have := (hs.stored d.pend[k].1.toNat (.string d.pend[k].2)).1
    rw [hW2]
    simp only [sett, h, if_true, strC_set, List.getD, List.getElem?_eq_getElem hk, Option.getD_some]
    exact this.alloc _
  · rw [hW2]; exact (ownsRow_setCell_other hp (by simp [Value.ownBlock]; omega) _).alloc (.cells #[.int .i64 d.pend[k].1, .string d.pend[k].2] 62)
  · rw [hW2]; exact ((hbr.setCell (p := ⟨g, d.pend[k].1.toNat, none⟩) hg _).alloc (by simp; exact hB) _).drew

theorem settle_any (B db : Nat) (hdb : db < B) (sv pv : Value) (d : Disk) (fid : Nat) (caps : Array Value) (kp : Nat → Bool) (w : World) (hB : B ≤ w.heap.size) (hblk : Blk w db [sv, pv, .bool d.off, .int .i64 d.fuse] 25) (hown : OwnDisk B w sv pv d)
    (hin : ∀ p ∈ d.pend, 0 ≤ p.1 ∧ p.1 < d.secs.length) (hcf : ∀ args W, (callFunc fid args).run Try.prog W = .ok (.enter fid args) W) (hcalls : ∀ i, i < d.pend.length → ∀ W, Below B w W → Calls Try.prog fid (#[.int .i64 i] ++ caps) W fun e W' => e = .returned (.bool (kp i)) ∧ W = W') :
    Calls Try.prog 27 #[.pointer (some ⟨db, 0, none⟩), .func (Fn.func fid) #[] caps] w (Settled w B db sv (sett kp d.pend d.secs d.pend.length)) := by
  obtain ⟨po, pc, rfl, hpl, hpm⟩ := ownsRow_form hown.pend
  obtain ⟨so, sc, rfl, hsl, hsm⟩ := ownsRow_form hown.secs
  have hpc : d.pend.length ≤ 9223372036854775807 := by unfold maxLen at hpm; omega
  have hscl : d.secs.length ≤ 9223372036854775807 := by unfold maxLen at hsm; omega
  have hown' := hid hown
  have hin' := hid hin
  have hcalls' := hid hcalls
  have hblk' := hid hblk
  obtain ⟨b0, b1, b2, b3, bf⟩ := hblk.four
  have hslen : Hid (∀ k, (sett kp d.pend d.secs k).length = d.secs.length) := hid (sett_len kp d.pend d.secs)
  clear hown hin hcalls hblk hpl hpm hsl hsm
  by_cases h0 : d.pend.length = 0
  · have hz : Hid (d.pend.length = 0) := hid h0
    have hlt : ¬ (0 : Int) < (d.pend.length : Int) := by omega
    clear h0
    go_enter Try.func27, Try.ntmps27
    go_wp2_with fail
    go_rounds 1
    go_returns
    refine ⟨w, rfl, rfl, Below.refl _ _, ?_⟩
    rw [hz.out, sett]; exact hown'.out.secs
  · have hpos : 0 < d.pend.length := by omega
    obtain ⟨pg, pcap, hpv, hpg, hpgs⟩ := ownsRow_some hown'.out.pend hpos
    simp only [Value.slice.injEq] at hpv
    obtain ⟨rfl, _, rfl⟩ := hpv
    have hsp : 0 < d.secs.length := by have := hin'.out d.pend[0] (List.getElem_mem hpos); omega
    obtain ⟨g, scap, hsv, hg, hgs⟩ := ownsRow_some hown'.out.secs hsp
    simp only [Value.slice.injEq] at hsv
    obtain ⟨rfl, _, rfl⟩ := hsv
    have hne : g ≠ pg := fun e => hown'.out.apart g rfl (by simp [Value.ownBlock, e])
    have hh0 := hid h0
    clear h0 hpos hsp
    go_enter Try.func27, Try.ntmps27
    go_wp2_with fail
    go_loopw [11] (fun i wr => ∃ k : Nat, k ≤ d.pend.length ∧ i = .int .i64 k ∧ wr.ownsRow B 9 1 (.slice (some ⟨g, 0, none⟩) d.secs.length sc) d.secs.length (strC (sett kp d.pend d.secs k)) ∧
      wr.ownsRow B 62 2 (.slice (some ⟨pg, 0, none⟩) d.pend.length pc) d.pend.length (prC d.pend) ∧ Below B w wr) (fun i _ => d.pend.length - (intOf i).toNat)
    case atStart => exact ⟨0, by omega, rfl, hown'.out.secs, hown'.out.pend, Below.refl _ _⟩
    case round =>
      obtain ⟨k, hk, rfl, hs, hp, hbr⟩ := hrel
      have hBr : B ≤ wr.heap.size := Nat.le_trans hB hbr.size
      have c0 := (hbr.cell (p := ⟨db, 0, none⟩) hdb).trans b0
      have c1 := (hbr.cell (p := ⟨db, 1, none⟩) hdb).trans b1
      have cf := (hbr.frozen (p := ⟨db, 1, none⟩) hdb).trans (bf 1)
      clear b0 b1 b2 b3 bf
      by_cases hlt : k < d.pend.length
      · have hpl : k * 2 + 1 < (prC d.pend).length := by rw [prC_len]; omega
        have p0 := hp.cellAt (k * 2) (by omega)
        have p1 := hp.cellAt (k * 2 + 1) (by omega)
        rw [prC_get0 d.pend k hlt] at p0
        rw [prC_get1 d.pend k hlt] at p1
        have hstep := hid (settle_step (B := B) (db := db) (w := w) (kp := kp) hlt rfl rfl hg hne hBr hbr hs hp)
        have hio := hin'.out d.pend[k] (List.getElem_mem hlt)
        have hb1 := hid (hbr.alloc hBr (.cells #[.int .i64 d.pend[k].1, .string d.pend[k].2] 62))
        have hq0 := hs.cellAt d.pend[k].1.toNat (by have := hio.2; omega)
        have hq1 := hs.frozenAt d.pend[k].1.toNat
        rw [List.getElem?_eq_getElem (by rw [strC_len, hslen.out]; have := hio.2; omega)] at hq0
        generalize (strC (sett kp d.pend d.secs k))[d.pend[k].1.toNat]'_ = old at hq0
        have hgr : g < wr.heap.size := Nat.lt_of_lt_of_le hgs hbr.size
        have hal : Below wr.heap.size wr (wr.alloc (.cells #[.int .i64 d.pend[k].1, .string d.pend[k].2] 62)) := (Below.refl _ wr).alloc (Nat.le_refl _) _
        have c0a := cell_below hal _ _ c0
        have q0a := cell_below hal _ _ hq0
        have q1a := (hal.frozen (p := ⟨g, d.pend[k].1.toNat, none⟩) hgr).trans hq1
        have hio1 := hio.1
        have hio2 := hio.2
        clear hs hp hpl hal hq0 hq1 hio
        cases hkp : kp k with
        | true =>
          have hkp' := hid hkp
          clear hkp
          go_wp2_with fail
          refine (hcalls'.out k hlt _ hb1.out).mono ?_
          rintro e w1 ⟨rfl, rfl⟩
          rw [hkp'.out]
          go_wp2_with fail
          go_region
          all_goals
            obtain ⟨n1, n2, n3⟩ := hstep.out.2 hkp'.out
            clear hstep c0a q0a q1a
            go_wp2_with fail
            go_roundw
            case rel => exact ⟨k + 1, by omega, by go_num, n1, n2, n3⟩
            case measure => simp [intOf]; omega
        | false =>
          have hkp' := hid hkp
          clear hkp
          go_wp2_with fail
          refine (hcalls'.out k hlt _ hb1.out).mono ?_
          rintro e w1 ⟨rfl, rfl⟩
          rw [hkp'.out]
          obtain ⟨n1, n2, n3⟩ := hstep.out.1 hkp'.out
          clear hstep c0a q0a q1a
          go_wp2_with fail
          go_roundw
          case rel => exact ⟨k + 1, by omega, by go_num, n1, n2, n3⟩
          case measure => simp [intOf]; omega
      · obtain rfl : k = d.pend.length := by omega
        have hs' := hid hs
        clear hs hp
        go_wp2_with fail
        go_returns
        exact ⟨wr, rfl, rfl, hbr, by rw [hslen.out]; exact hs'.out⟩
end Go.Proofs.Ytiegocbdgimimaa.Sector
