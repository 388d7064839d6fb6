/-
  The document's answers for sector: Holds, Read.
-/
import Derived.Test.YtiegocbdgimimaaSectorRef
namespace Go.Proofs.Ytiegocbdgimimaa.Sector
open Go.ChangeShapes Go.WideShapes Go.ChangeAt Go.RowKit
open Go.Proofs.Ytiegocbdgimimaa.Mem
set_option linter.unusedVariables false

theorem lastW_snoc (n : Int) (L : List (Int × ByteArray)) (p : Int × ByteArray) : lastW n (L ++ [p]) = if p.1 = n then some p.2 else lastW n L := by
  unfold lastW
  rw [List.reverse_append, List.reverse_singleton, List.singleton_append, List.find?_cons]
  by_cases h : p.1 = n
  · simp [h]
  · rw [if_neg h, show (p.1 == n) = false by simpa using h]
theorem heldS_snoc (secs : List ByteArray) (n : Int) (L : List (Int × ByteArray)) (p : Int × ByteArray) : heldS secs (L ++ [p]) n = if p.1 = n then p.2 else heldS secs L n := by
  unfold heldS; rw [lastW_snoc]; split <;> rfl
theorem heldS_nil (secs : List ByteArray) (m : Nat) (h : m < secs.length) : heldS secs [] m = secs[m] := by simp [heldS, lastW, List.getD, h]

theorem rholds_any (d : Disk) (v : Value) (m : Nat) (w : World) (h : DiskV w v d) (hm : m < d.secs.length) :
    Calls Try.prog 13 #[v, .int .i64 m] w fun e w' => e = .returned (.string (heldS d.secs d.pend m)) ∧ Below w.heap.size w w' := by
  obtain ⟨sv, pv, rfl, hs, hp⟩ := h
  obtain ⟨po, pcap, rfl, hp2, hp3⟩ := hp.form
  obtain ⟨sb, soff, scap, rfl, hs2, hs3, hsb, hsc⟩ := hs.open (by omega)
  have hsc' := hid hsc
  have hp' := hid hp
  have hcell := hsc m hm
  have hb1 := (Below.refl _ w).alloc (Nat.le_refl _) (.cells #[.slice (some ⟨sb, soff, none⟩) d.secs.length scap, .slice po d.pend.length pcap, .bool d.off, .int .i64 d.fuse] 25)
  unfold maxLen at hs3 hp3
  clear hs hp hsc
  go_enter Try.func13, Try.ntmps13
  by_cases h0 : d.pend.length = 0
  · have hfin : Hid (heldS d.secs d.pend m = d.secs[m]) := hid (by rw [List.eq_nil_of_length_eq_zero h0, heldS_nil d.secs m hm])
    have hlt0 : ¬ (0 : Int) < (d.pend.length : Int) := by omega
    have hlt1 : ((d.pend.length : Int)) = 0 := by omega
    clear h0
    go_wp2_with fail
    go_rounds 1
    go_ret
    exact ⟨by rw [hfin.out]; rfl, hb1⟩
  obtain ⟨pb, poff, pcap', hv, _, _, hpb, hpc⟩ := hp'.out.open (by omega)
  simp only [Value.slice.injEq] at hv
  obtain ⟨rfl, _, rfl⟩ := hv
  have hpc' := hid hpc
  have hh0 := hid h0
  clear hpc h0
  go_wp2_with fail
  go_loopw [5, 16] (fun s i wr => ∃ k : Nat, k ≤ d.pend.length ∧ i = .int .i64 k ∧ s = .string (heldS d.secs (d.pend.take k) m) ∧ Below w.heap.size w wr)
    (fun s i _ => d.pend.length - (intOf i).toNat)
  case atStart => exact ⟨0, by omega, rfl, by rw [List.take_zero, heldS_nil d.secs m hm], hb1⟩
  case round =>
    obtain ⟨k, hk, rfl, rfl, hbr⟩ := hrel
    by_cases hlt : k < d.pend.length
    · have hcell := (hbr.cell (p := ⟨pb, poff + k * 2, none⟩) hpb).trans (hpc'.out k hlt).1
      have hcell2 := (hbr.cell (p := ⟨pb, poff + k * 2 + 1, none⟩) hpb).trans (hpc'.out k hlt).2
      have hbn := hid (hbr.alloc hbr.size (.cells #[.int .i64 d.pend[k].1, .string d.pend[k].2] 62))
      have hsn : Hid (heldS d.secs (d.pend.take (k + 1)) m = if d.pend[k].1 = m then d.pend[k].2 else heldS d.secs (d.pend.take k) m) := hid (by rw [List.take_succ_eq_append_getElem hlt, heldS_snoc])
      by_cases he : d.pend[k].1 = m
      · have hs2 : Hid (heldS d.secs (d.pend.take (k + 1)) m = d.pend[k].2) := hid (by rw [hsn.out, if_pos he])
        have hbe : (d.pend[k].1 == (m : Int)) = true := by simpa using he
        clear hsn he
        go_wp2_with fail
        go_roundw
        case rel => exact ⟨k + 1, by omega, by go_num, by rw [hs2.out], hbn.out⟩
        case measure => simp [intOf]; omega
      · have hs2 : Hid (heldS d.secs (d.pend.take (k + 1)) m = heldS d.secs (d.pend.take k) m) := hid (by rw [hsn.out, if_neg he])
        have hbe : (d.pend[k].1 == (m : Int)) = false := by simpa using he
        clear hsn he
        go_wp2_with fail
        go_roundw
        case rel => exact ⟨k + 1, by omega, by go_num, by rw [hs2.out], hbn.out⟩
        case measure => simp [intOf]; omega
    · obtain rfl : k = d.pend.length := by omega
      have hfin : Hid (heldS d.secs (d.pend.take d.pend.length) m = heldS d.secs d.pend m) := hid (by rw [List.take_length])
      go_wp2_with fail
      go_ret
      exact ⟨by rw [← hfin.out]; rfl, hbr⟩

end Go.Proofs.Ytiegocbdgimimaa.Sector
