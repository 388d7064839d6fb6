/-
  The document's answers for sector, the ones that only read: Check, Holds, Read.
-/
import Derived.Test.YtiegocbdgimimaaSectorMain
namespace Go.Proofs.Ytiegocbdgimimaa.Sector
open Go.ChangeShapes Go.WideShapes Go.ChangeAt Go.RowKit
open Go.Proofs.Ytiegocbdgimimaa.Mem
set_option linter.unusedVariables false

theorem rcheck_any (d : Disk) (v : Value) (w : World) (h : DiskV w v d) :
    Calls Try.prog 42 #[v] w fun e w' => e = .returned (.int .i64 (chk d)) ∧ Below w.heap.size w w' := by
  obtain ⟨sv, pv, rfl, hs, hp⟩ := h
  obtain ⟨so, scap, rfl, hs2, hs3⟩ := hs.form
  obtain ⟨po, pcap, rfl, hp2, hp3⟩ := hp.form
  have hsl := hs.len
  have hpl := hp.len
  unfold maxLen at hs3 hp3 hsl hpl
  have hb1 := (Below.refl _ w).alloc (Nat.le_refl _) (.cells #[.slice so d.secs.length scap, .slice po d.pend.length pcap, .bool d.off, .int .i64 d.fuse] 25)
  have hs' := hid hs
  have hp' := hid hp
  clear hs hp
  by_cases h1 : d.secs.length < 1
  · have hf := hid (chk_bad (d := d) (by unfold okB; simp; omega))
    go_enter Try.func42, Try.ntmps42
    go_wp2_with fail
    go_ret
    exact ⟨by rw [hf.out]; rfl, hb1⟩
  by_cases h2 : 1024 < d.secs.length
  · have hf := hid (chk_bad (d := d) (by unfold okB; simp; omega))
    go_enter Try.func42, Try.ntmps42
    go_wp2_with fail
    go_ret
    exact ⟨by rw [hf.out]; rfl, hb1⟩
  by_cases h3 : 4096 < d.pend.length
  · have hf := hid (chk_bad (d := d) (by unfold okB; simp; omega))
    go_enter Try.func42, Try.ntmps42
    go_wp2_with fail
    go_ret
    exact ⟨by rw [hf.out]; rfl, hb1⟩
  have hok : Hid (chk d = if d.secs.any oddB || d.pend.any (badB d.secs.length) then 13 else 0) := hid (by
    have e : okB d = !(d.secs.any oddB || d.pend.any (badB d.secs.length)) := by unfold okB; rw [show decide (1 ≤ d.secs.length) = true by simp; omega, show decide (d.secs.length ≤ 1024) = true by simp; omega, show decide (d.pend.length ≤ 4096) = true by simp; omega]; cases d.secs.any oddB <;> cases d.pend.any (badB d.secs.length) <;> rfl
    unfold chk; rw [e]; cases (d.secs.any oddB || d.pend.any (badB d.secs.length)) <;> rfl)
  obtain ⟨sb, soff, scap', hv, _, _, hsb, hsc⟩ := hs'.out.open (by omega)
  simp only [Value.slice.injEq] at hv
  obtain ⟨rfl, _, rfl⟩ := hv
  have hsc' := hid hsc
  clear hsc
  go_enter Try.func42, Try.ntmps42
  go_wp2_with fail
  go_loop [26] (fun i => ∃ k : Nat, k ≤ d.secs.length ∧ i = .int .i64 k ∧ (d.secs.take k).any oddB = false) (fun i => d.secs.length - (intOf i).toNat)
  case atStart => exact ⟨0, by omega, rfl, rfl⟩
  case round =>
    obtain ⟨k, hk, rfl, hno⟩ := hrel
    by_cases hlt : k < d.secs.length
    · have hcell := (hb1.cell (p := ⟨sb, soff + k, none⟩) hsb).trans (hsc'.out k hlt)
      cases ho : oddB d.secs[k] with
      | true =>
        have hfin : Hid (chk d = 13) := hid (by rw [hok.out, show d.secs.any oddB = true by rw [List.any_eq_true]; exact ⟨_, List.getElem_mem hlt, ho⟩]; rfl)
        have ho2 : ((d.secs[k].size : Int) != 64) = true := by rw [← ho]; unfold oddB; rw [Bool.eq_iff_iff, bne_iff_ne, bne_iff_ne]; omega
        clear ho hno
        go_wp2_with fail
        go_ret
        exact ⟨by rw [hfin.out]; rfl, hb1⟩
      | false =>
        have hno2 : Hid ((d.secs.take (k + 1)).any oddB = false) := hid (by rw [List.take_succ_eq_append_getElem hlt, List.any_append, hno]; simp [ho])
        have ho2 : ((d.secs[k].size : Int) != 64) = false := by rw [← ho]; unfold oddB; rw [Bool.eq_iff_iff, bne_iff_ne, bne_iff_ne]; omega
        clear ho hno
        go_wp2_with fail
        go_round
        case rel => exact ⟨k + 1, by omega, by go_num, hno2.out⟩
        case measure => simp [intOf]; omega
    · obtain rfl : k = d.secs.length := by omega
      rw [List.take_length] at hno
      have hok2 : Hid (chk d = if d.pend.any (badB d.secs.length) then 13 else 0) := hid (by rw [hok.out, hno, Bool.false_or])
      clear hno hok
      by_cases h0 : d.pend.length = 0
      · have hfin : Hid (chk d = 0) := hid (by rw [hok2.out, List.eq_nil_of_length_eq_zero h0]; rfl)
        have hlt0 : ¬ (0 : Int) < (d.pend.length : Int) := by omega
        have hlt1 : ((d.pend.length : Int)) = 0 := by omega
        clear h0 hok2
        go_wp2_with fail
        go_rounds 1
        go_ret
        exact ⟨by rw [hfin.out]; rfl, hb1⟩
      obtain ⟨pb, poff, pcap', hv, _, _, hpb, hpc⟩ := hp'.out.open (by omega)
      simp only [Value.slice.injEq] at hv
      obtain ⟨rfl, _, rfl⟩ := hv
      have hpc' := hid hpc
      have hh0 := hid h0
      clear hpc h0
      go_wp2_with fail
      go_loopw [37] (fun i wr => ∃ k : Nat, k ≤ d.pend.length ∧ i = .int .i64 k ∧ (d.pend.take k).any (badB d.secs.length) = false ∧ Blk wr w.heap.size [.slice (some ⟨sb, soff, none⟩) d.secs.length scap, .slice (some ⟨pb, poff, none⟩) d.pend.length pcap, .bool d.off, .int .i64 d.fuse] 25 ∧ Below w.heap.size w wr)
        (fun i _ => d.pend.length - (intOf i).toNat)
      case atStart => exact ⟨0, by omega, rfl, rfl, Blk.new w _ _, hb1⟩
      case round =>
        obtain ⟨k, hk, rfl, hno, hD, hbr⟩ := hrel
        have hD' := hid hD
        obtain ⟨c0, c1, c2, c3, cf⟩ := hD.four
        clear hD
        by_cases hlt : k < d.pend.length
        · have hcell := (hbr.cell (p := ⟨pb, poff + k * 2, none⟩) hpb).trans (hpc'.out k hlt).1
          have hcell2 := (hbr.cell (p := ⟨pb, poff + k * 2 + 1, none⟩) hpb).trans (hpc'.out k hlt).2
          have hal : Below wr.heap.size wr (wr.alloc (.cells #[.int .i64 d.pend[k].1, .string d.pend[k].2] 62)) := (Below.refl _ wr).alloc (Nat.le_refl _) _
          have c0a := cell_below hal _ _ c0
          have hbn := hid (hbr.trans (hal.mono hbr.size))
          have hDn := hid (hD'.out.below hal hD'.out.lt)
          have hbad : badB d.secs.length d.pend[k] = true → Hid (chk d = 13) := fun ho => hid (by rw [hok2.out, show d.pend.any (badB d.secs.length) = true by rw [List.any_eq_true]; exact ⟨_, List.getElem_mem hlt, ho⟩]; rfl)
          have hgood : badB d.secs.length d.pend[k] = false → Hid ((d.pend.take (k + 1)).any (badB d.secs.length) = false) := fun ho => hid (by rw [List.take_succ_eq_append_getElem hlt, List.any_append, hno]; simp [ho])
          have hodd : ((d.pend[k].2.size : Int) != 64) = oddB d.pend[k].2 := by unfold oddB; rw [Bool.eq_iff_iff, bne_iff_ne, bne_iff_ne]; omega
          clear hal hno
          by_cases hneg : d.pend[k].1 < 0
          · have hfin := hbad (by unfold badB missB; simp [hneg])
            clear hbad hgood hodd
            go_wp2_with fail
            go_ret
            exact ⟨by rw [hfin.out]; rfl, hbn.out⟩
          by_cases hbig : (d.secs.length : Int) ≤ d.pend[k].1
          · have hfin := hbad (by unfold badB missB; simp [hbig])
            clear hbad hgood hodd
            go_wp2_with fail
            go_ret
            exact ⟨by rw [hfin.out]; rfl, hbn.out⟩
          cases ho : oddB d.pend[k].2 with
          | true =>
            have hfin := hbad (by unfold badB; simp [ho])
            rw [ho] at hodd
            clear hbad hgood ho
            go_wp2_with fail
            go_ret
            exact ⟨by rw [hfin.out]; rfl, hbn.out⟩
          | false =>
            have hno2 := hgood (by unfold badB missB; simp [ho, hneg, hbig])
            rw [ho] at hodd
            clear hbad hgood ho
            go_wp2_with fail
            go_roundw
            case rel => exact ⟨k + 1, by omega, by go_num, hno2.out, hDn.out, hbn.out⟩
            case measure => simp [intOf]; omega
        · obtain rfl : k = d.pend.length := by omega
          rw [List.take_length] at hno
          have hfin : Hid (chk d = 0) := hid (by rw [hok2.out, hno]; rfl)
          clear hno hok2
          go_wp2_with fail
          go_ret
          exact ⟨by rw [hfin.out]; rfl, hbr⟩
end Go.Proofs.Ytiegocbdgimimaa.Sector
