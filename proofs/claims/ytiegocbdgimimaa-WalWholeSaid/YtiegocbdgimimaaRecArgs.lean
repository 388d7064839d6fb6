/-
  A frame that came in, opened; a slice of texts.
-/
import Derived.Test.YtiegocbdgimimaaRecFacts
import Derived.Lib.SmallJoins
import Derived.Deep.Slices
import Derived.Deep.Fields
import Derived.Deep.Grids
import Derived.ChangeSame
import Derived.SliceStrings
namespace Go.Proofs.Ytiegocbdgimimaa.Rec
open Go.Joins Go.ChangeShapes Go.WideShapes Go.ChangeAt Go.RowKit Go.Deep
open Go.Proofs.Ytiegocbdgimimaa.Mem
set_option linter.unusedVariables false

/-- A frame whose fields are in their bounds. -/
def Fr.has (f : Fr) : Prop := f.kind < 256 ∧ f.epoch < 18446744073709551616 ∧ f.seq < 18446744073709551616 ∧ f.pay.size ≤ 9223372036854775807
theorem Fr.has.okn {f : Fr} (h : f.has) (hk : fchk f.kind f.pay.size = 0) : f.okn := ⟨h.1, h.2.1, h.2.2.1, by have := (fchk_zero hk).2; omega⟩
set_option maxRecDepth 100000 in
theorem open_frame {H : Type} {enc : TypeId × Value → H} {W : World} {r : Reach} {b0 : Nat} {v : Value} {d : DataW H} {p : List MemPlace} (hv : Value.okWide Try.prog W r b0 30 v) (h : DataW.Trod enc Try.prog W 0 (fun _ => true) true 30 v d p) :
    ∃ f : Fr, v = frV f ∧ f.has := by
  obtain ⟨v0, v1, v2, v3, y0, y1, y2, y3, n, rfl, _, _, t0, t1, t2, t3⟩ := open_agg4 Try.underlying30 (by kernel_rfl) (by kernel_rfl) hv h
  obtain ⟨k, e0, _, h0⟩ := DataW.trod_int Try.underlying5 t0
  obtain ⟨ep, e1, _, h1⟩ := DataW.trod_int Try.underlying28 t1
  obtain ⟨sq, e2, _, h2⟩ := DataW.trod_int Try.underlying28 t2
  obtain ⟨s, e3, _, h3⟩ := DataW.trod_string Try.underlying9 t3
  obtain rfl : v0 = .int .u8 k := by simpa using e0
  obtain rfl : v1 = .int .u64 ep := by simpa using e1
  obtain rfl : v2 = .int .u64 sq := by simpa using e2
  obtain rfl : v3 = .string s := by simpa using e3
  obtain ⟨k', rfl, hk⟩ := Crc.nat_u8 h0
  obtain ⟨ep', rfl, hep⟩ := Crc.nat_u64 h1
  obtain ⟨sq', rfl, hsq⟩ := Crc.nat_u64 h2
  exact ⟨⟨k', ep', sq', s⟩, rfl, hk, hep, hsq, by unfold maxLen at h3; omega⟩
theorem open_texts {H : Type} {enc : TypeId × Value → H} {W : World} {n : Nat} {v : Value} {x : DataW H × List MemPlace} (h : DataW.trod enc Try.prog W 0 (fun _ => true) true n 22 [v] = some x) : ∃ l, StrsV W v l := by
  rcases open_strings Try.underlying22 Try.underlying9 (by kernel_rfl) h with ⟨hcs, _⟩ | ⟨a, len, cap, ss, hcs, _, hl, hm, hss, _, hc, _⟩
  · obtain rfl : v = .slice none 0 0 := by simpa using hcs
    exact ⟨[], SlV.nil W⟩
  · obtain rfl : v = .slice (some a) len cap := by simpa using hcs
    simp only [if_true] at hss
    have hlen : (ss.take len).length = len := by rw [List.length_take]; omega
    refine ⟨ss.take len, some a, cap, by rw [hlen], by rw [hlen]; exact hl, hm, by simp, fun h => ?_, fun b hb j hj => ?_⟩
    · rw [hlen] at h; subst h; simp [strC]
    · cases hb
      have hj' : j < len := by rw [strC_len, hlen] at hj; exact hj
      rw [hc j (by omega), strC_get _ j (by rw [hlen]; exact hj')]
      simp [List.getD, show j < ss.length by omega]
theorem fcheck_any (k ep sq : Nat) (p : ByteArray) (w : World) (hp : p.size ≤ 9223372036854775807) :
    Calls Try.prog 34 #[.agg #[.int .u8 k, .int .u64 ep, .int .u64 sq, .string p]] w fun e w' => e = .returned (.int .i64 (fchk k p.size)) ∧ Below w.heap.size w w' := by
  by_cases hk : k = 0
  · have h1 : ((k : Int) == 0) = true := by simp [hk]
    have hf : Hid (fchk k p.size = 1) := hid (by simp [fchk, hk])
    clear hk
    go_enter Try.func34, Try.ntmps34
    go_wp2_with fail
    go_ret
    exact ⟨by rw [hf.out]; rfl, by go_grown⟩
  · have h1 : ((k : Int) == 0) = false := by simp; omega
    by_cases hn : 16384 < p.size
    · have hf : Hid (fchk k p.size = 3) := hid (by simp [fchk, hk, hn])
      have h2 : (16384 : Int) < (p.size : Int) := by omega
      clear hk hn
      go_enter Try.func34, Try.ntmps34
      go_wp2_with fail
      go_ret
      exact ⟨by rw [hf.out]; rfl, by go_grown⟩
    · have hf : Hid (fchk k p.size = 0) := hid (by simp [fchk, hk]; omega)
      have h2 : ¬ (16384 : Int) < (p.size : Int) := by omega
      clear hk hn
      go_enter Try.func34, Try.ntmps34
      go_wp2_with fail
      go_ret
      exact ⟨by rw [hf.out]; rfl, by go_grown⟩
theorem fsectors_no (k ep sq : Nat) (p : ByteArray) (w : World) (hs : p.size ≤ 9223372036854775807) (hk : Hid (fchk k p.size ≠ 0)) :
    Calls Try.prog 17 #[.agg #[.int .u8 k, .int .u64 ep, .int .u64 sq, .string p]] w fun e w' =>
      e = .returned (.tuple #[.slice none 0 0, .int .i64 (fchk k p.size)]) ∧ Below w.heap.size w w' := by
  have hne : (fchk k p.size != 0) = true := by simpa using hk.out
  obtain ⟨c, hc⟩ : ∃ c, fchk k p.size = c := ⟨_, rfl⟩
  rw [hc] at hne
  have hc' := hid hc
  clear hk
  rw [hc]
  clear hc
  go_enter Try.func17, Try.ntmps17
  go_wp2_with fail
  refine (fcheck_any k ep sq p _ hs).mono ?_
  rintro e w1 ⟨rfl, b1⟩
  have hB1 := hid ((show Below w.heap.size w _ from by go_grown).trans (b1.mono (by simp)))
  rw [hc'.out]
  clear b1
  go_wp2_with fail
  go_ret2
  exact ⟨rfl, hB1.out⟩
/-- Sectors of any frame: its own row of texts, or none. -/
def SecTold (w : World) (f : Fr) (e : Ending) (w' : World) : Prop :=
  ∃ ao n cap, n = (sectorsE f).1.length ∧ e = .returned (.tuple #[.slice ao n cap, .int .i64 (sectorsE f).2]) ∧ w'.ownsRow w.heap.size 9 1 (.slice ao n cap) n (strC (sectorsE f).1) ∧ Below w.heap.size w w'
theorem secs_any (f : Fr) (w : World) (h : f.has) : Calls Try.prog 17 #[frV f] w (SecTold w f) := by
  obtain ⟨k, ep, sq, p⟩ := f
  by_cases hc : fchk k p.size = 0
  · refine (sectors_ok k ep sq p w h.1 h.2.1 h.2.2.1 (hid hc)).mono ?_
    rintro e w' ⟨sv, rfl, hown, hb⟩
    obtain ⟨ao, cap, rfl, _, _⟩ := Mem.ownsRow_form hown
    have he : sectorsE ⟨k, ep, sq, p⟩ = (secsL ⟨k, ep, sq, p⟩, 0) := by unfold sectorsE; rw [if_pos hc]
    refine ⟨ao, pcs p.size + 1, cap, ?_, ?_, ?_, hb⟩
    · rw [he]; exact (secsL_len ⟨k, ep, sq, p⟩).symm
    · rw [he]
    · rw [he]; exact hown
  · refine (fsectors_no k ep sq p w h.2.2.2 (hid hc)).mono ?_
    rintro e w' ⟨rfl, hb⟩
    have he : sectorsE ⟨k, ep, sq, p⟩ = ([], fchk k p.size) := by unfold sectorsE; rw [if_neg hc]
    refine ⟨none, 0, 0, ?_, ?_, ?_, hb⟩
    · rw [he]; rfl
    · rw [he]
    · rw [he]; exact World.ownsRow_nil _ _ _ _
theorem SecTold.strs {w' : World} {f : Fr} {ao : Option Addr} {n cap base : Nat} (h : w'.ownsRow base 9 1 (.slice ao n cap) n (strC (sectorsE f).1)) (hn : n = (sectorsE f).1.length) : StrsV w' (.slice ao n cap) (sectorsE f).1 := by
  subst hn; exact SlV.own h
end Go.Proofs.Ytiegocbdgimimaa.Rec
