/-
  The contract of record.Head.
-/
import Derived.Test.YtiegocbdgimimaaRecSectors
namespace Go.Proofs.Ytiegocbdgimimaa.Rec
open Go.ChangeShapes Go.WideShapes Go.ChangeAt Go.RowKit
open Go.Proofs.Ytiegocbdgimimaa.Mem Go.Proofs.Ytiegocbdgimimaa.CrcMath
open Go.Proofs.Ytiegocbdgimimaa.Crc (num num_lt get32_yes get64_yes)
set_option linter.unusedVariables false
set_option maxRecDepth 100000

def sub (l : By) (a n : Nat) : By := (l.drop a).take n
def readHd (l : By) : Hd := ⟨(l.getD 1 0).toNat, num (sub l 2 8), num (sub l 10 8), num (sub l 18 4), num (sub l 22 4)⟩
def headOk (l : By) : Bool := decide (l.length = 64) && decide ((readHd l).kind ≠ 0) && decide ((readHd l).len ≤ 16384) && decide (headL (readHd l) = l)
def hdV (h : Hd) : Value := .agg #[.int .u8 h.kind, .int .u64 h.epoch, .int .u64 h.seq, .int .i64 h.len, .int .u32 h.sum]
def zeroHd : Hd := ⟨0, 0, 0, 0, 0⟩
def headE (l : By) : Hd × Int := if headOk l then (readHd l, 0) else (zeroHd, 14)
theorem sub_len (l : By) (a n : Nat) (h : a + n ≤ l.length) : (sub l a n).length = n := by simp [sub]; omega
theorem extract_sub (s : ByteArray) (a b : Nat) : s.extract a b = bs (sub s.data.toList a (b - a)) := extract_bs s a b
theorem readHd_okn (l : By) (h : l.length = 64) : (readHd l).kind < 256 ∧ (readHd l).epoch < 18446744073709551616 ∧ (readHd l).seq < 18446744073709551616 ∧ (readHd l).len < 4294967296 ∧ (readHd l).sum < 4294967296 := by
  have h1 := num_lt (sub l 2 8)
  have h2 := num_lt (sub l 10 8)
  have h3 := num_lt (sub l 18 4)
  have h4 := num_lt (sub l 22 4)
  rw [sub_len l _ _ (by omega)] at h1 h2 h3 h4
  exact ⟨UInt8.toNat_lt _, h1, h2, h3, h4⟩
def HeadTold (w : World) (r : Hd × Int) (e : Ending) (w' : World) : Prop := e = .returned (.tuple #[hdV r.1, .int .i64 r.2]) ∧ Below w.heap.size w w'
theorem head_short (s : ByteArray) (w : World) (h : s.size ≠ 64) : Calls Try.prog 12 #[.string s] w (HeadTold w (headE s.data.toList)) := by
  have hf : Hid (headE s.data.toList = (zeroHd, 14)) := hid (by
    unfold headE headOk
    rw [show decide (s.data.toList.length = 64) = false by simpa using h]
    simp)
  have h1 : ((s.size : Int) != 64) = true := by rw [bne_iff_ne]; omega
  clear h
  go_enter Try.func12, Try.ntmps12
  go_wp2_with fail
  exact bodyPost_ret (v := .tuple #[.agg #[.int .u8 0, .int .u64 0, .int .u64 0, .int .i64 0, .int .u32 0], .int .i64 14]) (by simp [results, Try.results12, go_sem]) rfl ⟨by rw [hf.out]; rfl, by go_grown⟩
theorem get64_bs (l : By) (w : World) (h : l.length = 8) : Calls Try.prog 30 #[.string (bs l)] w fun e w' => e = .returned (.tuple #[.int .u64 (num l : Nat), .int .i64 0]) ∧ w = w' := get64_yes (bs l) w (by rw [bs_size]; exact h)
theorem get32_bs (l : By) (w : World) (h : l.length = 4) : Calls Try.prog 31 #[.string (bs l)] w fun e w' => e = .returned (.tuple #[.int .u32 (num l : Nat), .int .i64 0]) ∧ w = w' := get32_yes (bs l) w (by rw [bs_size]; exact h)
theorem at1 (s : ByteArray) (h : 1 < s.size) : (s[1]'h) = s.data.toList.getD 1 0 := by
  have h' : 1 < s.data.size := h
  simp only [List.getD, Array.getElem?_toList, Array.getElem?_eq_getElem h']
  rfl
theorem hd_bad {l : By} (h : headOk l = false) : headE l = (zeroHd, 14) := by unfold headE; rw [h]; rfl
set_option maxHeartbeats 2000000 in
theorem head_long (s : ByteArray) (w : World) (h : s.size = 64) : Calls Try.prog 12 #[.string s] w (HeadTold w (headE s.data.toList)) := by
  have hl : s.data.toList.length = 64 := h
  have h1 : ((s.size : Int) != 64) = false := by rw [h]; rfl
  have g1 : (1 : Int) < (s.size : Int) := by omega
  have g10 : (10 : Int) ≤ (s.size : Int) := by omega
  have g18 : (18 : Int) ≤ (s.size : Int) := by omega
  have g22 : (22 : Int) ≤ (s.size : Int) := by omega
  have g26 : (26 : Int) ≤ (s.size : Int) := by omega
  have hi1 : 1 < s.size := by omega
  have e1 := hid (extract_sub s 2 10)
  have e2 := hid (extract_sub s 10 18)
  have e3 := hid (extract_sub s 18 22)
  have e4 := hid (extract_sub s 22 26)
  have hok := hid (readHd_okn s.data.toList hl)
  have l1 := hid (sub_len s.data.toList 2 8 (by omega))
  have l2 := hid (sub_len s.data.toList 10 8 (by omega))
  have l3 := hid (sub_len s.data.toList 18 4 (by omega))
  have l4 := hid (sub_len s.data.toList 22 4 (by omega))
  have hl' := hid hl
  have hs' := hid h
  have ha := at1 s hi1
  have hkd : (s[1]'hi1).toNat = (readHd s.data.toList).kind := by rw [ha]; rfl
  have hoku : Hid (headOk s.data.toList = (decide ((readHd s.data.toList).kind ≠ 0) && decide ((readHd s.data.toList).len ≤ 16384) && decide (headL (readHd s.data.toList) = s.data.toList))) := hid (by unfold headOk; rw [hl]; rfl)
  by_cases hk : (s[1]'hi1).toNat = 0
  · have hf := hid (hd_bad (l := s.data.toList) (by rw [hoku.out, ← hkd, hk]; rfl))
    have k0 : ((((s[1]'hi1).toNat : Nat) : Int) == 0) = true := by rw [hk]; rfl
    clear h hl ha hkd hk hoku
    go_enter Try.func12, Try.ntmps12
    go_wp2_with fail
    rw [e1.out]
    refine (get64_bs _ _ l1.out).mono ?_
    rintro e w1 ⟨rfl, rfl⟩
    go_wp2_with fail
    rw [e2.out]
    refine (get64_bs _ _ l2.out).mono ?_
    rintro e w1 ⟨rfl, rfl⟩
    go_wp2_with fail
    rw [e3.out]
    refine (get32_bs _ _ l3.out).mono ?_
    rintro e w1 ⟨rfl, rfl⟩
    go_wp2_with fail
    rw [e4.out]
    refine (get32_bs _ _ l4.out).mono ?_
    rintro e w1 ⟨rfl, rfl⟩
    go_wp2_with fail
    exact bodyPost_ret (v := .tuple #[.agg #[.int .u8 0, .int .u64 0, .int .u64 0, .int .i64 0, .int .u32 0], .int .i64 14]) (by simp [results, Try.results12, go_sem]) rfl ⟨by rw [hf.out]; rfl, by go_grown⟩
  · have k0 : ((((s[1]'hi1).toNat : Nat) : Int) == 0) = false := by rw [beq_eq_false_iff_ne]; omega
    by_cases hn : 16384 < num (sub s.data.toList 18 4)
    · have hf := hid (hd_bad (l := s.data.toList) (by rw [hoku.out, show decide ((readHd s.data.toList).len ≤ 16384) = false by rw [decide_eq_false_iff_not]; exact Nat.not_le_of_lt hn]; simp))
      have n0 : (16384 : Int) < (num (sub s.data.toList 18 4) : Int) := by omega
      clear h hl ha hkd hk hn hoku
      go_enter Try.func12, Try.ntmps12
      go_wp2_with fail
      rw [e1.out]
      refine (get64_bs _ _ l1.out).mono ?_
      rintro e w1 ⟨rfl, rfl⟩
      go_wp2_with fail
      rw [e2.out]
      refine (get64_bs _ _ l2.out).mono ?_
      rintro e w1 ⟨rfl, rfl⟩
      go_wp2_with fail
      rw [e3.out]
      refine (get32_bs _ _ l3.out).mono ?_
      rintro e w1 ⟨rfl, rfl⟩
      go_wp2_with fail
      rw [e4.out]
      refine (get32_bs _ _ l4.out).mono ?_
      rintro e w1 ⟨rfl, rfl⟩
      go_wp2_with fail
      exact bodyPost_ret (v := .tuple #[.agg #[.int .u8 0, .int .u64 0, .int .u64 0, .int .i64 0, .int .u32 0], .int .i64 14]) (by simp [results, Try.results12, go_sem]) rfl ⟨by rw [hf.out]; rfl, by go_grown⟩
    · have n0 : (num (sub s.data.toList 18 4) : Int) ≤ 16384 := by omega
      have hhd : Hid ((⟨(s[1]'hi1).toNat, num (sub s.data.toList 2 8), num (sub s.data.toList 10 8), num (sub s.data.toList 18 4), num (sub s.data.toList 22 4)⟩ : Hd) = readHd s.data.toList) := hid (by rw [hkd]; rfl)
      have hk0 := hid (by rw [hkd]; exact hok.out.1 : (s[1]'hi1).toNat < 256)
      have hoku2 : Hid (headOk s.data.toList = decide (headL (readHd s.data.toList) = s.data.toList)) := hid (by
        rw [hoku.out, show decide ((readHd s.data.toList).kind ≠ 0) = true by rw [← hkd]; simpa using hk, show decide ((readHd s.data.toList).len ≤ 16384) = true by rw [decide_eq_true_eq]; exact Nat.le_of_not_lt hn]; rfl)
      have hkd' := hid hkd
      clear h hl ha hkd hk hn hoku
      go_enter Try.func12, Try.ntmps12
      go_wp2_with fail
      rw [e1.out]
      refine (get64_bs _ _ l1.out).mono ?_
      rintro e w1 ⟨rfl, rfl⟩
      go_wp2_with fail
      rw [e2.out]
      refine (get64_bs _ _ l2.out).mono ?_
      rintro e w1 ⟨rfl, rfl⟩
      go_wp2_with fail
      rw [e3.out]
      refine (get32_bs _ _ l3.out).mono ?_
      rintro e w1 ⟨rfl, rfl⟩
      go_wp2_with fail
      rw [e4.out]
      refine (get32_bs _ _ l4.out).mono ?_
      rintro e w1 ⟨rfl, rfl⟩
      go_wp2_with fail
      refine (head_any (s[1]'hi1).toNat (num (sub s.data.toList 2 8)) (num (sub s.data.toList 10 8)) (num (sub s.data.toList 18 4)) (num (sub s.data.toList 22 4)) _ hk0.out hok.out.2.1 hok.out.2.2.1 hok.out.2.2.2.1 hok.out.2.2.2.2).mono ?_
      rw [hhd.out]
      rintro e w2 ⟨rfl, b2⟩
      have R2 := ((Blk.new w [.int .u8 0, .int .u64 0, .int .u64 0, .int .i64 0, .int .u32 0] 46).alloc _).below b2 (by simp; omega)
      have H2 := (Blk.new' (w.alloc (.cells #[.int .u8 0, .int .u64 0, .int .u64 0, .int .i64 0, .int .u32 0] 46)) [.int .u8 ((s[1]'hi1).toNat : Nat), .int .u64 (num (sub s.data.toList 2 8) : Nat), .int .u64 (num (sub s.data.toList 10 8) : Nat), .int .i64 (num (sub s.data.toList 18 4) : Nat), .int .u32 (num (sub s.data.toList 22 4) : Nat)] 46 (w.heap.size + 1) (by simp)).below b2 (by simp)
      have hB2 := hid ((show Below w.heap.size w _ from by go_grown).trans (b2.mono (by simp; omega)))
      obtain ⟨r0, r1, r2, r3, r4, rf⟩ := five R2
      obtain ⟨c0, c1, c2, c3, c4, cf⟩ := five H2
      have R2' := hid R2
      clear R2 H2 b2
      by_cases hx : bs (headL (readHd s.data.toList)) = s
      · have hxe := str_yes hx
        have hf : Hid (headE s.data.toList = (readHd s.data.toList, 0)) := hid (by unfold headE; rw [hoku2.out, show decide (headL (readHd s.data.toList) = s.data.toList) = true by rw [decide_eq_true_eq, ← bs_list (headL (readHd s.data.toList)), hx]]; rfl)
        have R5 := hid (blk5 (b0 := .int .u8 ((s[1]'hi1).toNat : Nat)) (b1 := .int .u64 (num (sub s.data.toList 2 8) : Nat)) (b2 := .int .u64 (num (sub s.data.toList 10 8) : Nat)) (b3 := .int .i64 (num (sub s.data.toList 18 4) : Nat)) (b4 := .int .u32 (num (sub s.data.toList 22 4) : Nat)) R2'.out)
        have hB5 := hid (below5 (b := w.heap.size) (b0 := .int .u8 ((s[1]'hi1).toNat : Nat)) (b1 := .int .u64 (num (sub s.data.toList 2 8) : Nat)) (b2 := .int .u64 (num (sub s.data.toList 10 8) : Nat)) (b3 := .int .i64 (num (sub s.data.toList 18 4) : Nat)) (b4 := .int .u32 (num (sub s.data.toList 22 4) : Nat)) hB2.out (Nat.le_refl _))
        clear hx
        go_wp2_with fail
        clear r0 r1 r2 r3 r4 rf c0 c1 c2 c3 c4 cf
        obtain ⟨q0, q1, q2, q3, q4, qf⟩ := five R5.out
        exact bodyPost_ret (v := .tuple #[.agg #[.int .u8 ((s[1]'hi1).toNat : Nat), .int .u64 (num (sub s.data.toList 2 8) : Nat), .int .u64 (num (sub s.data.toList 10 8) : Nat), .int .i64 (num (sub s.data.toList 18 4) : Nat), .int .u32 (num (sub s.data.toList 22 4) : Nat)], .int .i64 0]) (by simp [results, Try.results12, go_sem, q0, q1, q2, q3, q4]) rfl ⟨by rw [hf.out, ← hhd.out]; rfl, hB5.out⟩
      · have hxe := str_no hx
        have hf : Hid (headE s.data.toList = (zeroHd, 14)) := hid (hd_bad (by rw [hoku2.out, decide_eq_false_iff_not]; intro h; exact hx (by rw [h, bs_of])))
        have R5 := hid (blk5 (b0 := .int .u8 0) (b1 := .int .u64 0) (b2 := .int .u64 0) (b3 := .int .i64 0) (b4 := .int .u32 0) R2'.out)
        have hB5 := hid (below5 (b := w.heap.size) (b0 := .int .u8 0) (b1 := .int .u64 0) (b2 := .int .u64 0) (b3 := .int .i64 0) (b4 := .int .u32 0) hB2.out (Nat.le_refl _))
        clear hx
        go_wp2_with fail
        clear r0 r1 r2 r3 r4 rf c0 c1 c2 c3 c4 cf
        obtain ⟨q0, q1, q2, q3, q4, qf⟩ := five R5.out
        exact bodyPost_ret (v := .tuple #[.agg #[.int .u8 0, .int .u64 0, .int .u64 0, .int .i64 0, .int .u32 0], .int .i64 14]) (by simp [results, Try.results12, go_sem, q0, q1, q2, q3, q4]) rfl ⟨by rw [hf.out]; rfl, hB5.out⟩
theorem hd_any (s : ByteArray) (w : World) : Calls Try.prog 12 #[.string s] w (HeadTold w (headE s.data.toList)) := by
  by_cases h : s.size = 64
  · exact head_long s w h
  · exact head_short s w h
end Go.Proofs.Ytiegocbdgimimaa.Rec
