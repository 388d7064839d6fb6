/-
  The contract of record.Join.
-/
import Derived.Test.YtiegocbdgimimaaRecJoined
namespace Go.Proofs.Ytiegocbdgimimaa.Rec
open Go.ChangeShapes Go.WideShapes Go.ChangeAt Go.RowKit
open Go.Proofs.Ytiegocbdgimimaa.Mem Go.Proofs.Ytiegocbdgimimaa.CrcMath
set_option linter.unusedVariables false
set_option maxRecDepth 100000

def zeroFr : Fr := ⟨0, 0, 0, ⟨#[]⟩⟩
def frV (f : Fr) : Value := .agg #[.int .u8 f.kind, .int .u64 f.epoch, .int .u64 f.seq, .string f.pay]
def frOf (s : ByteArray) (t : List ByteArray) : Fr := ⟨(readHd s.data.toList).kind, (readHd s.data.toList).epoch, (readHd s.data.toList).seq, bs (joinedE t (readHd s.data.toList).len).1⟩
def joinE : List ByteArray → Fr × Int
  | [] => (zeroFr, 14)
  | s :: t => if headOk s.data.toList = true ∧ (joinedE t (readHd s.data.toList).len).2 = 0 ∧ strsEq (secsL (frOf s t)) (s :: t) = true then (frOf s t, 0) else (zeroFr, 14)
theorem joinE_cons (s : ByteArray) (t : List ByteArray) : joinE (s :: t) = if headOk s.data.toList = true ∧ (joinedE t (readHd s.data.toList).len).2 = 0 ∧ strsEq (secsL (frOf s t)) (s :: t) = true then (frOf s t, 0) else (zeroFr, 14) := rfl
def JoinTold (w : World) (r : Fr × Int) (e : Ending) (w' : World) : Prop := e = .returned (.tuple #[frV r.1, .int .i64 r.2]) ∧ Below w.heap.size w w'
/-- Strings behind the first one. -/
theorem strs_tail {w : World} {ao : Option Addr} {cap : Nat} {s : ByteArray} {t : List ByteArray} (h : StrsV w (.slice ao (t.length + 1) cap) (s :: t)) :
    ∃ b off, ao = some ⟨b, off, none⟩ ∧ b < w.heap.size ∧ w.cell? ⟨b, off, none⟩ = some (.string s) ∧ t.length + 1 ≤ cap ∧ cap ≤ maxLen ∧
      StrsV w (.slice (some ⟨b, off + 1, none⟩) t.length (cap - 1)) t ∧ (cap = 1 → StrsV w (.slice (some ⟨b, off, none⟩) 0 0) t) := by
  obtain ⟨b, off, cap', hv, h1, h2, hb, hc⟩ := h.open (by simp)
  simp only [Value.slice.injEq] at hv
  obtain ⟨rfl, _, rfl⟩ := hv
  simp only [List.length_cons] at h1
  refine ⟨b, off, rfl, hb, (by have := hc 0 (by simp); rwa [Nat.add_zero] at this), h1, h2, ⟨some ⟨b, off + 1, none⟩, cap - 1, rfl, by omega, by omega, by simp, fun h => ?_, fun a ha j hj => ?_⟩, fun h1' => ?_⟩
  · rw [List.eq_nil_of_length_eq_zero h]; rfl
  · cases ha
    rw [strC_len] at hj
    have := hc (j + 1) (by simpa using hj)
    rw [Mem.add_plain, Nat.add_assoc, Nat.add_comm 1 j, this, strC_get _ j hj]
    simp
  · have ht : t = [] := List.eq_nil_of_length_eq_zero (by omega)
    subst ht
    exact ⟨some ⟨b, off, none⟩, 0, rfl, Nat.le_refl _, by decide, by simp, fun _ => rfl, fun a ha j hj => absurd hj (by simp [strC])⟩
theorem blk4 {w : World} {b : Nat} {a0 a1 a2 a3 b0 b1 b2 b3 : Value} {t : TypeId} (h : Blk w b [a0, a1, a2, a3] t) :
    Blk ((((w.setCell ⟨b, 0, none⟩ b0).setCell ⟨b, 1, none⟩ b1).setCell ⟨b, 2, none⟩ b2).setCell ⟨b, 3, none⟩ b3) b [b0, b1, b2, b3] t :=
  (((h.set 0 b0).set 1 b1).set 2 b2).set 3 b3
theorem below4 {w w' : World} {B b : Nat} {b0 b1 b2 b3 : Value} (h : Below B w w') (hb : B ≤ b) :
    Below B w ((((w'.setCell ⟨b, 0, none⟩ b0).setCell ⟨b, 1, none⟩ b1).setCell ⟨b, 2, none⟩ b2).setCell ⟨b, 3, none⟩ b3) :=
  (((h.setCell hb b0).setCell hb b1).setCell hb b2).setCell hb b3
theorem join_nil (v : Value) (w : World) (h : StrsV w v []) : Calls Try.prog 90 #[v] w (JoinTold w (joinE [])) := by
  obtain ⟨so, scap, rfl, hs2, hs3⟩ := h.form
  clear h
  go_enter Try.func90, Try.ntmps90
  go_wp2_with fail
  exact bodyPost_ret (v := .tuple #[.agg #[.int .u8 0, .int .u64 0, .int .u64 0, .string ⟨#[]⟩], .int .i64 14]) (by simp [results, Try.results90, go_sem]) rfl ⟨rfl, by go_grown⟩
theorem headE_ok {l : By} (h : headOk l = true) : headE l = (readHd l, 0) := by unfold headE; rw [if_pos h]
theorem headE_no {l : By} (h : headOk l = false) : headE l = (zeroHd, 14) := by unfold headE; rw [h]; rfl
theorem headOk_facts {l : By} (h : headOk l = true) : l.length = 64 ∧ (readHd l).kind ≠ 0 ∧ (readHd l).len ≤ 16384 ∧ headL (readHd l) = l := by
  unfold headOk at h
  simp only [Bool.and_eq_true, decide_eq_true_eq] at h
  exact ⟨h.1.1.1, h.1.1.2, h.1.2, h.2⟩
theorem joinedE_two (t : List ByteArray) (n : Nat) : (joinedE t n).2 = 0 ∨ joinedE t n = ([], 14) := by
  unfold joinedE
  split
  · exact .inl rfl
  · exact .inr rfl
theorem joinedE_len {t : List ByteArray} {n : Nat} (h : (joinedE t n).2 = 0) : (joinedE t n).1.length = n := by
  unfold joinedE at h ⊢
  split
  · rename_i hh
    have h1 := bodies_len t hh.2
    have h2 := hh.1
    unfold pcs at h2
    rw [List.length_take]
    omega
  · rename_i hh
    rw [if_neg hh] at h
    exact absurd h (by decide)
set_option maxHeartbeats 4000000 in
theorem join_cons (s : ByteArray) (t : List ByteArray) (v : Value) (w : World) (h : StrsV w v (s :: t)) : Calls Try.prog 90 #[v] w (JoinTold w (joinE (s :: t))) := by
  obtain ⟨so, scap, rfl, _, _⟩ := h.form
  have hvv := hid h
  obtain ⟨b, off, rfl, hb, hc0, hc1, hc2, htl, htl1⟩ := strs_tail h
  have htl' := hid htl
  have htl1' := hid htl1
  obtain ⟨n, hn⟩ : ∃ n, n = t.length + 1 := ⟨_, rfl⟩
  rw [show (s :: t).length = n from hn.symm] at hvv ⊢
  have hn0 : (0 : Int) < (n : Int) := by omega
  have hn1 : (1 : Int) ≤ (n : Int) := by omega
  have hnc : (n : Int) ≤ (scap : Int) := by omega
  have hnz : ((n : Int) == 0) = false := by rw [beq_eq_false_iff_ne]; omega
  have hnm : (n : Int) ≤ 9223372036854775807 := by unfold maxLen at hc2; omega
  have hsm : (scap : Int) ≤ 9223372036854775807 := by unfold maxLen at hc2; omega
  have hn' := hid hn
  have hc2' := hid hc2
  have hc1' := hid hc1
  have hca := ca (o := .cells #[.int .u8 0, .int .u64 0, .int .u64 0, .string ⟨#[]⟩] 30) hc0
  have R0 := hid (Blk.new w [.int .u8 0, .int .u64 0, .int .u64 0, .string ⟨#[]⟩] 30)
  have hB0 := hid ((Below.refl _ w).alloc (Nat.le_refl _) (.cells #[.int .u8 0, .int .u64 0, .int .u64 0, .string ⟨#[]⟩] 30))
  clear h htl htl1 hc0 hn hc1 hc2
  go_enter Try.func90, Try.ntmps90
  go_wp2_with fail
  refine (hd_any s _).mono ?_
  rintro e w1 ⟨rfl, b1⟩
  have R1 := R0.out.below b1 R0.out.lt
  have hB1 := hid (bt hB0.out b1)
  have hvv1 := hid (hvv.out.below hB1.out)
  have htl1a := hid (htl'.out.below hB1.out)
  have htl2a := hid (fun h => (htl1'.out h).below hB1.out)
  have R1' := hid R1
  clear hca R0 hB0 b1 htl' htl1' hvv
  cases hok : headOk s.data.toList with
  | false =>
    have hf : Hid (joinE (s :: t) = (zeroFr, 14)) := hid (by rw [joinE_cons, hok]; simp)
    rw [headE_no hok]
    unfold hdV zeroHd
    dsimp only
    obtain ⟨r0, r1, r2, r3, rf⟩ := R1.four
    have R5 := hid ((blk4 (b0 := .int .u8 0) (b1 := .int .u64 0) (b2 := .int .u64 0) (b3 := .string ⟨#[]⟩) R1).alloc (.cells #[.int .u8 0, .int .u64 0, .int .u64 0, .int .i64 0, .int .u32 0] 46))
    have hB5 := hid ((below4 (b := w.heap.size) (b0 := .int .u8 0) (b1 := .int .u64 0) (b2 := .int .u64 0) (b3 := .string ⟨#[]⟩) hB1.out (Nat.le_refl _)).alloc (by have := hB1.out.size; simpa using this) (.cells #[.int .u8 0, .int .u64 0, .int .u64 0, .int .i64 0, .int .u32 0] 46))
    have hlt1 := R1.lt
    clear hok R1
    go_wp2_with fail
    clear r0 r1 r2 r3 rf
    obtain ⟨q0, q1, q2, q3, qf⟩ := R5.out.four
    exact bodyPost_ret (v := .tuple #[.agg #[.int .u8 0, .int .u64 0, .int .u64 0, .string ⟨#[]⟩], .int .i64 14]) (by simp [results, Try.results90, go_sem, q0, q1, q2, q3]) rfl ⟨by rw [hf.out]; rfl, hB5.out⟩
  | true =>
    have hokn := hid (readHd_okn s.data.toList (headOk_facts hok).1)
    have hof := hid (headOk_facts hok).2
    have hje : Hid (joinE (s :: t) = if (joinedE t (readHd s.data.toList).len).2 = 0 ∧ strsEq (secsL (frOf s t)) (s :: t) = true then (frOf s t, 0) else (zeroFr, 14)) := hid (by rw [joinE_cons, hok]; simp)
    have hfr := hid (show frOf s t = ⟨(readHd s.data.toList).kind, (readHd s.data.toList).epoch, (readHd s.data.toList).seq, bs (joinedE t (readHd s.data.toList).len).1⟩ from rfl)
    rw [headE_ok hok]
    clear hok R1
    unfold hdV
    generalize readHd s.data.toList = H at hokn hof hje hfr ⊢
    obtain ⟨k, ep, sq, ln, sm⟩ := H
    dsimp only at hokn hof hje hfr ⊢
    have D2 := (Blk.new w1 [.int .u8 k, .int .u64 ep, .int .u64 sq, .int .i64 ln, .int .u32 sm] 46)
    have R2 := R1'.out.alloc (.cells #[.int .u8 k, .int .u64 ep, .int .u64 sq, .int .i64 ln, .int .u32 sm] 46)
    have b2 : Below w1.heap.size w1 (w1.alloc (.cells #[.int .u8 k, .int .u64 ep, .int .u64 sq, .int .i64 ln, .int .u32 sm] 46)).drew := ((Below.refl w1.heap.size w1).alloc (Nat.le_refl _) (.cells #[.int .u8 k, .int .u64 ep, .int .u64 sq, .int .i64 ln, .int .u32 sm] 46)).drew
    have hB2 := hid (bt hB1.out b2)
    have hvv2 := hid (hvv1.out.below b2)
    have htl2 := hid (htl1a.out.below b2)
    have htl3 := hid (fun h => (htl2a.out h).below b2)
    obtain ⟨d0, d1, d2, d3, d4, df⟩ := five D2.drew
    have D2' := hid D2.drew
    have R2' := hid R2.drew
    have hz1 := hid R1'.out.lt
    have hnt : Hid (n - 1 = t.length) := hid (by rw [hn'.out]; omega)
    have hn3 := hid hof.out.2.1
    clear D2 R2 b2 R1' hvv1 htl1a htl2a
    have hnn : ((n : Int) - 1).toNat = n - 1 := by omega
    have hnd : (1 : Nat) ≤ n := by omega
    rcases joinedE_two t ln with h0 | h14
    · have hln := joinedE_len h0
      obtain ⟨P, hP⟩ : ∃ P, (joinedE t ln).1 = P := ⟨_, rfl⟩
      have hJ : Hid (joinedE t ln = (P, 0)) := hid (by rw [← hP, ← h0])
      rw [hP] at hln
      have hfc : Hid (fchk k (bs P).size = 0) := hid (by unfold fchk; rw [if_neg hof.out.1, bs_size, hln, if_neg (by have := hn3.out; omega)])
      clear h0 hln hP
      by_cases hcap : scap = 1
      · have hn2 : n = 1 := by have := hc1'.out; have := hn'.out; omega
        subst hcap
        subst hn2
        have htn : t.length = 0 := by have := hn'.out; omega
        have ht4 := hid (show StrsV _ (.slice (some ⟨b, off, none⟩) 0 0) t from htl3.out rfl)
        clear htl3
        go_wp2_with fail
        go_region_held3 (fun W => W.cell? ⟨w1.heap.size, 3, none⟩ = some (.int .i64 ln)) (first | exact d3 | exact e3) (first
          | (go_at_call 104; (with_reducible refine (joined_any t _ ln _ ht4.out hn3.out).mono ?_); rw [hJ.out]; rintro e w3 ⟨rfl, b3⟩
             have D3 := D2'.out.below b3 D2'.out.lt
             obtain ⟨e0, e1, e2, e3, e4, ef⟩ := five D3
             have D3' := hid D3
             clear D3))
        have R3 := R2'.out.below b3 R2'.out.lt
        have hB3 := hid (bt hB2.out b3)
        have hvv3 := hid (hvv2.out.below b3)
        have hlt3 := hid (Nat.lt_of_lt_of_le R2'.out.lt b3.size)
        have R3' := hid R3
        clear d0 d1 d2 d3 d4 df b3 R2' D2' hB2 hvv2 R3
        go_wp2_with fail
        have F4 := (Blk.new w3 [.int .u8 k, .int .u64 ep, .int .u64 sq, .string (bs P)] 30)
        have b4 : Below w3.heap.size w3 (w3.alloc (.cells #[.int .u8 k, .int .u64 ep, .int .u64 sq, .string (bs P)] 30)) := (Below.refl w3.heap.size w3).alloc (Nat.le_refl _) _
        have R4 := R3'.out.below b4 R3'.out.lt
        have hB4 := hid (bt hB3.out b4)
        have hvv4 := hid (hvv3.out.below b4)
        have F4' := hid F4
        have R4' := hid R4
        clear F4 R4 b4 e0 e1 e2 e3 e4 ef D3' R3' hB3 hvv3
        refine (sectors_ok k ep sq (bs P) _ hokn.out.1 hokn.out.2.1 hokn.out.2.2.1 hfc).mono ?_
        rintro e w5 ⟨sv, rfl, hown, b5⟩
        have F5 := F4'.out.below b5 F4'.out.lt
        have R5 := R4'.out.below b5 R4'.out.lt
        have hB5 := hid (bt hB4.out b5)
        have hvv5 := hid (hvv4.out.below b5)
        rw [← secsL_len ⟨k, ep, sq, bs P⟩] at hown
        have hsv := hid (show StrsV w5 sv (secsL ⟨k, ep, sq, bs P⟩) from SlV.own hown)
        obtain ⟨so5, sc5, rfl, _, _⟩ := ownsRow_form hown
        have F5' := hid F5
        have R5' := hid R5
        clear F5 R5 b5 hown F4' R4' hB4 hvv4
        rw [secsL_len] at hsv ⊢
        go_wp2_with fail
        refine (equal_any (secsL ⟨k, ep, sq, bs P⟩) (s :: t) _ _ _ (by have := hsv.out; rwa [← secsL_len ⟨k, ep, sq, bs P⟩] at this) hvv5.out).mono ?_
        rintro e w6 ⟨rfl, b6⟩
        have F6 := F5'.out.below b6 F5'.out.lt
        have R6 := R5'.out.below b6 R5'.out.lt
        have hB6 := hid (bt hB5.out b6)
        obtain ⟨c0, c1, c2, c3, cf⟩ := F6.four
        obtain ⟨r0, r1, r2, r3, rf⟩ := R6.four
        have R6' := hid R6
        clear F6 R6 b6 F5' R5' hB5 hvv5 hsv
        cases hq : strsEq (secsL ⟨k, ep, sq, bs P⟩) (s :: t) with
        | false =>
          have hf : Hid (joinE (s :: t) = (zeroFr, 14)) := hid (by rw [hje.out, hfr.out, hJ.out]; simp [hq])
          have R7 := hid (blk4 (b0 := .int .u8 0) (b1 := .int .u64 0) (b2 := .int .u64 0) (b3 := .string ⟨#[]⟩) R6'.out)
          have hB7 := hid (below4 (b := w.heap.size) (b0 := .int .u8 0) (b1 := .int .u64 0) (b2 := .int .u64 0) (b3 := .string ⟨#[]⟩) hB6.out (Nat.le_refl _))
          clear hq
          go_wp2_with fail
          clear c0 c1 c2 c3 cf r0 r1 r2 r3 rf
          obtain ⟨q0, q1, q2, q3, qf⟩ := R7.out.four
          exact bodyPost_ret (v := .tuple #[.agg #[.int .u8 0, .int .u64 0, .int .u64 0, .string ⟨#[]⟩], .int .i64 14]) (by simp [results, Try.results90, go_sem, q0, q1, q2, q3]) rfl ⟨by rw [hf.out]; rfl, hB7.out⟩
        | true =>
          have hf : Hid (joinE (s :: t) = (⟨k, ep, sq, bs P⟩, 0)) := hid (by rw [hje.out, hfr.out, hJ.out]; simp [hq])
          have R7 := hid (blk4 (b0 := .int .u8 k) (b1 := .int .u64 ep) (b2 := .int .u64 sq) (b3 := .string (bs P)) R6'.out)
          have hB7 := hid (below4 (b := w.heap.size) (b0 := .int .u8 k) (b1 := .int .u64 ep) (b2 := .int .u64 sq) (b3 := .string (bs P)) hB6.out (Nat.le_refl _))
          clear hq
          go_wp2_with fail
          clear c0 c1 c2 c3 cf r0 r1 r2 r3 rf
          obtain ⟨q0, q1, q2, q3, qf⟩ := R7.out.four
          exact bodyPost_ret (v := .tuple #[.agg #[.int .u8 k, .int .u64 ep, .int .u64 sq, .string (bs P)], .int .i64 0]) (by simp [results, Try.results90, go_sem, q0, q1, q2, q3]) rfl ⟨by rw [hf.out]; rfl, hB7.out⟩
      · have hcap2 : ¬ (scap : Int) = 1 := by omega
        go_wp2_with fail
        go_region_held3 (fun W => W.cell? ⟨w1.heap.size, 3, none⟩ = some (.int .i64 ln)) (first | exact d3 | exact e3) (first
          | (go_at_call 104; rw [hnt.out]; (with_reducible refine (joined_any t _ ln _ htl2.out hn3.out).mono ?_); rw [hJ.out]; rintro e w3 ⟨rfl, b3⟩
             have D3 := D2'.out.below b3 D2'.out.lt
             obtain ⟨e0, e1, e2, e3, e4, ef⟩ := five D3
             have D3' := hid D3
             clear D3))
        have R3 := R2'.out.below b3 R2'.out.lt
        have hB3 := hid (bt hB2.out b3)
        have hvv3 := hid (hvv2.out.below b3)
        have hlt3 := hid (Nat.lt_of_lt_of_le R2'.out.lt b3.size)
        have R3' := hid R3
        clear d0 d1 d2 d3 d4 df b3 R2' D2' hB2 hvv2 R3
        go_wp2_with fail
        have F4 := (Blk.new w3 [.int .u8 k, .int .u64 ep, .int .u64 sq, .string (bs P)] 30)
        have b4 : Below w3.heap.size w3 (w3.alloc (.cells #[.int .u8 k, .int .u64 ep, .int .u64 sq, .string (bs P)] 30)) := (Below.refl w3.heap.size w3).alloc (Nat.le_refl _) _
        have R4 := R3'.out.below b4 R3'.out.lt
        have hB4 := hid (bt hB3.out b4)
        have hvv4 := hid (hvv3.out.below b4)
        have F4' := hid F4
        have R4' := hid R4
        clear F4 R4 b4 e0 e1 e2 e3 e4 ef D3' R3' hB3 hvv3
        refine (sectors_ok k ep sq (bs P) _ hokn.out.1 hokn.out.2.1 hokn.out.2.2.1 hfc).mono ?_
        rintro e w5 ⟨sv, rfl, hown, b5⟩
        have F5 := F4'.out.below b5 F4'.out.lt
        have R5 := R4'.out.below b5 R4'.out.lt
        have hB5 := hid (bt hB4.out b5)
        have hvv5 := hid (hvv4.out.below b5)
        rw [← secsL_len ⟨k, ep, sq, bs P⟩] at hown
        have hsv := hid (show StrsV w5 sv (secsL ⟨k, ep, sq, bs P⟩) from SlV.own hown)
        obtain ⟨so5, sc5, rfl, _, _⟩ := ownsRow_form hown
        have F5' := hid F5
        have R5' := hid R5
        clear F5 R5 b5 hown F4' R4' hB4 hvv4
        rw [secsL_len] at hsv ⊢
        go_wp2_with fail
        refine (equal_any (secsL ⟨k, ep, sq, bs P⟩) (s :: t) _ _ _ (by have := hsv.out; rwa [← secsL_len ⟨k, ep, sq, bs P⟩] at this) hvv5.out).mono ?_
        rintro e w6 ⟨rfl, b6⟩
        have F6 := F5'.out.below b6 F5'.out.lt
        have R6 := R5'.out.below b6 R5'.out.lt
        have hB6 := hid (bt hB5.out b6)
        obtain ⟨c0, c1, c2, c3, cf⟩ := F6.four
        obtain ⟨r0, r1, r2, r3, rf⟩ := R6.four
        have R6' := hid R6
        clear F6 R6 b6 F5' R5' hB5 hvv5 hsv
        cases hq : strsEq (secsL ⟨k, ep, sq, bs P⟩) (s :: t) with
        | false =>
          have hf : Hid (joinE (s :: t) = (zeroFr, 14)) := hid (by rw [hje.out, hfr.out, hJ.out]; simp [hq])
          have R7 := hid (blk4 (b0 := .int .u8 0) (b1 := .int .u64 0) (b2 := .int .u64 0) (b3 := .string ⟨#[]⟩) R6'.out)
          have hB7 := hid (below4 (b := w.heap.size) (b0 := .int .u8 0) (b1 := .int .u64 0) (b2 := .int .u64 0) (b3 := .string ⟨#[]⟩) hB6.out (Nat.le_refl _))
          clear hq
          go_wp2_with fail
          clear c0 c1 c2 c3 cf r0 r1 r2 r3 rf
          obtain ⟨q0, q1, q2, q3, qf⟩ := R7.out.four
          exact bodyPost_ret (v := .tuple #[.agg #[.int .u8 0, .int .u64 0, .int .u64 0, .string ⟨#[]⟩], .int .i64 14]) (by simp [results, Try.results90, go_sem, q0, q1, q2, q3]) rfl ⟨by rw [hf.out]; rfl, hB7.out⟩
        | true =>
          have hf : Hid (joinE (s :: t) = (⟨k, ep, sq, bs P⟩, 0)) := hid (by rw [hje.out, hfr.out, hJ.out]; simp [hq])
          have R7 := hid (blk4 (b0 := .int .u8 k) (b1 := .int .u64 ep) (b2 := .int .u64 sq) (b3 := .string (bs P)) R6'.out)
          have hB7 := hid (below4 (b := w.heap.size) (b0 := .int .u8 k) (b1 := .int .u64 ep) (b2 := .int .u64 sq) (b3 := .string (bs P)) hB6.out (Nat.le_refl _))
          clear hq
          go_wp2_with fail
          clear c0 c1 c2 c3 cf r0 r1 r2 r3 rf
          obtain ⟨q0, q1, q2, q3, qf⟩ := R7.out.four
          exact bodyPost_ret (v := .tuple #[.agg #[.int .u8 k, .int .u64 ep, .int .u64 sq, .string (bs P)], .int .i64 0]) (by simp [results, Try.results90, go_sem, q0, q1, q2, q3]) rfl ⟨by rw [hf.out]; rfl, hB7.out⟩
    · have hJ := hid h14
      have hf : Hid (joinE (s :: t) = (zeroFr, 14)) := hid (by rw [hje.out, h14]; simp)
      clear h14
      by_cases hcap : scap = 1
      · have hn2 : n = 1 := by have := hc1'.out; have := hn'.out; omega
        subst hcap
        subst hn2
        have ht4 := hid (show StrsV _ (.slice (some ⟨b, off, none⟩) 0 0) t from htl3.out rfl)
        clear htl3
        go_wp2_with fail
        go_region_held3 (fun W => W.cell? ⟨w1.heap.size, 3, none⟩ = some (.int .i64 ln)) (first | exact d3 | exact e3) (first
          | (go_at_call 104; (with_reducible refine (joined_any t _ ln _ ht4.out hn3.out).mono ?_); rw [hJ.out]; rintro e w3 ⟨rfl, b3⟩
             have D3 := D2'.out.below b3 D2'.out.lt
             obtain ⟨e0, e1, e2, e3, e4, ef⟩ := five D3
             have D3' := hid D3
             clear D3))
        have R3 := R2'.out.below b3 R2'.out.lt
        have hB3 := hid (bt hB2.out b3)
        have hvv3 := hid (hvv2.out.below b3)
        have hlt3 := hid (Nat.lt_of_lt_of_le R2'.out.lt b3.size)
        have R3' := hid R3
        clear d0 d1 d2 d3 d4 df b3 R2' D2' hB2 hvv2 R3
        clear e0 e1 e2 e3 e4 ef
        obtain ⟨r0, r1, r2, r3, rf⟩ := R3'.out.four
        have R5 := hid (blk4 (b0 := .int .u8 0) (b1 := .int .u64 0) (b2 := .int .u64 0) (b3 := .string ⟨#[]⟩) R3'.out)
        have hB5 := hid (below4 (b := w.heap.size) (b0 := .int .u8 0) (b1 := .int .u64 0) (b2 := .int .u64 0) (b3 := .string ⟨#[]⟩) hB3.out (Nat.le_refl _))
        go_wp2_with fail
        clear r0 r1 r2 r3 rf
        obtain ⟨q0, q1, q2, q3, qf⟩ := R5.out.four
        exact bodyPost_ret (v := .tuple #[.agg #[.int .u8 0, .int .u64 0, .int .u64 0, .string ⟨#[]⟩], .int .i64 14]) (by simp [results, Try.results90, go_sem, q0, q1, q2, q3]) rfl ⟨by rw [hf.out]; rfl, hB5.out⟩
      · have hcap2 : ¬ (scap : Int) = 1 := by omega
        go_wp2_with fail
        go_region_held3 (fun W => W.cell? ⟨w1.heap.size, 3, none⟩ = some (.int .i64 ln)) (first | exact d3 | exact e3) (first
          | (go_at_call 104; rw [hnt.out]; (with_reducible refine (joined_any t _ ln _ htl2.out hn3.out).mono ?_); rw [hJ.out]; rintro e w3 ⟨rfl, b3⟩
             have D3 := D2'.out.below b3 D2'.out.lt
             obtain ⟨e0, e1, e2, e3, e4, ef⟩ := five D3
             have D3' := hid D3
             clear D3))
        have R3 := R2'.out.below b3 R2'.out.lt
        have hB3 := hid (bt hB2.out b3)
        have hvv3 := hid (hvv2.out.below b3)
        have hlt3 := hid (Nat.lt_of_lt_of_le R2'.out.lt b3.size)
        have R3' := hid R3
        clear d0 d1 d2 d3 d4 df b3 R2' D2' hB2 hvv2 R3
        clear e0 e1 e2 e3 e4 ef
        obtain ⟨r0, r1, r2, r3, rf⟩ := R3'.out.four
        have R5 := hid (blk4 (b0 := .int .u8 0) (b1 := .int .u64 0) (b2 := .int .u64 0) (b3 := .string ⟨#[]⟩) R3'.out)
        have hB5 := hid (below4 (b := w.heap.size) (b0 := .int .u8 0) (b1 := .int .u64 0) (b2 := .int .u64 0) (b3 := .string ⟨#[]⟩) hB3.out (Nat.le_refl _))
        go_wp2_with fail
        clear r0 r1 r2 r3 rf
        obtain ⟨q0, q1, q2, q3, qf⟩ := R5.out.four
        exact bodyPost_ret (v := .tuple #[.agg #[.int .u8 0, .int .u64 0, .int .u64 0, .string ⟨#[]⟩], .int .i64 14]) (by simp [results, Try.results90, go_sem, q0, q1, q2, q3]) rfl ⟨by rw [hf.out]; rfl, hB5.out⟩
theorem join_any (l : List ByteArray) (v : Value) (w : World) (h : StrsV w v l) : Calls Try.prog 90 #[v] w (JoinTold w (joinE l)) := by
  cases l with
  | nil => exact join_nil v w h
  | cons s t => exact join_cons s t v w h
end Go.Proofs.Ytiegocbdgimimaa.Rec
