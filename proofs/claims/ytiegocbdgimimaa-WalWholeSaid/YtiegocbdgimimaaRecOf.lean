/-
  The contracts of headOf and slices.Equal; the document's Same.
-/
import Derived.Test.YtiegocbdgimimaaRecHead
namespace Go.Proofs.Ytiegocbdgimimaa.Rec
open Go.ChangeShapes Go.WideShapes Go.ChangeAt Go.RowKit
open Go.Proofs.Ytiegocbdgimimaa.Mem Go.Proofs.Ytiegocbdgimimaa.CrcMath
open Go.Proofs.Ytiegocbdgimimaa.Crc (sum_any)
set_option linter.unusedVariables false
set_option maxRecDepth 100000

theorem blk5 {w : World} {b : Nat} {a0 a1 a2 a3 a4 b0 b1 b2 b3 b4 : Value} {t : TypeId} (h : Blk w b [a0, a1, a2, a3, a4] t) :
    Blk (((((w.setCell ⟨b, 0, none⟩ b0).setCell ⟨b, 1, none⟩ b1).setCell ⟨b, 2, none⟩ b2).setCell ⟨b, 3, none⟩ b3).setCell ⟨b, 4, none⟩ b4) b [b0, b1, b2, b3, b4] t :=
  ((((h.set 0 b0).set 1 b1).set 2 b2).set 3 b3).set 4 b4
theorem below5 {w w' : World} {B b : Nat} {b0 b1 b2 b3 b4 : Value} (h : Below B w w') (hb : B ≤ b) :
    Below B w (((((w'.setCell ⟨b, 0, none⟩ b0).setCell ⟨b, 1, none⟩ b1).setCell ⟨b, 2, none⟩ b2).setCell ⟨b, 3, none⟩ b3).setCell ⟨b, 4, none⟩ b4) :=
  ((((h.setCell hb b0).setCell hb b1).setCell hb b2).setCell hb b3).setCell hb b4
set_option maxHeartbeats 1000000 in
theorem headOf_any (k ep sq : Nat) (p : ByteArray) (w : World) (hp : p.size ≤ maxLen) :
    Calls Try.prog 35 #[.agg #[.int .u8 k, .int .u64 ep, .int .u64 sq, .string p]] w fun e w' =>
      e = .returned (.agg #[.int .u8 k, .int .u64 ep, .int .u64 sq, .int .i64 p.size, .int .u32 (more 0 p.data.toList : Nat)]) ∧ Below w.heap.size w w' := by
  have D := hid ((Blk.new w [.int .u8 k, .int .u64 ep, .int .u64 sq, .string p] 30).alloc (.cells #[.int .u8 0, .int .u64 0, .int .u64 0, .int .i64 0, .int .u32 0] 46)).drew
  have R := hid (Blk.new' (w.alloc (.cells #[.int .u8 k, .int .u64 ep, .int .u64 sq, .string p] 30)) [.int .u8 0, .int .u64 0, .int .u64 0, .int .i64 0, .int .u32 0] 46 (w.heap.size + 1) (by simp)).drew
  have hB := hid (((Below.refl _ w).alloc (Nat.le_refl _) (.cells #[.int .u8 k, .int .u64 ep, .int .u64 sq, .string p] 30)).alloc (by simp) (.cells #[.int .u8 0, .int .u64 0, .int .u64 0, .int .i64 0, .int .u32 0] 46)).drew
  obtain ⟨d0, d1, d2, d3, df⟩ := D.out.four
  go_enter Try.func35, Try.ntmps35
  go_wp2_with fail
  go_region_held3 (fun W => W.cell? ⟨w.heap.size, 0, none⟩ = some (.int .u8 k) ∧ W.cell? ⟨w.heap.size, 1, none⟩ = some (.int .u64 ep) ∧ W.cell? ⟨w.heap.size, 2, none⟩ = some (.int .u64 sq) ∧ W.cell? ⟨w.heap.size, 3, none⟩ = some (.string p)) (first | (with_reducible exact ⟨d0, d1, d2, d3⟩) | (with_reducible exact ⟨e0, e1, e2, e3⟩)) (first
    | (go_at_call 63; (with_reducible refine (sum_any p _ hp).mono ?_); rintro e w1 ⟨rfl, b1⟩
       replace D := hid (D.out.below b1 D.out.lt)
       replace R := hid (R.out.below b1 R.out.lt)
       replace hB := hid (bt hB.out b1)
       clear d0 d1 d2 d3 df b1
       obtain ⟨d0, d1, d2, d3, df⟩ := D.out.four
       obtain ⟨r0, r1, r2, r3, r4, rf⟩ := five R.out
       have D2 := ((((D.out.other (p := ⟨w.heap.size + 1, 0, none⟩) (by simp) (.int .u8 k)).other (p := ⟨w.heap.size + 1, 1, none⟩) (by simp) (.int .u64 ep)).other (p := ⟨w.heap.size + 1, 2, none⟩) (by simp) (.int .u64 sq)).other (p := ⟨w.heap.size + 1, 3, none⟩) (by simp) (.int .i64 p.size)).other (p := ⟨w.heap.size + 1, 4, none⟩) (by simp) (.int .u32 (more 0 p.data.toList : Nat))
       obtain ⟨e0, e1, e2, e3, ef⟩ := D2.four
       have D2' := hid D2
       clear D2))
  have R5 := hid (blk5 (b0 := .int .u8 k) (b1 := .int .u64 ep) (b2 := .int .u64 sq) (b3 := .int .i64 p.size) (b4 := .int .u32 (more 0 p.data.toList : Nat)) R.out)
  have hB5 := hid (below5 (b := w.heap.size + 1) (b0 := .int .u8 k) (b1 := .int .u64 ep) (b2 := .int .u64 sq) (b3 := .int .i64 p.size) (b4 := .int .u32 (more 0 p.data.toList : Nat)) hB.out (by omega))
  clear d0 d1 d2 d3 df e0 e1 e2 e3 ef r0 r1 r2 r3 r4 rf
  go_wp2_with fail
  obtain ⟨q0, q1, q2, q3, q4, qf⟩ := five R5.out
  exact bodyPost_ret (v := .agg #[.int .u8 k, .int .u64 ep, .int .u64 sq, .int .i64 p.size, .int .u32 (more 0 p.data.toList : Nat)]) (by simp [results, Try.results35, go_sem, q0, q1, q2, q3, q4]) rfl ⟨rfl, hB5.out⟩

theorem below_drewN' (B : Nat) (w : World) (q : Nat) : Below B w (w.drewN q) := ⟨rfl, rfl, rfl, Nat.le_refl _, fun _ _ => rfl⟩
theorem str_yes {a b : ByteArray} (h : a = b) : (a.toList == b.toList) = true := by rw [h]; simp
theorem str_no {a b : ByteArray} (h : a ≠ b) : (a.toList == b.toList) = false := by
  rw [beq_eq_false_iff_ne]
  intro e
  rw [ByteArray.toList_eq, ByteArray.toList_eq] at e
  exact h (ByteArray.ext (Array.ext' e))
def strsEq (a b : List ByteArray) : Bool := decide (a = b)
theorem equal_any (l m : List ByteArray) (v u : Value) (w : World) (h : StrsV w v l) (g : StrsV w u m) :
    Calls Try.prog 105 #[v, u] w fun e w' => e = .returned (.bool (strsEq l m)) ∧ Below w.heap.size w w' := by
  obtain ⟨so, scap, rfl, hs2, hs3⟩ := h.form
  obtain ⟨uo, ucap, rfl, gs2, gs3⟩ := g.form
  have hl := h.len
  have gl := g.len
  have h' := hid h
  have g' := hid g
  unfold maxLen at hs3 gs3 hl gl
  clear h g
  by_cases hlen : l.length = m.length
  · have hne : ((l.length : Int) != (m.length : Int)) = false := by simp; omega
    have hlen' := hid hlen
    clear hlen
    go_enter Try.func105, Try.ntmps105
    go_wp2_with fail
    go_loopw [13] (fun i wr => ∃ k : Nat, k ≤ l.length ∧ i = .int .i64 k ∧ (∃ q, wr = w.drewN q) ∧ Hid (l.take k = m.take k)) (fun i _ => l.length - (intOf i).toNat)
    case atStart => exact ⟨0, by omega, rfl, ⟨0, rfl⟩, hid (by simp)⟩
    case round =>
      obtain ⟨k, hk, rfl, ⟨q, rfl⟩, heq⟩ := hrel
      have hml : maxLen = 2 ^ 63 - 1 := rfl
      by_cases hlt : k < l.length
      · have hltm : k < m.length := by rw [← hlen'.out]; exact hlt
        obtain ⟨b, off, cap', hv, _, _, hb, hc⟩ := h'.out.open (by omega)
        simp only [Value.slice.injEq] at hv
        obtain ⟨rfl, _, rfl⟩ := hv
        obtain ⟨c, coff, cap2, hv, _, _, hcb, hcc⟩ := g'.out.open (by omega)
        simp only [Value.slice.injEq] at hv
        obtain ⟨rfl, _, rfl⟩ := hv
        have x0 := hc k hlt
        have y0 := hcc k hltm
        have hkl : (k : Int) < (l.length : Int) := by omega
        have hkm : (k : Int) < (m.length : Int) := by omega
        have hk0 : (0 : Int) ≤ (k : Int) := by omega
        clear hc hcc
        by_cases hx : l[k] = m[k]
        · have hxe := str_yes hx
          have hn : Hid (l.take (k + 1) = m.take (k + 1)) := hid (by rw [List.take_succ_eq_append_getElem hlt, List.take_succ_eq_append_getElem hltm, heq.out, hx])
          clear hx
          go_wp2_with fail
          go_quiet (fail)
          go_wp2_with fail
          go_roundw
          case rel => exact ⟨k + 1, by omega, by go_num, ⟨_, rfl⟩, hn⟩
          case measure => simp [intOf]; omega
        · have hxe := str_no hx
          have hf : Hid (strsEq l m = false) := hid (by unfold strsEq; rw [decide_eq_false_iff_not]; intro e; subst e; exact hx rfl)
          clear hx
          go_wp2_with fail
          go_quiet (fail)
          go_wp2_with fail
          go_ret
          exact ⟨by rw [hf.out]; rfl, by first | exact below_drewN' _ _ _ | exact ⟨rfl, rfl, rfl, Nat.le_refl _, fun _ _ => rfl⟩⟩
      · obtain rfl : k = l.length := by omega
        have hf : Hid (strsEq l m = true) := hid (by unfold strsEq; rw [decide_eq_true_eq]; have := heq.out; rwa [List.take_length, hlen'.out, List.take_length] at this)
        go_wp2_with fail
        go_ret
        exact ⟨by rw [hf.out]; rfl, by first | exact below_drewN' _ _ _ | exact ⟨rfl, rfl, rfl, Nat.le_refl _, fun _ _ => rfl⟩⟩
  · have hne : ((l.length : Int) != (m.length : Int)) = true := by simp; omega
    have hf : Hid (strsEq l m = false) := hid (by unfold strsEq; rw [decide_eq_false_iff_not]; intro e; subst e; exact hlen rfl)
    clear hlen
    go_enter Try.func105, Try.ntmps105
    go_wp2_with fail
    go_ret
    exact ⟨by rw [hf.out]; rfl, Below.refl _ _⟩
end Go.Proofs.Ytiegocbdgimimaa.Rec
