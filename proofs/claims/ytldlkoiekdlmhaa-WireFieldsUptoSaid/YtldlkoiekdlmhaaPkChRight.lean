/-
  Changes compared; change.changeRight: contract.
-/
import Derived.Test.YtldlkoiekdlmhaaChRead
import Derived.Test.YtldlkoiekdlmhaaPkPush2
import Derived.Deep.RegionHeld3
import Derived.Deep.Cut
namespace Go.Proofs.Ytldlkoiekdlmhaa.Wi
open Go.ChangeShapes Go.WideShapes Go.ChangeAt Go.RowKit
open Go.Proofs.Ytldlkoiekdlmhaa.Mem
open Go.Proofs.Ytldlkoiekdlmhaa.Crc hiding hid bt
set_option linter.unusedVariables false
set_option linter.unusedSimpArgs false
set_option maxRecDepth 100000
def chV (c : Ch) : List Value := [.int .u8 (c.k : Nat), .string c.i, .string c.t, .string c.ut, .string c.ui]
def chC (l : List Ch) : List Value := l.flatMap chV
theorem chC_app (a b : List Ch) : chC (a ++ b) = chC a ++ chC b := by simp [chC]
theorem chC_len (l : List Ch) : (chC l).length = l.length * 5 := by
  induction l with
  | nil => rfl
  | cons c l ih => simp [chC, chV] at ih ⊢; omega
theorem info_ch : ∃ i z, Try.prog.info? 28 = some i ∧ i.zero = some z ∧ i.size = 5 ∧ i.bytes = 72 ∧ z.cells.size = 5 := ⟨_, _, rfl, rfl, rfl, rfl, rfl⟩
/-- the change while its texts are read: i of them -/
def ci (c : Ch) (i : Nat) : List Value := [.int .u8 (c.k : Nat), .string (if 0 < i then c.i else E0), .string (if 1 < i then c.t else E0), .string (if 2 < i then c.ut else E0), .string (if 3 < i then c.ui else E0)]
def nx (l : List UInt8) : Nat → List UInt8
  | 0 => l
  | n + 1 => (lT (nx l n)).2
theorem but_alloc {b : Nat} {w w' : World} {B : Nat} (h : But B b w w') (hB : B ≤ w'.heap.size) (o : Obj) : But B b w (w'.alloc o) :=
  ⟨h.os, h.tape, h.output, by have := h.size; simp; omega, fun k hk hne => by
    rw [← h.block k hk hne]
    exact (Below.refl w'.heap.size w').alloc (Nat.le_refl _) o |>.block k (by omega)⟩
theorem but_below {b B : Nat} {w w1 w2 : World} (h : But B b w w1) (g : Below w1.heap.size w1 w2) (hB : B ≤ w1.heap.size) : But B b w w2 :=
  ⟨g.os.trans h.os, g.tape.trans h.tape, g.output.trans h.output, Nat.le_trans h.size g.size, fun k hk hne => (g.block k (by omega)).trans (h.block k hk hne)⟩
theorem but_trans {b B : Nat} {w w1 w2 : World} (h : But B b w w1) (g : But w1.heap.size b w1 w2) (hB : B ≤ w1.heap.size) : But B b w w2 :=
  ⟨g.os.trans h.os, g.tape.trans h.tape, g.output.trans h.output, Nat.le_trans h.size g.size, fun k hk hne => (g.block k (by omega) hne).trans (h.block k hk hne)⟩
theorem but_store {b B c : Nat} {w w1 : World} (h : But B b w w1) (hc : B ≤ c) (i : Nat) (v : Value) : But B b w (w1.setCell ⟨c, i, none⟩ v) :=
  ⟨h.os, h.tape, h.output, by simpa using h.size, fun k hk hne => by rw [Below.heap_setCell _ _ _ _ (show k ≠ c by omega)]; exact h.block k hk hne⟩
theorem CR.below {w w' : World} {b : Nat} {l : List UInt8} (h : CR w b l) (g : Below w.heap.size w w') : CR w' b l := by
  obtain ⟨s, K, r⟩ := h
  exact ⟨s, K.below g K.lt, r⟩
theorem CR.alloc {w : World} {b : Nat} {l : List UInt8} (h : CR w b l) (o : Obj) : CR (w.alloc o) b l := h.below ((Below.refl _ w).alloc (Nat.le_refl _) o)
theorem CR.lt {w : World} {b : Nat} {l : List UInt8} (h : CR w b l) : b < w.heap.size := by obtain ⟨s, K, r⟩ := h; exact K.lt
theorem CR.store {w : World} {b c : Nat} {l : List UInt8} (h : CR w b l) (hc : c ≠ b) (i : Nat) (v : Value) : CR (w.setCell ⟨c, i, none⟩ v) b l := by
  obtain ⟨s, K, r⟩ := h
  exact ⟨s, K.other (p := ⟨c, i, none⟩) hc v, r⟩
theorem five {w : World} {b : Nat} {v0 v1 v2 v3 v4 : Value} {t : TypeId} (h : Blk w b [v0, v1, v2, v3, v4] t) :
    w.cell? ⟨b, 0, none⟩ = some v0 ∧ w.cell? ⟨b, 1, none⟩ = some v1 ∧ w.cell? ⟨b, 2, none⟩ = some v2 ∧ w.cell? ⟨b, 3, none⟩ = some v3 ∧ w.cell? ⟨b, 4, none⟩ = some v4 ∧ ∀ o, w.frozen? ⟨b, o, none⟩ = false := ⟨h.cell 0 (by simp), h.cell 1 (by simp), h.cell 2 (by simp), h.cell 3 (by simp), h.cell 4 (by simp), h.free⟩
theorem but_mix {b : Nat} {w w1 w2 : World} (h : But w.heap.size b w w1) (g : Below w.heap.size w1 w2) : But w.heap.size b w w2 :=
  ⟨g.os.trans h.os, g.tape.trans h.tape, g.output.trans h.output, Nat.le_trans h.size g.size, fun k hk hne => (g.block k hk).trans (h.block k hk hne)⟩
theorem ixt0 (a b c d : Value) (w : World) : (Instr.index 124 (.agg #[a, b, c, d]) (.int .i64 0)).run Try.prog w = .ok a w := by
  simp [Instr.index, go_sem]
theorem ixt1 (a b c d : Value) (w : World) : (Instr.index 124 (.agg #[a, b, c, d]) (.int .i64 1)).run Try.prog w = .ok b w := by
  simp [Instr.index, go_sem]
theorem ixt2 (a b c d : Value) (w : World) : (Instr.index 124 (.agg #[a, b, c, d]) (.int .i64 2)).run Try.prog w = .ok c w := by
  simp [Instr.index, go_sem]
theorem ixt3 (a b c d : Value) (w : World) : (Instr.index 124 (.agg #[a, b, c, d]) (.int .i64 3)).run Try.prog w = .ok d w := by
  simp [Instr.index, go_sem]
attribute [local go_sem] ixt0 ixt1 ixt2 ixt3
set_option maxHeartbeats 8000000 in
theorem changes_any (b : Nat) (l0 : List UInt8) (w : World) (h : CR w b l0) :
    Calls Try.prog 85 #[.pointer (some ⟨b, 0, none⟩)] w fun e w' => ∃ so cap, e = .returned (.slice so (lL l0).length cap) ∧ w'.ownsRow w.heap.size 28 5 (.slice so (lL l0).length cap) (lL l0).length (chC (lL l0)) ∧ But w.heap.size b w w' := by
  obtain ⟨ic, zc, hi, hz0, hz1, hz2, hz3⟩ := info_ch
  have hc := hid (cnumber_any b l0 w h)
  have hblt := h.lt
  obtain ⟨N, hN⟩ : ∃ N, (lB l0).1 = N := ⟨_, rfl⟩
  have hN256 : N < 256 := by rw [← hN]; exact lB_lt l0
  have hNi : (N : Int) < 256 := by omega
  have hL := hid (show lL l0 = lCs N (lB l0).2 by rw [← hN]; rfl)
  rw [hN] at hc
  clear hN h
  go_enter Try.func85, Try.ntmps85
  go_wp2_with fail
  refine hc.out.mono ?_
  rintro e w1 ⟨rfl, hR1, hB1⟩
  replace hR1 := hid hR1
  replace hB1 := hid hB1
  obtain ⟨r0, hr0⟩ : ∃ r0, (lB l0).2 = r0 := ⟨_, rfl⟩
  rw [hr0] at hR1 hL
  clear hc hr0
  go_wp2_with fail
  go_loopw [3, 9] (fun v i wr => ∃ (j : Nat) (pre : List Ch) (r : List UInt8), j ≤ N ∧ i = .int .u8 j ∧ Hid (lCs N r0 = pre ++ lCs (N - j) r) ∧ Hid (pre.length = j) ∧ (∃ so cap, v = .slice so j cap ∧ Hid (wr.ownsRow w.heap.size 28 5 (.slice so j cap) j (chC pre))) ∧ Hid (CR wr b r) ∧ Hid (But w.heap.size b w wr)) (fun _ i _ => N - (intOf i).toNat)
  case atStart => exact ⟨0, [], r0, by omega, rfl, hid (by simp), hid rfl, ⟨none, 0, rfl, hid (World.ownsRow_nil _ _ _ _)⟩, hR1, hB1⟩
  case round =>
    clear hR1 hB1
    obtain ⟨j, pre, r, hj, rfl, hst, hpl, ⟨so, cap, rfl, hown⟩, hR, hB⟩ := hrel
    by_cases hjN : j < N
    · have hji : (j : Int) < (N : Int) := by omega
      have hstep := hid (show lCs (N - j) r = (lC r).1 :: lCs (N - (j + 1)) (lC r).2 by rw [show N - j = (N - (j + 1)) + 1 by omega]; rfl)
      go_wp2_with fail
      refine (cnumber_any b r wr hR.out).mono ?_
      rintro e w2 ⟨rfl, hR2, hB2⟩
      have hown2 := hid (ownsRow_but hown.out hB2 (by
        intro e
        have := hown.out.lt b e
        omega))
      replace hB := hid (but_trans hB.out hB2 (by have := hB.out.size; omega))
      replace hR := hid hR2
      have hk := hid (show (lC r).1.k = (lB r).1 from rfl)
      have hN2 := hid (show (lB r).2 = nx (lB r).2 0 from rfl)
      clear hR2 hB2 hown
      rw [hN2.out] at hR
      have e1 := hid (show (lC r).1.i = (lT (nx (lB r).2 0)).1 from rfl)
      have e2 := hid (show (lC r).1.t = (lT (nx (lB r).2 1)).1 from rfl)
      have e3 := hid (show (lC r).1.ut = (lT (nx (lB r).2 2)).1 from rfl)
      have e4 := hid (show (lC r).1.ui = (lT (nx (lB r).2 3)).1 from rfl)
      have e5 := hid (show (lC r).2 = nx (lB r).2 4 from rfl)
      rw [← hk.out]
      generalize (lC r).1 = c at hk hstep e1 e2 e3 e4 ⊢
      generalize (lC r).2 = r' at hstep e5
      generalize (lB r).2 = q at hR e1 e2 e3 e4 e5 hN2
      clear hk hN2
      go_upto_region 5 with fail
      have K := hid (show Blk (w2.alloc (.cells #[.int .u8 (c.k : Nat), .string ⟨#[]⟩, .string ⟨#[]⟩, .string ⟨#[]⟩, .string ⟨#[]⟩] 28)) w2.heap.size (ci c 0) 28 from Blk.new w2 [.int .u8 (c.k : Nat), .string ⟨#[]⟩, .string ⟨#[]⟩, .string ⟨#[]⟩, .string ⟨#[]⟩] 28)
      replace hR := hid (hR.out.alloc (.cells #[.int .u8 (c.k : Nat), .string ⟨#[]⟩, .string ⟨#[]⟩, .string ⟨#[]⟩, .string ⟨#[]⟩] 28))
      have hne := hid (show ∀ k, (Value.slice so j cap).ownBlock = some k → k ≠ w2.heap.size from fun k hk e => by
        have := hown2.out.lt k hk
        omega)
      replace hown2 := hid (ownsRow_below hown2.out ((Below.refl w2.heap.size w2).alloc (Nat.le_refl _) (.cells #[.int .u8 (c.k : Nat), .string ⟨#[]⟩, .string ⟨#[]⟩, .string ⟨#[]⟩, .string ⟨#[]⟩] 28)))
      have hge := hid (show w.heap.size ≤ w2.heap.size from hB.out.size)
      replace hB := hid (but_alloc hB.out (by have := hB.out.size; omega) (.cells #[.int .u8 (c.k : Nat), .string ⟨#[]⟩, .string ⟨#[]⟩, .string ⟨#[]⟩, .string ⟨#[]⟩] 28))
      obtain ⟨cb, hcb⟩ : ∃ cb, w2.heap.size = cb := ⟨_, rfl⟩
      generalize w2.alloc (.cells #[.int .u8 (c.k : Nat), .string ⟨#[]⟩, .string ⟨#[]⟩, .string ⟨#[]⟩, .string ⟨#[]⟩] 28) = w3 at K hR hown2 hB ⊢
      rw [hcb] at K hge hne ⊢
      clear hcb
      have hcl := hid K.out.lt
      go_wp2_with fail
      refine (textsOf_any cb w3).mono ?_
      rintro e w4 ⟨rfl, hb4⟩
      replace K := hid (K.out.below hb4 K.out.lt)
      replace hR := hid (hR.out.below hb4)
      replace hown2 := hid (ownsRow_below hown2.out hb4)
      replace hB := hid (but_below hB.out hb4 (by have := hB.out.size; omega))
      clear hb4
      go_wp2_with fail
      go_loopw [15] (fun i wr => ∃ m : Nat, m ≤ 4 ∧ i = .int .i64 m ∧ Hid (Blk wr cb (ci c m) 28) ∧ Hid (CR wr b (nx q m)) ∧ Hid (wr.ownsRow w.heap.size 28 5 (.slice so j cap) j (chC pre)) ∧ Hid (But w.heap.size b w wr)) (fun i _ => 4 - (intOf i).toNat)
      case atStart => exact ⟨0, by omega, rfl, K, hR, hown2, hB⟩
      case round =>
        clear K hR hown2 hB
        obtain ⟨m, hm, rfl, K, hR, hown2, hB⟩ := hrel
        by_cases hm4 : m < 4
        · have hcase : m = 0 ∨ m = 1 ∨ m = 2 ∨ m = 3 := by omega
          have hbc := hid (show cb ≠ b from by have := hblt; have := hge.out; omega)
          have hgec := hid (show w.heap.size ≤ cb from hge.out)
          rcases hcase with rfl | rfl | rfl | rfl
          · go_wp2_with fail
            refine (ctext_any b (nx q 0) wr hR.out).mono ?_
            rintro e w6 ⟨rfl, hR2, hB2⟩
            have K2 := hid (show Blk w6 cb (ci c 0) 28 from K.out.but hB2 K.out.lt hbc.out)
            have hown3 := hid (ownsRow_but hown2.out hB2 (by
              intro e
              have := hown2.out.lt b e
              omega))
            replace hB := hid (but_trans hB.out hB2 (by have := hB.out.size; omega))
            replace hR := hid (show CR w6 b (nx q 1) from hR2)
            rw [← e1.out]
            clear hR2 hB2 hown2 K
            obtain ⟨c0, c1, c2, c3, c4, cf⟩ := five K2.out
            go_wp2_with fail
            go_roundw
            case rel => exact ⟨1, by omega, rfl, hid (K2.out.set 1 _), hid (hR.out.store hbc.out _ _), hid (ownsRow_store hown3.out hne.out _ _), hid (but_store hB.out hgec.out _ _)⟩
            case measure => simp [intOf]
          · go_wp2_with fail
            refine (ctext_any b (nx q 1) wr hR.out).mono ?_
            rintro e w6 ⟨rfl, hR2, hB2⟩
            have K2 := hid (show Blk w6 cb (ci c 1) 28 from K.out.but hB2 K.out.lt hbc.out)
            have hown3 := hid (ownsRow_but hown2.out hB2 (by
              intro e
              have := hown2.out.lt b e
              omega))
            replace hB := hid (but_trans hB.out hB2 (by have := hB.out.size; omega))
            replace hR := hid (show CR w6 b (nx q 2) from hR2)
            rw [← e2.out]
            clear hR2 hB2 hown2 K
            obtain ⟨c0, c1, c2, c3, c4, cf⟩ := five K2.out
            go_wp2_with fail
            go_roundw
            case rel => exact ⟨2, by omega, rfl, hid (K2.out.set 2 _), hid (hR.out.store hbc.out _ _), hid (ownsRow_store hown3.out hne.out _ _), hid (but_store hB.out hgec.out _ _)⟩
            case measure => simp [intOf]
          · go_wp2_with fail
            refine (ctext_any b (nx q 2) wr hR.out).mono ?_
            rintro e w6 ⟨rfl, hR2, hB2⟩
            have K2 := hid (show Blk w6 cb (ci c 2) 28 from K.out.but hB2 K.out.lt hbc.out)
            have hown3 := hid (ownsRow_but hown2.out hB2 (by
              intro e
              have := hown2.out.lt b e
              omega))
            replace hB := hid (but_trans hB.out hB2 (by have := hB.out.size; omega))
            replace hR := hid (show CR w6 b (nx q 3) from hR2)
            rw [← e3.out]
            clear hR2 hB2 hown2 K
            obtain ⟨c0, c1, c2, c3, c4, cf⟩ := five K2.out
            go_wp2_with fail
            go_roundw
            case rel => exact ⟨3, by omega, rfl, hid (K2.out.set 3 _), hid (hR.out.store hbc.out _ _), hid (ownsRow_store hown3.out hne.out _ _), hid (but_store hB.out hgec.out _ _)⟩
            case measure => simp [intOf]
          · go_wp2_with fail
            refine (ctext_any b (nx q 3) wr hR.out).mono ?_
            rintro e w6 ⟨rfl, hR2, hB2⟩
            have K2 := hid (show Blk w6 cb (ci c 3) 28 from K.out.but hB2 K.out.lt hbc.out)
            have hown3 := hid (ownsRow_but hown2.out hB2 (by
              intro e
              have := hown2.out.lt b e
              omega))
            replace hB := hid (but_trans hB.out hB2 (by have := hB.out.size; omega))
            replace hR := hid (show CR w6 b (nx q 4) from hR2)
            rw [← e4.out]
            clear hR2 hB2 hown2 K
            obtain ⟨c0, c1, c2, c3, c4, cf⟩ := five K2.out
            go_wp2_with fail
            go_roundw
            case rel => exact ⟨4, by omega, rfl, hid (K2.out.set 4 _), hid (hR.out.store hbc.out _ _), hid (ownsRow_store hown3.out hne.out _ _), hid (but_store hB.out hgec.out _ _)⟩
            case measure => simp [intOf]
        · obtain rfl : m = 4 := by omega
          have K2 : Blk wr cb (chV c) 28 := K.out
          obtain ⟨c0, c1, c2, c3, c4, cf⟩ := five K2
          clear K2 K
          have hge5 := hid (show w.heap.size ≤ wr.heap.size from hB.out.size)
          obtain ⟨so', cap', W1, hrun, ho, hbl, hkp, hsz⟩ := push (P := Try.prog) wr w.heap.size 62 28 ic zc 5 72 Try.underlying62 hi hz0 hz1 hz2 hz3 (by decide) _ j _ hown2.out (chV c) rfl (by intro u hu; simp [chV] at hu; rcases hu with rfl | rfl | rfl | rfl | rfl <;> rfl) (by unfold maxLen; omega) (by omega) hge5.out
          have hR' := hid (show CR W1 b (nx q 4) from by
            obtain ⟨s, K, r⟩ := hR.out
            exact ⟨s, hkp b _ _ K (by decide), r⟩)
          have hB' := hid (show But w.heap.size b w W1 from but_mix hB.out hbl)
          replace hrun := hid hrun
          replace ho := hid ho
          clear hbl hkp hsz hown2 hB hR
          go_wp2_with (at_builtin; refine wpList_push rfl (.tmp 23) (.tmp 25) _ _ rfl _ _ _ _ rfl rfl hrun.out ?_)
          go_roundw
          case rel => exact ⟨j + 1, pre ++ [c], nx q 4, by omega, by go_num, hid (by rw [hst.out, hstep.out, e5.out]; simp), hid (by rw [List.length_append, hpl.out]; rfl), ⟨_, _, rfl, hid (by rw [chC_app]; simpa [chC] using ho.out)⟩, hR', hB'⟩
          case measure => simp [intOf]; omega
    · obtain rfl : j = N := by omega
      have hfin := hid (show lL l0 = pre from by rw [hL.out, hst.out, Nat.sub_self]; simp [lCs])
      have hlen := hid (show (lL l0).length = j from by rw [hfin.out, hpl.out])
      have hji : ¬ (j : Int) < (j : Int) := by omega
      go_wp2_with fail
      go_ret
      rw [hlen.out, hfin.out]
      exact ⟨_, _, rfl, hown.out, hB.out⟩
end Go.Proofs.Ytldlkoiekdlmhaa.Wi
namespace Go.Proofs.Ytldlkoiekdlmhaa.Wi
open Go.ChangeShapes Go.WideShapes Go.ChangeAt Go.RowKit
open Go.Proofs.Ytldlkoiekdlmhaa.Mem
open Go.Proofs.Ytldlkoiekdlmhaa.Crc hiding hid bt
set_option linter.unusedVariables false
set_option linter.unusedSimpArgs false
set_option maxRecDepth 100000
theorem tl_eq {a b : ByteArray} : a.toList = b.toList ↔ a = b := by
  rw [ByteArray.toList_eq, ByteArray.toList_eq]
  constructor
  · intro h; exact ByteArray.ext (by simpa using h)
  · rintro rfl; rfl
theorem tl_nil {a : ByteArray} : a.toList = [] ↔ a = E0 := by
  rw [show ([] : List UInt8) = E0.toList from by rw [ByteArray.toList_eq]; rfl, tl_eq]
set_option maxHeartbeats 4000000 in
theorem right_any (c : Ch) (w : World) (hk : c.k < 256) :
    Calls Try.prog 74 #[.agg #[.int .u8 (c.k : Nat), .string c.i, .string c.t, .string c.ut, .string c.ui]] w fun e w' => e = .returned (.bool (decide (chR c))) ∧ Below w.heap.size w w' := by
  go_enter Try.func74, Try.ntmps74
  have hcase : c.k = 1 ∨ c.k = 2 ∨ c.k = 3 ∨ c.k = 4 ∨ c.k = 5 ∨ ¬ (1 ≤ c.k ∧ c.k ≤ 5) := by omega
  rcases hcase with h | h | h | h | h | h
  · have hR : chR c ↔ c.i = E0 ∧ c.ut = E0 ∧ c.ui = E0 := by unfold chR; rw [h]; simp [E0]; try omega
    rw [h]
    replace hR := hid hR
    clear h
    go_wp2_with fail
    all_goals (try (go_region <;> go_wp2_with fail))
    all_goals (go_ret; refine ⟨?_, by go_grown⟩; first | (rw [decide_eq_true (hR.out.2 (by simp only [tl_nil] at *; simp_all))]; rfl) | (rw [decide_eq_false (fun h => by have := hR.out.1 h; simp only [tl_nil] at *; simp_all)]; rfl))
  · have hR : chR c ↔ c.ut = E0 ∧ c.ui = E0 := by unfold chR; rw [h]; simp [E0]; try omega
    rw [h]
    replace hR := hid hR
    clear h
    go_wp2_with fail
    all_goals (try (go_region <;> go_wp2_with fail))
    all_goals (go_ret; refine ⟨?_, by go_grown⟩; first | (rw [decide_eq_true (hR.out.2 (by simp only [tl_nil] at *; simp_all))]; rfl) | (rw [decide_eq_false (fun h => by have := hR.out.1 h; simp only [tl_nil] at *; simp_all)]; rfl))
  · have hR : chR c ↔ c.t = E0 ∧ c.ut = E0 ∧ c.ui = E0 := by unfold chR; rw [h]; simp [E0]; try omega
    rw [h]
    replace hR := hid hR
    clear h
    go_wp2_with fail
    all_goals (try (go_region <;> go_wp2_with fail))
    all_goals (go_ret; refine ⟨?_, by go_grown⟩; first | (rw [decide_eq_true (hR.out.2 (by simp only [tl_nil] at *; simp_all))]; rfl) | (rw [decide_eq_false (fun h => by have := hR.out.1 h; simp only [tl_nil] at *; simp_all)]; rfl))
  · have hR : chR c ↔ c.i = E0 ∧ c.ut = E0 ∧ c.ui = E0 := by unfold chR; rw [h]; simp [E0]; try omega
    rw [h]
    replace hR := hid hR
    clear h
    go_wp2_with fail
    all_goals (try (go_region <;> go_wp2_with fail))
    all_goals (go_ret; refine ⟨?_, by go_grown⟩; first | (rw [decide_eq_true (hR.out.2 (by simp only [tl_nil] at *; simp_all))]; rfl) | (rw [decide_eq_false (fun h => by have := hR.out.1 h; simp only [tl_nil] at *; simp_all)]; rfl))
  · have hR : chR c ↔ c.i = E0 ∧ c.t = E0 := by unfold chR; rw [h]; simp [E0]; try omega
    rw [h]
    replace hR := hid hR
    clear h
    go_wp2_with fail
    all_goals (try (go_region <;> go_wp2_with fail))
    all_goals (go_ret; refine ⟨?_, by go_grown⟩; first | (rw [decide_eq_true (hR.out.2 (by simp only [tl_nil] at *; simp_all))]; rfl) | (rw [decide_eq_false (fun h => by have := hR.out.1 h; simp only [tl_nil] at *; simp_all)]; rfl))
  · have hR := hid (show ¬ chR c from fun hc => h hc.1)
    have h1 : ¬ (c.k : Int) = 1 := by omega
    have h2 : ¬ (c.k : Int) = 2 := by omega
    have h3 : ¬ (c.k : Int) = 3 := by omega
    have h4 : ¬ (c.k : Int) = 4 := by omega
    have h5 : ¬ (c.k : Int) = 5 := by omega
    clear h
    go_wp2_with fail
    go_ret
    refine ⟨?_, by go_grown⟩
    rw [decide_eq_false hR.out]; rfl
end Go.Proofs.Ytldlkoiekdlmhaa.Wi
