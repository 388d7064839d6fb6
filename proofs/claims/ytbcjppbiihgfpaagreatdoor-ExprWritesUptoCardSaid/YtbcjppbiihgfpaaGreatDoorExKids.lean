/-
  expr.kidsRight: its contract, over that of spelling. Written by wip/exkidsgen.py.
-/
import Derived.Test.YtbcjppbiihgfpaaGreatDoorExDeep
namespace Go.Proofs.YtbcjppbiihgfpaaGreatDoor.Ex
open Go.ChangeShapes Go.WideShapes Go.ChangeAt Go.RowKit
open Go.Proofs.YtbcjppbiihgfpaaGreatDoor.Mem
set_option linter.unusedVariables false
set_option linter.unusedSimpArgs false
set_option maxRecDepth 100000
/-- how an op of two parts is spelt -/
def spellT : Nat → List UInt8
  | 15 => [38, 38] | 16 => [124, 124] | 17 => [61, 61] | 18 => [33, 61] | 19 => [60] | 20 => [60, 61] | 21 => [62] | 22 => [62, 61] | 23 => [105, 110] | 24 => [43] | 25 => [45] | 26 => [42]
  | 27 => [99, 111, 110, 116, 97, 105, 110, 115] | 28 => [99, 111, 110, 116, 97, 105, 110, 115, 65, 108, 108] | 29 => [99, 111, 110, 116, 97, 105, 110, 115, 65, 110, 121]
  | _ => []
def spellS (k : Nat) : ByteArray := ⟨(spellT k).toArray⟩
theorem spell_is (k : Nat) : ((spellS k).toList == []) = !decide (15 ≤ k ∧ k ≤ 29) := by
  rw [ByteArray.toList_eq]
  show ((spellT k) == []) = _
  by_cases h : 15 ≤ k ∧ k ≤ 29
  · rw [decide_eq_true h]
    have : k = 15 ∨ k = 16 ∨ k = 17 ∨ k = 18 ∨ k = 19 ∨ k = 20 ∨ k = 21 ∨ k = 22 ∨ k = 23 ∨ k = 24 ∨ k = 25 ∨ k = 26 ∨ k = 27 ∨ k = 28 ∨ k = 29 := by omega
    rcases this with rfl | rfl | rfl | rfl | rfl | rfl | rfl | rfl | rfl | rfl | rfl | rfl | rfl | rfl | rfl <;> rfl
  · rw [decide_eq_false h]
    unfold spellT
    split <;> first | (exfalso; omega) | rfl
/-- how many parts an op has -/
def kidsB (k n : Nat) : Bool :=
  if k = 1 ∨ k = 2 ∨ k = 3 ∨ k = 4 ∨ k = 5 then decide (n = 0)
  else if k = 6 ∨ k = 7 then decide (n ≤ 16)
  else if k = 8 ∨ k = 9 ∨ k = 10 ∨ k = 11 ∨ k = 12 ∨ k = 13 then decide (n = 1)
  else if k = 14 then decide (n = 3)
  else decide (15 ≤ k ∧ k ≤ 29) && decide (n = 2)
theorem beq_num (n m : Nat) : ((n : Int) == (m : Int)) = decide (n = m) := by
  by_cases h : n = m
  · subst h; rw [decide_eq_true rfl, beq_self_eq_true]
  · rw [decide_eq_false h, beq_eq_false_iff_ne]; omega
def SpellTold (k : Nat) (w : World) : Prop := ∀ W, Below w.heap.size w W → Calls Tryz.prog 166 #[.int .u8 (k : Nat)] W fun e w' => e = .returned (.string (spellS k)) ∧ Below W.heap.size W w'
set_option maxHeartbeats 8000000 in
theorem kids_any (k n : Nat) (num : Int) (s t : ByteArray) (no lo : Option Addr) (ln nc lc : Nat) (w : World) (hn : n ≤ 9223372036854775807) (hsp : SpellTold k w) :
    Calls Tryz.prog 123 #[.agg #[.int .u8 (k : Nat), .int .i64 num, .string s, .string t, .slice no ln nc, .slice lo n lc]] w fun e w' => e = .returned (.bool (kidsB k n)) ∧ Below w.heap.size w w' := by
  obtain ⟨R, hR⟩ : ∃ R, kidsB k n = R := ⟨_, rfl⟩
  rw [hR]
  replace hR := hid (show R = _ from hR.symm.trans (by unfold kidsB; rfl))
  have b0 := beq_num n 0
  have b1 := beq_num n 1
  have b2 := beq_num n 2
  have b3 := beq_num n 3
  have b16 : decide ((n : Int) ≤ 16) = decide (n ≤ 16) := decide_eq_decide.2 (by omega)
  have i2 : (n : Int) ≤ 9223372036854775807 := by omega
  simp only [Int.natCast_zero, Int.natCast_one, Int.cast_ofNat_Int] at b0 b1 b2 b3
  unfold SpellTold at hsp
  have hsp := hid hsp
  clear hn
  have hk : k = 0 ∨ k = 1 ∨ k = 2 ∨ k = 3 ∨ k = 4 ∨ k = 5 ∨ k = 6 ∨ k = 7 ∨ k = 8 ∨ k = 9 ∨ k = 10 ∨ k = 11 ∨ k = 12 ∨ k = 13 ∨ k = 14 ∨ 15 ≤ k := by omega
  rcases hk with rfl | rfl | rfl | rfl | rfl | rfl | rfl | rfl | rfl | rfl | rfl | rfl | rfl | rfl | rfl | hk
  · skip
    replace hR := hid (show R = (decide (15 ≤ 0 ∧ 0 ≤ 29) && decide (n = 2)) from hR.out)
    have hemp := spell_is 0
    go_enter Tryz.func123, Tryz.ntmps123
    go_upto_region 1 with fail
    have K := hid (Blk.new w [.int .u8 (0 : Nat), .int .i64 num, .string s, .string t, .slice no ln nc, .slice lo n lc] 26)
    have bw := hid ((Below.refl w.heap.size w).alloc (Nat.le_refl _) (.cells #[.int .u8 (0 : Nat), .int .i64 num, .string s, .string t, .slice no ln nc, .slice lo n lc] 26))
    generalize w.alloc (.cells #[.int .u8 (0 : Nat), .int .i64 num, .string s, .string t, .slice no ln nc, .slice lo n lc] 26) = X0 at K bw ⊢
    obtain ⟨c0, c1, c2, c3, c4, c5, cf⟩ := six K.out
    generalize spellS 0 = sp at *
    generalize decide (15 ≤ 0 ∧ 0 ≤ 29) = db at *
    generalize decide (n = 2) = d2 at *
    cases db
    all_goals
      go_wp2_with fail
      refine (hsp.out _ bw.out).mono ?_
      rintro e w1 ⟨rfl, b9⟩
      replace bw := hid (bt bw.out b9)
      clear b9 hsp c0 c1 c2 c3 c4 c5 cf
      go_wp2_with fail
      go_ret
      exact ⟨by rw [hR.out]; rfl, bw.out⟩
  · replace hR := hid (show R = decide (n = 0) from hR.out)
    clear hsp
    go_enter Tryz.func123, Tryz.ntmps123
    go_upto_region 1 with fail
    have K := hid (Blk.new w [.int .u8 (1 : Nat), .int .i64 num, .string s, .string t, .slice no ln nc, .slice lo n lc] 26)
    have bw := hid ((Below.refl w.heap.size w).alloc (Nat.le_refl _) (.cells #[.int .u8 (1 : Nat), .int .i64 num, .string s, .string t, .slice no ln nc, .slice lo n lc] 26))
    generalize w.alloc (.cells #[.int .u8 (1 : Nat), .int .i64 num, .string s, .string t, .slice no ln nc, .slice lo n lc] 26) = X0 at K bw ⊢
    obtain ⟨c0, c1, c2, c3, c4, c5, cf⟩ := six K.out
    go_wp2_with fail
    go_ret
    exact ⟨by rw [hR.out]; first | rfl | (rw [← b16]; rfl), bw.out⟩
  · replace hR := hid (show R = decide (n = 0) from hR.out)
    clear hsp
    go_enter Tryz.func123, Tryz.ntmps123
    go_upto_region 1 with fail
    have K := hid (Blk.new w [.int .u8 (2 : Nat), .int .i64 num, .string s, .string t, .slice no ln nc, .slice lo n lc] 26)
    have bw := hid ((Below.refl w.heap.size w).alloc (Nat.le_refl _) (.cells #[.int .u8 (2 : Nat), .int .i64 num, .string s, .string t, .slice no ln nc, .slice lo n lc] 26))
    generalize w.alloc (.cells #[.int .u8 (2 : Nat), .int .i64 num, .string s, .string t, .slice no ln nc, .slice lo n lc] 26) = X0 at K bw ⊢
    obtain ⟨c0, c1, c2, c3, c4, c5, cf⟩ := six K.out
    go_wp2_with fail
    go_ret
    exact ⟨by rw [hR.out]; first | rfl | (rw [← b16]; rfl), bw.out⟩
  · replace hR := hid (show R = decide (n = 0) from hR.out)
    clear hsp
    go_enter Tryz.func123, Tryz.ntmps123
    go_upto_region 1 with fail
    have K := hid (Blk.new w [.int .u8 (3 : Nat), .int .i64 num, .string s, .string t, .slice no ln nc, .slice lo n lc] 26)
    have bw := hid ((Below.refl w.heap.size w).alloc (Nat.le_refl _) (.cells #[.int .u8 (3 : Nat), .int .i64 num, .string s, .string t, .slice no ln nc, .slice lo n lc] 26))
    generalize w.alloc (.cells #[.int .u8 (3 : Nat), .int .i64 num, .string s, .string t, .slice no ln nc, .slice lo n lc] 26) = X0 at K bw ⊢
    obtain ⟨c0, c1, c2, c3, c4, c5, cf⟩ := six K.out
    go_wp2_with fail
    go_ret
    exact ⟨by rw [hR.out]; first | rfl | (rw [← b16]; rfl), bw.out⟩
  · replace hR := hid (show R = decide (n = 0) from hR.out)
    clear hsp
    go_enter Tryz.func123, Tryz.ntmps123
    go_upto_region 1 with fail
    have K := hid (Blk.new w [.int .u8 (4 : Nat), .int .i64 num, .string s, .string t, .slice no ln nc, .slice lo n lc] 26)
    have bw := hid ((Below.refl w.heap.size w).alloc (Nat.le_refl _) (.cells #[.int .u8 (4 : Nat), .int .i64 num, .string s, .string t, .slice no ln nc, .slice lo n lc] 26))
    generalize w.alloc (.cells #[.int .u8 (4 : Nat), .int .i64 num, .string s, .string t, .slice no ln nc, .slice lo n lc] 26) = X0 at K bw ⊢
    obtain ⟨c0, c1, c2, c3, c4, c5, cf⟩ := six K.out
    go_wp2_with fail
    go_ret
    exact ⟨by rw [hR.out]; first | rfl | (rw [← b16]; rfl), bw.out⟩
  · replace hR := hid (show R = decide (n = 0) from hR.out)
    clear hsp
    go_enter Tryz.func123, Tryz.ntmps123
    go_upto_region 1 with fail
    have K := hid (Blk.new w [.int .u8 (5 : Nat), .int .i64 num, .string s, .string t, .slice no ln nc, .slice lo n lc] 26)
    have bw := hid ((Below.refl w.heap.size w).alloc (Nat.le_refl _) (.cells #[.int .u8 (5 : Nat), .int .i64 num, .string s, .string t, .slice no ln nc, .slice lo n lc] 26))
    generalize w.alloc (.cells #[.int .u8 (5 : Nat), .int .i64 num, .string s, .string t, .slice no ln nc, .slice lo n lc] 26) = X0 at K bw ⊢
    obtain ⟨c0, c1, c2, c3, c4, c5, cf⟩ := six K.out
    go_wp2_with fail
    go_ret
    exact ⟨by rw [hR.out]; first | rfl | (rw [← b16]; rfl), bw.out⟩
  · replace hR := hid (show R = decide (n ≤ 16) from hR.out)
    clear hsp
    go_enter Tryz.func123, Tryz.ntmps123
    go_upto_region 1 with fail
    have K := hid (Blk.new w [.int .u8 (6 : Nat), .int .i64 num, .string s, .string t, .slice no ln nc, .slice lo n lc] 26)
    have bw := hid ((Below.refl w.heap.size w).alloc (Nat.le_refl _) (.cells #[.int .u8 (6 : Nat), .int .i64 num, .string s, .string t, .slice no ln nc, .slice lo n lc] 26))
    generalize w.alloc (.cells #[.int .u8 (6 : Nat), .int .i64 num, .string s, .string t, .slice no ln nc, .slice lo n lc] 26) = X0 at K bw ⊢
    obtain ⟨c0, c1, c2, c3, c4, c5, cf⟩ := six K.out
    go_wp2_with fail
    go_ret
    exact ⟨by rw [hR.out]; first | rfl | (rw [← b16]; rfl), bw.out⟩
  · replace hR := hid (show R = decide (n ≤ 16) from hR.out)
    clear hsp
    go_enter Tryz.func123, Tryz.ntmps123
    go_upto_region 1 with fail
    have K := hid (Blk.new w [.int .u8 (7 : Nat), .int .i64 num, .string s, .string t, .slice no ln nc, .slice lo n lc] 26)
    have bw := hid ((Below.refl w.heap.size w).alloc (Nat.le_refl _) (.cells #[.int .u8 (7 : Nat), .int .i64 num, .string s, .string t, .slice no ln nc, .slice lo n lc] 26))
    generalize w.alloc (.cells #[.int .u8 (7 : Nat), .int .i64 num, .string s, .string t, .slice no ln nc, .slice lo n lc] 26) = X0 at K bw ⊢
    obtain ⟨c0, c1, c2, c3, c4, c5, cf⟩ := six K.out
    go_wp2_with fail
    go_ret
    exact ⟨by rw [hR.out]; first | rfl | (rw [← b16]; rfl), bw.out⟩
  · replace hR := hid (show R = decide (n = 1) from hR.out)
    clear hsp
    go_enter Tryz.func123, Tryz.ntmps123
    go_upto_region 1 with fail
    have K := hid (Blk.new w [.int .u8 (8 : Nat), .int .i64 num, .string s, .string t, .slice no ln nc, .slice lo n lc] 26)
    have bw := hid ((Below.refl w.heap.size w).alloc (Nat.le_refl _) (.cells #[.int .u8 (8 : Nat), .int .i64 num, .string s, .string t, .slice no ln nc, .slice lo n lc] 26))
    generalize w.alloc (.cells #[.int .u8 (8 : Nat), .int .i64 num, .string s, .string t, .slice no ln nc, .slice lo n lc] 26) = X0 at K bw ⊢
    obtain ⟨c0, c1, c2, c3, c4, c5, cf⟩ := six K.out
    go_wp2_with fail
    go_ret
    exact ⟨by rw [hR.out]; first | rfl | (rw [← b16]; rfl), bw.out⟩
  · replace hR := hid (show R = decide (n = 1) from hR.out)
    clear hsp
    go_enter Tryz.func123, Tryz.ntmps123
    go_upto_region 1 with fail
    have K := hid (Blk.new w [.int .u8 (9 : Nat), .int .i64 num, .string s, .string t, .slice no ln nc, .slice lo n lc] 26)
    have bw := hid ((Below.refl w.heap.size w).alloc (Nat.le_refl _) (.cells #[.int .u8 (9 : Nat), .int .i64 num, .string s, .string t, .slice no ln nc, .slice lo n lc] 26))
    generalize w.alloc (.cells #[.int .u8 (9 : Nat), .int .i64 num, .string s, .string t, .slice no ln nc, .slice lo n lc] 26) = X0 at K bw ⊢
    obtain ⟨c0, c1, c2, c3, c4, c5, cf⟩ := six K.out
    go_wp2_with fail
    go_ret
    exact ⟨by rw [hR.out]; first | rfl | (rw [← b16]; rfl), bw.out⟩
  · replace hR := hid (show R = decide (n = 1) from hR.out)
    clear hsp
    go_enter Tryz.func123, Tryz.ntmps123
    go_upto_region 1 with fail
    have K := hid (Blk.new w [.int .u8 (10 : Nat), .int .i64 num, .string s, .string t, .slice no ln nc, .slice lo n lc] 26)
    have bw := hid ((Below.refl w.heap.size w).alloc (Nat.le_refl _) (.cells #[.int .u8 (10 : Nat), .int .i64 num, .string s, .string t, .slice no ln nc, .slice lo n lc] 26))
    generalize w.alloc (.cells #[.int .u8 (10 : Nat), .int .i64 num, .string s, .string t, .slice no ln nc, .slice lo n lc] 26) = X0 at K bw ⊢
    obtain ⟨c0, c1, c2, c3, c4, c5, cf⟩ := six K.out
    go_wp2_with fail
    go_ret
    exact ⟨by rw [hR.out]; first | rfl | (rw [← b16]; rfl), bw.out⟩
  · replace hR := hid (show R = decide (n = 1) from hR.out)
    clear hsp
    go_enter Tryz.func123, Tryz.ntmps123
    go_upto_region 1 with fail
    have K := hid (Blk.new w [.int .u8 (11 : Nat), .int .i64 num, .string s, .string t, .slice no ln nc, .slice lo n lc] 26)
    have bw := hid ((Below.refl w.heap.size w).alloc (Nat.le_refl _) (.cells #[.int .u8 (11 : Nat), .int .i64 num, .string s, .string t, .slice no ln nc, .slice lo n lc] 26))
    generalize w.alloc (.cells #[.int .u8 (11 : Nat), .int .i64 num, .string s, .string t, .slice no ln nc, .slice lo n lc] 26) = X0 at K bw ⊢
    obtain ⟨c0, c1, c2, c3, c4, c5, cf⟩ := six K.out
    go_wp2_with fail
    go_ret
    exact ⟨by rw [hR.out]; first | rfl | (rw [← b16]; rfl), bw.out⟩
  · replace hR := hid (show R = decide (n = 1) from hR.out)
    clear hsp
    go_enter Tryz.func123, Tryz.ntmps123
    go_upto_region 1 with fail
    have K := hid (Blk.new w [.int .u8 (12 : Nat), .int .i64 num, .string s, .string t, .slice no ln nc, .slice lo n lc] 26)
    have bw := hid ((Below.refl w.heap.size w).alloc (Nat.le_refl _) (.cells #[.int .u8 (12 : Nat), .int .i64 num, .string s, .string t, .slice no ln nc, .slice lo n lc] 26))
    generalize w.alloc (.cells #[.int .u8 (12 : Nat), .int .i64 num, .string s, .string t, .slice no ln nc, .slice lo n lc] 26) = X0 at K bw ⊢
    obtain ⟨c0, c1, c2, c3, c4, c5, cf⟩ := six K.out
    go_wp2_with fail
    go_ret
    exact ⟨by rw [hR.out]; first | rfl | (rw [← b16]; rfl), bw.out⟩
  · replace hR := hid (show R = decide (n = 1) from hR.out)
    clear hsp
    go_enter Tryz.func123, Tryz.ntmps123
    go_upto_region 1 with fail
    have K := hid (Blk.new w [.int .u8 (13 : Nat), .int .i64 num, .string s, .string t, .slice no ln nc, .slice lo n lc] 26)
    have bw := hid ((Below.refl w.heap.size w).alloc (Nat.le_refl _) (.cells #[.int .u8 (13 : Nat), .int .i64 num, .string s, .string t, .slice no ln nc, .slice lo n lc] 26))
    generalize w.alloc (.cells #[.int .u8 (13 : Nat), .int .i64 num, .string s, .string t, .slice no ln nc, .slice lo n lc] 26) = X0 at K bw ⊢
    obtain ⟨c0, c1, c2, c3, c4, c5, cf⟩ := six K.out
    go_wp2_with fail
    go_ret
    exact ⟨by rw [hR.out]; first | rfl | (rw [← b16]; rfl), bw.out⟩
  · replace hR := hid (show R = decide (n = 3) from hR.out)
    clear hsp
    go_enter Tryz.func123, Tryz.ntmps123
    go_upto_region 1 with fail
    have K := hid (Blk.new w [.int .u8 (14 : Nat), .int .i64 num, .string s, .string t, .slice no ln nc, .slice lo n lc] 26)
    have bw := hid ((Below.refl w.heap.size w).alloc (Nat.le_refl _) (.cells #[.int .u8 (14 : Nat), .int .i64 num, .string s, .string t, .slice no ln nc, .slice lo n lc] 26))
    generalize w.alloc (.cells #[.int .u8 (14 : Nat), .int .i64 num, .string s, .string t, .slice no ln nc, .slice lo n lc] 26) = X0 at K bw ⊢
    obtain ⟨c0, c1, c2, c3, c4, c5, cf⟩ := six K.out
    go_wp2_with fail
    go_ret
    exact ⟨by rw [hR.out]; first | rfl | (rw [← b16]; rfl), bw.out⟩
  · have g1 : ((k : Int) == 1) = false := by rw [beq_eq_false_iff_ne]; omega
    have g2 : ((k : Int) == 2) = false := by rw [beq_eq_false_iff_ne]; omega
    have g3 : ((k : Int) == 3) = false := by rw [beq_eq_false_iff_ne]; omega
    have g4 : ((k : Int) == 4) = false := by rw [beq_eq_false_iff_ne]; omega
    have g5 : ((k : Int) == 5) = false := by rw [beq_eq_false_iff_ne]; omega
    have g6 : ((k : Int) == 6) = false := by rw [beq_eq_false_iff_ne]; omega
    have g7 : ((k : Int) == 7) = false := by rw [beq_eq_false_iff_ne]; omega
    have g8 : ((k : Int) == 8) = false := by rw [beq_eq_false_iff_ne]; omega
    have g9 : ((k : Int) == 9) = false := by rw [beq_eq_false_iff_ne]; omega
    have g10 : ((k : Int) == 10) = false := by rw [beq_eq_false_iff_ne]; omega
    have g11 : ((k : Int) == 11) = false := by rw [beq_eq_false_iff_ne]; omega
    have g12 : ((k : Int) == 12) = false := by rw [beq_eq_false_iff_ne]; omega
    have g13 : ((k : Int) == 13) = false := by rw [beq_eq_false_iff_ne]; omega
    have g14 : ((k : Int) == 14) = false := by rw [beq_eq_false_iff_ne]; omega
    replace hR := hid (show R = (decide (15 ≤ k ∧ k ≤ 29) && decide (n = 2)) from hR.out.trans ((if_neg (by omega)).trans ((if_neg (by omega)).trans ((if_neg (by omega)).trans (if_neg (by omega))))))
    have hemp := spell_is k
    go_enter Tryz.func123, Tryz.ntmps123
    go_upto_region 1 with fail
    have K := hid (Blk.new w [.int .u8 (k : Nat), .int .i64 num, .string s, .string t, .slice no ln nc, .slice lo n lc] 26)
    have bw := hid ((Below.refl w.heap.size w).alloc (Nat.le_refl _) (.cells #[.int .u8 (k : Nat), .int .i64 num, .string s, .string t, .slice no ln nc, .slice lo n lc] 26))
    generalize w.alloc (.cells #[.int .u8 (k : Nat), .int .i64 num, .string s, .string t, .slice no ln nc, .slice lo n lc] 26) = X0 at K bw ⊢
    obtain ⟨c0, c1, c2, c3, c4, c5, cf⟩ := six K.out
    generalize spellS k = sp at *
    generalize decide (15 ≤ k ∧ k ≤ 29) = db at *
    generalize decide (n = 2) = d2 at *
    cases db
    all_goals
      go_wp2_with fail
      refine (hsp.out _ bw.out).mono ?_
      rintro e w1 ⟨rfl, b9⟩
      replace bw := hid (bt bw.out b9)
      clear b9 hsp c0 c1 c2 c3 c4 c5 cf
      go_wp2_with fail
      go_ret
      exact ⟨by rw [hR.out]; rfl, bw.out⟩
end Go.Proofs.YtbcjppbiihgfpaaGreatDoor.Ex
