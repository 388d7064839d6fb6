/-
  ExRefSA: ExRefS1, ExRefS4, ExRefS6, ExRefS7, ExRefS12 in one. Written by wip/prgroups.py.
-/
import Derived.Test.YtbcjppbiihgfpaaGreatDoorExRefBase
import Derived.Deep.RegionHeld3
namespace Go.Proofs.YtbcjppbiihgfpaaGreatDoor.Ex
open Go.ChangeShapes Go.WideShapes Go.ChangeAt Go.RowKit
open Go.Proofs.YtbcjppbiihgfpaaGreatDoor.Mem Go.Proofs.YtbcjppbiihgfpaaGreatDoor.Lik
set_option linter.unusedVariables false
set_option linter.unusedSimpArgs false
set_option maxRecDepth 100000
set_option maxHeartbeats 16000000 in
theorem rshow_bool (x : T) (ih : ∀ z ∈ x.list, RShow z) (hk : x.kind = 1) : RShow x := by
  intro w h hz hr
  have hl0 : x.list.length = 0 := by
    have := (node_of hr).2
    unfold kidsB at this
    rw [if_pos (by omega)] at this
    exact of_decide_eq_true this
  have hsh : showT x = (if x.num = 1 then [116, 114, 117, 101] else [102, 97, 108, 115, 101]) := by
    rw [showT_eq]
    unfold nodeS
    simp [hk]
  have hnum : x.num = 0 ∨ x.num = 1 := by
    have := (node_of hr).1
    unfold fldB at this
    rw [if_pos hk] at this
    simp only [Bool.and_eq_true, decide_eq_true_eq] at this
    exact this.1
  replace hnum := hid hnum
  obtain ⟨no, nc, lo, lc, e1, e2, l1, l2⟩ := h.forms
  replace hsh := hid hsh
  replace hl0 := hid hl0
  obtain ⟨i0, hi, iz0, iz1, iz2⟩ := info_string
  have hll : x.list.length * 16 ≤ 140737488355328 := by have := h.parts.1.2.2; omega
  obtain ⟨n, hn⟩ : ∃ n, x.list.length = n := ⟨_, rfl⟩
  rw [T.val_eq e1 e2]
  rw [hn] at hll l2 ⊢
  rw [hn] at e2
  have i1 : (x.names.length : Int) ≤ 9223372036854775807 := by omega
  have i2 : (n : Int) ≤ 9223372036854775807 := by omega
  have hrec0 := hid (fun (z : T) (hz' : z ∈ x.list) W (b : Below w.heap.size w W) => ih z hz' W ((h.below b).parts.2.2.2.2.2.2.2 z hz') (by have := T.size_part hz'; omega) (right_kid hr hz'))
  have hpl := hid (fun (z : T) (hz' : z ∈ x.list) => part_len h hz hr hz')
  have hwl := hid (whole_len h hz hr)
  have h' := hid h
  have e2' := hid e2
  have hn' := hid hn
  clear ih h e1 e2 hn hz hr l1 l2
  replace hk := hid hk
  go_enter Tryz.func26, Tryz.ntmps26
  go_upto_region 1 with fail
  have K1 := hid (Blk.new w [.int .u8 (x.kind : Nat), .int .i64 x.num, .string x.str, .string x.typ, .slice no x.names.length nc, .slice lo n lc] 26)
  have bw := hid ((Below.refl w.heap.size w).alloc (Nat.le_refl _) (.cells #[.int .u8 (x.kind : Nat), .int .i64 x.num, .string x.str, .string x.typ, .slice no x.names.length nc, .slice lo n lc] 26))
  have hBB := hid (show w.heap.size + 1 ≤ (w.alloc (.cells #[.int .u8 (x.kind : Nat), .int .i64 x.num, .string x.str, .string x.typ, .slice no x.names.length nc, .slice lo n lc] 26)).heap.size by simp)
  generalize w.alloc (.cells #[.int .u8 (x.kind : Nat), .int .i64 x.num, .string x.str, .string x.typ, .slice no x.names.length nc, .slice lo n lc] 26) = X0 at K1 bw hBB ⊢
  obtain ⟨c0, c1, c2, c3, c4, c5, cf⟩ := six K1.out
  go_wp2_with fail
  clear c0 c1 c2 c3 c4 c5 cf
  go_loopw [3, 13] (fun av i wr => ∃ k : Nat, k ≤ n ∧ i = .int .i64 k ∧ (∃ ao cap, av = .slice ao k cap ∧ Hid (wr.ownsRow (w.heap.size + 1) 9 1 (.slice ao k cap) k (ksC (x.list.take k)))) ∧ Hid (Blk wr w.heap.size [.int .u8 (x.kind : Nat), .int .i64 x.num, .string x.str, .string x.typ, .slice no x.names.length nc, .slice lo n lc] 26) ∧ Hid (w.heap.size + 1 ≤ wr.heap.size) ∧ Hid (Below w.heap.size w wr)) (fun _ i _ => n - (intOf i).toNat)
  case atStart => exact ⟨0, by omega, rfl, ⟨none, 0, rfl, hid (World.ownsRow_nil _ _ _ _)⟩, K1, hBB, bw⟩
  case round =>
    clear K1 bw hBB
    obtain ⟨k, hkn, rfl, ⟨ao, cap, rfl, hown⟩, K1, hBB, bw⟩ := hrel
    rename_i wr _
    by_cases hkl : k < n
    · exfalso
      have h1 := hl0.out
      have h2 := hn'.out
      omega
    · have hki : ¬ (k : Int) < (n : Int) := by omega
      obtain rfl : k = n := by omega
      replace hown := hid (show wr.ownsRow (w.heap.size + 1) 9 1 (.slice ao k cap) k (ksC x.list) from by have := hown.out; rwa [List.take_of_length_le (by rw [hn'.out]; exact Nat.le_refl _)] at this)
      have hk0 : k = 0 := by rw [← hn'.out]; exact hl0.out
      subst hk0
      obtain ⟨c0, c1, c2, c3, c4, c5, cf⟩ := six K1.out
      replace hk := hk.out
      rw [hk] at c0
      clear hi iz0 iz1 iz2
      have hlt := K1.out.lt
      have hne : w.heap.size ≠ wr.heap.size := by omega
      rcases hnum.out with hn0 | hn0
      · replace hsh := hid (show showT x = [102, 97, 108, 115, 101] by rw [hsh.out, hn0]; rfl)
        rw [hn0] at c1
        clear hn0
        go_wp2_with fail
        go_ret
        exact ⟨by rw [hsh.out]; rfl, bt bw.out ((Below.refl _ _).alloc (Nat.le_refl _) _)⟩
      · replace hsh := hid (show showT x = [116, 114, 117, 101] by rw [hsh.out, hn0]; rfl)
        rw [hn0] at c1
        clear hn0
        go_wp2_with fail
        go_ret
        exact ⟨by rw [hsh.out]; rfl, bt bw.out ((Below.refl _ _).alloc (Nat.le_refl _) _)⟩
set_option maxHeartbeats 16000000 in
theorem rshow_long (x : T) (ih : ∀ z ∈ x.list, RShow z) (hk : x.kind = 2) : RShow x := by
  intro w h hz hr
  have hl0 : x.list.length = 0 := by
    have := (node_of hr).2
    unfold kidsB at this
    rw [if_pos (by omega)] at this
    exact of_decide_eq_true this
  have hsh : showT x = Lib.decDigits x.num.toNat := by
    rw [showT_eq]
    unfold nodeS
    simp [hk]
  have hn0 : 0 ≤ x.num := by
    have := (node_of hr).1
    unfold fldB at this
    rw [if_neg (by omega), if_pos hk] at this
    simp only [Bool.and_eq_true, decide_eq_true_eq] at this
    exact this.1
  have hcall := hid (fun W => number_any x.num W hn0 h.parts.2.1.2)
  clear hn0
  obtain ⟨no, nc, lo, lc, e1, e2, l1, l2⟩ := h.forms
  replace hsh := hid hsh
  replace hl0 := hid hl0
  obtain ⟨i0, hi, iz0, iz1, iz2⟩ := info_string
  have hll : x.list.length * 16 ≤ 140737488355328 := by have := h.parts.1.2.2; omega
  obtain ⟨n, hn⟩ : ∃ n, x.list.length = n := ⟨_, rfl⟩
  rw [T.val_eq e1 e2]
  rw [hn] at hll l2 ⊢
  rw [hn] at e2
  have i1 : (x.names.length : Int) ≤ 9223372036854775807 := by omega
  have i2 : (n : Int) ≤ 9223372036854775807 := by omega
  have hrec0 := hid (fun (z : T) (hz' : z ∈ x.list) W (b : Below w.heap.size w W) => ih z hz' W ((h.below b).parts.2.2.2.2.2.2.2 z hz') (by have := T.size_part hz'; omega) (right_kid hr hz'))
  have hpl := hid (fun (z : T) (hz' : z ∈ x.list) => part_len h hz hr hz')
  have hwl := hid (whole_len h hz hr)
  have h' := hid h
  have e2' := hid e2
  have hn' := hid hn
  clear ih h e1 e2 hn hz hr l1 l2
  replace hk := hid hk
  go_enter Tryz.func26, Tryz.ntmps26
  go_upto_region 1 with fail
  have K1 := hid (Blk.new w [.int .u8 (x.kind : Nat), .int .i64 x.num, .string x.str, .string x.typ, .slice no x.names.length nc, .slice lo n lc] 26)
  have bw := hid ((Below.refl w.heap.size w).alloc (Nat.le_refl _) (.cells #[.int .u8 (x.kind : Nat), .int .i64 x.num, .string x.str, .string x.typ, .slice no x.names.length nc, .slice lo n lc] 26))
  have hBB := hid (show w.heap.size + 1 ≤ (w.alloc (.cells #[.int .u8 (x.kind : Nat), .int .i64 x.num, .string x.str, .string x.typ, .slice no x.names.length nc, .slice lo n lc] 26)).heap.size by simp)
  generalize w.alloc (.cells #[.int .u8 (x.kind : Nat), .int .i64 x.num, .string x.str, .string x.typ, .slice no x.names.length nc, .slice lo n lc] 26) = X0 at K1 bw hBB ⊢
  obtain ⟨c0, c1, c2, c3, c4, c5, cf⟩ := six K1.out
  go_wp2_with fail
  clear c0 c1 c2 c3 c4 c5 cf
  go_loopw [3, 13] (fun av i wr => ∃ k : Nat, k ≤ n ∧ i = .int .i64 k ∧ (∃ ao cap, av = .slice ao k cap ∧ Hid (wr.ownsRow (w.heap.size + 1) 9 1 (.slice ao k cap) k (ksC (x.list.take k)))) ∧ Hid (Blk wr w.heap.size [.int .u8 (x.kind : Nat), .int .i64 x.num, .string x.str, .string x.typ, .slice no x.names.length nc, .slice lo n lc] 26) ∧ Hid (w.heap.size + 1 ≤ wr.heap.size) ∧ Hid (Below w.heap.size w wr)) (fun _ i _ => n - (intOf i).toNat)
  case atStart => exact ⟨0, by omega, rfl, ⟨none, 0, rfl, hid (World.ownsRow_nil _ _ _ _)⟩, K1, hBB, bw⟩
  case round =>
    clear K1 bw hBB
    obtain ⟨k, hkn, rfl, ⟨ao, cap, rfl, hown⟩, K1, hBB, bw⟩ := hrel
    rename_i wr _
    by_cases hkl : k < n
    · exfalso
      have h1 := hl0.out
      have h2 := hn'.out
      omega
    · have hki : ¬ (k : Int) < (n : Int) := by omega
      obtain rfl : k = n := by omega
      replace hown := hid (show wr.ownsRow (w.heap.size + 1) 9 1 (.slice ao k cap) k (ksC x.list) from by have := hown.out; rwa [List.take_of_length_le (by rw [hn'.out]; exact Nat.le_refl _)] at this)
      have hk0 : k = 0 := by rw [← hn'.out]; exact hl0.out
      subst hk0
      obtain ⟨c0, c1, c2, c3, c4, c5, cf⟩ := six K1.out
      replace hk := hk.out
      rw [hk] at c0
      rw [← hsh.out] at hcall
      go_wp2_with fail
      refine (hcall.out _).mono ?_
      rintro e X9 ⟨rfl, b9⟩
      replace bw := hid (bt bw.out b9)
      go_wp2_with fail
      go_ret
      exact ⟨rfl, bw.out⟩
set_option maxHeartbeats 16000000 in
theorem rshow_text (x : T) (ih : ∀ z ∈ x.list, RShow z) (hk : x.kind = 3) : RShow x := by
  intro w h hz hr
  have hl0 : x.list.length = 0 := by
    have := (node_of hr).2
    unfold kidsB at this
    rw [if_pos (by omega)] at this
    exact of_decide_eq_true this
  have hsh : showT x = Tok.quoteL x.str.data.toList := by
    rw [showT_eq]
    unfold nodeS
    simp [hk]
  have htx : txB x.str = true := by
    have := (node_of hr).1
    unfold fldB at this
    rw [if_neg (by omega), if_neg (by omega), if_pos hk] at this
    simp only [Bool.and_eq_true] at this
    exact this.1
  have hcall := hid (fun W => Tok.quoted_any x.str W (by have := txB_len htx; omega))
  obtain ⟨no, nc, lo, lc, e1, e2, l1, l2⟩ := h.forms
  replace hsh := hid hsh
  replace hl0 := hid hl0
  obtain ⟨i0, hi, iz0, iz1, iz2⟩ := info_string
  have hll : x.list.length * 16 ≤ 140737488355328 := by have := h.parts.1.2.2; omega
  obtain ⟨n, hn⟩ : ∃ n, x.list.length = n := ⟨_, rfl⟩
  rw [T.val_eq e1 e2]
  rw [hn] at hll l2 ⊢
  rw [hn] at e2
  have i1 : (x.names.length : Int) ≤ 9223372036854775807 := by omega
  have i2 : (n : Int) ≤ 9223372036854775807 := by omega
  have hrec0 := hid (fun (z : T) (hz' : z ∈ x.list) W (b : Below w.heap.size w W) => ih z hz' W ((h.below b).parts.2.2.2.2.2.2.2 z hz') (by have := T.size_part hz'; omega) (right_kid hr hz'))
  have hpl := hid (fun (z : T) (hz' : z ∈ x.list) => part_len h hz hr hz')
  have hwl := hid (whole_len h hz hr)
  have h' := hid h
  have e2' := hid e2
  have hn' := hid hn
  clear ih h e1 e2 hn hz hr l1 l2
  replace hk := hid hk
  go_enter Tryz.func26, Tryz.ntmps26
  go_upto_region 1 with fail
  have K1 := hid (Blk.new w [.int .u8 (x.kind : Nat), .int .i64 x.num, .string x.str, .string x.typ, .slice no x.names.length nc, .slice lo n lc] 26)
  have bw := hid ((Below.refl w.heap.size w).alloc (Nat.le_refl _) (.cells #[.int .u8 (x.kind : Nat), .int .i64 x.num, .string x.str, .string x.typ, .slice no x.names.length nc, .slice lo n lc] 26))
  have hBB := hid (show w.heap.size + 1 ≤ (w.alloc (.cells #[.int .u8 (x.kind : Nat), .int .i64 x.num, .string x.str, .string x.typ, .slice no x.names.length nc, .slice lo n lc] 26)).heap.size by simp)
  generalize w.alloc (.cells #[.int .u8 (x.kind : Nat), .int .i64 x.num, .string x.str, .string x.typ, .slice no x.names.length nc, .slice lo n lc] 26) = X0 at K1 bw hBB ⊢
  obtain ⟨c0, c1, c2, c3, c4, c5, cf⟩ := six K1.out
  go_wp2_with fail
  clear c0 c1 c2 c3 c4 c5 cf
  go_loopw [3, 13] (fun av i wr => ∃ k : Nat, k ≤ n ∧ i = .int .i64 k ∧ (∃ ao cap, av = .slice ao k cap ∧ Hid (wr.ownsRow (w.heap.size + 1) 9 1 (.slice ao k cap) k (ksC (x.list.take k)))) ∧ Hid (Blk wr w.heap.size [.int .u8 (x.kind : Nat), .int .i64 x.num, .string x.str, .string x.typ, .slice no x.names.length nc, .slice lo n lc] 26) ∧ Hid (w.heap.size + 1 ≤ wr.heap.size) ∧ Hid (Below w.heap.size w wr)) (fun _ i _ => n - (intOf i).toNat)
  case atStart => exact ⟨0, by omega, rfl, ⟨none, 0, rfl, hid (World.ownsRow_nil _ _ _ _)⟩, K1, hBB, bw⟩
  case round =>
    clear K1 bw hBB
    obtain ⟨k, hkn, rfl, ⟨ao, cap, rfl, hown⟩, K1, hBB, bw⟩ := hrel
    rename_i wr _
    by_cases hkl : k < n
    · exfalso
      have h1 := hl0.out
      have h2 := hn'.out
      omega
    · have hki : ¬ (k : Int) < (n : Int) := by omega
      obtain rfl : k = n := by omega
      replace hown := hid (show wr.ownsRow (w.heap.size + 1) 9 1 (.slice ao k cap) k (ksC x.list) from by have := hown.out; rwa [List.take_of_length_le (by rw [hn'.out]; exact Nat.le_refl _)] at this)
      have hk0 : k = 0 := by rw [← hn'.out]; exact hl0.out
      subst hk0
      obtain ⟨c0, c1, c2, c3, c4, c5, cf⟩ := six K1.out
      replace hk := hk.out
      rw [hk] at c0
      rw [← hsh.out] at hcall
      go_wp2_with fail
      refine (hcall.out _).mono ?_
      rintro e X9 ⟨rfl, b9⟩
      replace bw := hid (bt bw.out b9)
      go_wp2_with fail
      go_ret
      exact ⟨rfl, bw.out⟩
set_option maxHeartbeats 16000000 in
theorem rshow_var (x : T) (ih : ∀ z ∈ x.list, RShow z) (hk : x.kind = 5) : RShow x := by
  intro w h hz hr
  have hl0 : x.list.length = 0 := by
    have := (node_of hr).2
    unfold kidsB at this
    rw [if_pos (by omega)] at this
    exact of_decide_eq_true this
  have hsh : showT x = x.str.data.toList := by
    rw [showT_eq]
    unfold nodeS
    simp [hk]
  obtain ⟨no, nc, lo, lc, e1, e2, l1, l2⟩ := h.forms
  replace hsh := hid hsh
  replace hl0 := hid hl0
  obtain ⟨i0, hi, iz0, iz1, iz2⟩ := info_string
  have hll : x.list.length * 16 ≤ 140737488355328 := by have := h.parts.1.2.2; omega
  obtain ⟨n, hn⟩ : ∃ n, x.list.length = n := ⟨_, rfl⟩
  rw [T.val_eq e1 e2]
  rw [hn] at hll l2 ⊢
  rw [hn] at e2
  have i1 : (x.names.length : Int) ≤ 9223372036854775807 := by omega
  have i2 : (n : Int) ≤ 9223372036854775807 := by omega
  have hrec0 := hid (fun (z : T) (hz' : z ∈ x.list) W (b : Below w.heap.size w W) => ih z hz' W ((h.below b).parts.2.2.2.2.2.2.2 z hz') (by have := T.size_part hz'; omega) (right_kid hr hz'))
  have hpl := hid (fun (z : T) (hz' : z ∈ x.list) => part_len h hz hr hz')
  have hwl := hid (whole_len h hz hr)
  have h' := hid h
  have e2' := hid e2
  have hn' := hid hn
  clear ih h e1 e2 hn hz hr l1 l2
  replace hk := hid hk
  go_enter Tryz.func26, Tryz.ntmps26
  go_upto_region 1 with fail
  have K1 := hid (Blk.new w [.int .u8 (x.kind : Nat), .int .i64 x.num, .string x.str, .string x.typ, .slice no x.names.length nc, .slice lo n lc] 26)
  have bw := hid ((Below.refl w.heap.size w).alloc (Nat.le_refl _) (.cells #[.int .u8 (x.kind : Nat), .int .i64 x.num, .string x.str, .string x.typ, .slice no x.names.length nc, .slice lo n lc] 26))
  have hBB := hid (show w.heap.size + 1 ≤ (w.alloc (.cells #[.int .u8 (x.kind : Nat), .int .i64 x.num, .string x.str, .string x.typ, .slice no x.names.length nc, .slice lo n lc] 26)).heap.size by simp)
  generalize w.alloc (.cells #[.int .u8 (x.kind : Nat), .int .i64 x.num, .string x.str, .string x.typ, .slice no x.names.length nc, .slice lo n lc] 26) = X0 at K1 bw hBB ⊢
  obtain ⟨c0, c1, c2, c3, c4, c5, cf⟩ := six K1.out
  go_wp2_with fail
  clear c0 c1 c2 c3 c4 c5 cf
  go_loopw [3, 13] (fun av i wr => ∃ k : Nat, k ≤ n ∧ i = .int .i64 k ∧ (∃ ao cap, av = .slice ao k cap ∧ Hid (wr.ownsRow (w.heap.size + 1) 9 1 (.slice ao k cap) k (ksC (x.list.take k)))) ∧ Hid (Blk wr w.heap.size [.int .u8 (x.kind : Nat), .int .i64 x.num, .string x.str, .string x.typ, .slice no x.names.length nc, .slice lo n lc] 26) ∧ Hid (w.heap.size + 1 ≤ wr.heap.size) ∧ Hid (Below w.heap.size w wr)) (fun _ i _ => n - (intOf i).toNat)
  case atStart => exact ⟨0, by omega, rfl, ⟨none, 0, rfl, hid (World.ownsRow_nil _ _ _ _)⟩, K1, hBB, bw⟩
  case round =>
    clear K1 bw hBB
    obtain ⟨k, hkn, rfl, ⟨ao, cap, rfl, hown⟩, K1, hBB, bw⟩ := hrel
    rename_i wr _
    by_cases hkl : k < n
    · exfalso
      have h1 := hl0.out
      have h2 := hn'.out
      omega
    · have hki : ¬ (k : Int) < (n : Int) := by omega
      obtain rfl : k = n := by omega
      replace hown := hid (show wr.ownsRow (w.heap.size + 1) 9 1 (.slice ao k cap) k (ksC x.list) from by have := hown.out; rwa [List.take_of_length_le (by rw [hn'.out]; exact Nat.le_refl _)] at this)
      have hk0 : k = 0 := by rw [← hn'.out]; exact hl0.out
      subst hk0
      obtain ⟨c0, c1, c2, c3, c4, c5, cf⟩ := six K1.out
      replace hk := hk.out
      rw [hk] at c0
      have hfin := hid (show bs (showT x) = x.str by rw [hsh.out, bs_self])
      go_wp2_with fail
      go_ret
      exact ⟨by rw [hfin.out]; rfl, bw.out⟩
end Go.Proofs.YtbcjppbiihgfpaaGreatDoor.Ex
namespace Go.Proofs.YtbcjppbiihgfpaaGreatDoor.Ex
open Go.ChangeShapes Go.WideShapes Go.ChangeAt Go.RowKit
open Go.Proofs.YtbcjppbiihgfpaaGreatDoor.Mem Go.Proofs.YtbcjppbiihgfpaaGreatDoor.Lik
set_option linter.unusedVariables false
set_option linter.unusedSimpArgs false
set_option maxRecDepth 100000
set_option maxHeartbeats 16000000 in
theorem rshow_entity (x : T) (ih : ∀ z ∈ x.list, RShow z) (hk : x.kind = 4) : RShow x := by
  intro w h hz hr
  have hl0 : x.list.length = 0 := by
    have := (node_of hr).2
    unfold kidsB at this
    rw [if_pos (by omega)] at this
    exact of_decide_eq_true this
  have hsh : showT x = x.typ.data.toList ++ ([58, 58] ++ Tok.quoteL x.str.data.toList) := by
    rw [showT_eq]
    unfold nodeS
    simp [hk]
  have hui : uidB x.typ x.str = true := by
    have := (node_of hr).1
    unfold fldB at this
    rw [if_neg (by omega), if_neg (by omega), if_neg (by omega), if_pos hk] at this
    simp only [Bool.and_eq_true] at this
    exact this.1
  have hcall := hid (fun W => Tok.quoted_any x.str W (by have := uidB_len hui; omega))
  have htl := (uidB_len hui).1
  have hql := hid (show (Tok.quoteL x.str.data.toList).length ≤ 1000 by have := uidB_len hui; have h2 := quoteS_len x.str; omega)
  obtain ⟨no, nc, lo, lc, e1, e2, l1, l2⟩ := h.forms
  replace hsh := hid hsh
  replace hl0 := hid hl0
  obtain ⟨i0, hi, iz0, iz1, iz2⟩ := info_string
  have hll : x.list.length * 16 ≤ 140737488355328 := by have := h.parts.1.2.2; omega
  obtain ⟨n, hn⟩ : ∃ n, x.list.length = n := ⟨_, rfl⟩
  rw [T.val_eq e1 e2]
  rw [hn] at hll l2 ⊢
  rw [hn] at e2
  have i1 : (x.names.length : Int) ≤ 9223372036854775807 := by omega
  have i2 : (n : Int) ≤ 9223372036854775807 := by omega
  have hrec0 := hid (fun (z : T) (hz' : z ∈ x.list) W (b : Below w.heap.size w W) => ih z hz' W ((h.below b).parts.2.2.2.2.2.2.2 z hz') (by have := T.size_part hz'; omega) (right_kid hr hz'))
  have hpl := hid (fun (z : T) (hz' : z ∈ x.list) => part_len h hz hr hz')
  have hwl := hid (whole_len h hz hr)
  have h' := hid h
  have e2' := hid e2
  have hn' := hid hn
  clear ih h e1 e2 hn hz hr l1 l2
  replace hk := hid hk
  go_enter Tryz.func26, Tryz.ntmps26
  go_upto_region 1 with fail
  have K1 := hid (Blk.new w [.int .u8 (x.kind : Nat), .int .i64 x.num, .string x.str, .string x.typ, .slice no x.names.length nc, .slice lo n lc] 26)
  have bw := hid ((Below.refl w.heap.size w).alloc (Nat.le_refl _) (.cells #[.int .u8 (x.kind : Nat), .int .i64 x.num, .string x.str, .string x.typ, .slice no x.names.length nc, .slice lo n lc] 26))
  have hBB := hid (show w.heap.size + 1 ≤ (w.alloc (.cells #[.int .u8 (x.kind : Nat), .int .i64 x.num, .string x.str, .string x.typ, .slice no x.names.length nc, .slice lo n lc] 26)).heap.size by simp)
  generalize w.alloc (.cells #[.int .u8 (x.kind : Nat), .int .i64 x.num, .string x.str, .string x.typ, .slice no x.names.length nc, .slice lo n lc] 26) = X0 at K1 bw hBB ⊢
  obtain ⟨c0, c1, c2, c3, c4, c5, cf⟩ := six K1.out
  go_wp2_with fail
  clear c0 c1 c2 c3 c4 c5 cf
  go_loopw [3, 13] (fun av i wr => ∃ k : Nat, k ≤ n ∧ i = .int .i64 k ∧ (∃ ao cap, av = .slice ao k cap ∧ Hid (wr.ownsRow (w.heap.size + 1) 9 1 (.slice ao k cap) k (ksC (x.list.take k)))) ∧ Hid (Blk wr w.heap.size [.int .u8 (x.kind : Nat), .int .i64 x.num, .string x.str, .string x.typ, .slice no x.names.length nc, .slice lo n lc] 26) ∧ Hid (w.heap.size + 1 ≤ wr.heap.size) ∧ Hid (Below w.heap.size w wr)) (fun _ i _ => n - (intOf i).toNat)
  case atStart => exact ⟨0, by omega, rfl, ⟨none, 0, rfl, hid (World.ownsRow_nil _ _ _ _)⟩, K1, hBB, bw⟩
  case round =>
    clear K1 bw hBB
    obtain ⟨k, hkn, rfl, ⟨ao, cap, rfl, hown⟩, K1, hBB, bw⟩ := hrel
    rename_i wr _
    by_cases hkl : k < n
    · exfalso
      have h1 := hl0.out
      have h2 := hn'.out
      omega
    · have hki : ¬ (k : Int) < (n : Int) := by omega
      obtain rfl : k = n := by omega
      replace hown := hid (show wr.ownsRow (w.heap.size + 1) 9 1 (.slice ao k cap) k (ksC x.list) from by have := hown.out; rwa [List.take_of_length_le (by rw [hn'.out]; exact Nat.le_refl _)] at this)
      have hk0 : k = 0 := by rw [← hn'.out]; exact hl0.out
      subst hk0
      obtain ⟨c0, c1, c2, c3, c4, c5, cf⟩ := six K1.out
      replace hk := hk.out
      rw [hk] at c0
      have bq : (bs (Tok.quoteL x.str.data.toList)).size ≤ 1000 := by rw [bs_size]; exact hql.out
      obtain ⟨Q, hQ⟩ : ∃ Q, bs (Tok.quoteL x.str.data.toList) = Q := ⟨_, rfl⟩
      rw [hQ] at bq hcall
      replace hQ := hid hQ
      have u0 : ¬ 9223372036854775807 < x.typ.size + 2 := by omega
      have u1 : ¬ 9223372036854775807 < x.typ.size + 2 + Q.size := by omega
      go_upto_region 20 with fail
      have cQ := hid (hcall.out wr.drew)
      go_region_held3 (fun Y => Y.cell? ⟨w.heap.size, 3, none⟩ = some (.string x.typ) ∧ Y.cell? ⟨w.heap.size, 2, none⟩ = some (.string x.str)) (first | with_reducible exact ⟨c3, c2⟩ | with_reducible exact ⟨celld c3, celld c2⟩ | exact ⟨c3, c2⟩) (first
        | (go_at_call 58
           (with_reducible refine cQ.out.mono ?_)
           rintro e X9 ⟨rfl, b9⟩
           replace c3 := cell_below b9 _ _ (show wr.drew.cell? _ = _ from c3)
           replace c2 := cell_below b9 _ _ (show wr.drew.cell? _ = _ from c2)
           replace bw := hid (bt bw.out.drew b9)
           clear b9))
      go_wp2_with fail
      go_ret
      exact ⟨by
        show Ending.returned (.string (x.typ ++ (⟨#[58, 58]⟩ : ByteArray) ++ Q)) = _
        rw [hsh.out]
        rw [← hQ.out]; exact congrArg (fun s => Ending.returned (.string s)) (ba_eq (by simp [bs])), bw.out⟩
end Go.Proofs.YtbcjppbiihgfpaaGreatDoor.Ex
namespace Go.Proofs.YtbcjppbiihgfpaaGreatDoor.Ex
open Go.ChangeShapes Go.WideShapes Go.ChangeAt Go.RowKit
open Go.Proofs.YtbcjppbiihgfpaaGreatDoor.Mem Go.Proofs.YtbcjppbiihgfpaaGreatDoor.Lik
set_option linter.unusedVariables false
set_option linter.unusedSimpArgs false
set_option maxRecDepth 100000
set_option maxHeartbeats 16000000 in
theorem rshow_set_nil (x : T) (ih : ∀ z ∈ x.list, RShow z) (hk : x.kind = 6) (hlen : x.list.length = 0) : RShow x := by
  intro w h hz hr
  have hl0 := hlen
  have hsh : showT x = [91] ++ (itemsL x (x.list.map showT) x.list.length ++ [93]) := by
    rw [showT_eq]
    unfold nodeS
    simp [hk]
  obtain ⟨no, nc, lo, lc, e1, e2, l1, l2⟩ := h.forms
  replace hl0 := hid hl0
  replace hsh := hid hsh
  clear hlen
  obtain ⟨i0, hi, iz0, iz1, iz2⟩ := info_string
  have hll : x.list.length * 16 ≤ 140737488355328 := by have := h.parts.1.2.2; omega
  obtain ⟨n, hn⟩ : ∃ n, x.list.length = n := ⟨_, rfl⟩
  rw [T.val_eq e1 e2]
  rw [hn] at hll l2 ⊢
  rw [hn] at e2
  have i1 : (x.names.length : Int) ≤ 9223372036854775807 := by omega
  have i2 : (n : Int) ≤ 9223372036854775807 := by omega
  have hrec0 := hid (fun (z : T) (hz' : z ∈ x.list) W (b : Below w.heap.size w W) => ih z hz' W ((h.below b).parts.2.2.2.2.2.2.2 z hz') (by have := T.size_part hz'; omega) (right_kid hr hz'))
  have hpl := hid (fun (z : T) (hz' : z ∈ x.list) => part_len h hz hr hz')
  have hwl := hid (whole_len h hz hr)
  have h' := hid h
  have e2' := hid e2
  have hn' := hid hn
  clear ih h e1 e2 hn hz hr l1 l2
  replace hk := hid hk
  go_enter Tryz.func26, Tryz.ntmps26
  go_upto_region 1 with fail
  have K1 := hid (Blk.new w [.int .u8 (x.kind : Nat), .int .i64 x.num, .string x.str, .string x.typ, .slice no x.names.length nc, .slice lo n lc] 26)
  have bw := hid ((Below.refl w.heap.size w).alloc (Nat.le_refl _) (.cells #[.int .u8 (x.kind : Nat), .int .i64 x.num, .string x.str, .string x.typ, .slice no x.names.length nc, .slice lo n lc] 26))
  have hBB := hid (show w.heap.size + 1 ≤ (w.alloc (.cells #[.int .u8 (x.kind : Nat), .int .i64 x.num, .string x.str, .string x.typ, .slice no x.names.length nc, .slice lo n lc] 26)).heap.size by simp)
  generalize w.alloc (.cells #[.int .u8 (x.kind : Nat), .int .i64 x.num, .string x.str, .string x.typ, .slice no x.names.length nc, .slice lo n lc] 26) = X0 at K1 bw hBB ⊢
  obtain ⟨c0, c1, c2, c3, c4, c5, cf⟩ := six K1.out
  go_wp2_with fail
  clear c0 c1 c2 c3 c4 c5 cf
  go_loopw [3, 13] (fun av i wr => ∃ k : Nat, k ≤ n ∧ i = .int .i64 k ∧ (∃ ao cap, av = .slice ao k cap ∧ Hid (wr.ownsRow (w.heap.size + 1) 9 1 (.slice ao k cap) k (ksC (x.list.take k)))) ∧ Hid (Blk wr w.heap.size [.int .u8 (x.kind : Nat), .int .i64 x.num, .string x.str, .string x.typ, .slice no x.names.length nc, .slice lo n lc] 26) ∧ Hid (w.heap.size + 1 ≤ wr.heap.size) ∧ Hid (Below w.heap.size w wr)) (fun _ i _ => n - (intOf i).toNat)
  case atStart => exact ⟨0, by omega, rfl, ⟨none, 0, rfl, hid (World.ownsRow_nil _ _ _ _)⟩, K1, hBB, bw⟩
  case round =>
    clear K1 bw hBB
    obtain ⟨k, hkn, rfl, ⟨ao, cap, rfl, hown⟩, K1, hBB, bw⟩ := hrel
    rename_i wr _
    by_cases hkl : k < n
    · exfalso
      have h1 := hl0.out
      have h2 := hn'.out
      omega
    · have hki : ¬ (k : Int) < (n : Int) := by omega
      obtain rfl : k = n := by omega
      replace hown := hid (show wr.ownsRow (w.heap.size + 1) 9 1 (.slice ao k cap) k (ksC x.list) from by have := hown.out; rwa [List.take_of_length_le (by rw [hn'.out]; exact Nat.le_refl _)] at this)
      have hk0 : k = 0 := by rw [← hn'.out]; exact hl0.out
      subst hk0
      obtain ⟨c0, c1, c2, c3, c4, c5, cf⟩ := six K1.out
      replace hk := hk.out
      rw [hk] at c0
      clear hi iz0 iz1 iz2
      replace hsh := hid (show showT x = [91, 93] by rw [hsh.out, hl0.out]; rfl)
      go_wp2_with fail
      go_loopw [7, 83] (fun sv i wr2 => i = .int .i64 0 ∧ sv = .string ⟨#[]⟩ ∧ wr2 = wr) (fun _ _ _ => 0)
      case atStart => exact ⟨rfl, rfl, rfl⟩
      case round =>
        obtain ⟨rfl, rfl, rfl⟩ := hrel
        have hz : ¬ (0 : Int) < 0 := by omega
        go_wp2_with fail
        go_ret
        exact ⟨by rw [hsh.out]; rfl, bw.out⟩
set_option maxHeartbeats 16000000 in
theorem rshow_set_some (x : T) (ih : ∀ z ∈ x.list, RShow z) (hk : x.kind = 6) (hlen : 0 < x.list.length) : RShow x := by
  intro w h hz hr
  have ho0 := hlen
  obtain ⟨y, hy0⟩ : ∃ y, x.list[0] = y := ⟨_, rfl⟩
  have hym : y ∈ x.list := hy0 ▸ List.getElem_mem hlen
  have hsh : showT x = [91] ++ (itemsL x (x.list.map showT) x.list.length ++ [93]) := by
    rw [showT_eq]
    unfold nodeS
    simp [hk]
  obtain ⟨no, nc, lo, lc, e1, e2, l1, l2⟩ := h.forms
  obtain ⟨xb, xo, rfl⟩ := base_of h e2 ho0
  replace hy0 := hid hy0
  replace ho0 := hid ho0
  replace hym := hid hym
  replace hsh := hid hsh
  clear hlen
  obtain ⟨i0, hi, iz0, iz1, iz2⟩ := info_string
  have hll : x.list.length * 16 ≤ 140737488355328 := by have := h.parts.1.2.2; omega
  obtain ⟨n, hn⟩ : ∃ n, x.list.length = n := ⟨_, rfl⟩
  rw [T.val_eq e1 e2]
  rw [hn] at hll l2 ⊢
  rw [hn] at e2
  have i1 : (x.names.length : Int) ≤ 9223372036854775807 := by omega
  have i2 : (n : Int) ≤ 9223372036854775807 := by omega
  have hrec0 := hid (fun (z : T) (hz' : z ∈ x.list) W (b : Below w.heap.size w W) => ih z hz' W ((h.below b).parts.2.2.2.2.2.2.2 z hz') (by have := T.size_part hz'; omega) (right_kid hr hz'))
  have hpl := hid (fun (z : T) (hz' : z ∈ x.list) => part_len h hz hr hz')
  have hwl := hid (whole_len h hz hr)
  have h' := hid h
  have e2' := hid e2
  have hn' := hid hn
  clear ih h e1 e2 hn hz hr l1 l2
  replace hk := hid hk
  go_enter Tryz.func26, Tryz.ntmps26
  go_upto_region 1 with fail
  have K1 := hid (Blk.new w [.int .u8 (x.kind : Nat), .int .i64 x.num, .string x.str, .string x.typ, .slice no x.names.length nc, .slice (some ⟨xb, xo, none⟩) n lc] 26)
  have bw := hid ((Below.refl w.heap.size w).alloc (Nat.le_refl _) (.cells #[.int .u8 (x.kind : Nat), .int .i64 x.num, .string x.str, .string x.typ, .slice no x.names.length nc, .slice (some ⟨xb, xo, none⟩) n lc] 26))
  have hBB := hid (show w.heap.size + 1 ≤ (w.alloc (.cells #[.int .u8 (x.kind : Nat), .int .i64 x.num, .string x.str, .string x.typ, .slice no x.names.length nc, .slice (some ⟨xb, xo, none⟩) n lc] 26)).heap.size by simp)
  generalize w.alloc (.cells #[.int .u8 (x.kind : Nat), .int .i64 x.num, .string x.str, .string x.typ, .slice no x.names.length nc, .slice (some ⟨xb, xo, none⟩) n lc] 26) = X0 at K1 bw hBB ⊢
  obtain ⟨c0, c1, c2, c3, c4, c5, cf⟩ := six K1.out
  go_wp2_with fail
  clear c0 c1 c2 c3 c4 c5 cf
  go_loopw [3, 13] (fun av i wr => ∃ k : Nat, k ≤ n ∧ i = .int .i64 k ∧ (∃ ao cap, av = .slice ao k cap ∧ Hid (wr.ownsRow (w.heap.size + 1) 9 1 (.slice ao k cap) k (ksC (x.list.take k)))) ∧ Hid (Blk wr w.heap.size [.int .u8 (x.kind : Nat), .int .i64 x.num, .string x.str, .string x.typ, .slice no x.names.length nc, .slice (some ⟨xb, xo, none⟩) n lc] 26) ∧ Hid (w.heap.size + 1 ≤ wr.heap.size) ∧ Hid (Below w.heap.size w wr)) (fun _ i _ => n - (intOf i).toNat)
  case atStart => exact ⟨0, by omega, rfl, ⟨none, 0, rfl, hid (World.ownsRow_nil _ _ _ _)⟩, K1, hBB, bw⟩
  case round =>
    clear K1 bw hBB
    obtain ⟨k, hkn, rfl, ⟨ao, cap, rfl, hown⟩, K1, hBB, bw⟩ := hrel
    rename_i wr _
    by_cases hkl : k < n
    · have hki : (k : Int) < (n : Int) := by omega
      have hkx : k < x.list.length := by rw [hn'.out]; exact hkl
      obtain ⟨zb, zo, hzo, d0, d1, d2, d3, d4, d5⟩ := (h'.out.below bw.out).part6 (lo := (some ⟨xb, xo, none⟩)) (lc := lc) (by rw [e2'.out, hn'.out]) k hkx
      have hzok := (h'.out.parts.2.2.2.2.2.2.2 _ (List.getElem_mem hkx)).forms
      have hrec := hid (hrec0.out x.list[k] (List.getElem_mem hkx))
      have hst := hid (ksC_step x.list k hkx)
      generalize x.list[k] = z at d0 d1 d2 d3 d4 d5 hrec hzok hst
      obtain ⟨zno, znc, zlo, zlc, ez1, ez2, zl1, zl2⟩ := hzok
      have hzv := T.val_eq ez1 ez2
      rw [ez1] at d4
      rw [ez2] at d5
      replace hrec := hid (show ∀ W, Below w.heap.size w W → Calls Tryz.prog 26 #[.agg #[.int .u8 (z.kind : Nat), .int .i64 z.num, .string z.str, .string z.typ, .slice zno z.names.length znc, .slice zlo z.list.length zlc]] W fun e w' => e = .returned (.string (bs (showT z))) ∧ Below W.heap.size W w' from hzv ▸ hrec.out)
      clear ez1 ez2 hzv
      obtain ⟨rfl, rfl⟩ : xb = zb ∧ xo = zo := by simpa using hzo
      clear hzo
      generalize bs (showT z) = sz at *
      go_upto_region 5 with fail
      have K4 := hid (Blk.new wr [.int .u8 (z.kind : Nat), .int .i64 z.num, .string z.str, .string z.typ, .slice zno z.names.length znc, .slice zlo z.list.length zlc] 26)
      have hb4 := (Below.refl wr.heap.size wr).alloc (Nat.le_refl _) (.cells #[.int .u8 (z.kind : Nat), .int .i64 z.num, .string z.str, .string z.typ, .slice zno z.names.length znc, .slice zlo z.list.length zlc] 26)
      replace K1 := hid (K1.out.below hb4 K1.out.lt)
      replace hown := hid (ownsRow_below hown.out hb4)
      replace hBB := hid (Nat.le_trans hBB.out hb4.size)
      replace bw := hid (bt bw.out hb4)
      clear d0 d1 d2 d3 d4 d5 hb4
      generalize wr.alloc (.cells #[.int .u8 (z.kind : Nat), .int .i64 z.num, .string z.str, .string z.typ, .slice zno z.names.length znc, .slice zlo z.list.length zlc] 26) = X3 at K1 K4 hown hBB bw ⊢
      obtain ⟨f0, f1, f2, f3, f4, f5, ff⟩ := six K4.out
      go_wp2_with fail
      refine (hrec.out _ bw.out).mono ?_
      rintro e X4 ⟨rfl, b4⟩
      replace K1 := hid (K1.out.below b4 K1.out.lt)
      replace hown := hid (ownsRow_below hown.out b4)
      replace hBB := hid (Nat.le_trans hBB.out b4.size)
      replace bw := hid (bt bw.out b4)
      clear f0 f1 f2 f3 f4 f5 ff K4 b4 hrec
      go_wp2_with (at_builtin; refine wpList_append_own _ rfl _ _ 23 rfl (w.heap.size + 1) 9 i0 (.string ⟨#[]⟩) 1 16 Tryz.underlying23 hi iz0 iz1 iz2 rfl (by decide) _ _ _ rfl (ownsRow_below hown.out ((Below.refl _ _).alloc (Nat.le_refl _) _)) ⟨X4.heap.size, 0, none⟩ 1 1 [.string sz] rfl rfl ?c1 ?c2 ?c3 ?c4 ?c5 ?_)
      case c1 =>
        intro j u hj
        match j, hj with
        | 0, hj => simp at hj; subst hj; simp [Addr.add]
      case c2 => intro u hu; simp at hu; subst hu; rfl
      case c3 => unfold maxLen; omega
      case c4 => omega
      case c5 => have := hBB.out; simp; omega
      intro v' X5 hown5 hgr _
      have hlt0 := fun q (hq : (Value.slice ao k cap).ownBlock = some q) => hown.out.lt q hq
      have hbn := hid (show Below w.heap.size w X5 from (bw.out.alloc bw.out.size _).grown hgr (by have := bw.out.size; simp; omega) (fun q hq => by have := (hlt0 q hq).1; omega))
      have K1n := hid (show Blk X5 w.heap.size [.int .u8 (x.kind : Nat), .int .i64 x.num, .string x.str, .string x.typ, .slice no x.names.length nc, .slice (some ⟨xb, xo, none⟩) n lc] 26 from ⟨(hgr.block _ (by have := K1.out.lt; simp; omega) (fun e => by have := (hlt0 _ e.symm).1; omega)).trans (K1.out.alloc _).at'⟩)
      have hBn := hid (show w.heap.size + 1 ≤ X5.heap.size from by have h1 := hgr.size; have h2 := hBB.out; simp at h1; omega)
      obtain ⟨ao', cap', rfl, _, _⟩ := ownsRow_form hown5
      have hownn := hid (show X5.ownsRow (w.heap.size + 1) 9 1 (.slice ao' (k + 1) cap') (k + 1) (ksC (x.list.take (k + 1))) from by rw [hst.out]; exact hown5)
      clear hown5 hgr hlt0 K1 hBB bw hown hst
      go_wp2_with fail
      go_roundw
      case rel => exact ⟨k + 1, by omega, by go_num, ⟨ao', cap', rfl, hownn⟩, K1n, hBn, hbn⟩
      case measure => simp [intOf]; omega
    · have hki : ¬ (k : Int) < (n : Int) := by omega
      obtain rfl : k = n := by omega
      replace hown := hid (show wr.ownsRow (w.heap.size + 1) 9 1 (.slice ao k cap) k (ksC x.list) from by have := hown.out; rwa [List.take_of_length_le (by rw [hn'.out]; exact Nat.le_refl _)] at this)
      obtain ⟨g, o, rfl, hks⟩ := ks_open (g := 0) hown.out hn'.out (by have := hn'.out; rw [← this]; exact ho0.out)
      have t0 := hks 0 ho0.out
      rw [hy0.out, Nat.add_zero] at t0
      have s0 := hpl.out y hym.out
      obtain ⟨yb, yo, hyo, p0, _⟩ := (h'.out.below bw.out).part6 (lo := some ⟨xb, xo, none⟩) (lc := lc) (by rw [e2'.out, hn'.out]) 0 ho0.out
      obtain ⟨rfl, rfl⟩ : xb = yb ∧ xo = yo := by simpa using hyo
      rw [hy0.out, Nat.zero_mul, Nat.add_zero] at p0
      replace hks := hid hks
      clear hyo hi iz0 iz1 iz2
      have b0 : (bs (showT y)).size ≤ 34359738368 := by rw [bs_size]; exact s0
      obtain ⟨S0, hS0⟩ : ∃ S, bs (showT y) = S := ⟨_, rfl⟩
      rw [hS0] at t0 b0
      replace hS0 := hid hS0
      clear s0
      obtain ⟨c0, c1, c2, c3, c4, c5, cf⟩ := six K1.out
      replace hk := hk.out
      rw [hk] at c0
      have hkp : (0 : Int) < (k : Int) := by have h1 := ho0.out; have h2 := hn'.out; omega
      obtain ⟨ky, hky⟩ : ∃ ky, y.kind = ky := ⟨_, rfl⟩
      rw [hky] at p0
      replace hky := hid hky
      have n90 : ¬ 9223372036854775807 < 1 + S0.size := by omega
      have n91 : ¬ 9223372036854775807 < 1 + S0.size + 1 := by omega
      by_cases hy12 : ky = 12
      · have hbs := hid (show (⟨#[40]⟩ : ByteArray) ++ S0 ++ ⟨#[41]⟩ = bs (baseL y.kind (showT y)) by rw [hky.out, hy12, ← hS0.out]; exact ba_eq (by simp [bs, baseL]))
        have hbl : ((⟨#[40]⟩ : ByteArray) ++ S0 ++ ⟨#[41]⟩).size ≤ 34359738370 := by
          rw [ByteArray.size_append, ByteArray.size_append]
          have e1 : (⟨#[40]⟩ : ByteArray).size = 1 := rfl
          have e2 : (⟨#[41]⟩ : ByteArray).size = 1 := rfl
          omega
        replace hky := hid (hky.out.trans hy12)
        rw [hy12] at p0
        clear hy12
        go_upto_region 12 with fail
        clear n90 n91
        generalize (⟨#[40]⟩ : ByteArray) ++ S0 ++ ⟨#[41]⟩ = Bs at hbs hbl ⊢
        go_upto_region 25 with fail
        clear hkp t0 p0
        go_wp2_with fail
        go_loopw [7, 83] (fun sv i wr2 => ∃ j : Nat, j ≤ k ∧ i = .int .i64 j ∧ sv = .string (bs (itemsL x (x.list.map showT) j)) ∧ Hid (Below wr.heap.size wr wr2)) (fun _ i _ => k - (intOf i).toNat)
        case atStart => exact ⟨0, by omega, rfl, rfl, hid (Below.refl _ _)⟩
        case round =>
          obtain ⟨j, hjk, rfl, rfl, hb2⟩ := hrel
          replace c0 := cell_below hb2.out _ _ c0
          replace c4 := cell_below hb2.out _ _ c4
          have hmo := items_mono x (x.list.map showT) j (m := x.list.length) (by rw [hn'.out]; exact hjk)
          have htot := hwl.out
          rw [hsh.out] at htot
          simp only [List.length_append, List.length_cons, List.length_nil] at htot
          by_cases hjl : j < k
          · have hji : (j : Int) < (k : Int) := by omega
            have hjx : j < x.list.length := by rw [hn'.out]; exact hjl
            have t1 := cell_below hb2.out _ _ (hks.out j hjx)
            have hst := items_step x (x.list.map showT) j x.list.length hjx
            rw [ks_at x j hjx] at hst
            obtain ⟨T1, hT1⟩ : ∃ T, bs (showT x.list[j]) = T := ⟨_, rfl⟩
            obtain ⟨P, hP⟩ : ∃ P, bs (itemsL x (x.list.map showT) j) = P := ⟨_, rfl⟩
            have bP : P.size = (itemsL x (x.list.map showT) j).length := by rw [← hP, bs_size]
            have bT : T1.size = (showT x.list[j]).length := by rw [← hT1, bs_size]
            rw [hT1] at t1
            rw [hP]
            have hah : aheadL x j = [] := by unfold aheadL; rw [if_neg (by omega)]
            rw [hah] at hst
            simp only [List.length_append, List.length_cons, List.length_nil] at hst
            by_cases hj0 : j = 0
            · have hj0i : ¬ (0 : Int) < (j : Int) := by omega
              have hit := hid (show bs (itemsL x (x.list.map showT) (j + 1)) = P ++ T1 by
                rw [← hP, ← hT1, itemsL.eq_2, ks_at x j hjx, hah, show sepL j = [] by rw [hj0]; rfl]
                exact (ba_eq (by simp [bs])).symm)
              rw [show sepL j = [] by rw [hj0]; rfl] at hst
              simp only [List.length_nil] at hst
              have u0 : ¬ 9223372036854775807 < P.size + T1.size := by omega
              clear hst htot hmo hj0
              go_wp2_with fail
              go_roundw
              case rel => exact ⟨j + 1, by omega, by go_num, by rw [hit.out], hb2⟩
              case measure => simp [intOf]; omega
            · have hj0i : (0 : Int) < (j : Int) := by omega
              have hit := hid (show bs (itemsL x (x.list.map showT) (j + 1)) = P ++ (⟨#[44, 32]⟩ : ByteArray) ++ T1 by
                rw [← hP, ← hT1, itemsL.eq_2, ks_at x j hjx, hah, show sepL j = [44, 32] by unfold sepL; rw [if_neg hj0]]
                exact (ba_eq (by simp [bs])).symm)
              rw [show sepL j = [44, 32] by unfold sepL; rw [if_neg hj0]] at hst
              simp only [List.length_cons, List.length_nil] at hst
              have u0 : ¬ 9223372036854775807 < P.size + 2 := by omega
              have u1 : ¬ 9223372036854775807 < P.size + 2 + T1.size := by omega
              clear hst htot hmo hj0
              go_wp2_with fail
              go_roundw
              case rel => exact ⟨j + 1, by omega, by go_num, by rw [hit.out], hb2⟩
              case measure => simp [intOf]; omega
          · have hji : ¬ (j : Int) < (k : Int) := by omega
            obtain rfl : j = k := by omega
            obtain ⟨P, hP⟩ : ∃ P, bs (itemsL x (x.list.map showT) j) = P := ⟨_, rfl⟩
            have bP : P.size = (itemsL x (x.list.map showT) j).length := by rw [← hP, bs_size]
            have v0 : ¬ 9223372036854775807 < 1 + P.size := by omega
            have v1 : ¬ 9223372036854775807 < 1 + P.size + 1 := by omega
            have hfin := hid (show bs (showT x) = (⟨#[91]⟩ : ByteArray) ++ P ++ (⟨#[93]⟩ : ByteArray) by
              rw [hsh.out, hn'.out, ← hP]
              exact (ba_eq (by simp [bs])).symm)
            rw [hP]
            replace bw := hid (bw.out.trans (hb2.out.mono (by have := bw.out.size; omega)))
            clear hmo htot
            go_wp2_with fail
            go_ret
            exact ⟨by rw [hfin.out]; rfl, bw.out⟩
      by_cases hy13 : ky = 13
      · have hbs := hid (show (⟨#[40]⟩ : ByteArray) ++ S0 ++ ⟨#[41]⟩ = bs (baseL y.kind (showT y)) by rw [hky.out, hy13, ← hS0.out]; exact ba_eq (by simp [bs, baseL]))
        have hbl : ((⟨#[40]⟩ : ByteArray) ++ S0 ++ ⟨#[41]⟩).size ≤ 34359738370 := by
          rw [ByteArray.size_append, ByteArray.size_append]
          have e1 : (⟨#[40]⟩ : ByteArray).size = 1 := rfl
          have e2 : (⟨#[41]⟩ : ByteArray).size = 1 := rfl
          omega
        replace hky := hid (hky.out.trans hy13)
        rw [hy13] at p0
        clear hy13 hy12
        go_upto_region 12 with fail
        clear n90 n91
        generalize (⟨#[40]⟩ : ByteArray) ++ S0 ++ ⟨#[41]⟩ = Bs at hbs hbl ⊢
        go_upto_region 25 with fail
        clear hkp t0 p0
        go_wp2_with fail
        go_loopw [7, 83] (fun sv i wr2 => ∃ j : Nat, j ≤ k ∧ i = .int .i64 j ∧ sv = .string (bs (itemsL x (x.list.map showT) j)) ∧ Hid (Below wr.heap.size wr wr2)) (fun _ i _ => k - (intOf i).toNat)
        case atStart => exact ⟨0, by omega, rfl, rfl, hid (Below.refl _ _)⟩
        case round =>
          obtain ⟨j, hjk, rfl, rfl, hb2⟩ := hrel
          replace c0 := cell_below hb2.out _ _ c0
          replace c4 := cell_below hb2.out _ _ c4
          have hmo := items_mono x (x.list.map showT) j (m := x.list.length) (by rw [hn'.out]; exact hjk)
          have htot := hwl.out
          rw [hsh.out] at htot
          simp only [List.length_append, List.length_cons, List.length_nil] at htot
          by_cases hjl : j < k
          · have hji : (j : Int) < (k : Int) := by omega
            have hjx : j < x.list.length := by rw [hn'.out]; exact hjl
            have t1 := cell_below hb2.out _ _ (hks.out j hjx)
            have hst := items_step x (x.list.map showT) j x.list.length hjx
            rw [ks_at x j hjx] at hst
            obtain ⟨T1, hT1⟩ : ∃ T, bs (showT x.list[j]) = T := ⟨_, rfl⟩
            obtain ⟨P, hP⟩ : ∃ P, bs (itemsL x (x.list.map showT) j) = P := ⟨_, rfl⟩
            have bP : P.size = (itemsL x (x.list.map showT) j).length := by rw [← hP, bs_size]
            have bT : T1.size = (showT x.list[j]).length := by rw [← hT1, bs_size]
            rw [hT1] at t1
            rw [hP]
            have hah : aheadL x j = [] := by unfold aheadL; rw [if_neg (by omega)]
            rw [hah] at hst
            simp only [List.length_append, List.length_cons, List.length_nil] at hst
            by_cases hj0 : j = 0
            · have hj0i : ¬ (0 : Int) < (j : Int) := by omega
              have hit := hid (show bs (itemsL x (x.list.map showT) (j + 1)) = P ++ T1 by
                rw [← hP, ← hT1, itemsL.eq_2, ks_at x j hjx, hah, show sepL j = [] by rw [hj0]; rfl]
                exact (ba_eq (by simp [bs])).symm)
              rw [show sepL j = [] by rw [hj0]; rfl] at hst
              simp only [List.length_nil] at hst
              have u0 : ¬ 9223372036854775807 < P.size + T1.size := by omega
              clear hst htot hmo hj0
              go_wp2_with fail
              go_roundw
              case rel => exact ⟨j + 1, by omega, by go_num, by rw [hit.out], hb2⟩
              case measure => simp [intOf]; omega
            · have hj0i : (0 : Int) < (j : Int) := by omega
              have hit := hid (show bs (itemsL x (x.list.map showT) (j + 1)) = P ++ (⟨#[44, 32]⟩ : ByteArray) ++ T1 by
                rw [← hP, ← hT1, itemsL.eq_2, ks_at x j hjx, hah, show sepL j = [44, 32] by unfold sepL; rw [if_neg hj0]]
                exact (ba_eq (by simp [bs])).symm)
              rw [show sepL j = [44, 32] by unfold sepL; rw [if_neg hj0]] at hst
              simp only [List.length_cons, List.length_nil] at hst
              have u0 : ¬ 9223372036854775807 < P.size + 2 := by omega
              have u1 : ¬ 9223372036854775807 < P.size + 2 + T1.size := by omega
              clear hst htot hmo hj0
              go_wp2_with fail
              go_roundw
              case rel => exact ⟨j + 1, by omega, by go_num, by rw [hit.out], hb2⟩
              case measure => simp [intOf]; omega
          · have hji : ¬ (j : Int) < (k : Int) := by omega
            obtain rfl : j = k := by omega
            obtain ⟨P, hP⟩ : ∃ P, bs (itemsL x (x.list.map showT) j) = P := ⟨_, rfl⟩
            have bP : P.size = (itemsL x (x.list.map showT) j).length := by rw [← hP, bs_size]
            have v0 : ¬ 9223372036854775807 < 1 + P.size := by omega
            have v1 : ¬ 9223372036854775807 < 1 + P.size + 1 := by omega
            have hfin := hid (show bs (showT x) = (⟨#[91]⟩ : ByteArray) ++ P ++ (⟨#[93]⟩ : ByteArray) by
              rw [hsh.out, hn'.out, ← hP]
              exact (ba_eq (by simp [bs])).symm)
            rw [hP]
            replace bw := hid (bw.out.trans (hb2.out.mono (by have := bw.out.size; omega)))
            clear hmo htot
            go_wp2_with fail
            go_ret
            exact ⟨by rw [hfin.out]; rfl, bw.out⟩
      · have hbs := hid (show S0 = bs (baseL y.kind (showT y)) by rw [hky.out, ← hS0.out]; unfold baseL; rw [if_neg (by omega)])
        have hbl : S0.size ≤ 34359738370 := by omega
        have q1 : ((ky : Int) == 12) = false := by rw [beq_eq_false_iff_ne]; omega
        have q2 : ((ky : Int) == 13) = false := by rw [beq_eq_false_iff_ne]; omega
        clear hy12 hy13
        go_upto_region 12 with fail
        clear n90 n91 q1 q2
        go_upto_region 25 with fail
        clear hkp t0 p0
        go_wp2_with fail
        go_loopw [7, 83] (fun sv i wr2 => ∃ j : Nat, j ≤ k ∧ i = .int .i64 j ∧ sv = .string (bs (itemsL x (x.list.map showT) j)) ∧ Hid (Below wr.heap.size wr wr2)) (fun _ i _ => k - (intOf i).toNat)
        case atStart => exact ⟨0, by omega, rfl, rfl, hid (Below.refl _ _)⟩
        case round =>
          obtain ⟨j, hjk, rfl, rfl, hb2⟩ := hrel
          replace c0 := cell_below hb2.out _ _ c0
          replace c4 := cell_below hb2.out _ _ c4
          have hmo := items_mono x (x.list.map showT) j (m := x.list.length) (by rw [hn'.out]; exact hjk)
          have htot := hwl.out
          rw [hsh.out] at htot
          simp only [List.length_append, List.length_cons, List.length_nil] at htot
          by_cases hjl : j < k
          · have hji : (j : Int) < (k : Int) := by omega
            have hjx : j < x.list.length := by rw [hn'.out]; exact hjl
            have t1 := cell_below hb2.out _ _ (hks.out j hjx)
            have hst := items_step x (x.list.map showT) j x.list.length hjx
            rw [ks_at x j hjx] at hst
            obtain ⟨T1, hT1⟩ : ∃ T, bs (showT x.list[j]) = T := ⟨_, rfl⟩
            obtain ⟨P, hP⟩ : ∃ P, bs (itemsL x (x.list.map showT) j) = P := ⟨_, rfl⟩
            have bP : P.size = (itemsL x (x.list.map showT) j).length := by rw [← hP, bs_size]
            have bT : T1.size = (showT x.list[j]).length := by rw [← hT1, bs_size]
            rw [hT1] at t1
            rw [hP]
            have hah : aheadL x j = [] := by unfold aheadL; rw [if_neg (by omega)]
            rw [hah] at hst
            simp only [List.length_append, List.length_cons, List.length_nil] at hst
            by_cases hj0 : j = 0
            · have hj0i : ¬ (0 : Int) < (j : Int) := by omega
              have hit := hid (show bs (itemsL x (x.list.map showT) (j + 1)) = P ++ T1 by
                rw [← hP, ← hT1, itemsL.eq_2, ks_at x j hjx, hah, show sepL j = [] by rw [hj0]; rfl]
                exact (ba_eq (by simp [bs])).symm)
              rw [show sepL j = [] by rw [hj0]; rfl] at hst
              simp only [List.length_nil] at hst
              have u0 : ¬ 9223372036854775807 < P.size + T1.size := by omega
              clear hst htot hmo hj0
              go_wp2_with fail
              go_roundw
              case rel => exact ⟨j + 1, by omega, by go_num, by rw [hit.out], hb2⟩
              case measure => simp [intOf]; omega
            · have hj0i : (0 : Int) < (j : Int) := by omega
              have hit := hid (show bs (itemsL x (x.list.map showT) (j + 1)) = P ++ (⟨#[44, 32]⟩ : ByteArray) ++ T1 by
                rw [← hP, ← hT1, itemsL.eq_2, ks_at x j hjx, hah, show sepL j = [44, 32] by unfold sepL; rw [if_neg hj0]]
                exact (ba_eq (by simp [bs])).symm)
              rw [show sepL j = [44, 32] by unfold sepL; rw [if_neg hj0]] at hst
              simp only [List.length_cons, List.length_nil] at hst
              have u0 : ¬ 9223372036854775807 < P.size + 2 := by omega
              have u1 : ¬ 9223372036854775807 < P.size + 2 + T1.size := by omega
              clear hst htot hmo hj0
              go_wp2_with fail
              go_roundw
              case rel => exact ⟨j + 1, by omega, by go_num, by rw [hit.out], hb2⟩
              case measure => simp [intOf]; omega
          · have hji : ¬ (j : Int) < (k : Int) := by omega
            obtain rfl : j = k := by omega
            obtain ⟨P, hP⟩ : ∃ P, bs (itemsL x (x.list.map showT) j) = P := ⟨_, rfl⟩
            have bP : P.size = (itemsL x (x.list.map showT) j).length := by rw [← hP, bs_size]
            have v0 : ¬ 9223372036854775807 < 1 + P.size := by omega
            have v1 : ¬ 9223372036854775807 < 1 + P.size + 1 := by omega
            have hfin := hid (show bs (showT x) = (⟨#[91]⟩ : ByteArray) ++ P ++ (⟨#[93]⟩ : ByteArray) by
              rw [hsh.out, hn'.out, ← hP]
              exact (ba_eq (by simp [bs])).symm)
            rw [hP]
            replace bw := hid (bw.out.trans (hb2.out.mono (by have := bw.out.size; omega)))
            clear hmo htot
            go_wp2_with fail
            go_ret
            exact ⟨by rw [hfin.out]; rfl, bw.out⟩
end Go.Proofs.YtbcjppbiihgfpaaGreatDoor.Ex
namespace Go.Proofs.YtbcjppbiihgfpaaGreatDoor.Ex
open Go.ChangeShapes Go.WideShapes Go.ChangeAt Go.RowKit
open Go.Proofs.YtbcjppbiihgfpaaGreatDoor.Mem Go.Proofs.YtbcjppbiihgfpaaGreatDoor.Lik
set_option linter.unusedVariables false
set_option linter.unusedSimpArgs false
set_option maxRecDepth 100000
set_option maxHeartbeats 16000000 in
theorem rshow_record_nil (x : T) (ih : ∀ z ∈ x.list, RShow z) (hk : x.kind = 7) (hlen : x.list.length = 0) : RShow x := by
  intro w h hz hr
  have hl0 := hlen
  have hsh : showT x = [123] ++ (itemsL x (x.list.map showT) x.list.length ++ [125]) := by
    rw [showT_eq]
    unfold nodeS
    simp [hk]
  have hfld := (node_of hr).1
  unfold fldB at hfld
  rw [if_neg (by omega), if_neg (by omega), if_neg (by omega), if_neg (by omega), if_neg (by omega), if_pos hk] at hfld
  simp only [Bool.and_eq_true, decide_eq_true_eq] at hfld
  have hnl := hfld.1.1
  have hna := hid (namesGo_all _ _ hfld.1.2)
  clear hfld
  obtain ⟨no, nc, lo, lc, e1, e2, l1, l2⟩ := h.forms
  replace hl0 := hid hl0
  have hname := hid (fun (j : Nat) (hj : j < x.names.length) W (b : Below w.heap.size w W) => (h.below b).name e1 j hj)
  replace hnl := hid hnl
  replace hsh := hid hsh
  clear hlen
  obtain ⟨i0, hi, iz0, iz1, iz2⟩ := info_string
  have hll : x.list.length * 16 ≤ 140737488355328 := by have := h.parts.1.2.2; omega
  obtain ⟨n, hn⟩ : ∃ n, x.list.length = n := ⟨_, rfl⟩
  rw [T.val_eq e1 e2]
  rw [hn] at hll l2 ⊢
  rw [hn] at e2
  have i1 : (x.names.length : Int) ≤ 9223372036854775807 := by omega
  have i2 : (n : Int) ≤ 9223372036854775807 := by omega
  have hrec0 := hid (fun (z : T) (hz' : z ∈ x.list) W (b : Below w.heap.size w W) => ih z hz' W ((h.below b).parts.2.2.2.2.2.2.2 z hz') (by have := T.size_part hz'; omega) (right_kid hr hz'))
  have hpl := hid (fun (z : T) (hz' : z ∈ x.list) => part_len h hz hr hz')
  have hwl := hid (whole_len h hz hr)
  have h' := hid h
  have e2' := hid e2
  have hn' := hid hn
  clear ih h e1 e2 hn hz hr l1 l2
  replace hk := hid hk
  go_enter Tryz.func26, Tryz.ntmps26
  go_upto_region 1 with fail
  have K1 := hid (Blk.new w [.int .u8 (x.kind : Nat), .int .i64 x.num, .string x.str, .string x.typ, .slice no x.names.length nc, .slice lo n lc] 26)
  have bw := hid ((Below.refl w.heap.size w).alloc (Nat.le_refl _) (.cells #[.int .u8 (x.kind : Nat), .int .i64 x.num, .string x.str, .string x.typ, .slice no x.names.length nc, .slice lo n lc] 26))
  have hBB := hid (show w.heap.size + 1 ≤ (w.alloc (.cells #[.int .u8 (x.kind : Nat), .int .i64 x.num, .string x.str, .string x.typ, .slice no x.names.length nc, .slice lo n lc] 26)).heap.size by simp)
  generalize w.alloc (.cells #[.int .u8 (x.kind : Nat), .int .i64 x.num, .string x.str, .string x.typ, .slice no x.names.length nc, .slice lo n lc] 26) = X0 at K1 bw hBB ⊢
  obtain ⟨c0, c1, c2, c3, c4, c5, cf⟩ := six K1.out
  go_wp2_with fail
  clear c0 c1 c2 c3 c4 c5 cf
  go_loopw [3, 13] (fun av i wr => ∃ k : Nat, k ≤ n ∧ i = .int .i64 k ∧ (∃ ao cap, av = .slice ao k cap ∧ Hid (wr.ownsRow (w.heap.size + 1) 9 1 (.slice ao k cap) k (ksC (x.list.take k)))) ∧ Hid (Blk wr w.heap.size [.int .u8 (x.kind : Nat), .int .i64 x.num, .string x.str, .string x.typ, .slice no x.names.length nc, .slice lo n lc] 26) ∧ Hid (w.heap.size + 1 ≤ wr.heap.size) ∧ Hid (Below w.heap.size w wr)) (fun _ i _ => n - (intOf i).toNat)
  case atStart => exact ⟨0, by omega, rfl, ⟨none, 0, rfl, hid (World.ownsRow_nil _ _ _ _)⟩, K1, hBB, bw⟩
  case round =>
    clear K1 bw hBB
    obtain ⟨k, hkn, rfl, ⟨ao, cap, rfl, hown⟩, K1, hBB, bw⟩ := hrel
    rename_i wr _
    by_cases hkl : k < n
    · exfalso
      have h1 := hl0.out
      have h2 := hn'.out
      omega
    · have hki : ¬ (k : Int) < (n : Int) := by omega
      obtain rfl : k = n := by omega
      replace hown := hid (show wr.ownsRow (w.heap.size + 1) 9 1 (.slice ao k cap) k (ksC x.list) from by have := hown.out; rwa [List.take_of_length_le (by rw [hn'.out]; exact Nat.le_refl _)] at this)
      have hk0 : k = 0 := by rw [← hn'.out]; exact hl0.out
      subst hk0
      obtain ⟨c0, c1, c2, c3, c4, c5, cf⟩ := six K1.out
      replace hk := hk.out
      rw [hk] at c0
      clear hi iz0 iz1 iz2
      replace hsh := hid (show showT x = [123, 125] by rw [hsh.out, hl0.out]; rfl)
      go_wp2_with fail
      go_loopw [7, 83] (fun sv i wr2 => i = .int .i64 0 ∧ sv = .string ⟨#[]⟩ ∧ wr2 = wr) (fun _ _ _ => 0)
      case atStart => exact ⟨rfl, rfl, rfl⟩
      case round =>
        obtain ⟨rfl, rfl, rfl⟩ := hrel
        have hz : ¬ (0 : Int) < 0 := by omega
        go_wp2_with fail
        go_ret
        exact ⟨by rw [hsh.out]; rfl, bw.out⟩
set_option maxHeartbeats 16000000 in
theorem rshow_record_some (x : T) (ih : ∀ z ∈ x.list, RShow z) (hk : x.kind = 7) (hlen : 0 < x.list.length) : RShow x := by
  intro w h hz hr
  have ho0 := hlen
  obtain ⟨y, hy0⟩ : ∃ y, x.list[0] = y := ⟨_, rfl⟩
  have hym : y ∈ x.list := hy0 ▸ List.getElem_mem hlen
  have hsh : showT x = [123] ++ (itemsL x (x.list.map showT) x.list.length ++ [125]) := by
    rw [showT_eq]
    unfold nodeS
    simp [hk]
  have hfld := (node_of hr).1
  unfold fldB at hfld
  rw [if_neg (by omega), if_neg (by omega), if_neg (by omega), if_neg (by omega), if_neg (by omega), if_pos hk] at hfld
  simp only [Bool.and_eq_true, decide_eq_true_eq] at hfld
  have hnl := hfld.1.1
  have hna := hid (namesGo_all _ _ hfld.1.2)
  clear hfld
  obtain ⟨no, nc, lo, lc, e1, e2, l1, l2⟩ := h.forms
  obtain ⟨xb, xo, rfl⟩ := base_of h e2 ho0
  replace hy0 := hid hy0
  replace ho0 := hid ho0
  replace hym := hid hym
  have hname := hid (fun (j : Nat) (hj : j < x.names.length) W (b : Below w.heap.size w W) => (h.below b).name e1 j hj)
  replace hnl := hid hnl
  replace hsh := hid hsh
  clear hlen
  obtain ⟨i0, hi, iz0, iz1, iz2⟩ := info_string
  have hll : x.list.length * 16 ≤ 140737488355328 := by have := h.parts.1.2.2; omega
  obtain ⟨n, hn⟩ : ∃ n, x.list.length = n := ⟨_, rfl⟩
  rw [T.val_eq e1 e2]
  rw [hn] at hll l2 ⊢
  rw [hn] at e2
  have i1 : (x.names.length : Int) ≤ 9223372036854775807 := by omega
  have i2 : (n : Int) ≤ 9223372036854775807 := by omega
  have hrec0 := hid (fun (z : T) (hz' : z ∈ x.list) W (b : Below w.heap.size w W) => ih z hz' W ((h.below b).parts.2.2.2.2.2.2.2 z hz') (by have := T.size_part hz'; omega) (right_kid hr hz'))
  have hpl := hid (fun (z : T) (hz' : z ∈ x.list) => part_len h hz hr hz')
  have hwl := hid (whole_len h hz hr)
  have h' := hid h
  have e2' := hid e2
  have hn' := hid hn
  clear ih h e1 e2 hn hz hr l1 l2
  replace hk := hid hk
  go_enter Tryz.func26, Tryz.ntmps26
  go_upto_region 1 with fail
  have K1 := hid (Blk.new w [.int .u8 (x.kind : Nat), .int .i64 x.num, .string x.str, .string x.typ, .slice no x.names.length nc, .slice (some ⟨xb, xo, none⟩) n lc] 26)
  have bw := hid ((Below.refl w.heap.size w).alloc (Nat.le_refl _) (.cells #[.int .u8 (x.kind : Nat), .int .i64 x.num, .string x.str, .string x.typ, .slice no x.names.length nc, .slice (some ⟨xb, xo, none⟩) n lc] 26))
  have hBB := hid (show w.heap.size + 1 ≤ (w.alloc (.cells #[.int .u8 (x.kind : Nat), .int .i64 x.num, .string x.str, .string x.typ, .slice no x.names.length nc, .slice (some ⟨xb, xo, none⟩) n lc] 26)).heap.size by simp)
  generalize w.alloc (.cells #[.int .u8 (x.kind : Nat), .int .i64 x.num, .string x.str, .string x.typ, .slice no x.names.length nc, .slice (some ⟨xb, xo, none⟩) n lc] 26) = X0 at K1 bw hBB ⊢
  obtain ⟨c0, c1, c2, c3, c4, c5, cf⟩ := six K1.out
  go_wp2_with fail
  clear c0 c1 c2 c3 c4 c5 cf
  go_loopw [3, 13] (fun av i wr => ∃ k : Nat, k ≤ n ∧ i = .int .i64 k ∧ (∃ ao cap, av = .slice ao k cap ∧ Hid (wr.ownsRow (w.heap.size + 1) 9 1 (.slice ao k cap) k (ksC (x.list.take k)))) ∧ Hid (Blk wr w.heap.size [.int .u8 (x.kind : Nat), .int .i64 x.num, .string x.str, .string x.typ, .slice no x.names.length nc, .slice (some ⟨xb, xo, none⟩) n lc] 26) ∧ Hid (w.heap.size + 1 ≤ wr.heap.size) ∧ Hid (Below w.heap.size w wr)) (fun _ i _ => n - (intOf i).toNat)
  case atStart => exact ⟨0, by omega, rfl, ⟨none, 0, rfl, hid (World.ownsRow_nil _ _ _ _)⟩, K1, hBB, bw⟩
  case round =>
    clear K1 bw hBB
    obtain ⟨k, hkn, rfl, ⟨ao, cap, rfl, hown⟩, K1, hBB, bw⟩ := hrel
    rename_i wr _
    by_cases hkl : k < n
    · have hki : (k : Int) < (n : Int) := by omega
      have hkx : k < x.list.length := by rw [hn'.out]; exact hkl
      obtain ⟨zb, zo, hzo, d0, d1, d2, d3, d4, d5⟩ := (h'.out.below bw.out).part6 (lo := (some ⟨xb, xo, none⟩)) (lc := lc) (by rw [e2'.out, hn'.out]) k hkx
      have hzok := (h'.out.parts.2.2.2.2.2.2.2 _ (List.getElem_mem hkx)).forms
      have hrec := hid (hrec0.out x.list[k] (List.getElem_mem hkx))
      have hst := hid (ksC_step x.list k hkx)
      generalize x.list[k] = z at d0 d1 d2 d3 d4 d5 hrec hzok hst
      obtain ⟨zno, znc, zlo, zlc, ez1, ez2, zl1, zl2⟩ := hzok
      have hzv := T.val_eq ez1 ez2
      rw [ez1] at d4
      rw [ez2] at d5
      replace hrec := hid (show ∀ W, Below w.heap.size w W → Calls Tryz.prog 26 #[.agg #[.int .u8 (z.kind : Nat), .int .i64 z.num, .string z.str, .string z.typ, .slice zno z.names.length znc, .slice zlo z.list.length zlc]] W fun e w' => e = .returned (.string (bs (showT z))) ∧ Below W.heap.size W w' from hzv ▸ hrec.out)
      clear ez1 ez2 hzv
      obtain ⟨rfl, rfl⟩ : xb = zb ∧ xo = zo := by simpa using hzo
      clear hzo
      generalize bs (showT z) = sz at *
      go_upto_region 5 with fail
      have K4 := hid (Blk.new wr [.int .u8 (z.kind : Nat), .int .i64 z.num, .string z.str, .string z.typ, .slice zno z.names.length znc, .slice zlo z.list.length zlc] 26)
      have hb4 := (Below.refl wr.heap.size wr).alloc (Nat.le_refl _) (.cells #[.int .u8 (z.kind : Nat), .int .i64 z.num, .string z.str, .string z.typ, .slice zno z.names.length znc, .slice zlo z.list.length zlc] 26)
      replace K1 := hid (K1.out.below hb4 K1.out.lt)
      replace hown := hid (ownsRow_below hown.out hb4)
      replace hBB := hid (Nat.le_trans hBB.out hb4.size)
      replace bw := hid (bt bw.out hb4)
      clear d0 d1 d2 d3 d4 d5 hb4
      generalize wr.alloc (.cells #[.int .u8 (z.kind : Nat), .int .i64 z.num, .string z.str, .string z.typ, .slice zno z.names.length znc, .slice zlo z.list.length zlc] 26) = X3 at K1 K4 hown hBB bw ⊢
      obtain ⟨f0, f1, f2, f3, f4, f5, ff⟩ := six K4.out
      go_wp2_with fail
      refine (hrec.out _ bw.out).mono ?_
      rintro e X4 ⟨rfl, b4⟩
      replace K1 := hid (K1.out.below b4 K1.out.lt)
      replace hown := hid (ownsRow_below hown.out b4)
      replace hBB := hid (Nat.le_trans hBB.out b4.size)
      replace bw := hid (bt bw.out b4)
      clear f0 f1 f2 f3 f4 f5 ff K4 b4 hrec
      go_wp2_with (at_builtin; refine wpList_append_own _ rfl _ _ 23 rfl (w.heap.size + 1) 9 i0 (.string ⟨#[]⟩) 1 16 Tryz.underlying23 hi iz0 iz1 iz2 rfl (by decide) _ _ _ rfl (ownsRow_below hown.out ((Below.refl _ _).alloc (Nat.le_refl _) _)) ⟨X4.heap.size, 0, none⟩ 1 1 [.string sz] rfl rfl ?c1 ?c2 ?c3 ?c4 ?c5 ?_)
      case c1 =>
        intro j u hj
        match j, hj with
        | 0, hj => simp at hj; subst hj; simp [Addr.add]
      case c2 => intro u hu; simp at hu; subst hu; rfl
      case c3 => unfold maxLen; omega
      case c4 => omega
      case c5 => have := hBB.out; simp; omega
      intro v' X5 hown5 hgr _
      have hlt0 := fun q (hq : (Value.slice ao k cap).ownBlock = some q) => hown.out.lt q hq
      have hbn := hid (show Below w.heap.size w X5 from (bw.out.alloc bw.out.size _).grown hgr (by have := bw.out.size; simp; omega) (fun q hq => by have := (hlt0 q hq).1; omega))
      have K1n := hid (show Blk X5 w.heap.size [.int .u8 (x.kind : Nat), .int .i64 x.num, .string x.str, .string x.typ, .slice no x.names.length nc, .slice (some ⟨xb, xo, none⟩) n lc] 26 from ⟨(hgr.block _ (by have := K1.out.lt; simp; omega) (fun e => by have := (hlt0 _ e.symm).1; omega)).trans (K1.out.alloc _).at'⟩)
      have hBn := hid (show w.heap.size + 1 ≤ X5.heap.size from by have h1 := hgr.size; have h2 := hBB.out; simp at h1; omega)
      obtain ⟨ao', cap', rfl, _, _⟩ := ownsRow_form hown5
      have hownn := hid (show X5.ownsRow (w.heap.size + 1) 9 1 (.slice ao' (k + 1) cap') (k + 1) (ksC (x.list.take (k + 1))) from by rw [hst.out]; exact hown5)
      clear hown5 hgr hlt0 K1 hBB bw hown hst
      go_wp2_with fail
      go_roundw
      case rel => exact ⟨k + 1, by omega, by go_num, ⟨ao', cap', rfl, hownn⟩, K1n, hBn, hbn⟩
      case measure => simp [intOf]; omega
    · have hki : ¬ (k : Int) < (n : Int) := by omega
      obtain rfl : k = n := by omega
      replace hown := hid (show wr.ownsRow (w.heap.size + 1) 9 1 (.slice ao k cap) k (ksC x.list) from by have := hown.out; rwa [List.take_of_length_le (by rw [hn'.out]; exact Nat.le_refl _)] at this)
      obtain ⟨g, o, rfl, hks⟩ := ks_open (g := 0) hown.out hn'.out (by have := hn'.out; rw [← this]; exact ho0.out)
      have t0 := hks 0 ho0.out
      rw [hy0.out, Nat.add_zero] at t0
      have s0 := hpl.out y hym.out
      obtain ⟨yb, yo, hyo, p0, _⟩ := (h'.out.below bw.out).part6 (lo := some ⟨xb, xo, none⟩) (lc := lc) (by rw [e2'.out, hn'.out]) 0 ho0.out
      obtain ⟨rfl, rfl⟩ : xb = yb ∧ xo = yo := by simpa using hyo
      rw [hy0.out, Nat.zero_mul, Nat.add_zero] at p0
      replace hks := hid hks
      clear hyo hi iz0 iz1 iz2
      have b0 : (bs (showT y)).size ≤ 34359738368 := by rw [bs_size]; exact s0
      obtain ⟨S0, hS0⟩ : ∃ S, bs (showT y) = S := ⟨_, rfl⟩
      rw [hS0] at t0 b0
      replace hS0 := hid hS0
      clear s0
      obtain ⟨c0, c1, c2, c3, c4, c5, cf⟩ := six K1.out
      replace hk := hk.out
      rw [hk] at c0
      have hkp : (0 : Int) < (k : Int) := by have h1 := ho0.out; have h2 := hn'.out; omega
      obtain ⟨ky, hky⟩ : ∃ ky, y.kind = ky := ⟨_, rfl⟩
      rw [hky] at p0
      replace hky := hid hky
      have n90 : ¬ 9223372036854775807 < 1 + S0.size := by omega
      have n91 : ¬ 9223372036854775807 < 1 + S0.size + 1 := by omega
      by_cases hy12 : ky = 12
      · have hbs := hid (show (⟨#[40]⟩ : ByteArray) ++ S0 ++ ⟨#[41]⟩ = bs (baseL y.kind (showT y)) by rw [hky.out, hy12, ← hS0.out]; exact ba_eq (by simp [bs, baseL]))
        have hbl : ((⟨#[40]⟩ : ByteArray) ++ S0 ++ ⟨#[41]⟩).size ≤ 34359738370 := by
          rw [ByteArray.size_append, ByteArray.size_append]
          have e1 : (⟨#[40]⟩ : ByteArray).size = 1 := rfl
          have e2 : (⟨#[41]⟩ : ByteArray).size = 1 := rfl
          omega
        replace hky := hid (hky.out.trans hy12)
        rw [hy12] at p0
        clear hy12
        go_upto_region 12 with fail
        clear n90 n91
        generalize (⟨#[40]⟩ : ByteArray) ++ S0 ++ ⟨#[41]⟩ = Bs at hbs hbl ⊢
        go_upto_region 25 with fail
        clear hkp t0 p0
        go_wp2_with fail
        go_loopw [7, 83] (fun sv i wr2 => ∃ j : Nat, j ≤ k ∧ i = .int .i64 j ∧ sv = .string (bs (itemsL x (x.list.map showT) j)) ∧ Hid (Below wr.heap.size wr wr2)) (fun _ i _ => k - (intOf i).toNat)
        case atStart => exact ⟨0, by omega, rfl, rfl, hid (Below.refl _ _)⟩
        case round =>
          obtain ⟨j, hjk, rfl, rfl, hb2⟩ := hrel
          replace c0 := cell_below hb2.out _ _ c0
          replace c4 := cell_below hb2.out _ _ c4
          have hmo := items_mono x (x.list.map showT) j (m := x.list.length) (by rw [hn'.out]; exact hjk)
          have htot := hwl.out
          rw [hsh.out] at htot
          simp only [List.length_append, List.length_cons, List.length_nil] at htot
          by_cases hjl : j < k
          · have hji : (j : Int) < (k : Int) := by omega
            have hjx : j < x.list.length := by rw [hn'.out]; exact hjl
            have t1 := cell_below hb2.out _ _ (hks.out j hjx)
            have hst := items_step x (x.list.map showT) j x.list.length hjx
            rw [ks_at x j hjx] at hst
            obtain ⟨T1, hT1⟩ : ∃ T, bs (showT x.list[j]) = T := ⟨_, rfl⟩
            obtain ⟨P, hP⟩ : ∃ P, bs (itemsL x (x.list.map showT) j) = P := ⟨_, rfl⟩
            have bP : P.size = (itemsL x (x.list.map showT) j).length := by rw [← hP, bs_size]
            have bT : T1.size = (showT x.list[j]).length := by rw [← hT1, bs_size]
            rw [hT1] at t1
            rw [hP]
            have hjn : j < x.names.length := by rw [hnl.out]; exact hjx
            have hji2 : (j : Int) < (x.names.length : Int) := by omega
            obtain ⟨nb, no', hno, hnc⟩ := hname.out j hjn _ (bw.out.trans (hb2.out.mono (by have := bw.out.size; omega)))
            subst hno
            have hah : aheadL x j = namedL x.names[j] ++ [58, 32] := by
              unfold aheadL
              rw [if_pos hk, List.getD_eq_getElem?_getD, List.getElem?_eq_getElem hjn]
              rfl
            have hcall := hid (fun W => named_any x.names[j] W (by have := nmB_len (hna.out _ (List.getElem_mem hjn)); omega))
            rw [hah] at hst
            obtain ⟨Q, hQ⟩ : ∃ Q, bs (namedL x.names[j]) = Q := ⟨_, rfl⟩
            have bQ : Q.size = (namedL x.names[j]).length := by rw [← hQ, bs_size]
            rw [hQ] at hcall
            generalize x.names[j] = nm at *
            simp only [List.length_append, List.length_cons, List.length_nil] at hst
            by_cases hj0 : j = 0
            · have hj0i : ¬ (0 : Int) < (j : Int) := by omega
              have hit := hid (show bs (itemsL x (x.list.map showT) (j + 1)) = P ++ (Q ++ (⟨#[58, 32]⟩ : ByteArray)) ++ T1 by
                rw [← hP, ← hT1, ← hQ, itemsL.eq_2, ks_at x j hjx, hah, show sepL j = [] by rw [hj0]; rfl]
                exact (ba_eq (by simp [bs])).symm)
              rw [show sepL j = [] by rw [hj0]; rfl] at hst
              simp only [List.length_nil] at hst
              have u0 : ¬ 9223372036854775807 < Q.size + 2 := by omega
              have u1 : ¬ 9223372036854775807 < P.size + (Q.size + 2) := by omega
              have u2 : ¬ 9223372036854775807 < P.size + (Q.size + 2) + T1.size := by omega
              clear hst htot hmo hj0
              go_wp2_with fail
              refine (hcall.out _).mono ?_
              rintro e X9 ⟨rfl, b9⟩
              replace hb2 := hid (bt hb2.out b9)
              clear b9
              go_wp2_with fail
              go_roundw
              case rel => exact ⟨j + 1, by omega, by go_num, by rw [hit.out], hb2⟩
              case measure => simp [intOf]; omega
            · have hj0i : (0 : Int) < (j : Int) := by omega
              have hit := hid (show bs (itemsL x (x.list.map showT) (j + 1)) = P ++ (⟨#[44, 32]⟩ : ByteArray) ++ (Q ++ (⟨#[58, 32]⟩ : ByteArray)) ++ T1 by
                rw [← hP, ← hT1, ← hQ, itemsL.eq_2, ks_at x j hjx, hah, show sepL j = [44, 32] by unfold sepL; rw [if_neg hj0]]
                exact (ba_eq (by simp [bs])).symm)
              rw [show sepL j = [44, 32] by unfold sepL; rw [if_neg hj0]] at hst
              simp only [List.length_cons, List.length_nil] at hst
              have u0 : ¬ 9223372036854775807 < P.size + 2 := by omega
              have u1 : ¬ 9223372036854775807 < Q.size + 2 := by omega
              have u2 : ¬ 9223372036854775807 < P.size + 2 + (Q.size + 2) := by omega
              have u3 : ¬ 9223372036854775807 < P.size + 2 + (Q.size + 2) + T1.size := by omega
              clear hst htot hmo hj0
              go_wp2_with fail
              refine (hcall.out _).mono ?_
              rintro e X9 ⟨rfl, b9⟩
              replace hb2 := hid (bt hb2.out b9)
              clear b9
              go_wp2_with fail
              go_roundw
              case rel => exact ⟨j + 1, by omega, by go_num, by rw [hit.out], hb2⟩
              case measure => simp [intOf]; omega
          · have hji : ¬ (j : Int) < (k : Int) := by omega
            obtain rfl : j = k := by omega
            obtain ⟨P, hP⟩ : ∃ P, bs (itemsL x (x.list.map showT) j) = P := ⟨_, rfl⟩
            have bP : P.size = (itemsL x (x.list.map showT) j).length := by rw [← hP, bs_size]
            have v0 : ¬ 9223372036854775807 < 1 + P.size := by omega
            have v1 : ¬ 9223372036854775807 < 1 + P.size + 1 := by omega
            have hfin := hid (show bs (showT x) = (⟨#[123]⟩ : ByteArray) ++ P ++ (⟨#[125]⟩ : ByteArray) by
              rw [hsh.out, hn'.out, ← hP]
              exact (ba_eq (by simp [bs])).symm)
            rw [hP]
            replace bw := hid (bw.out.trans (hb2.out.mono (by have := bw.out.size; omega)))
            clear hmo htot
            go_wp2_with fail
            go_ret
            exact ⟨by rw [hfin.out]; rfl, bw.out⟩
      by_cases hy13 : ky = 13
      · have hbs := hid (show (⟨#[40]⟩ : ByteArray) ++ S0 ++ ⟨#[41]⟩ = bs (baseL y.kind (showT y)) by rw [hky.out, hy13, ← hS0.out]; exact ba_eq (by simp [bs, baseL]))
        have hbl : ((⟨#[40]⟩ : ByteArray) ++ S0 ++ ⟨#[41]⟩).size ≤ 34359738370 := by
          rw [ByteArray.size_append, ByteArray.size_append]
          have e1 : (⟨#[40]⟩ : ByteArray).size = 1 := rfl
          have e2 : (⟨#[41]⟩ : ByteArray).size = 1 := rfl
          omega
        replace hky := hid (hky.out.trans hy13)
        rw [hy13] at p0
        clear hy13 hy12
        go_upto_region 12 with fail
        clear n90 n91
        generalize (⟨#[40]⟩ : ByteArray) ++ S0 ++ ⟨#[41]⟩ = Bs at hbs hbl ⊢
        go_upto_region 25 with fail
        clear hkp t0 p0
        go_wp2_with fail
        go_loopw [7, 83] (fun sv i wr2 => ∃ j : Nat, j ≤ k ∧ i = .int .i64 j ∧ sv = .string (bs (itemsL x (x.list.map showT) j)) ∧ Hid (Below wr.heap.size wr wr2)) (fun _ i _ => k - (intOf i).toNat)
        case atStart => exact ⟨0, by omega, rfl, rfl, hid (Below.refl _ _)⟩
        case round =>
          obtain ⟨j, hjk, rfl, rfl, hb2⟩ := hrel
          replace c0 := cell_below hb2.out _ _ c0
          replace c4 := cell_below hb2.out _ _ c4
          have hmo := items_mono x (x.list.map showT) j (m := x.list.length) (by rw [hn'.out]; exact hjk)
          have htot := hwl.out
          rw [hsh.out] at htot
          simp only [List.length_append, List.length_cons, List.length_nil] at htot
          by_cases hjl : j < k
          · have hji : (j : Int) < (k : Int) := by omega
            have hjx : j < x.list.length := by rw [hn'.out]; exact hjl
            have t1 := cell_below hb2.out _ _ (hks.out j hjx)
            have hst := items_step x (x.list.map showT) j x.list.length hjx
            rw [ks_at x j hjx] at hst
            obtain ⟨T1, hT1⟩ : ∃ T, bs (showT x.list[j]) = T := ⟨_, rfl⟩
            obtain ⟨P, hP⟩ : ∃ P, bs (itemsL x (x.list.map showT) j) = P := ⟨_, rfl⟩
            have bP : P.size = (itemsL x (x.list.map showT) j).length := by rw [← hP, bs_size]
            have bT : T1.size = (showT x.list[j]).length := by rw [← hT1, bs_size]
            rw [hT1] at t1
            rw [hP]
            have hjn : j < x.names.length := by rw [hnl.out]; exact hjx
            have hji2 : (j : Int) < (x.names.length : Int) := by omega
            obtain ⟨nb, no', hno, hnc⟩ := hname.out j hjn _ (bw.out.trans (hb2.out.mono (by have := bw.out.size; omega)))
            subst hno
            have hah : aheadL x j = namedL x.names[j] ++ [58, 32] := by
              unfold aheadL
              rw [if_pos hk, List.getD_eq_getElem?_getD, List.getElem?_eq_getElem hjn]
              rfl
            have hcall := hid (fun W => named_any x.names[j] W (by have := nmB_len (hna.out _ (List.getElem_mem hjn)); omega))
            rw [hah] at hst
            obtain ⟨Q, hQ⟩ : ∃ Q, bs (namedL x.names[j]) = Q := ⟨_, rfl⟩
            have bQ : Q.size = (namedL x.names[j]).length := by rw [← hQ, bs_size]
            rw [hQ] at hcall
            generalize x.names[j] = nm at *
            simp only [List.length_append, List.length_cons, List.length_nil] at hst
            by_cases hj0 : j = 0
            · have hj0i : ¬ (0 : Int) < (j : Int) := by omega
              have hit := hid (show bs (itemsL x (x.list.map showT) (j + 1)) = P ++ (Q ++ (⟨#[58, 32]⟩ : ByteArray)) ++ T1 by
                rw [← hP, ← hT1, ← hQ, itemsL.eq_2, ks_at x j hjx, hah, show sepL j = [] by rw [hj0]; rfl]
                exact (ba_eq (by simp [bs])).symm)
              rw [show sepL j = [] by rw [hj0]; rfl] at hst
              simp only [List.length_nil] at hst
              have u0 : ¬ 9223372036854775807 < Q.size + 2 := by omega
              have u1 : ¬ 9223372036854775807 < P.size + (Q.size + 2) := by omega
              have u2 : ¬ 9223372036854775807 < P.size + (Q.size + 2) + T1.size := by omega
              clear hst htot hmo hj0
              go_wp2_with fail
              refine (hcall.out _).mono ?_
              rintro e X9 ⟨rfl, b9⟩
              replace hb2 := hid (bt hb2.out b9)
              clear b9
              go_wp2_with fail
              go_roundw
              case rel => exact ⟨j + 1, by omega, by go_num, by rw [hit.out], hb2⟩
              case measure => simp [intOf]; omega
            · have hj0i : (0 : Int) < (j : Int) := by omega
              have hit := hid (show bs (itemsL x (x.list.map showT) (j + 1)) = P ++ (⟨#[44, 32]⟩ : ByteArray) ++ (Q ++ (⟨#[58, 32]⟩ : ByteArray)) ++ T1 by
                rw [← hP, ← hT1, ← hQ, itemsL.eq_2, ks_at x j hjx, hah, show sepL j = [44, 32] by unfold sepL; rw [if_neg hj0]]
                exact (ba_eq (by simp [bs])).symm)
              rw [show sepL j = [44, 32] by unfold sepL; rw [if_neg hj0]] at hst
              simp only [List.length_cons, List.length_nil] at hst
              have u0 : ¬ 9223372036854775807 < P.size + 2 := by omega
              have u1 : ¬ 9223372036854775807 < Q.size + 2 := by omega
              have u2 : ¬ 9223372036854775807 < P.size + 2 + (Q.size + 2) := by omega
              have u3 : ¬ 9223372036854775807 < P.size + 2 + (Q.size + 2) + T1.size := by omega
              clear hst htot hmo hj0
              go_wp2_with fail
              refine (hcall.out _).mono ?_
              rintro e X9 ⟨rfl, b9⟩
              replace hb2 := hid (bt hb2.out b9)
              clear b9
              go_wp2_with fail
              go_roundw
              case rel => exact ⟨j + 1, by omega, by go_num, by rw [hit.out], hb2⟩
              case measure => simp [intOf]; omega
          · have hji : ¬ (j : Int) < (k : Int) := by omega
            obtain rfl : j = k := by omega
            obtain ⟨P, hP⟩ : ∃ P, bs (itemsL x (x.list.map showT) j) = P := ⟨_, rfl⟩
            have bP : P.size = (itemsL x (x.list.map showT) j).length := by rw [← hP, bs_size]
            have v0 : ¬ 9223372036854775807 < 1 + P.size := by omega
            have v1 : ¬ 9223372036854775807 < 1 + P.size + 1 := by omega
            have hfin := hid (show bs (showT x) = (⟨#[123]⟩ : ByteArray) ++ P ++ (⟨#[125]⟩ : ByteArray) by
              rw [hsh.out, hn'.out, ← hP]
              exact (ba_eq (by simp [bs])).symm)
            rw [hP]
            replace bw := hid (bw.out.trans (hb2.out.mono (by have := bw.out.size; omega)))
            clear hmo htot
            go_wp2_with fail
            go_ret
            exact ⟨by rw [hfin.out]; rfl, bw.out⟩
      · have hbs := hid (show S0 = bs (baseL y.kind (showT y)) by rw [hky.out, ← hS0.out]; unfold baseL; rw [if_neg (by omega)])
        have hbl : S0.size ≤ 34359738370 := by omega
        have q1 : ((ky : Int) == 12) = false := by rw [beq_eq_false_iff_ne]; omega
        have q2 : ((ky : Int) == 13) = false := by rw [beq_eq_false_iff_ne]; omega
        clear hy12 hy13
        go_upto_region 12 with fail
        clear n90 n91 q1 q2
        go_upto_region 25 with fail
        clear hkp t0 p0
        go_wp2_with fail
        go_loopw [7, 83] (fun sv i wr2 => ∃ j : Nat, j ≤ k ∧ i = .int .i64 j ∧ sv = .string (bs (itemsL x (x.list.map showT) j)) ∧ Hid (Below wr.heap.size wr wr2)) (fun _ i _ => k - (intOf i).toNat)
        case atStart => exact ⟨0, by omega, rfl, rfl, hid (Below.refl _ _)⟩
        case round =>
          obtain ⟨j, hjk, rfl, rfl, hb2⟩ := hrel
          replace c0 := cell_below hb2.out _ _ c0
          replace c4 := cell_below hb2.out _ _ c4
          have hmo := items_mono x (x.list.map showT) j (m := x.list.length) (by rw [hn'.out]; exact hjk)
          have htot := hwl.out
          rw [hsh.out] at htot
          simp only [List.length_append, List.length_cons, List.length_nil] at htot
          by_cases hjl : j < k
          · have hji : (j : Int) < (k : Int) := by omega
            have hjx : j < x.list.length := by rw [hn'.out]; exact hjl
            have t1 := cell_below hb2.out _ _ (hks.out j hjx)
            have hst := items_step x (x.list.map showT) j x.list.length hjx
            rw [ks_at x j hjx] at hst
            obtain ⟨T1, hT1⟩ : ∃ T, bs (showT x.list[j]) = T := ⟨_, rfl⟩
            obtain ⟨P, hP⟩ : ∃ P, bs (itemsL x (x.list.map showT) j) = P := ⟨_, rfl⟩
            have bP : P.size = (itemsL x (x.list.map showT) j).length := by rw [← hP, bs_size]
            have bT : T1.size = (showT x.list[j]).length := by rw [← hT1, bs_size]
            rw [hT1] at t1
            rw [hP]
            have hjn : j < x.names.length := by rw [hnl.out]; exact hjx
            have hji2 : (j : Int) < (x.names.length : Int) := by omega
            obtain ⟨nb, no', hno, hnc⟩ := hname.out j hjn _ (bw.out.trans (hb2.out.mono (by have := bw.out.size; omega)))
            subst hno
            have hah : aheadL x j = namedL x.names[j] ++ [58, 32] := by
              unfold aheadL
              rw [if_pos hk, List.getD_eq_getElem?_getD, List.getElem?_eq_getElem hjn]
              rfl
            have hcall := hid (fun W => named_any x.names[j] W (by have := nmB_len (hna.out _ (List.getElem_mem hjn)); omega))
            rw [hah] at hst
            obtain ⟨Q, hQ⟩ : ∃ Q, bs (namedL x.names[j]) = Q := ⟨_, rfl⟩
            have bQ : Q.size = (namedL x.names[j]).length := by rw [← hQ, bs_size]
            rw [hQ] at hcall
            generalize x.names[j] = nm at *
            simp only [List.length_append, List.length_cons, List.length_nil] at hst
            by_cases hj0 : j = 0
            · have hj0i : ¬ (0 : Int) < (j : Int) := by omega
              have hit := hid (show bs (itemsL x (x.list.map showT) (j + 1)) = P ++ (Q ++ (⟨#[58, 32]⟩ : ByteArray)) ++ T1 by
                rw [← hP, ← hT1, ← hQ, itemsL.eq_2, ks_at x j hjx, hah, show sepL j = [] by rw [hj0]; rfl]
                exact (ba_eq (by simp [bs])).symm)
              rw [show sepL j = [] by rw [hj0]; rfl] at hst
              simp only [List.length_nil] at hst
              have u0 : ¬ 9223372036854775807 < Q.size + 2 := by omega
              have u1 : ¬ 9223372036854775807 < P.size + (Q.size + 2) := by omega
              have u2 : ¬ 9223372036854775807 < P.size + (Q.size + 2) + T1.size := by omega
              clear hst htot hmo hj0
              go_wp2_with fail
              refine (hcall.out _).mono ?_
              rintro e X9 ⟨rfl, b9⟩
              replace hb2 := hid (bt hb2.out b9)
              clear b9
              go_wp2_with fail
              go_roundw
              case rel => exact ⟨j + 1, by omega, by go_num, by rw [hit.out], hb2⟩
              case measure => simp [intOf]; omega
            · have hj0i : (0 : Int) < (j : Int) := by omega
              have hit := hid (show bs (itemsL x (x.list.map showT) (j + 1)) = P ++ (⟨#[44, 32]⟩ : ByteArray) ++ (Q ++ (⟨#[58, 32]⟩ : ByteArray)) ++ T1 by
                rw [← hP, ← hT1, ← hQ, itemsL.eq_2, ks_at x j hjx, hah, show sepL j = [44, 32] by unfold sepL; rw [if_neg hj0]]
                exact (ba_eq (by simp [bs])).symm)
              rw [show sepL j = [44, 32] by unfold sepL; rw [if_neg hj0]] at hst
              simp only [List.length_cons, List.length_nil] at hst
              have u0 : ¬ 9223372036854775807 < P.size + 2 := by omega
              have u1 : ¬ 9223372036854775807 < Q.size + 2 := by omega
              have u2 : ¬ 9223372036854775807 < P.size + 2 + (Q.size + 2) := by omega
              have u3 : ¬ 9223372036854775807 < P.size + 2 + (Q.size + 2) + T1.size := by omega
              clear hst htot hmo hj0
              go_wp2_with fail
              refine (hcall.out _).mono ?_
              rintro e X9 ⟨rfl, b9⟩
              replace hb2 := hid (bt hb2.out b9)
              clear b9
              go_wp2_with fail
              go_roundw
              case rel => exact ⟨j + 1, by omega, by go_num, by rw [hit.out], hb2⟩
              case measure => simp [intOf]; omega
          · have hji : ¬ (j : Int) < (k : Int) := by omega
            obtain rfl : j = k := by omega
            obtain ⟨P, hP⟩ : ∃ P, bs (itemsL x (x.list.map showT) j) = P := ⟨_, rfl⟩
            have bP : P.size = (itemsL x (x.list.map showT) j).length := by rw [← hP, bs_size]
            have v0 : ¬ 9223372036854775807 < 1 + P.size := by omega
            have v1 : ¬ 9223372036854775807 < 1 + P.size + 1 := by omega
            have hfin := hid (show bs (showT x) = (⟨#[123]⟩ : ByteArray) ++ P ++ (⟨#[125]⟩ : ByteArray) by
              rw [hsh.out, hn'.out, ← hP]
              exact (ba_eq (by simp [bs])).symm)
            rw [hP]
            replace bw := hid (bw.out.trans (hb2.out.mono (by have := bw.out.size; omega)))
            clear hmo htot
            go_wp2_with fail
            go_ret
            exact ⟨by rw [hfin.out]; rfl, bw.out⟩
end Go.Proofs.YtbcjppbiihgfpaaGreatDoor.Ex
namespace Go.Proofs.YtbcjppbiihgfpaaGreatDoor.Ex
open Go.ChangeShapes Go.WideShapes Go.ChangeAt Go.RowKit
open Go.Proofs.YtbcjppbiihgfpaaGreatDoor.Mem Go.Proofs.YtbcjppbiihgfpaaGreatDoor.Lik
set_option linter.unusedVariables false
set_option linter.unusedSimpArgs false
set_option maxRecDepth 100000
set_option maxHeartbeats 16000000 in
theorem rshow_not (x : T) (ih : ∀ z ∈ x.list, RShow z) (hk : x.kind = 12) : RShow x := by
  intro w h hz hr
  obtain ⟨y, hl⟩ := kids1 hr (by omega)
  have hym : y ∈ x.list := by rw [hl]; simp
  have ho0 : 0 < x.list.length := by rw [hl]; simp
  have hy0 : x.list[0] = y := List.getElem_of_eq hl _
  have hsh : showT x = [33] ++ showT y := by
    rw [showT_eq, hl]
    unfold nodeS
    simp [hk, k0]
  obtain ⟨no, nc, lo, lc, e1, e2, l1, l2⟩ := h.forms
  obtain ⟨xb, xo, rfl⟩ := base_of h e2 ho0
  replace hy0 := hid hy0
  replace ho0 := hid ho0
  replace hym := hid hym
  replace hsh := hid hsh
  have hl' := hid hl
  clear hl
  obtain ⟨i0, hi, iz0, iz1, iz2⟩ := info_string
  have hll : x.list.length * 16 ≤ 140737488355328 := by have := h.parts.1.2.2; omega
  obtain ⟨n, hn⟩ : ∃ n, x.list.length = n := ⟨_, rfl⟩
  rw [T.val_eq e1 e2]
  rw [hn] at hll l2 ⊢
  rw [hn] at e2
  have i1 : (x.names.length : Int) ≤ 9223372036854775807 := by omega
  have i2 : (n : Int) ≤ 9223372036854775807 := by omega
  have hrec0 := hid (fun (z : T) (hz' : z ∈ x.list) W (b : Below w.heap.size w W) => ih z hz' W ((h.below b).parts.2.2.2.2.2.2.2 z hz') (by have := T.size_part hz'; omega) (right_kid hr hz'))
  have hpl := hid (fun (z : T) (hz' : z ∈ x.list) => part_len h hz hr hz')
  have hwl := hid (whole_len h hz hr)
  have h' := hid h
  have e2' := hid e2
  have hn' := hid hn
  clear ih h e1 e2 hn hz hr l1 l2
  replace hk := hid hk
  go_enter Tryz.func26, Tryz.ntmps26
  go_upto_region 1 with fail
  have K1 := hid (Blk.new w [.int .u8 (x.kind : Nat), .int .i64 x.num, .string x.str, .string x.typ, .slice no x.names.length nc, .slice (some ⟨xb, xo, none⟩) n lc] 26)
  have bw := hid ((Below.refl w.heap.size w).alloc (Nat.le_refl _) (.cells #[.int .u8 (x.kind : Nat), .int .i64 x.num, .string x.str, .string x.typ, .slice no x.names.length nc, .slice (some ⟨xb, xo, none⟩) n lc] 26))
  have hBB := hid (show w.heap.size + 1 ≤ (w.alloc (.cells #[.int .u8 (x.kind : Nat), .int .i64 x.num, .string x.str, .string x.typ, .slice no x.names.length nc, .slice (some ⟨xb, xo, none⟩) n lc] 26)).heap.size by simp)
  generalize w.alloc (.cells #[.int .u8 (x.kind : Nat), .int .i64 x.num, .string x.str, .string x.typ, .slice no x.names.length nc, .slice (some ⟨xb, xo, none⟩) n lc] 26) = X0 at K1 bw hBB ⊢
  obtain ⟨c0, c1, c2, c3, c4, c5, cf⟩ := six K1.out
  go_wp2_with fail
  clear c0 c1 c2 c3 c4 c5 cf
  go_loopw [3, 13] (fun av i wr => ∃ k : Nat, k ≤ n ∧ i = .int .i64 k ∧ (∃ ao cap, av = .slice ao k cap ∧ Hid (wr.ownsRow (w.heap.size + 1) 9 1 (.slice ao k cap) k (ksC (x.list.take k)))) ∧ Hid (Blk wr w.heap.size [.int .u8 (x.kind : Nat), .int .i64 x.num, .string x.str, .string x.typ, .slice no x.names.length nc, .slice (some ⟨xb, xo, none⟩) n lc] 26) ∧ Hid (w.heap.size + 1 ≤ wr.heap.size) ∧ Hid (Below w.heap.size w wr)) (fun _ i _ => n - (intOf i).toNat)
  case atStart => exact ⟨0, by omega, rfl, ⟨none, 0, rfl, hid (World.ownsRow_nil _ _ _ _)⟩, K1, hBB, bw⟩
  case round =>
    clear K1 bw hBB
    obtain ⟨k, hkn, rfl, ⟨ao, cap, rfl, hown⟩, K1, hBB, bw⟩ := hrel
    rename_i wr _
    by_cases hkl : k < n
    · have hki : (k : Int) < (n : Int) := by omega
      have hkx : k < x.list.length := by rw [hn'.out]; exact hkl
      obtain ⟨zb, zo, hzo, d0, d1, d2, d3, d4, d5⟩ := (h'.out.below bw.out).part6 (lo := (some ⟨xb, xo, none⟩)) (lc := lc) (by rw [e2'.out, hn'.out]) k hkx
      have hzok := (h'.out.parts.2.2.2.2.2.2.2 _ (List.getElem_mem hkx)).forms
      have hrec := hid (hrec0.out x.list[k] (List.getElem_mem hkx))
      have hst := hid (ksC_step x.list k hkx)
      generalize x.list[k] = z at d0 d1 d2 d3 d4 d5 hrec hzok hst
      obtain ⟨zno, znc, zlo, zlc, ez1, ez2, zl1, zl2⟩ := hzok
      have hzv := T.val_eq ez1 ez2
      rw [ez1] at d4
      rw [ez2] at d5
      replace hrec := hid (show ∀ W, Below w.heap.size w W → Calls Tryz.prog 26 #[.agg #[.int .u8 (z.kind : Nat), .int .i64 z.num, .string z.str, .string z.typ, .slice zno z.names.length znc, .slice zlo z.list.length zlc]] W fun e w' => e = .returned (.string (bs (showT z))) ∧ Below W.heap.size W w' from hzv ▸ hrec.out)
      clear ez1 ez2 hzv
      obtain ⟨rfl, rfl⟩ : xb = zb ∧ xo = zo := by simpa using hzo
      clear hzo
      generalize bs (showT z) = sz at *
      go_upto_region 5 with fail
      have K4 := hid (Blk.new wr [.int .u8 (z.kind : Nat), .int .i64 z.num, .string z.str, .string z.typ, .slice zno z.names.length znc, .slice zlo z.list.length zlc] 26)
      have hb4 := (Below.refl wr.heap.size wr).alloc (Nat.le_refl _) (.cells #[.int .u8 (z.kind : Nat), .int .i64 z.num, .string z.str, .string z.typ, .slice zno z.names.length znc, .slice zlo z.list.length zlc] 26)
      replace K1 := hid (K1.out.below hb4 K1.out.lt)
      replace hown := hid (ownsRow_below hown.out hb4)
      replace hBB := hid (Nat.le_trans hBB.out hb4.size)
      replace bw := hid (bt bw.out hb4)
      clear d0 d1 d2 d3 d4 d5 hb4
      generalize wr.alloc (.cells #[.int .u8 (z.kind : Nat), .int .i64 z.num, .string z.str, .string z.typ, .slice zno z.names.length znc, .slice zlo z.list.length zlc] 26) = X3 at K1 K4 hown hBB bw ⊢
      obtain ⟨f0, f1, f2, f3, f4, f5, ff⟩ := six K4.out
      go_wp2_with fail
      refine (hrec.out _ bw.out).mono ?_
      rintro e X4 ⟨rfl, b4⟩
      replace K1 := hid (K1.out.below b4 K1.out.lt)
      replace hown := hid (ownsRow_below hown.out b4)
      replace hBB := hid (Nat.le_trans hBB.out b4.size)
      replace bw := hid (bt bw.out b4)
      clear f0 f1 f2 f3 f4 f5 ff K4 b4 hrec
      go_wp2_with (at_builtin; refine wpList_append_own _ rfl _ _ 23 rfl (w.heap.size + 1) 9 i0 (.string ⟨#[]⟩) 1 16 Tryz.underlying23 hi iz0 iz1 iz2 rfl (by decide) _ _ _ rfl (ownsRow_below hown.out ((Below.refl _ _).alloc (Nat.le_refl _) _)) ⟨X4.heap.size, 0, none⟩ 1 1 [.string sz] rfl rfl ?c1 ?c2 ?c3 ?c4 ?c5 ?_)
      case c1 =>
        intro j u hj
        match j, hj with
        | 0, hj => simp at hj; subst hj; simp [Addr.add]
      case c2 => intro u hu; simp at hu; subst hu; rfl
      case c3 => unfold maxLen; omega
      case c4 => omega
      case c5 => have := hBB.out; simp; omega
      intro v' X5 hown5 hgr _
      have hlt0 := fun q (hq : (Value.slice ao k cap).ownBlock = some q) => hown.out.lt q hq
      have hbn := hid (show Below w.heap.size w X5 from (bw.out.alloc bw.out.size _).grown hgr (by have := bw.out.size; simp; omega) (fun q hq => by have := (hlt0 q hq).1; omega))
      have K1n := hid (show Blk X5 w.heap.size [.int .u8 (x.kind : Nat), .int .i64 x.num, .string x.str, .string x.typ, .slice no x.names.length nc, .slice (some ⟨xb, xo, none⟩) n lc] 26 from ⟨(hgr.block _ (by have := K1.out.lt; simp; omega) (fun e => by have := (hlt0 _ e.symm).1; omega)).trans (K1.out.alloc _).at'⟩)
      have hBn := hid (show w.heap.size + 1 ≤ X5.heap.size from by have h1 := hgr.size; have h2 := hBB.out; simp at h1; omega)
      obtain ⟨ao', cap', rfl, _, _⟩ := ownsRow_form hown5
      have hownn := hid (show X5.ownsRow (w.heap.size + 1) 9 1 (.slice ao' (k + 1) cap') (k + 1) (ksC (x.list.take (k + 1))) from by rw [hst.out]; exact hown5)
      clear hown5 hgr hlt0 K1 hBB bw hown hst
      go_wp2_with fail
      go_roundw
      case rel => exact ⟨k + 1, by omega, by go_num, ⟨ao', cap', rfl, hownn⟩, K1n, hBn, hbn⟩
      case measure => simp [intOf]; omega
    · have hki : ¬ (k : Int) < (n : Int) := by omega
      obtain rfl : k = n := by omega
      replace hown := hid (show wr.ownsRow (w.heap.size + 1) 9 1 (.slice ao k cap) k (ksC x.list) from by have := hown.out; rwa [List.take_of_length_le (by rw [hn'.out]; exact Nat.le_refl _)] at this)
      obtain ⟨g, o, rfl, hks⟩ := ks_open (g := 0) hown.out hn'.out (by have := hn'.out; rw [← this]; exact ho0.out)
      have t0 := hks 0 ho0.out
      rw [hy0.out] at t0
      rw [Nat.add_zero] at t0
      have s0 := hpl.out y hym.out
      obtain ⟨yb, yo, hyo, p0, _⟩ := (h'.out.below bw.out).part6 (lo := some ⟨xb, xo, none⟩) (lc := lc) (by rw [e2'.out, hn'.out]) 0 ho0.out
      obtain ⟨rfl, rfl⟩ : xb = yb ∧ xo = yo := by simpa using hyo
      rw [hy0.out, Nat.zero_mul, Nat.add_zero] at p0
      have hk1 : k = 1 := by rw [← hn'.out, hl'.out]; rfl
      subst hk1
      clear hks hyo
      have b0 : (bs (showT y)).size ≤ 34359738368 := by rw [bs_size]; exact s0
      obtain ⟨S0, hS0⟩ : ∃ S, bs (showT y) = S := ⟨_, rfl⟩
      rw [hS0] at t0 b0
      replace hS0 := hid hS0
      clear s0
      obtain ⟨c0, c1, c2, c3, c4, c5, cf⟩ := six K1.out
      replace hk := hk.out
      rw [hk] at c0
      have n1 : ¬ 9223372036854775807 < 1 + S0.size := by omega
      obtain ⟨ky, hky⟩ : ∃ ky, y.kind = ky := ⟨_, rfl⟩
      rw [hky] at p0
      replace hky := hid hky
      have n90 : ¬ 9223372036854775807 < 1 + S0.size := by omega
      have n91 : ¬ 9223372036854775807 < 1 + S0.size + 1 := by omega
      by_cases hy12 : ky = 12
      · have hbs := hid (show (⟨#[40]⟩ : ByteArray) ++ S0 ++ ⟨#[41]⟩ = bs (baseL y.kind (showT y)) by rw [hky.out, hy12, ← hS0.out]; exact ba_eq (by simp [bs, baseL]))
        have hbl : ((⟨#[40]⟩ : ByteArray) ++ S0 ++ ⟨#[41]⟩).size ≤ 34359738370 := by
          rw [ByteArray.size_append, ByteArray.size_append]
          have e1 : (⟨#[40]⟩ : ByteArray).size = 1 := rfl
          have e2 : (⟨#[41]⟩ : ByteArray).size = 1 := rfl
          omega
        replace hky := hid (hky.out.trans hy12)
        rw [hy12] at p0
        clear hy12
        go_upto_region 12 with fail
        clear n90 n91
        generalize (⟨#[40]⟩ : ByteArray) ++ S0 ++ ⟨#[41]⟩ = Bs at hbs hbl ⊢
        have n1 : ¬ 9223372036854775807 < 1 + S0.size := by omega
        go_wp2_with fail
        go_ret
        exact ⟨by
          show Ending.returned (.string ((⟨#[33]⟩ : ByteArray) ++ S0)) = _
          rw [hsh.out]
          rw [← hS0.out]; exact congrArg (fun s => Ending.returned (.string s)) (ba_eq (by simp [bs])), bw.out⟩
      by_cases hy13 : ky = 13
      · have hbs := hid (show (⟨#[40]⟩ : ByteArray) ++ S0 ++ ⟨#[41]⟩ = bs (baseL y.kind (showT y)) by rw [hky.out, hy13, ← hS0.out]; exact ba_eq (by simp [bs, baseL]))
        have hbl : ((⟨#[40]⟩ : ByteArray) ++ S0 ++ ⟨#[41]⟩).size ≤ 34359738370 := by
          rw [ByteArray.size_append, ByteArray.size_append]
          have e1 : (⟨#[40]⟩ : ByteArray).size = 1 := rfl
          have e2 : (⟨#[41]⟩ : ByteArray).size = 1 := rfl
          omega
        replace hky := hid (hky.out.trans hy13)
        rw [hy13] at p0
        clear hy13 hy12
        go_upto_region 12 with fail
        clear n90 n91
        generalize (⟨#[40]⟩ : ByteArray) ++ S0 ++ ⟨#[41]⟩ = Bs at hbs hbl ⊢
        have n1 : ¬ 9223372036854775807 < 1 + S0.size := by omega
        go_wp2_with fail
        go_ret
        exact ⟨by
          show Ending.returned (.string ((⟨#[33]⟩ : ByteArray) ++ S0)) = _
          rw [hsh.out]
          rw [← hS0.out]; exact congrArg (fun s => Ending.returned (.string s)) (ba_eq (by simp [bs])), bw.out⟩
      · have hbs := hid (show S0 = bs (baseL y.kind (showT y)) by rw [hky.out, ← hS0.out]; unfold baseL; rw [if_neg (by omega)])
        have hbl : S0.size ≤ 34359738370 := by omega
        have q1 : ((ky : Int) == 12) = false := by rw [beq_eq_false_iff_ne]; omega
        have q2 : ((ky : Int) == 13) = false := by rw [beq_eq_false_iff_ne]; omega
        clear hy12 hy13
        go_upto_region 12 with fail
        clear n90 n91 q1 q2
        have n1 : ¬ 9223372036854775807 < 1 + S0.size := by omega
        go_wp2_with fail
        go_ret
        exact ⟨by
          show Ending.returned (.string ((⟨#[33]⟩ : ByteArray) ++ S0)) = _
          rw [hsh.out]
          rw [← hS0.out]; exact congrArg (fun s => Ending.returned (.string s)) (ba_eq (by simp [bs])), bw.out⟩
set_option maxHeartbeats 16000000 in
theorem rshow_neg (x : T) (ih : ∀ z ∈ x.list, RShow z) (hk : x.kind = 13) : RShow x := by
  intro w h hz hr
  obtain ⟨y, hl⟩ := kids1 hr (by omega)
  have hym : y ∈ x.list := by rw [hl]; simp
  have ho0 : 0 < x.list.length := by rw [hl]; simp
  have hy0 : x.list[0] = y := List.getElem_of_eq hl _
  have hsh : showT x = [45] ++ showT y := by
    rw [showT_eq, hl]
    unfold nodeS
    simp [hk, k0]
  obtain ⟨no, nc, lo, lc, e1, e2, l1, l2⟩ := h.forms
  obtain ⟨xb, xo, rfl⟩ := base_of h e2 ho0
  replace hy0 := hid hy0
  replace ho0 := hid ho0
  replace hym := hid hym
  replace hsh := hid hsh
  have hl' := hid hl
  clear hl
  obtain ⟨i0, hi, iz0, iz1, iz2⟩ := info_string
  have hll : x.list.length * 16 ≤ 140737488355328 := by have := h.parts.1.2.2; omega
  obtain ⟨n, hn⟩ : ∃ n, x.list.length = n := ⟨_, rfl⟩
  rw [T.val_eq e1 e2]
  rw [hn] at hll l2 ⊢
  rw [hn] at e2
  have i1 : (x.names.length : Int) ≤ 9223372036854775807 := by omega
  have i2 : (n : Int) ≤ 9223372036854775807 := by omega
  have hrec0 := hid (fun (z : T) (hz' : z ∈ x.list) W (b : Below w.heap.size w W) => ih z hz' W ((h.below b).parts.2.2.2.2.2.2.2 z hz') (by have := T.size_part hz'; omega) (right_kid hr hz'))
  have hpl := hid (fun (z : T) (hz' : z ∈ x.list) => part_len h hz hr hz')
  have hwl := hid (whole_len h hz hr)
  have h' := hid h
  have e2' := hid e2
  have hn' := hid hn
  clear ih h e1 e2 hn hz hr l1 l2
  replace hk := hid hk
  go_enter Tryz.func26, Tryz.ntmps26
  go_upto_region 1 with fail
  have K1 := hid (Blk.new w [.int .u8 (x.kind : Nat), .int .i64 x.num, .string x.str, .string x.typ, .slice no x.names.length nc, .slice (some ⟨xb, xo, none⟩) n lc] 26)
  have bw := hid ((Below.refl w.heap.size w).alloc (Nat.le_refl _) (.cells #[.int .u8 (x.kind : Nat), .int .i64 x.num, .string x.str, .string x.typ, .slice no x.names.length nc, .slice (some ⟨xb, xo, none⟩) n lc] 26))
  have hBB := hid (show w.heap.size + 1 ≤ (w.alloc (.cells #[.int .u8 (x.kind : Nat), .int .i64 x.num, .string x.str, .string x.typ, .slice no x.names.length nc, .slice (some ⟨xb, xo, none⟩) n lc] 26)).heap.size by simp)
  generalize w.alloc (.cells #[.int .u8 (x.kind : Nat), .int .i64 x.num, .string x.str, .string x.typ, .slice no x.names.length nc, .slice (some ⟨xb, xo, none⟩) n lc] 26) = X0 at K1 bw hBB ⊢
  obtain ⟨c0, c1, c2, c3, c4, c5, cf⟩ := six K1.out
  go_wp2_with fail
  clear c0 c1 c2 c3 c4 c5 cf
  go_loopw [3, 13] (fun av i wr => ∃ k : Nat, k ≤ n ∧ i = .int .i64 k ∧ (∃ ao cap, av = .slice ao k cap ∧ Hid (wr.ownsRow (w.heap.size + 1) 9 1 (.slice ao k cap) k (ksC (x.list.take k)))) ∧ Hid (Blk wr w.heap.size [.int .u8 (x.kind : Nat), .int .i64 x.num, .string x.str, .string x.typ, .slice no x.names.length nc, .slice (some ⟨xb, xo, none⟩) n lc] 26) ∧ Hid (w.heap.size + 1 ≤ wr.heap.size) ∧ Hid (Below w.heap.size w wr)) (fun _ i _ => n - (intOf i).toNat)
  case atStart => exact ⟨0, by omega, rfl, ⟨none, 0, rfl, hid (World.ownsRow_nil _ _ _ _)⟩, K1, hBB, bw⟩
  case round =>
    clear K1 bw hBB
    obtain ⟨k, hkn, rfl, ⟨ao, cap, rfl, hown⟩, K1, hBB, bw⟩ := hrel
    rename_i wr _
    by_cases hkl : k < n
    · have hki : (k : Int) < (n : Int) := by omega
      have hkx : k < x.list.length := by rw [hn'.out]; exact hkl
      obtain ⟨zb, zo, hzo, d0, d1, d2, d3, d4, d5⟩ := (h'.out.below bw.out).part6 (lo := (some ⟨xb, xo, none⟩)) (lc := lc) (by rw [e2'.out, hn'.out]) k hkx
      have hzok := (h'.out.parts.2.2.2.2.2.2.2 _ (List.getElem_mem hkx)).forms
      have hrec := hid (hrec0.out x.list[k] (List.getElem_mem hkx))
      have hst := hid (ksC_step x.list k hkx)
      generalize x.list[k] = z at d0 d1 d2 d3 d4 d5 hrec hzok hst
      obtain ⟨zno, znc, zlo, zlc, ez1, ez2, zl1, zl2⟩ := hzok
      have hzv := T.val_eq ez1 ez2
      rw [ez1] at d4
      rw [ez2] at d5
      replace hrec := hid (show ∀ W, Below w.heap.size w W → Calls Tryz.prog 26 #[.agg #[.int .u8 (z.kind : Nat), .int .i64 z.num, .string z.str, .string z.typ, .slice zno z.names.length znc, .slice zlo z.list.length zlc]] W fun e w' => e = .returned (.string (bs (showT z))) ∧ Below W.heap.size W w' from hzv ▸ hrec.out)
      clear ez1 ez2 hzv
      obtain ⟨rfl, rfl⟩ : xb = zb ∧ xo = zo := by simpa using hzo
      clear hzo
      generalize bs (showT z) = sz at *
      go_upto_region 5 with fail
      have K4 := hid (Blk.new wr [.int .u8 (z.kind : Nat), .int .i64 z.num, .string z.str, .string z.typ, .slice zno z.names.length znc, .slice zlo z.list.length zlc] 26)
      have hb4 := (Below.refl wr.heap.size wr).alloc (Nat.le_refl _) (.cells #[.int .u8 (z.kind : Nat), .int .i64 z.num, .string z.str, .string z.typ, .slice zno z.names.length znc, .slice zlo z.list.length zlc] 26)
      replace K1 := hid (K1.out.below hb4 K1.out.lt)
      replace hown := hid (ownsRow_below hown.out hb4)
      replace hBB := hid (Nat.le_trans hBB.out hb4.size)
      replace bw := hid (bt bw.out hb4)
      clear d0 d1 d2 d3 d4 d5 hb4
      generalize wr.alloc (.cells #[.int .u8 (z.kind : Nat), .int .i64 z.num, .string z.str, .string z.typ, .slice zno z.names.length znc, .slice zlo z.list.length zlc] 26) = X3 at K1 K4 hown hBB bw ⊢
      obtain ⟨f0, f1, f2, f3, f4, f5, ff⟩ := six K4.out
      go_wp2_with fail
      refine (hrec.out _ bw.out).mono ?_
      rintro e X4 ⟨rfl, b4⟩
      replace K1 := hid (K1.out.below b4 K1.out.lt)
      replace hown := hid (ownsRow_below hown.out b4)
      replace hBB := hid (Nat.le_trans hBB.out b4.size)
      replace bw := hid (bt bw.out b4)
      clear f0 f1 f2 f3 f4 f5 ff K4 b4 hrec
      go_wp2_with (at_builtin; refine wpList_append_own _ rfl _ _ 23 rfl (w.heap.size + 1) 9 i0 (.string ⟨#[]⟩) 1 16 Tryz.underlying23 hi iz0 iz1 iz2 rfl (by decide) _ _ _ rfl (ownsRow_below hown.out ((Below.refl _ _).alloc (Nat.le_refl _) _)) ⟨X4.heap.size, 0, none⟩ 1 1 [.string sz] rfl rfl ?c1 ?c2 ?c3 ?c4 ?c5 ?_)
      case c1 =>
        intro j u hj
        match j, hj with
        | 0, hj => simp at hj; subst hj; simp [Addr.add]
      case c2 => intro u hu; simp at hu; subst hu; rfl
      case c3 => unfold maxLen; omega
      case c4 => omega
      case c5 => have := hBB.out; simp; omega
      intro v' X5 hown5 hgr _
      have hlt0 := fun q (hq : (Value.slice ao k cap).ownBlock = some q) => hown.out.lt q hq
      have hbn := hid (show Below w.heap.size w X5 from (bw.out.alloc bw.out.size _).grown hgr (by have := bw.out.size; simp; omega) (fun q hq => by have := (hlt0 q hq).1; omega))
      have K1n := hid (show Blk X5 w.heap.size [.int .u8 (x.kind : Nat), .int .i64 x.num, .string x.str, .string x.typ, .slice no x.names.length nc, .slice (some ⟨xb, xo, none⟩) n lc] 26 from ⟨(hgr.block _ (by have := K1.out.lt; simp; omega) (fun e => by have := (hlt0 _ e.symm).1; omega)).trans (K1.out.alloc _).at'⟩)
      have hBn := hid (show w.heap.size + 1 ≤ X5.heap.size from by have h1 := hgr.size; have h2 := hBB.out; simp at h1; omega)
      obtain ⟨ao', cap', rfl, _, _⟩ := ownsRow_form hown5
      have hownn := hid (show X5.ownsRow (w.heap.size + 1) 9 1 (.slice ao' (k + 1) cap') (k + 1) (ksC (x.list.take (k + 1))) from by rw [hst.out]; exact hown5)
      clear hown5 hgr hlt0 K1 hBB bw hown hst
      go_wp2_with fail
      go_roundw
      case rel => exact ⟨k + 1, by omega, by go_num, ⟨ao', cap', rfl, hownn⟩, K1n, hBn, hbn⟩
      case measure => simp [intOf]; omega
    · have hki : ¬ (k : Int) < (n : Int) := by omega
      obtain rfl : k = n := by omega
      replace hown := hid (show wr.ownsRow (w.heap.size + 1) 9 1 (.slice ao k cap) k (ksC x.list) from by have := hown.out; rwa [List.take_of_length_le (by rw [hn'.out]; exact Nat.le_refl _)] at this)
      obtain ⟨g, o, rfl, hks⟩ := ks_open (g := 0) hown.out hn'.out (by have := hn'.out; rw [← this]; exact ho0.out)
      have t0 := hks 0 ho0.out
      rw [hy0.out] at t0
      rw [Nat.add_zero] at t0
      have s0 := hpl.out y hym.out
      obtain ⟨yb, yo, hyo, p0, _⟩ := (h'.out.below bw.out).part6 (lo := some ⟨xb, xo, none⟩) (lc := lc) (by rw [e2'.out, hn'.out]) 0 ho0.out
      obtain ⟨rfl, rfl⟩ : xb = yb ∧ xo = yo := by simpa using hyo
      rw [hy0.out, Nat.zero_mul, Nat.add_zero] at p0
      have hk1 : k = 1 := by rw [← hn'.out, hl'.out]; rfl
      subst hk1
      clear hks hyo
      have b0 : (bs (showT y)).size ≤ 34359738368 := by rw [bs_size]; exact s0
      obtain ⟨S0, hS0⟩ : ∃ S, bs (showT y) = S := ⟨_, rfl⟩
      rw [hS0] at t0 b0
      replace hS0 := hid hS0
      clear s0
      obtain ⟨c0, c1, c2, c3, c4, c5, cf⟩ := six K1.out
      replace hk := hk.out
      rw [hk] at c0
      have n1 : ¬ 9223372036854775807 < 1 + S0.size := by omega
      obtain ⟨ky, hky⟩ : ∃ ky, y.kind = ky := ⟨_, rfl⟩
      rw [hky] at p0
      replace hky := hid hky
      have n90 : ¬ 9223372036854775807 < 1 + S0.size := by omega
      have n91 : ¬ 9223372036854775807 < 1 + S0.size + 1 := by omega
      by_cases hy12 : ky = 12
      · have hbs := hid (show (⟨#[40]⟩ : ByteArray) ++ S0 ++ ⟨#[41]⟩ = bs (baseL y.kind (showT y)) by rw [hky.out, hy12, ← hS0.out]; exact ba_eq (by simp [bs, baseL]))
        have hbl : ((⟨#[40]⟩ : ByteArray) ++ S0 ++ ⟨#[41]⟩).size ≤ 34359738370 := by
          rw [ByteArray.size_append, ByteArray.size_append]
          have e1 : (⟨#[40]⟩ : ByteArray).size = 1 := rfl
          have e2 : (⟨#[41]⟩ : ByteArray).size = 1 := rfl
          omega
        replace hky := hid (hky.out.trans hy12)
        rw [hy12] at p0
        clear hy12
        go_upto_region 12 with fail
        clear n90 n91
        generalize (⟨#[40]⟩ : ByteArray) ++ S0 ++ ⟨#[41]⟩ = Bs at hbs hbl ⊢
        have n1 : ¬ 9223372036854775807 < 1 + S0.size := by omega
        go_wp2_with fail
        go_ret
        exact ⟨by
          show Ending.returned (.string ((⟨#[45]⟩ : ByteArray) ++ S0)) = _
          rw [hsh.out]
          rw [← hS0.out]; exact congrArg (fun s => Ending.returned (.string s)) (ba_eq (by simp [bs])), bw.out⟩
      by_cases hy13 : ky = 13
      · have hbs := hid (show (⟨#[40]⟩ : ByteArray) ++ S0 ++ ⟨#[41]⟩ = bs (baseL y.kind (showT y)) by rw [hky.out, hy13, ← hS0.out]; exact ba_eq (by simp [bs, baseL]))
        have hbl : ((⟨#[40]⟩ : ByteArray) ++ S0 ++ ⟨#[41]⟩).size ≤ 34359738370 := by
          rw [ByteArray.size_append, ByteArray.size_append]
          have e1 : (⟨#[40]⟩ : ByteArray).size = 1 := rfl
          have e2 : (⟨#[41]⟩ : ByteArray).size = 1 := rfl
          omega
        replace hky := hid (hky.out.trans hy13)
        rw [hy13] at p0
        clear hy13 hy12
        go_upto_region 12 with fail
        clear n90 n91
        generalize (⟨#[40]⟩ : ByteArray) ++ S0 ++ ⟨#[41]⟩ = Bs at hbs hbl ⊢
        have n1 : ¬ 9223372036854775807 < 1 + S0.size := by omega
        go_wp2_with fail
        go_ret
        exact ⟨by
          show Ending.returned (.string ((⟨#[45]⟩ : ByteArray) ++ S0)) = _
          rw [hsh.out]
          rw [← hS0.out]; exact congrArg (fun s => Ending.returned (.string s)) (ba_eq (by simp [bs])), bw.out⟩
      · have hbs := hid (show S0 = bs (baseL y.kind (showT y)) by rw [hky.out, ← hS0.out]; unfold baseL; rw [if_neg (by omega)])
        have hbl : S0.size ≤ 34359738370 := by omega
        have q1 : ((ky : Int) == 12) = false := by rw [beq_eq_false_iff_ne]; omega
        have q2 : ((ky : Int) == 13) = false := by rw [beq_eq_false_iff_ne]; omega
        clear hy12 hy13
        go_upto_region 12 with fail
        clear n90 n91 q1 q2
        have n1 : ¬ 9223372036854775807 < 1 + S0.size := by omega
        go_wp2_with fail
        go_ret
        exact ⟨by
          show Ending.returned (.string ((⟨#[45]⟩ : ByteArray) ++ S0)) = _
          rw [hsh.out]
          rw [← hS0.out]; exact congrArg (fun s => Ending.returned (.string s)) (ba_eq (by simp [bs])), bw.out⟩
end Go.Proofs.YtbcjppbiihgfpaaGreatDoor.Ex
