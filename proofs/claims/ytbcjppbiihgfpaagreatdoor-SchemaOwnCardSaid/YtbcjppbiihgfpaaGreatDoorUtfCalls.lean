/-
  The document's UTF-8, uids: contracts.
-/
import Derived.Test.YtbcjppbiihgfpaaGreatDoorTypeCalls
import Derived.Test.YtbcjppbiihgfpaaGreatDoorUtfMath
import Derived.Laws.RangeString
import Derived.Laws.RangeAny
import Derived.LoopTactic
import Derived.Shelf.Unicode.ValidAny
namespace Go.Proofs.YtbcjppbiihgfpaaGreatDoor.Nam
open Go.ChangeShapes Go.WideShapes Go.ChangeAt Go.RowKit
open Go.Proofs.YtbcjppbiihgfpaaGreatDoor.Mem
set_option linter.unusedVariables false
set_option linter.unusedSimpArgs false
set_option maxRecDepth 100000
theorem width_pos (s : ByteArray) (pos : Nat) (h : pos < s.size) : 1 ≤ (Utf8.decode s pos).2 := by
  by_cases ha : (s[pos]'h).toNat < 128
  · rw [decode_ascii s pos h ha]
    exact Nat.le_refl _
  · exact (decode_high s pos h (by omega)).2
theorem below_iter (w : World) (s : ByteArray) (pos : Nat) : Below w.heap.size w (w.iter s pos) := (Below.refl _ w).alloc (Nat.le_refl _) _
set_option maxHeartbeats 4000000 in
theorem utf_any (s : ByteArray) (w : World) (hs : s.size ≤ 140737488355328) :
    Calls Tryz.prog 137 #[.string s] w fun e w' => e = .returned (.bool (utfB s)) ∧ Below w.heap.size w w' := by
  have hsi : (s.size : Int) ≤ 140737488355328 := by omega
  go_enter Tryz.func137, Tryz.ntmps137
  go_wp2_with fail
  go_loopw [] (fun w' => ∃ (pos : Nat), w' = w.iter s pos ∧ Hid (utfB s = tailB s pos)) (fun w' => s.size - w'.iterPos w.heap.size)
  case atStart => exact ⟨0, rfl, hid rfl⟩
  case round =>
    obtain ⟨pos, rfl, ht⟩ := hrel
    by_cases hp : pos < s.size
    · have hnx : ∀ ty, (Instr.next (.pointer (some ⟨w.heap.size, 0, none⟩)) true ty).run Tryz.prog (w.iter s pos) = _ := fun ty => run_next_any w s pos ty hp
      have hwd := width_pos s pos hp
      have hst := hid (ht.out.trans (tail_step s pos hp))
      obtain ⟨r, hr⟩ : ∃ r, Utf8.decode s pos = r := ⟨_, rfl⟩
      rw [hr] at hst hwd hnx
      obtain ⟨c, n⟩ := r
      dsimp only at hst hwd hnx
      have hpi : (pos : Int) ≤ 140737488355328 := by omega
      clear ht
      by_cases hc : c = 65533
      · have hci : ((c : Int) == 65533) = true := by rw [hc]; rfl
        by_cases h3 : pos + 3 ≤ s.size
        · have h3i : ¬ (s.size : Int) < (pos : Int) + 3 := by omega
          have hs1 := fun W => slice_at s pos (pos + 3) (pos : Int) ((pos : Int) + 3) rfl (by omega) (by omega) h3 W
          have hh : here s pos = ((s.extract pos (pos + 3)).toList == [239, 191, 189]) := by
            unfold here
            rw [decide_eq_true h3, Bool.true_and, ByteArray.toList_eq bad3]
            rfl
          cases hx : ((s.extract pos (pos + 3)).toList == [239, 191, 189]) with
          | true =>
            have hxn : ((s.extract pos (pos + 3)).toList != [239, 191, 189]) = false := by unfold bne; rw [hx]; rfl
            have hst2 := hid (show utfB s = tailB s (pos + n) by rw [hst.out, if_neg (fun x => by rw [hh, hx] at x; exact absurd x.2 (by simp))])
            clear hst hr hc hh h3
            go_wp2_with fail
            go_roundw
            case rel => exact ⟨pos + n, rfl, hst2⟩
            case measure => simp; omega
          | false =>
            have hxn : ((s.extract pos (pos + 3)).toList != [239, 191, 189]) = true := by unfold bne; rw [hx]; rfl
            have hn := hid (show utfB s = false by rw [hst.out, if_pos ⟨hc, by rw [hh, hx]⟩])
            clear hst hr hc hh h3
            go_wp2_with fail
            go_ret
            exact ⟨by rw [hn.out]; rfl, below_iter w s _⟩
        · have h3i : (s.size : Int) < (pos : Int) + 3 := by omega
          have hn := hid (show utfB s = false by rw [hst.out, if_pos ⟨hc, by unfold here; rw [decide_eq_false h3]; rfl⟩])
          clear hst hr hc h3
          go_wp2_with fail
          go_ret
          exact ⟨by rw [hn.out]; rfl, below_iter w s _⟩
      · have hci : ((c : Int) == 65533) = false := by rw [beq_eq_false_iff_ne]; omega
        have hst2 := hid (show utfB s = tailB s (pos + n) by rw [hst.out, if_neg (fun x => hc x.1)])
        clear hst hr hc
        go_wp2_with fail
        go_roundw
        case rel => exact ⟨pos + n, rfl, hst2⟩
        case measure => simp; omega
    · have hnx : ∀ ty, (Instr.next (.pointer (some ⟨w.heap.size, 0, none⟩)) true ty).run Tryz.prog (w.iter s pos) = _ := fun ty => run_next_end w s pos ty hp
      have hn := hid (ht.out.trans (tail_end s pos hp))
      clear ht
      go_wp2_with fail
      go_ret
      exact ⟨by rw [hn.out]; rfl, below_iter w s pos⟩
/-- a uid's error -/
def uidE (t i : ByteArray) : Int := if typeB t = false then 5 else if utfB i = false then 6 else if 64 < i.size then 3 else 0
def ValidTold : Prop := ∀ (s : ByteArray) (w : World), s.size ≤ 140737488355328 → Lib.Utf8Tabs 2 3 w →
  Calls Tryz.prog 183 #[.string s] w fun e w' => e = .returned (.bool (utfB s)) ∧ Below w.heap.size w w'
set_option maxHeartbeats 4000000 in
theorem uid_any (hS : SplitTold) (hV : ValidTold) (t i : ByteArray) (w : World) (ht : t.size ≤ 140737488355328) (hi : i.size ≤ 140737488355328) (hm : ∃ m, w.cell? ⟨5, 0, none⟩ = some (.int .i64 m)) (hT : Lib.Utf8Tabs 2 3 w) :
    Calls Tryz.prog 118 #[.agg #[.string t, .string i]] w fun e w' => e = .returned (.int .i64 (uidE t i)) ∧ Below w.heap.size w w' := by
  have hty := hid (fun W (b : Below w.heap.size w W) => type_any hS t W ht (by
    obtain ⟨m, hm⟩ := hm
    exact ⟨m, (b.cell (World.block_lt_of_cell? _ _ hm)).trans hm⟩))
  have hva := hid (fun W (b : Below w.heap.size w W) => hV i W hi (Utf8Tabs_below hT b))
  have hii : (i.size : Int) ≤ 140737488355328 := by omega
  have hfin : uidE t i = uidE t i := rfl
  conv at hfin => rhs; unfold uidE
  have hfin' := hid hfin
  clear hfin hm hT
  go_enter Tryz.func118, Tryz.ntmps118
  go_upto_region 1 with fail
  have K := hid (Blk.new w [.string t, .string i] 124)
  have bw := hid ((Below.refl w.heap.size w).alloc (Nat.le_refl _) (.cells #[.string t, .string i] 124))
  generalize w.alloc (.cells #[.string t, .string i] 124) = X0 at K bw ⊢
  obtain ⟨k0, k1, kf⟩ := K.out.two
  go_wp2_with fail
  refine (hty.out _ bw.out).mono ?_
  rintro e w1 ⟨rfl, b1⟩
  replace K := hid (K.out.below b1 K.out.lt)
  replace bw := hid (bt bw.out b1)
  clear b1 k0 k1 kf hty
  cases h1 : typeB t with
  | false =>
    have hn := hid (hfin'.out.trans (if_pos h1))
    clear hfin' h1
    go_wp2_with fail
    go_ret
    exact ⟨by rw [hn.out]; rfl, bw.out⟩
  | true =>
    replace hfin' := hid (hfin'.out.trans (if_neg (by rw [h1]; simp)))
    clear h1
    obtain ⟨k0, k1, kf⟩ := K.out.two
    go_wp2_with fail
    refine (hva.out _ bw.out).mono ?_
    rintro e w2 ⟨rfl, b1⟩
    replace K := hid (K.out.below b1 K.out.lt)
    replace bw := hid (bt bw.out b1)
    clear b1 k0 k1 kf hva
    cases h1 : utfB i with
    | false =>
      have hn := hid (hfin'.out.trans (if_pos h1))
      clear hfin' h1
      go_wp2_with fail
      go_ret
      exact ⟨by rw [hn.out]; rfl, bw.out⟩
    | true =>
      replace hfin' := hid (hfin'.out.trans (if_neg (by rw [h1]; simp)))
      clear h1
      obtain ⟨k0, k1, kf⟩ := K.out.two
      by_cases h3 : 64 < i.size
      · have h3i : (64 : Int) < (i.size : Int) := by omega
        have hn := hid (hfin'.out.trans (if_pos h3))
        clear hfin' h3
        go_wp2_with fail
        go_ret
        exact ⟨by rw [hn.out]; rfl, bw.out⟩
      · have h3i : ¬ (64 : Int) < (i.size : Int) := by omega
        have hn := hid (hfin'.out.trans (if_neg h3))
        clear hfin' h3
        go_wp2_with fail
        go_ret
        exact ⟨by rw [hn.out]; rfl, bw.out⟩
set_option maxHeartbeats 4000000 in
theorem ruid_any (t i : ByteArray) (w : World) (ht : t.size ≤ 140737488355328) (hi : i.size ≤ 140737488355328) :
    Calls Tryz.prog 84 #[.agg #[.string t, .string i]] w fun e w' => e = .returned (.int .i64 (uidE t i)) ∧ Below w.heap.size w w' := by
  have hty := hid (fun W => rtype_any t W ht)
  have hva := hid (fun W => utf_any i W hi)
  have hii : (i.size : Int) ≤ 140737488355328 := by omega
  have hfin : uidE t i = uidE t i := rfl
  conv at hfin => rhs; unfold uidE
  have hfin' := hid hfin
  clear hfin
  go_enter Tryz.func84, Tryz.ntmps84
  go_upto_region 1 with fail
  have K := hid (Blk.new w [.string t, .string i] 124)
  have bw := hid ((Below.refl w.heap.size w).alloc (Nat.le_refl _) (.cells #[.string t, .string i] 124))
  generalize w.alloc (.cells #[.string t, .string i] 124) = X0 at K bw ⊢
  obtain ⟨k0, k1, kf⟩ := K.out.two
  go_wp2_with fail
  refine (hty.out _).mono ?_
  rintro e w1 ⟨rfl, b1⟩
  replace K := hid (K.out.below b1 K.out.lt)
  replace bw := hid (bt bw.out b1)
  clear b1 k0 k1 kf hty
  cases h1 : typeB t with
  | false =>
    have hn := hid (hfin'.out.trans (if_pos h1))
    clear hfin' h1
    go_wp2_with fail
    go_ret
    exact ⟨by rw [hn.out]; rfl, bw.out⟩
  | true =>
    replace hfin' := hid (hfin'.out.trans (if_neg (by rw [h1]; simp)))
    clear h1
    obtain ⟨k0, k1, kf⟩ := K.out.two
    go_wp2_with fail
    refine (hva.out _).mono ?_
    rintro e w2 ⟨rfl, b1⟩
    replace K := hid (K.out.below b1 K.out.lt)
    replace bw := hid (bt bw.out b1)
    clear b1 k0 k1 kf hva
    cases h1 : utfB i with
    | false =>
      have hn := hid (hfin'.out.trans (if_pos h1))
      clear hfin' h1
      go_wp2_with fail
      go_ret
      exact ⟨by rw [hn.out]; rfl, bw.out⟩
    | true =>
      replace hfin' := hid (hfin'.out.trans (if_neg (by rw [h1]; simp)))
      clear h1
      obtain ⟨k0, k1, kf⟩ := K.out.two
      by_cases h3 : 64 < i.size
      · have h3i : (64 : Int) < (i.size : Int) := by omega
        have hn := hid (hfin'.out.trans (if_pos h3))
        clear hfin' h3
        go_wp2_with fail
        go_ret
        exact ⟨by rw [hn.out]; rfl, bw.out⟩
      · have h3i : ¬ (64 : Int) < (i.size : Int) := by omega
        have hn := hid (hfin'.out.trans (if_neg h3))
        clear hfin' h3
        go_wp2_with fail
        go_ret
        exact ⟨by rw [hn.out]; rfl, bw.out⟩
end Go.Proofs.YtbcjppbiihgfpaaGreatDoor.Nam
