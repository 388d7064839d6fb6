/-
  lictorref07.Quoted: its contract (the pure function is XTokQuote's quoteL).
-/
import Derived.Test.YtbcjppbiihgfpaaGreatDoorTokQuote
import Derived.Laws.OwnMore
import Derived.Lib.AppendStr
namespace Go.Proofs.YtbcjppbiihgfpaaGreatDoor.Tok
open Go.ChangeShapes Go.WideShapes Go.ChangeAt Go.RowKit
open Go.Proofs.YtbcjppbiihgfpaaGreatDoor.Mem Go.Proofs.YtbcjppbiihgfpaaGreatDoor.Lik
set_option linter.unusedVariables false
set_option linter.unusedSimpArgs false
set_option maxRecDepth 100000
/-- Bytes as the cells hold them. -/
def cellsOf (l : List UInt8) : List Value := l.map fun b => Value.int .u8 (b.toNat : Int)
theorem cellsOf_len (l : List UInt8) : (cellsOf l).length = l.length := by simp [cellsOf]
theorem cellsOf_append (a b : List UInt8) : cellsOf (a ++ b) = cellsOf a ++ cellsOf b := by simp [cellsOf]
theorem info_u8 : (Tryz.prog.info? 5).map (fun i => (i.zero, i.size, i.bytes)) = some (some (.int .u8 0), 1, 1) := by kernel_rfl

/-- A row of the call's own, made a string. -/
theorem run_convert_own {P : Program} {w : World} {base : Nat} {v : Value} {n : Nat} {l : List UInt8} (src e dst : TypeId) (hs : P.underlying src = some (.slice e)) (he : P.underlying e = some (.int .u8)) (hd : P.underlying dst = some .string)
    (h : w.ownsRow base e 1 v n (cellsOf l)) : (convert src dst v).run P w = .ok (.string ⟨l.toArray⟩) w := by
  have hlen : l.length = n := by have := h.1; simpa [cellsOf_len] using this
  have hcell := fun (g : Nat) (hg : v.ownBlock = some g) => h.cells hg
  rcases h.2 with ⟨rfl, hn⟩ | ⟨g, cap, cur, rfl, hb, hg, hnc, hcm, hcs, htake⟩
  · have hl : l = [] := List.eq_nil_of_length_eq_zero (by omega)
    subst hl
    exact run_convert_bytes_nil w src e hs he 0 0 dst hd
  · have e1 : (⟨l.toArray⟩ : ByteArray) = strOfNums (l.map fun b => (b.toNat : Int)) := by
      unfold strOfNums
      rw [List.map_map]
      congr 1
      apply Array.toList_inj.1
      simp only []
      conv => lhs; rw [← List.map_id l]
      apply List.map_congr_left
      intro b _
      simp
    rw [e1]
    refine run_convert_bytes_arg w src e hs he g 0 n cap _ (by simpa using hlen) ?_ dst hd
    intro i hi
    have hil : i < l.length := by omega
    have := hcell g rfl i (.int .u8 (l[i].toNat : Int)) (by simp [cellsOf, hil])
    have hadd : (⟨g, 0, none⟩ : Addr).add i = ⟨g, i, none⟩ := by unfold Addr.add; split <;> simp_all
    rw [hadd] at this
    rw [Nat.zero_add, this]
    simp [List.getD, hil]

theorem q_str {w wr w1 : World} {v v' : Value} {n : Nat} {L : By} {t : ByteArray} (hown : wr.ownsRow w.heap.size 5 1 v n (cellsOf L)) (hb : Below w.heap.size w wr)
    (hown' : w1.ownsRow w.heap.size 5 1 v' (n + t.size) (cellsOf L ++ Lib.strCells t)) (hg : wr.grownBy w1 v.ownBlock) :
    w1.ownsRow w.heap.size 5 1 v' (n + t.size) (cellsOf (L ++ t.data.toList)) ∧ Below w.heap.size w w1 := by
  refine ⟨?_, hb.grown hg hb.size (fun j hj => (hown.lt j hj).1)⟩
  rw [cellsOf_append]; exact hown'
theorem q_one {w wr w1 : World} {v v' : Value} {n : Nat} {L : By} {o : Obj} {c : UInt8} (hown : wr.ownsRow w.heap.size 5 1 v n (cellsOf L)) (hb : Below w.heap.size w wr)
    (hown' : w1.ownsRow w.heap.size 5 1 v' (n + 1) (cellsOf L ++ [.int .u8 (c.toNat : Int)])) (hg : (wr.alloc o).grownBy w1 v.ownBlock) :
    w1.ownsRow w.heap.size 5 1 v' (n + 1) (cellsOf (L ++ [c])) ∧ Below w.heap.size w w1 := by
  refine ⟨?_, (hb.alloc hb.size o).grown hg (by simp; have := hb.size; omega) (fun j hj => (hown.lt j hj).1)⟩
  rw [cellsOf_append]; exact hown'
/-- the row behind some bytes -/
structure Qr (s : ByteArray) (w : World) (k : Nat) (v : Value) (wr : World) : Prop where
  own : wr.ownsRow w.heap.size 5 1 v (quoteTo s.data.toList k).length (cellsOf (quoteTo s.data.toList k))
  below : Below w.heap.size w wr
theorem q1_of (s : ByteArray) (k : Nat) (h : k < s.size) (l : By) (e : quote1 s[k] (s.data.toList.drop (k + 1)) = l) : quoteTo s.data.toList (k + 1) = quoteTo s.data.toList k ++ l := by
  rw [quoteTo_succ _ _ (by rw [← Lib.size_eq]; exact h), ← e]; rfl
theorem u8_of {c d : UInt8} (h : c.toNat = d.toNat) : c = d := UInt8.toNat_inj.1 h
theorem q_34 (r : By) : quote1 34 r = [92, 34] := rfl
theorem q_10 (r : By) : quote1 10 r = [92, 110] := rfl
theorem q_9 (r : By) : quote1 9 r = [92, 116] := rfl
theorem q_0 (r : By) : quote1 0 r = [92, 48] := rfl
theorem q_star (r : By) : quote1 92 (42 :: r) = [92] := rfl
theorem q_42 (r : By) : quote1 42 r = [42] := rfl
theorem q_nil : quote1 92 [] = [92, 92] := rfl
theorem q_92 (d : UInt8) (r : By) (h : d ≠ 42) : quote1 92 (d :: r) = [92, 92] := by
  have : Lib.hasPrefix ((92 : UInt8) :: d :: r) [92, 42] = false := by
    show [92, 42].isPrefixOf ((92 : UInt8) :: d :: r) = false
    simp [List.isPrefixOf, Ne.symm h]
  unfold quote1
  rw [this]
  rfl
theorem q_else (c : UInt8) (r : By) (h1 : c.toNat ≠ 34) (h2 : c.toNat ≠ 10) (h3 : c.toNat ≠ 9) (h4 : c.toNat ≠ 0) (h5 : c.toNat ≠ 92) : quote1 c r = [c] := by
  have : letV (c.toNat : Int) = none := by
    unfold letV
    rw [if_neg (by omega), if_neg (by omega), if_neg (by omega), if_neg (by omega), if_neg (by omega)]
  unfold quote1
  rw [this]
theorem st_esc (s : ByteArray) (k : Nat) (h : k < s.size) (d x : UInt8) (hc : s[k].toNat = d.toNat) (e : ∀ r, quote1 d r = [92, x]) : quoteTo s.data.toList (k + 1) = quoteTo s.data.toList k ++ [92, x] :=
  q1_of s k h _ (by rw [u8_of hc]; exact e _)
theorem drop_at (s : ByteArray) (k : Nat) (h : k < s.size) : s.data.toList.drop k = s[k] :: s.data.toList.drop (k + 1) := by
  rw [List.drop_eq_getElem_cons (by rw [← Lib.size_eq]; exact h)]
  rfl
theorem st_star (s : ByteArray) (k : Nat) (h : k < s.size) (h' : k + 1 < s.size) (hc : s[k].toNat = 92) (hd : s[k + 1].toNat = 42) : quoteTo s.data.toList (k + 2) = quoteTo s.data.toList k ++ [92, 42] := by
  rw [q1_of s (k + 1) h' [42] (by rw [u8_of (d := 42) hd]; rfl), q1_of s k h [92] (by rw [u8_of (d := 92) hc, drop_at s (k + 1) h', u8_of (d := 42) hd]; rfl)]
  simp
theorem st_stroke (s : ByteArray) (k : Nat) (h : k < s.size) (hc : s[k].toNat = 92) (hd : ∀ h' : k + 1 < s.size, s[k + 1].toNat ≠ 42) : quoteTo s.data.toList (k + 1) = quoteTo s.data.toList k ++ [92, 92] := by
  refine q1_of s k h _ ?_
  rw [u8_of (d := 92) hc]
  by_cases h' : k + 1 < s.size
  · rw [drop_at s (k + 1) h']
    exact q_92 _ _ (fun e => hd h' (by rw [e]; rfl))
  · rw [List.drop_eq_nil_of_le (by rw [← Lib.size_eq]; omega)]
    rfl
theorem st_else (s : ByteArray) (k : Nat) (h : k < s.size) (h1 : s[k].toNat ≠ 34) (h2 : s[k].toNat ≠ 10) (h3 : s[k].toNat ≠ 9) (h4 : s[k].toNat ≠ 0) (h5 : s[k].toNat ≠ 92) : quoteTo s.data.toList (k + 1) = quoteTo s.data.toList k ++ [s[k]] :=
  q1_of s k h _ (q_else _ _ h1 h2 h3 h4 h5)
set_option maxHeartbeats 8000000 in
theorem quoted_any (s : ByteArray) (w : World) (hs : s.size ≤ 1099511627776) :
    Calls Tryz.prog 58 #[.string s] w fun e w' => e = .returned (.string (bs (quoteL s.data.toList))) ∧ Below w.heap.size w w' := by
  obtain ⟨i0, hi, hz0, hz1, hz2⟩ := info_parts info_u8
  go_enter Tryz.func58, Tryz.ntmps58
  go_wp2_with fail
  go_loopw [3, 4] (fun v i wr => ∃ k : Nat, k ≤ s.size ∧ i = .int .i64 k ∧ Hid (Qr s w k v wr)) (fun _ i _ => s.size - (intOf i).toNat)
  case atStart =>
    refine ⟨0, Nat.zero_le _, rfl, hid ⟨?_, ?_⟩⟩
    · exact World.ownsRow_lit w #[.int .u8 34] 1 (Nat.le_refl _) (by unfold maxLen; omega) rfl
    · exact (Below.refl _ _).alloc (Nat.le_refl _) _
  case round =>
    obtain ⟨k, hk, rfl, hR⟩ := hrel
    have hlen := quoteTo_len s.data.toList k
    by_cases hlt : k < s.size
    · have hki : (k : Int) < s.size := by omega
      have hk0 : (0 : Int) ≤ (k : Int) := by omega
      by_cases c34 : s[k].toNat = 34
      · have hst := hid (st_esc s k hlt 34 34 c34 q_34)
        have ci : (s[k].toNat : Int) = 34 := by omega
        go_wp2_with (at_builtin; refine Lib.wpList_append_own_string _ rfl _ _ 69 9 rfl w.heap.size 5 i0 Tryz.underlying69 Tryz.underlying9 hi hz0 hz1 hz2 _ _ _ rfl hR.out.own _ rfl ?c1 ?c2 hR.out.below.size ?_)
        case c1 => first | (unfold maxLen; show _ + 2 ≤ _; omega) | omega
        case c2 => first | (show _ + 2 ≤ _; omega) | omega
        intro v' w1 hown' hg _
        have hR2 : Hid (Qr s w (k + 1) v' w1) := by
          obtain ⟨h1, h2⟩ := q_str hR.out.own hR.out.below hown' hg
          exact hid ⟨by rw [hst.out, List.length_append]; exact h1, h2⟩
        clear hown' hg hR
        go_wp2_with fail
        go_roundw
        case rel => exact ⟨k + 1, by omega, by go_num, hR2⟩
        case measure => simp [intOf]; omega
      have n34 : ((s[k].toNat : Int) == 34) = false := by rw [beq_eq_false_iff_ne]; omega
      by_cases c10 : s[k].toNat = 10
      · have hst := hid (st_esc s k hlt 10 110 c10 q_10)
        have ci : (s[k].toNat : Int) = 10 := by omega
        go_wp2_with (at_builtin; refine Lib.wpList_append_own_string _ rfl _ _ 69 9 rfl w.heap.size 5 i0 Tryz.underlying69 Tryz.underlying9 hi hz0 hz1 hz2 _ _ _ rfl hR.out.own _ rfl ?c1 ?c2 hR.out.below.size ?_)
        case c1 => first | (unfold maxLen; show _ + 2 ≤ _; omega) | omega
        case c2 => first | (show _ + 2 ≤ _; omega) | omega
        intro v' w1 hown' hg _
        have hR2 : Hid (Qr s w (k + 1) v' w1) := by
          obtain ⟨h1, h2⟩ := q_str hR.out.own hR.out.below hown' hg
          exact hid ⟨by rw [hst.out, List.length_append]; exact h1, h2⟩
        clear hown' hg hR
        go_wp2_with fail
        go_roundw
        case rel => exact ⟨k + 1, by omega, by go_num, hR2⟩
        case measure => simp [intOf]; omega
      have n10 : ((s[k].toNat : Int) == 10) = false := by rw [beq_eq_false_iff_ne]; omega
      by_cases c9 : s[k].toNat = 9
      · have hst := hid (st_esc s k hlt 9 116 c9 q_9)
        have ci : (s[k].toNat : Int) = 9 := by omega
        go_wp2_with (at_builtin; refine Lib.wpList_append_own_string _ rfl _ _ 69 9 rfl w.heap.size 5 i0 Tryz.underlying69 Tryz.underlying9 hi hz0 hz1 hz2 _ _ _ rfl hR.out.own _ rfl ?c1 ?c2 hR.out.below.size ?_)
        case c1 => first | (unfold maxLen; show _ + 2 ≤ _; omega) | omega
        case c2 => first | (show _ + 2 ≤ _; omega) | omega
        intro v' w1 hown' hg _
        have hR2 : Hid (Qr s w (k + 1) v' w1) := by
          obtain ⟨h1, h2⟩ := q_str hR.out.own hR.out.below hown' hg
          exact hid ⟨by rw [hst.out, List.length_append]; exact h1, h2⟩
        clear hown' hg hR
        go_wp2_with fail
        go_roundw
        case rel => exact ⟨k + 1, by omega, by go_num, hR2⟩
        case measure => simp [intOf]; omega
      have n9 : ((s[k].toNat : Int) == 9) = false := by rw [beq_eq_false_iff_ne]; omega
      by_cases c0 : s[k].toNat = 0
      · have hst := hid (st_esc s k hlt 0 48 c0 q_0)
        have ci : (s[k].toNat : Int) = 0 := by omega
        go_wp2_with (at_builtin; refine Lib.wpList_append_own_string _ rfl _ _ 69 9 rfl w.heap.size 5 i0 Tryz.underlying69 Tryz.underlying9 hi hz0 hz1 hz2 _ _ _ rfl hR.out.own _ rfl ?c1 ?c2 hR.out.below.size ?_)
        case c1 => first | (unfold maxLen; show _ + 2 ≤ _; omega) | omega
        case c2 => first | (show _ + 2 ≤ _; omega) | omega
        intro v' w1 hown' hg _
        have hR2 : Hid (Qr s w (k + 1) v' w1) := by
          obtain ⟨h1, h2⟩ := q_str hR.out.own hR.out.below hown' hg
          exact hid ⟨by rw [hst.out, List.length_append]; exact h1, h2⟩
        clear hown' hg hR
        go_wp2_with fail
        go_roundw
        case rel => exact ⟨k + 1, by omega, by go_num, hR2⟩
        case measure => simp [intOf]; omega
      have n0 : ((s[k].toNat : Int) == 0) = false := by rw [beq_eq_false_iff_ne]; omega
      by_cases c92 : s[k].toNat = 92
      · have ci : (s[k].toNat : Int) = 92 := by omega
        by_cases hl1 : k + 1 < s.size
        · have hli : (k : Int) + 1 < s.size := by omega
          by_cases c42 : s[k + 1].toNat = 42
          · have hst := hid (st_star s k hlt hl1 c92 c42)
            have di : (s[k + 1].toNat : Int) = 42 := by omega
            go_wp2_with (at_builtin; refine Lib.wpList_append_own_string _ rfl _ _ 69 9 rfl w.heap.size 5 i0 Tryz.underlying69 Tryz.underlying9 hi hz0 hz1 hz2 _ _ _ rfl hR.out.own _ rfl ?c1 ?c2 hR.out.below.size ?_)
            case c1 => first | (unfold maxLen; show _ + 2 ≤ _; omega) | omega
            case c2 => first | (show _ + 2 ≤ _; omega) | omega
            intro v' w1 hown' hg _
            have hR2 : Hid (Qr s w (k + 2) v' w1) := by
              obtain ⟨h1, h2⟩ := q_str hR.out.own hR.out.below hown' hg
              exact hid ⟨by rw [hst.out, List.length_append]; exact h1, h2⟩
            clear hown' hg hR
            go_wp2_with fail
            go_roundw
            case rel => exact ⟨k + 2, by omega, by go_num, hR2⟩
            case measure => simp [intOf]; omega
          · have hst := hid (st_stroke s k hlt c92 (fun _ => c42))
            have di : ((s[k + 1].toNat : Int) == 42) = false := by rw [beq_eq_false_iff_ne]; omega
            go_wp2_with (at_builtin; refine Lib.wpList_append_own_string _ rfl _ _ 69 9 rfl w.heap.size 5 i0 Tryz.underlying69 Tryz.underlying9 hi hz0 hz1 hz2 _ _ _ rfl hR.out.own _ rfl ?c1 ?c2 hR.out.below.size ?_)
            case c1 => first | (unfold maxLen; show _ + 2 ≤ _; omega) | omega
            case c2 => first | (show _ + 2 ≤ _; omega) | omega
            intro v' w1 hown' hg _
            have hR2 : Hid (Qr s w (k + 1) v' w1) := by
              obtain ⟨h1, h2⟩ := q_str hR.out.own hR.out.below hown' hg
              exact hid ⟨by rw [hst.out, List.length_append]; exact h1, h2⟩
            clear hown' hg hR
            go_wp2_with fail
            go_roundw
            case rel => exact ⟨k + 1, by omega, by go_num, hR2⟩
            case measure => simp [intOf]; omega
        · have hst := hid (st_stroke s k hlt c92 (fun h => absurd h hl1))
          have hli : (s.size : Int) ≤ (k : Int) + 1 := by omega
          go_wp2_with (at_builtin; refine Lib.wpList_append_own_string _ rfl _ _ 69 9 rfl w.heap.size 5 i0 Tryz.underlying69 Tryz.underlying9 hi hz0 hz1 hz2 _ _ _ rfl hR.out.own _ rfl ?c1 ?c2 hR.out.below.size ?_)
          case c1 => first | (unfold maxLen; show _ + 2 ≤ _; omega) | omega
          case c2 => first | (show _ + 2 ≤ _; omega) | omega
          intro v' w1 hown' hg _
          have hR2 : Hid (Qr s w (k + 1) v' w1) := by
            obtain ⟨h1, h2⟩ := q_str hR.out.own hR.out.below hown' hg
            exact hid ⟨by rw [hst.out, List.length_append]; exact h1, h2⟩
          clear hown' hg hR
          go_wp2_with fail
          go_roundw
          case rel => exact ⟨k + 1, by omega, by go_num, hR2⟩
          case measure => simp [intOf]; omega
      have n92 : ((s[k].toNat : Int) == 92) = false := by rw [beq_eq_false_iff_ne]; omega
      have hst := hid (st_else s k hlt c34 c10 c9 c0 c92)
      go_wp2_with (at_builtin; refine wpList_append_own _ rfl _ _ 69 rfl w.heap.size 5 i0 (.int .u8 0) 1 1 Tryz.underlying69 hi hz0 hz1 hz2 rfl (by decide) _ _ _ rfl (hR.out.own.alloc _) ⟨wr.heap.size, 0, none⟩ 1 1 [.int .u8 (s[k].toNat : Int)] rfl rfl ?c1 ?c2 ?c3 ?c4 ?c5 ?_)
      case c1 =>
        intro i u hu
        match i, hu with
        | 0, hu => simp at hu; subst hu; simp [go_sem]
      case c2 => simp [Value.oneCell']
      case c3 => unfold maxLen; omega
      case c4 => omega
      case c5 => simp; exact Nat.le_succ_of_le hR.out.below.size
      intro v' w1 hown' hg _
      have hR2 : Hid (Qr s w (k + 1) v' w1) := by
        obtain ⟨h1, h2⟩ := q_one hR.out.own hR.out.below hown' hg
        exact hid ⟨by rw [hst.out, List.length_append]; exact h1, h2⟩
      clear hown' hg hR
      go_wp2_with fail
      go_roundw
      case rel => exact ⟨k + 1, by omega, by go_num, hR2⟩
      case measure => simp [intOf]; omega
    · have hke : k = s.size := by omega
      have hki : (s.size : Int) ≤ k := by omega
      have hall := hid (show quoteTo s.data.toList k ++ [34] = quoteL s.data.toList from by
        have := quoteTo_all s.data.toList
        rw [← Lib.size_eq, ← hke] at this
        exact this)
      clear hke
      go_wp2_with (at_builtin; refine wpList_append_own _ rfl _ _ 69 rfl w.heap.size 5 i0 (.int .u8 0) 1 1 Tryz.underlying69 hi hz0 hz1 hz2 rfl (by decide) _ _ _ rfl (hR.out.own.alloc _) ⟨wr.heap.size, 0, none⟩ 1 1 [.int .u8 34] rfl rfl ?c1 ?c2 ?c3 ?c4 ?c5 ?_)
      case c1 =>
        intro i u hu
        match i, hu with
        | 0, hu => simp at hu; subst hu; simp [go_sem]
      case c2 => simp [Value.oneCell']
      case c3 => unfold maxLen; omega
      case c4 => omega
      case c5 => simp; exact Nat.le_succ_of_le hR.out.below.size
      intro v' w1 hown' hg _
      obtain ⟨h1, h2⟩ := q_one (c := 34) hR.out.own hR.out.below hown' hg
      rw [hall.out] at h1
      have h2 := hid h2
      clear hown' hg hR
      go_wp2_with fail
      rw [run_convert_own 69 5 9 Tryz.underlying69 Tryz.underlying5 Tryz.underlying9 h1]
      go_wp2_with fail
      go_ret
      exact ⟨rfl, h2.out⟩
end Go.Proofs.YtbcjppbiihgfpaaGreatDoor.Tok
