/-
  value.bare, value.fieldsRight: contracts.
-/
import Derived.Test.YtdjgkbpfmonebaaGreatDoorValNames
namespace Go.Proofs.YtdjgkbpfmonebaaGreatDoor.Val
open Go.ChangeShapes Go.WideShapes Go.ChangeAt Go.RowKit
open Go.Proofs.YtdjgkbpfmonebaaGreatDoor.Mem Go.Proofs.YtdjgkbpfmonebaaGreatDoor.Nam
set_option linter.unusedVariables false
set_option linter.unusedSimpArgs false
set_option maxRecDepth 100000
def bareB (b : Bool) (n : Int) (s t : ByteArray) (ln ll : Nat) : Bool := !b && (decide (n = 0) && (decide (s.size = 0) && (decide (t.size = 0) && (decide (ln = 0) && decide (ll = 0)))))
set_option maxHeartbeats 4000000 in
theorem bare_any (k : Int) (b : Bool) (n : Int) (s t : ByteArray) (no lo : Option Addr) (ln nc ll lc : Nat) (w : World) :
    Calls Tryz.prog 81 #[.agg #[.int .u8 k, .bool b, .int .i64 n, .string s, .string t, .slice no ln nc, .slice lo ll lc]] w fun e w' => e = .returned (.bool (bareB b n s t ln ll)) ∧ Below w.heap.size w w' := by
  obtain ⟨R, hR⟩ : ∃ R, bareB b n s t ln ll = R := ⟨_, rfl⟩
  rw [hR]
  have hR' := hid hR
  clear hR
  have hS : (s.toList == []) = decide (s.size = 0) := by
    by_cases h : s.size = 0
    · rw [empty_beq s h, decide_eq_true h]
    · rw [empty_bne s h, decide_eq_false h]
  have hT : (t.toList == []) = decide (t.size = 0) := by
    by_cases h : t.size = 0
    · rw [empty_beq t h, decide_eq_true h]
    · rw [empty_bne t h, decide_eq_false h]
  have h1 : (n == 0) = decide (n = 0) := rfl
  have h2 : (((ln : Nat) : Int) == 0) = decide (ln = 0) := by
    by_cases h : ln = 0
    · rw [decide_eq_true h, h]; rfl
    · rw [decide_eq_false h, beq_eq_false_iff_ne]; omega
  have h3 : (((ll : Nat) : Int) == 0) = decide (ll = 0) := by
    by_cases h : ll = 0
    · rw [decide_eq_true h, h]; rfl
    · rw [decide_eq_false h, beq_eq_false_iff_ne]; omega
  have hR2 := hid (show R = (!b && (decide (n = 0) && (decide (s.size = 0) && (decide (t.size = 0) && (decide (ln = 0) && decide (ll = 0)))))) from hR'.out.symm)
  clear hR'
  generalize decide (n = 0) = d1 at h1 hR2
  generalize decide (s.size = 0) = d2 at hS hR2
  generalize decide (t.size = 0) = d3 at hT hR2
  generalize decide (ln = 0) = d4 at h2 hR2
  generalize decide (ll = 0) = d5 at h3 hR2
  go_enter Tryz.func81, Tryz.ntmps81
  go_upto_region 1 with fail
  have K := hid (Blk.new w [.int .u8 k, .bool b, .int .i64 n, .string s, .string t, .slice no ln nc, .slice lo ll lc] 27)
  have bw := hid ((Below.refl w.heap.size w).alloc (Nat.le_refl _) (.cells #[.int .u8 k, .bool b, .int .i64 n, .string s, .string t, .slice no ln nc, .slice lo ll lc] 27))
  generalize w.alloc (.cells #[.int .u8 k, .bool b, .int .i64 n, .string s, .string t, .slice no ln nc, .slice lo ll lc] 27) = X0 at K bw ⊢
  obtain ⟨c0, c1, c2, c3, c4, c5, c6, cf⟩ := seven K.out
  cases b <;> cases d1 <;> cases d2 <;> cases d3 <;> cases d4
  all_goals
    simp only [Bool.not_true, Bool.not_false, Bool.false_and, Bool.true_and] at hR2
    go_wp2_with fail
    go_ret
    exact ⟨by rw [hR2.out]; rfl, bw.out⟩
/-- a value's own fields are right, and its parts are in order -/
def frB (x : T) : Bool :=
  if x.kind = 0 then bareB false x.num x.str x.typ x.names.length x.list.length
  else if x.kind = 1 then bareB x.bool 0 x.str x.typ x.names.length x.list.length
  else if x.kind = 2 then decide (x.str.size ≤ 256) && utfB x.str && bareB x.bool x.num ⟨#[]⟩ x.typ x.names.length x.list.length
  else if x.kind = 3 then decide (uidE x.typ x.str = 0) && bareB x.bool x.num ⟨#[]⟩ ⟨#[]⟩ x.names.length x.list.length
  else if x.kind = 4 then decide (x.list.length ≤ 16) && riseB x.list && bareB x.bool x.num x.str x.typ x.names.length 0
  else if x.kind = 5 then decide (x.list.length ≤ 16) && decide (x.names.length = x.list.length) && namesB x.names && bareB x.bool x.num x.str x.typ 0 0
  else false
set_option maxHeartbeats 4000000 in
theorem fields_any (hS : SplitTold) (hV : ValidTold) (x : T) (w : World) (h : x.ok w) (hm : ∃ m, w.cell? ⟨3, 0, none⟩ = some (.int .i64 m)) (hT : Tabs w) :
    Calls Tryz.prog 53 #[x.val] w fun e w' => e = .returned (.bool (frB x)) ∧ Below w.heap.size w w' := by
  obtain ⟨no, nc, lo, lc, e1, e2, l1, l2⟩ := h.forms
  have hk := h.parts.1.1
  have hss := h.parts.2.2.1
  have hts := h.parts.2.2.2.1
  have cU := hid (fun W (b : Below w.heap.size w W) => uid_any hS hV x.typ x.str W hts hss (by
    obtain ⟨m, hm⟩ := hm
    exact ⟨m, (b.cell (World.block_lt_of_cell? _ _ hm)).trans hm⟩) (hT.below b))
  have cV := hid (fun W (b : Below w.heap.size w W) => hV x.str W hss (hT.below b))
  have cL := hid (fun W (b : Below w.heap.size w W) => rising_any x.list x.lv W ((LV.of h).below b))
  have cN := hid (fun W (b : Below w.heap.size w W) => names_any hV x.names x.nv W (h.parts.2.2.2.2.2.1.below b) h.parts.2.2.2.2.1 (hT.below b))
  obtain ⟨R, hR⟩ : ∃ R, frB x = R := ⟨_, rfl⟩
  rw [hR]
  have hR' := hid (hR.symm.trans (show frB x = _ by unfold frB; rfl))
  rw [show x.val = .agg #[.int .u8 (x.kind : Nat), .bool x.bool, .int .i64 x.num, .string x.str, .string x.typ, x.nv, x.lv] from rfl, e1, e2]
  rw [e2] at cL
  rw [e1] at cN
  have i1 : (x.names.length : Int) ≤ 9223372036854775807 := by omega
  have i2 : (x.list.length : Int) ≤ 9223372036854775807 := by omega
  have i3 : (x.str.size : Int) ≤ 140737488355328 := by omega
  clear hR h e1 e2 hT hm hV hS hts l1 l2
  generalize utfB x.str = uB at *
  generalize uidE x.typ x.str = uE at *
  generalize riseB x.list = rB at *
  generalize namesB x.names = nB at *
  generalize x.kind = k at *
  generalize x.bool = b at *
  generalize x.num = n at *
  generalize x.str = s at *
  generalize x.typ = t at *
  generalize x.names.length = ln at *
  generalize x.list.length = ll at *
  go_enter Tryz.func53, Tryz.ntmps53
  go_upto_region 1 with fail
  have K1 := hid (Blk.new w [.int .u8 (k : Nat), .bool b, .int .i64 n, .string s, .string t, .slice no ln nc, .slice lo ll lc] 27)
  have bw := hid ((Below.refl w.heap.size w).alloc (Nat.le_refl _) (.cells #[.int .u8 (k : Nat), .bool b, .int .i64 n, .string s, .string t, .slice no ln nc, .slice lo ll lc] 27))
  have hs : w.heap.size + 1 = (w.alloc (.cells #[.int .u8 (k : Nat), .bool b, .int .i64 n, .string s, .string t, .slice no ln nc, .slice lo ll lc] 27)).heap.size := by simp
  generalize w.alloc (.cells #[.int .u8 (k : Nat), .bool b, .int .i64 n, .string s, .string t, .slice no ln nc, .slice lo ll lc] 27) = X0 at K1 bw hs ⊢
  have hs' := hid hs
  obtain ⟨c0, c1, c2, c3, c4, c5, c6, cf⟩ := seven K1.out
  clear hs
  go_upto_region 3 with fail
  have K2 := hid (Blk.new X0 [.int .u8 (k : Nat), .bool b, .int .i64 n, .string s, .string t, .slice no ln nc, .slice lo ll lc] 27)
  replace K1 := hid (K1.out.alloc (.cells #[.int .u8 (k : Nat), .bool b, .int .i64 n, .string s, .string t, .slice no ln nc, .slice lo ll lc] 27))
  replace bw := hid (bw.out.alloc (by have := hs'.out; omega) (.cells #[.int .u8 (k : Nat), .bool b, .int .i64 n, .string s, .string t, .slice no ln nc, .slice lo ll lc] 27))
  clear c0 c1 c2 c3 c4 c5 c6 cf
  generalize X0.alloc (.cells #[.int .u8 (k : Nat), .bool b, .int .i64 n, .string s, .string t, .slice no ln nc, .slice lo ll lc] 27) = X1 at K1 K2 bw ⊢
  have hlt := hid (show w.heap.size < X0.heap.size by have := hs'.out; omega)
  clear hs'
  generalize X0.heap.size = n1 at K2 hlt ⊢
  obtain ⟨c0, c1, c2, c3, c4, c5, c6, cf⟩ := seven K1.out
  obtain ⟨d0, d1, d2, d3, d4, d5, d6, df⟩ := seven K2.out
  rcases Nat.lt_or_ge k 6 with h6 | h6
  · have hcs : k = 0 ∨ k = 1 ∨ k = 2 ∨ k = 3 ∨ k = 4 ∨ k = 5 := by omega
    rcases hcs with rfl | rfl | rfl | rfl | rfl | rfl
    · have hn := hid (hR'.out.trans (if_pos rfl))
      clear hR' h6 hk
      go_wp2_with fail
      refine (bare_any _ _ _ _ _ _ _ _ _ _ _ _).mono ?_
      rintro e w9 ⟨rfl, b9⟩
      have hb9 := hid (bt ((bw.out).setCell (Nat.le_of_lt hlt.out) _) b9)
      go_wp2_with fail
      go_ret
      exact ⟨by rw [hn.out]; rfl, hb9.out⟩
    · have hn := hid (hR'.out.trans ((if_neg (by decide)).trans (if_pos rfl)))
      clear hR' h6 hk
      go_wp2_with fail
      refine (bare_any _ _ _ _ _ _ _ _ _ _ _ _).mono ?_
      rintro e w9 ⟨rfl, b9⟩
      have hb9 := hid (bt ((bw.out).setCell (Nat.le_of_lt hlt.out) _) b9)
      go_wp2_with fail
      go_ret
      exact ⟨by rw [hn.out]; rfl, hb9.out⟩
    · replace hR' := hid (hR'.out.trans ((if_neg (by decide)).trans ((if_neg (by decide)).trans (if_pos rfl))))
      clear h6 hk
      by_cases hl : s.size ≤ 256
      · have hli : (s.size : Int) ≤ 256 := by omega
        rw [decide_eq_true hl, Bool.true_and] at hR'
        clear hl
        go_wp2_with fail
        refine (cV.out _ bw.out).mono ?_
        rintro e w1 ⟨rfl, b1⟩
        replace bw := hid (bt bw.out b1)
        have K3 := hid (K2.out.below b1 K2.out.lt)
        clear b1 c0 c1 c2 c3 c4 c5 c6 cf d0 d1 d2 d3 d4 d5 d6 df
        obtain ⟨d0, d1, d2, d3, d4, d5, d6, df⟩ := seven K3.out
        cases uB with
        | true =>
          have hn := hid (hR'.out.trans (Bool.true_and _))
          clear hR'
          go_wp2_with fail
          refine (bare_any _ _ _ _ _ _ _ _ _ _ _ _).mono ?_
          rintro e w9 ⟨rfl, b9⟩
          have hb9 := hid (bt ((bw.out).setCell (Nat.le_of_lt hlt.out) _) b9)
          go_wp2_with fail
          go_ret
          exact ⟨by rw [hn.out]; rfl, hb9.out⟩
        | false =>
          have hn := hid (hR'.out.trans (Bool.false_and _))
          clear hR'
          go_wp2_with fail
          go_ret
          exact ⟨by rw [hn.out]; rfl, (bw.out).setCell (Nat.le_of_lt hlt.out) _⟩
      · have hli : ¬ (s.size : Int) ≤ 256 := by omega
        have hn := hid (show R = false by rw [hR'.out, decide_eq_false hl]; rfl)
        clear hR' hl
        go_wp2_with fail
        go_ret
        exact ⟨by rw [hn.out]; rfl, (bw.out).setCell (Nat.le_of_lt hlt.out) _⟩
    · replace hR' := hid (hR'.out.trans ((if_neg (by decide)).trans ((if_neg (by decide)).trans ((if_neg (by decide)).trans (if_pos rfl)))))
      clear h6 hk
      go_wp2_with fail
      refine (cU.out _ bw.out).mono ?_
      rintro e w1 ⟨rfl, b1⟩
      replace bw := hid (bt bw.out b1)
      have K3 := hid (K2.out.below b1 K2.out.lt)
      clear b1 c0 c1 c2 c3 c4 c5 c6 cf d0 d1 d2 d3 d4 d5 d6 df
      obtain ⟨d0, d1, d2, d3, d4, d5, d6, df⟩ := seven K3.out
      by_cases hu : uE = 0
      · have hu1 : (uE == 0) = true := by rw [hu]; rfl
        have hn := hid (show R = bareB b n ⟨#[]⟩ ⟨#[]⟩ ln ll by rw [hR'.out, decide_eq_true hu]; rfl)
        clear hR' hu
        go_wp2_with fail
        refine (bare_any _ _ _ _ _ _ _ _ _ _ _ _).mono ?_
        rintro e w9 ⟨rfl, b9⟩
        have hb9 := hid (bt (((bw.out).setCell (Nat.le_of_lt hlt.out) _).setCell (Nat.le_of_lt hlt.out) _) b9)
        go_wp2_with fail
        go_ret
        exact ⟨by rw [hn.out]; rfl, hb9.out⟩
      · have hu1 : (uE == 0) = false := by rw [beq_eq_false_iff_ne]; exact hu
        have hn := hid (show R = false by rw [hR'.out, decide_eq_false hu]; rfl)
        clear hR' hu
        go_wp2_with fail
        go_ret
        exact ⟨by rw [hn.out]; rfl, ((bw.out).setCell (Nat.le_of_lt hlt.out) _).setCell (Nat.le_of_lt hlt.out) _⟩
    · replace hR' := hid (hR'.out.trans ((if_neg (by decide)).trans ((if_neg (by decide)).trans ((if_neg (by decide)).trans ((if_neg (by decide)).trans (if_pos rfl))))))
      clear h6 hk
      by_cases hl : ll ≤ 16
      · have hli : (ll : Int) ≤ 16 := by omega
        rw [decide_eq_true hl, Bool.true_and] at hR'
        clear hl
        go_wp2_with fail
        refine (cL.out _ bw.out).mono ?_
        rintro e w1 ⟨rfl, b1⟩
        replace bw := hid (bt bw.out b1)
        have K3 := hid (K2.out.below b1 K2.out.lt)
        clear b1 c0 c1 c2 c3 c4 c5 c6 cf d0 d1 d2 d3 d4 d5 d6 df
        obtain ⟨d0, d1, d2, d3, d4, d5, d6, df⟩ := seven K3.out
        cases rB with
        | true =>
          have hn := hid (hR'.out.trans (Bool.true_and _))
          clear hR'
          go_wp2_with fail
          refine (bare_any _ _ _ _ _ _ _ _ _ _ _ _).mono ?_
          rintro e w9 ⟨rfl, b9⟩
          have hb9 := hid (bt ((bw.out).setCell (Nat.le_of_lt hlt.out) _) b9)
          go_wp2_with fail
          go_ret
          exact ⟨by rw [hn.out]; rfl, hb9.out⟩
        | false =>
          have hn := hid (hR'.out.trans (Bool.false_and _))
          clear hR'
          go_wp2_with fail
          go_ret
          exact ⟨by rw [hn.out]; rfl, (bw.out).setCell (Nat.le_of_lt hlt.out) _⟩
      · have hli : ¬ (ll : Int) ≤ 16 := by omega
        have hn := hid (show R = false by rw [hR'.out, decide_eq_false hl]; rfl)
        clear hR' hl
        go_wp2_with fail
        go_ret
        exact ⟨by rw [hn.out]; rfl, (bw.out).setCell (Nat.le_of_lt hlt.out) _⟩
    · replace hR' := hid (hR'.out.trans ((if_neg (by decide)).trans ((if_neg (by decide)).trans ((if_neg (by decide)).trans ((if_neg (by decide)).trans ((if_neg (by decide)).trans (if_pos rfl)))))))
      clear h6 hk
      by_cases hl : ll ≤ 16
      · have hli : (ll : Int) ≤ 16 := by omega
        rw [decide_eq_true hl, Bool.true_and] at hR'
        clear hl
        by_cases hq : ln = ll
        · rw [decide_eq_true hq, Bool.true_and] at hR'
          subst hq
          have hqi : ((ln : Int) == (ln : Int)) = true := by simp
          go_wp2_with fail
          refine (cN.out _ bw.out).mono ?_
          rintro e w1 ⟨rfl, b1⟩
          replace bw := hid (bt bw.out b1)
          have K3 := hid (K2.out.below b1 K2.out.lt)
          clear b1 c0 c1 c2 c3 c4 c5 c6 cf d0 d1 d2 d3 d4 d5 d6 df
          obtain ⟨d0, d1, d2, d3, d4, d5, d6, df⟩ := seven K3.out
          cases nB with
          | true =>
            have hn := hid (hR'.out.trans (Bool.true_and _))
            clear hR'
            go_wp2_with fail
            refine (bare_any _ _ _ _ _ _ _ _ _ _ _ _).mono ?_
            rintro e w9 ⟨rfl, b9⟩
            have hb9 := hid (bt (((bw.out).setCell (Nat.le_of_lt hlt.out) _).setCell (Nat.le_of_lt hlt.out) _) b9)
            go_wp2_with fail
            go_ret
            exact ⟨by rw [hn.out]; rfl, hb9.out⟩
          | false =>
            have hn := hid (hR'.out.trans (Bool.false_and _))
            clear hR'
            go_wp2_with fail
            go_ret
            exact ⟨by rw [hn.out]; rfl, ((bw.out).setCell (Nat.le_of_lt hlt.out) _).setCell (Nat.le_of_lt hlt.out) _⟩
        · have hqi : ((ln : Int) == (ll : Int)) = false := by rw [beq_eq_false_iff_ne]; omega
          have hn := hid (show R = false by rw [hR'.out, decide_eq_false hq]; rfl)
          clear hR' hq
          go_wp2_with fail
          go_ret
          exact ⟨by rw [hn.out]; rfl, ((bw.out).setCell (Nat.le_of_lt hlt.out) _).setCell (Nat.le_of_lt hlt.out) _⟩
      · have hli : ¬ (ll : Int) ≤ 16 := by omega
        have hn := hid (show R = false by rw [hR'.out, decide_eq_false hl]; rfl)
        clear hR' hl
        go_wp2_with fail
        go_ret
        exact ⟨by rw [hn.out]; rfl, ((bw.out).setCell (Nat.le_of_lt hlt.out) _).setCell (Nat.le_of_lt hlt.out) _⟩
  · have hn := hid (hR'.out.trans ((if_neg (by omega)).trans ((if_neg (by omega)).trans ((if_neg (by omega)).trans ((if_neg (by omega)).trans ((if_neg (by omega)).trans (if_neg (by omega))))))))
    have g0 : ((k : Int) == 0) = false := by rw [beq_eq_false_iff_ne]; omega
    have g1 : ((k : Int) == 1) = false := by rw [beq_eq_false_iff_ne]; omega
    have g2 : ((k : Int) == 2) = false := by rw [beq_eq_false_iff_ne]; omega
    have g3 : ((k : Int) == 3) = false := by rw [beq_eq_false_iff_ne]; omega
    have g4 : ((k : Int) == 4) = false := by rw [beq_eq_false_iff_ne]; omega
    have g5 : ((k : Int) == 5) = false := by rw [beq_eq_false_iff_ne]; omega
    clear hR' h6
    go_wp2_with fail
    go_ret
    exact ⟨by rw [hn.out]; rfl, bw.out⟩
end Go.Proofs.YtdjgkbpfmonebaaGreatDoor.Val
