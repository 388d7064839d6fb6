/-
  lictorref08.node: its contract. Written by wip/exrefnodegen.py.
-/
import Derived.Test.YtbcjppbiihgfpaaGreatDoorExRefLabs
import Derived.Test.YtbcjppbiihgfpaaGreatDoorExRefKids
namespace Go.Proofs.YtbcjppbiihgfpaaGreatDoor.Ex
open Go.ChangeShapes Go.WideShapes Go.ChangeAt Go.RowKit
open Go.Proofs.YtbcjppbiihgfpaaGreatDoor.Mem
set_option linter.unusedVariables false
set_option linter.unusedSimpArgs false
set_option maxRecDepth 100000
/-- what node calls, told -/
structure RNodeTold (x : T) (w : World) : Prop where
  text : ∀ W, Below w.heap.size w W → Calls Tryz.prog 125 #[.string x.str] W fun e w' => e = .returned (.bool (txB x.str)) ∧ Below W.heap.size W w'
  uid : ∀ W, Below w.heap.size w W → Calls Tryz.prog 84 #[.agg #[.string x.typ, .string x.str]] W fun e w' => ∃ c : Int, e = .returned (.int .i64 c) ∧ (c == 0) = uidB x.typ x.str ∧ Below W.heap.size W w'
  name : ∀ W, Below w.heap.size w W → Calls Tryz.prog 126 #[.string x.str] W fun e w' => e = .returned (.bool (nmB x.str)) ∧ Below W.heap.size W w'
  type : ∀ W, Below w.heap.size w W → Calls Tryz.prog 85 #[.string x.typ] W fun e w' => e = .returned (.bool (Nam.typeB x.typ)) ∧ Below W.heap.size W w'
  names : ∀ W, Below w.heap.size w W → Calls Tryz.prog 127 #[x.nv] W fun e w' => e = .returned (.bool (namesB x.names)) ∧ Below W.heap.size W w'
theorem varB_is (s : ByteArray) : varB s = ((s.toList == [112, 114, 105, 110, 99, 105, 112, 97, 108]) || ((s.toList == [97, 99, 116, 105, 111, 110]) || ((s.toList == [114, 101, 115, 111, 117, 114, 99, 101]) || (s.toList == [99, 111, 110, 116, 101, 120, 116])))) := by
  unfold varB hasB varsL
  simp only [List.any_cons, List.any_nil, Bool.or_false]
  rw [beq_turn s.toList, beq_turn s.toList, beq_turn s.toList, beq_turn s.toList]
  simp only [ByteArray.toList_eq]
set_option maxHeartbeats 16000000 in
theorem rnode_any (x : T) (w : World) (h : x.ok w) (hw : RNodeTold x w) :
    Calls Tryz.prog 66 #[x.val] w fun e w' => e = .returned (.bool (nodeB x)) ∧ Below w.heap.size w w' := by
  obtain ⟨no, nc, lo, lc, e1, e2, l1, l2⟩ := h.forms
  have cT := hid hw.text
  have cU := hid hw.uid
  have cM := hid hw.name
  have cY := hid hw.type
  have cN := hid hw.names
  rw [T.val_eq e1 e2]
  rw [e1] at cN
  obtain ⟨F, hF⟩ : ∃ F, fldB x = F := ⟨_, rfl⟩
  have hR := hid (show nodeB x = (F && kidsB x.kind x.list.length) by rw [← hF]; rfl)
  replace hF := hid (hF.symm.trans (show fldB x = _ by unfold fldB; rfl))
  generalize nodeB x = R at *
  have i1 : (x.names.length : Int) ≤ 9223372036854775807 := by omega
  have i2 : (x.list.length : Int) ≤ 9223372036854775807 := by omega
  clear h e1 e2 hw l1 l2
  have hV := hid (varB_is x.str)
  generalize txB x.str = tB at *
  generalize uidB x.typ x.str = uB at *
  generalize varB x.str = vB at *
  generalize nmB x.str = mB at *
  generalize Nam.typeB x.typ = yB at *
  generalize namesB x.names = nB at *
  generalize x.kind = k at *
  generalize x.num = num at *
  generalize x.str = s at *
  generalize x.typ = t at *
  generalize x.names.length = ln at *
  generalize x.list.length = ll at *
  have hS := size_beq s
  have hT := size_beq t
  have h1 : (num == 0) = decide (num = 0) := rfl
  have h2 : decide (0 < ((ln : Nat) : Int)) = !decide (ln = 0) := by
    by_cases q : ln = 0
    · rw [decide_eq_true q, decide_eq_false (by omega)]; rfl
    · rw [decide_eq_false q, decide_eq_true (by omega)]; rfl
  have hm : (bareB 0 s t ln = (true && (decide (s.size = 0) && (decide (t.size = 0) && decide (ln = 0))))) ∧ (bareB num ⟨#[]⟩ t ln = (decide (num = 0) && (true && (decide (t.size = 0) && decide (ln = 0))))) ∧ (bareB num ⟨#[]⟩ ⟨#[]⟩ ln = (decide (num = 0) && (true && (true && decide (ln = 0))))) ∧
      (bareB num s t 0 = (decide (num = 0) && (decide (s.size = 0) && (decide (t.size = 0) && true)))) ∧ (bareB num s ⟨#[]⟩ ln = (decide (num = 0) && (decide (s.size = 0) && (true && decide (ln = 0))))) ∧ (bareB num s t ln = (decide (num = 0) && (decide (s.size = 0) && (decide (t.size = 0) && decide (ln = 0))))) := ⟨rfl, rfl, rfl, rfl, rfl, rfl⟩
  obtain ⟨m1, m2, m3, m4, m5, m6⟩ := hm
  rw [m1, m2, m3, m4, m5, m6] at hF
  clear m1 m2 m3 m4 m5 m6
  generalize hz1 : decide (num = 0) = z1 at h1 hF
  generalize decide (s.size = 0) = z2 at hS hF
  generalize decide (t.size = 0) = z3 at hT hF
  generalize hz4 : decide (ln = 0) = z4 at h2 hF
  replace hz4 := hid hz4
  replace hz1 := hid hz1
  go_enter Tryz.func66, Tryz.ntmps66
  go_upto_region 1 with fail
  have K1 := hid (Blk.new w [.int .u8 (k : Nat), .int .i64 num, .string s, .string t, .slice no ln nc, .slice lo ll lc] 26)
  have bw := hid ((Below.refl w.heap.size w).alloc (Nat.le_refl _) (.cells #[.int .u8 (k : Nat), .int .i64 num, .string s, .string t, .slice no ln nc, .slice lo ll lc] 26))
  generalize w.alloc (.cells #[.int .u8 (k : Nat), .int .i64 num, .string s, .string t, .slice no ln nc, .slice lo ll lc] 26) = X0 at K1 bw ⊢
  generalize hn0 : w.heap.size = n0 at K1 bw ⊢
  replace hn0 := hid hn0
  have hr := hid (rkids_any k)
  have hkn := hid (show rkidsN k = _ from rfl)
  have hk : k = 0 ∨ k = 1 ∨ k = 2 ∨ k = 3 ∨ k = 4 ∨ k = 5 ∨ k = 6 ∨ k = 7 ∨ k = 8 ∨ k = 9 ∨ k = 10 ∨ k = 11 ∨ k = 12 ∨ k = 13 ∨ k = 14 ∨ (15 ≤ k ∧ k ≤ 29) ∨ 30 ≤ k := by omega
  rcases hk with rfl | rfl | rfl | rfl | rfl | rfl | rfl | rfl | rfl | rfl | rfl | rfl | rfl | rfl | rfl | hk | hk
  · replace hR := hid (show R = false by rw [hR.out]; simp [kidsB])
    obtain ⟨c0, c1, c2, c3, c4, c5, cf⟩ := six K1.out
    go_wp2_with fail
    refine (hr.out _).mono ?_
    rintro e w2 ⟨rfl, b8⟩
    replace bw := hid (bw.out.trans (b8.mono (by rw [← hn0.out]; exact (hn0.out ▸ bw.out).size)))
    replace K1 := hid (K1.out.below b8 K1.out.lt)
    rw [show rkidsN 0 = 0 from rfl]
    clear b8
    clear c0 c1 c2 c3 c4 c5 cf
    obtain ⟨c0, c1, c2, c3, c4, c5, cf⟩ := six K1.out
    go_wp2_with fail
    go_ret
    exact ⟨by
      have hq := hR.out
      try simp only [Bool.and_true, Bool.true_and, Bool.false_and, Bool.and_false, Bool.or_true, Bool.true_or, Bool.or_false, Bool.false_or] at hq
      rw [hq]; rfl, by rw [hn0.out]; exact bw.out⟩
  · obtain ⟨f, hf⟩ : ∃ f, decide (num = 0 ∨ num = 1) = f := ⟨_, rfl⟩
    replace hf := hid hf
    replace hF := hid (show F = (f && (true && (z2 && (z3 && z4)))) from hf.out ▸ hF.out)
    replace hR := hid (show R = ((f && (true && (z2 && (z3 && z4)))) && decide (ll = 0)) by rw [hR.out, hF.out]; rfl)
    obtain ⟨c0, c1, c2, c3, c4, c5, cf⟩ := six K1.out
    go_wp2_with fail
    refine (hr.out _).mono ?_
    rintro e w2 ⟨rfl, b8⟩
    replace bw := hid (bw.out.trans (b8.mono (by rw [← hn0.out]; exact (hn0.out ▸ bw.out).size)))
    replace K1 := hid (K1.out.below b8 K1.out.lt)
    rw [show rkidsN 1 = 0 from rfl]
    clear b8
    clear c0 c1 c2 c3 c4 c5 cf
    obtain ⟨c0, c1, c2, c3, c4, c5, cf⟩ := six K1.out
    by_cases q : ll = 0
    · subst q
      rw [decide_eq_true rfl] at hR
      cases z2 with
      | false =>
        go_wp2_with fail
        go_ret
        exact ⟨by
          have hq := hR.out
          try simp only [Bool.and_true, Bool.true_and, Bool.false_and, Bool.and_false, Bool.or_true, Bool.true_or, Bool.or_false, Bool.false_or] at hq
          rw [hq]; rfl, by rw [hn0.out]; exact bw.out⟩
      | true =>
        cases z3 with
        | false =>
          go_wp2_with fail
          go_ret
          exact ⟨by
            have hq := hR.out
            try simp only [Bool.and_true, Bool.true_and, Bool.false_and, Bool.and_false, Bool.or_true, Bool.true_or, Bool.or_false, Bool.false_or] at hq
            rw [hq]; rfl, by rw [hn0.out]; exact bw.out⟩
        | true =>
          by_cases y4 : ln = 0
          · have e4 : z4 = true := by rw [← hz4.out]; exact decide_eq_true y4
            have y4i : ¬ 0 < ln := by omega
            subst e4
            by_cases q0 : num = 0
            · have hf2 : f = true := by rw [← hf.out]; simp [q0]
              have g0 : (num == 0) = true := by rw [q0]; rfl
              subst hf2
              clear h1 q0
              go_wp2_with fail
              go_ret
              exact ⟨by
                have hq := hR.out
                try simp only [Bool.and_true, Bool.true_and, Bool.false_and, Bool.and_false, Bool.or_true, Bool.true_or, Bool.or_false, Bool.false_or] at hq
                rw [hq]; rfl, by rw [hn0.out]; exact bw.out⟩
            · by_cases q1 : num = 1
              · have hf2 : f = true := by rw [← hf.out]; simp [q1]
                have g0 : (num == 0) = false := by rw [beq_eq_false_iff_ne]; exact q0
                have g1 : (num == 1) = true := by rw [q1]; rfl
                subst hf2
                clear h1 q0 q1
                go_wp2_with fail
                go_ret
                exact ⟨by
                  have hq := hR.out
                  try simp only [Bool.and_true, Bool.true_and, Bool.false_and, Bool.and_false, Bool.or_true, Bool.true_or, Bool.or_false, Bool.false_or] at hq
                  rw [hq]; rfl, by rw [hn0.out]; exact bw.out⟩
              · have hf2 : f = false := by rw [← hf.out]; simp [q0, q1]
                have g0 : (num == 0) = false := by rw [beq_eq_false_iff_ne]; exact q0
                have g1 : (num == 1) = false := by rw [beq_eq_false_iff_ne]; exact q1
                subst hf2
                clear h1 q0 q1
                go_wp2_with fail
                go_ret
                exact ⟨by
                  have hq := hR.out
                  try simp only [Bool.and_true, Bool.true_and, Bool.false_and, Bool.and_false, Bool.or_true, Bool.true_or, Bool.or_false, Bool.false_or] at hq
                  rw [hq]; rfl, by rw [hn0.out]; exact bw.out⟩
          · have e4 : z4 = false := by rw [← hz4.out]; exact decide_eq_false y4
            have y4i : 0 < ln := by omega
            subst e4
            go_wp2_with fail
            go_ret
            exact ⟨by
              have hq := hR.out
              try simp only [Bool.and_true, Bool.true_and, Bool.false_and, Bool.and_false, Bool.or_true, Bool.true_or, Bool.or_false, Bool.false_or] at hq
              rw [hq]; rfl, by rw [hn0.out]; exact bw.out⟩
    · have gl : ((ll : Int) == 0) = false := by rw [beq_eq_false_iff_ne]; omega
      rw [decide_eq_false q, Bool.and_false] at hR
      go_wp2_with fail
      go_ret
      exact ⟨by
        have hq := hR.out
        try simp only [Bool.and_true, Bool.true_and, Bool.false_and, Bool.and_false, Bool.or_true, Bool.true_or, Bool.or_false, Bool.false_or] at hq
        rw [hq]; rfl, by rw [hn0.out]; exact bw.out⟩
  · obtain ⟨f, hf⟩ : ∃ f, decide (0 ≤ num) = f := ⟨_, rfl⟩
    replace hf := hid hf
    replace hF := hid (show F = (f && (true && (z2 && (z3 && z4)))) from hf.out ▸ hF.out)
    replace hR := hid (show R = ((f && (true && (z2 && (z3 && z4)))) && decide (ll = 0)) by rw [hR.out, hF.out]; rfl)
    obtain ⟨c0, c1, c2, c3, c4, c5, cf⟩ := six K1.out
    go_wp2_with fail
    refine (hr.out _).mono ?_
    rintro e w2 ⟨rfl, b8⟩
    replace bw := hid (bw.out.trans (b8.mono (by rw [← hn0.out]; exact (hn0.out ▸ bw.out).size)))
    replace K1 := hid (K1.out.below b8 K1.out.lt)
    rw [show rkidsN 2 = 0 from rfl]
    clear b8
    clear c0 c1 c2 c3 c4 c5 cf
    obtain ⟨c0, c1, c2, c3, c4, c5, cf⟩ := six K1.out
    by_cases q : ll = 0
    · subst q
      rw [decide_eq_true rfl] at hR
      cases z2 with
      | false =>
        go_wp2_with fail
        go_ret
        exact ⟨by
          have hq := hR.out
          try simp only [Bool.and_true, Bool.true_and, Bool.false_and, Bool.and_false, Bool.or_true, Bool.true_or, Bool.or_false, Bool.false_or] at hq
          rw [hq]; rfl, by rw [hn0.out]; exact bw.out⟩
      | true =>
        cases z3 with
        | false =>
          go_wp2_with fail
          go_ret
          exact ⟨by
            have hq := hR.out
            try simp only [Bool.and_true, Bool.true_and, Bool.false_and, Bool.and_false, Bool.or_true, Bool.true_or, Bool.or_false, Bool.false_or] at hq
            rw [hq]; rfl, by rw [hn0.out]; exact bw.out⟩
        | true =>
          by_cases y4 : ln = 0
          · have e4 : z4 = true := by rw [← hz4.out]; exact decide_eq_true y4
            have y4i : ¬ 0 < ln := by omega
            subst e4
            by_cases q0 : 0 ≤ num
            · have hf2 : f = true := by rw [← hf.out]; exact decide_eq_true q0
              have g0 : decide (0 ≤ num) = true := decide_eq_true q0
              subst hf2
              go_wp2_with fail
              go_ret
              exact ⟨by
                have hq := hR.out
                try simp only [Bool.and_true, Bool.true_and, Bool.false_and, Bool.and_false, Bool.or_true, Bool.true_or, Bool.or_false, Bool.false_or] at hq
                rw [hq]; rfl, by rw [hn0.out]; exact bw.out⟩
            · have hf2 : f = false := by rw [← hf.out]; exact decide_eq_false q0
              have g0 : decide (0 ≤ num) = false := decide_eq_false q0
              subst hf2
              go_wp2_with fail
              go_ret
              exact ⟨by
                have hq := hR.out
                try simp only [Bool.and_true, Bool.true_and, Bool.false_and, Bool.and_false, Bool.or_true, Bool.true_or, Bool.or_false, Bool.false_or] at hq
                rw [hq]; rfl, by rw [hn0.out]; exact bw.out⟩
          · have e4 : z4 = false := by rw [← hz4.out]; exact decide_eq_false y4
            have y4i : 0 < ln := by omega
            subst e4
            go_wp2_with fail
            go_ret
            exact ⟨by
              have hq := hR.out
              try simp only [Bool.and_true, Bool.true_and, Bool.false_and, Bool.and_false, Bool.or_true, Bool.true_or, Bool.or_false, Bool.false_or] at hq
              rw [hq]; rfl, by rw [hn0.out]; exact bw.out⟩
    · have gl : ((ll : Int) == 0) = false := by rw [beq_eq_false_iff_ne]; omega
      rw [decide_eq_false q, Bool.and_false] at hR
      go_wp2_with fail
      go_ret
      exact ⟨by
        have hq := hR.out
        try simp only [Bool.and_true, Bool.true_and, Bool.false_and, Bool.and_false, Bool.or_true, Bool.true_or, Bool.or_false, Bool.false_or] at hq
        rw [hq]; rfl, by rw [hn0.out]; exact bw.out⟩
  · replace hF := hid (show F = (tB && (z1 && (true && (z3 && z4)))) from hF.out)
    replace hR := hid (show R = ((tB && (z1 && (true && (z3 && z4)))) && decide (ll = 0)) by rw [hR.out, hF.out]; rfl)
    obtain ⟨c0, c1, c2, c3, c4, c5, cf⟩ := six K1.out
    go_wp2_with fail
    refine (hr.out _).mono ?_
    rintro e w2 ⟨rfl, b8⟩
    replace bw := hid (bw.out.trans (b8.mono (by rw [← hn0.out]; exact (hn0.out ▸ bw.out).size)))
    replace K1 := hid (K1.out.below b8 K1.out.lt)
    rw [show rkidsN 3 = 0 from rfl]
    clear b8
    clear c0 c1 c2 c3 c4 c5 cf
    obtain ⟨c0, c1, c2, c3, c4, c5, cf⟩ := six K1.out
    by_cases q : ll = 0
    · subst q
      rw [decide_eq_true rfl] at hR
      by_cases y1 : num = 0
      · have e1 : z1 = true := by rw [← hz1.out]; exact decide_eq_true y1
        subst e1
        cases z3 with
        | false =>
          go_wp2_with fail
          go_ret
          exact ⟨by
            have hq := hR.out
            try simp only [Bool.and_true, Bool.true_and, Bool.false_and, Bool.and_false, Bool.or_true, Bool.true_or, Bool.or_false, Bool.false_or] at hq
            rw [hq]; rfl, by rw [hn0.out]; exact bw.out⟩
        | true =>
          by_cases y4 : ln = 0
          · have e4 : z4 = true := by rw [← hz4.out]; exact decide_eq_true y4
            have y4i : ¬ 0 < ln := by omega
            subst e4
            go_wp2_with fail
            refine (cT.out _ (by rw [hn0.out]; exact bw.out)).mono ?_
            rintro e w9 ⟨rfl, b8⟩
            replace bw := hid (bt (hn0.out ▸ bw.out) b8)
            rw [hn0.out] at bw
            clear b8
            cases tB
            all_goals
              go_wp2_with fail
              go_ret
              exact ⟨by
                have hq := hR.out
                try simp only [Bool.and_true, Bool.true_and, Bool.false_and, Bool.and_false, Bool.or_true, Bool.true_or, Bool.or_false, Bool.false_or] at hq
                rw [hq]; rfl, by rw [hn0.out]; exact bw.out⟩
          · have e4 : z4 = false := by rw [← hz4.out]; exact decide_eq_false y4
            have y4i : 0 < ln := by omega
            subst e4
            go_wp2_with fail
            go_ret
            exact ⟨by
              have hq := hR.out
              try simp only [Bool.and_true, Bool.true_and, Bool.false_and, Bool.and_false, Bool.or_true, Bool.true_or, Bool.or_false, Bool.false_or] at hq
              rw [hq]; rfl, by rw [hn0.out]; exact bw.out⟩
      · have e1 : z1 = false := by rw [← hz1.out]; exact decide_eq_false y1
        subst e1
        go_wp2_with fail
        go_ret
        exact ⟨by
          have hq := hR.out
          try simp only [Bool.and_true, Bool.true_and, Bool.false_and, Bool.and_false, Bool.or_true, Bool.true_or, Bool.or_false, Bool.false_or] at hq
          rw [hq]; rfl, by rw [hn0.out]; exact bw.out⟩
    · have gl : ((ll : Int) == 0) = false := by rw [beq_eq_false_iff_ne]; omega
      rw [decide_eq_false q, Bool.and_false] at hR
      go_wp2_with fail
      go_ret
      exact ⟨by
        have hq := hR.out
        try simp only [Bool.and_true, Bool.true_and, Bool.false_and, Bool.and_false, Bool.or_true, Bool.true_or, Bool.or_false, Bool.false_or] at hq
        rw [hq]; rfl, by rw [hn0.out]; exact bw.out⟩
  · replace hF := hid (show F = (uB && (z1 && (true && (true && z4)))) from hF.out)
    replace hR := hid (show R = ((uB && (z1 && (true && (true && z4)))) && decide (ll = 0)) by rw [hR.out, hF.out]; rfl)
    obtain ⟨c0, c1, c2, c3, c4, c5, cf⟩ := six K1.out
    go_wp2_with fail
    refine (hr.out _).mono ?_
    rintro e w2 ⟨rfl, b8⟩
    replace bw := hid (bw.out.trans (b8.mono (by rw [← hn0.out]; exact (hn0.out ▸ bw.out).size)))
    replace K1 := hid (K1.out.below b8 K1.out.lt)
    rw [show rkidsN 4 = 0 from rfl]
    clear b8
    clear c0 c1 c2 c3 c4 c5 cf
    obtain ⟨c0, c1, c2, c3, c4, c5, cf⟩ := six K1.out
    by_cases q : ll = 0
    · subst q
      rw [decide_eq_true rfl] at hR
      by_cases y1 : num = 0
      · have e1 : z1 = true := by rw [← hz1.out]; exact decide_eq_true y1
        subst e1
        by_cases y4 : ln = 0
        · have e4 : z4 = true := by rw [← hz4.out]; exact decide_eq_true y4
          have y4i : ¬ 0 < ln := by omega
          subst e4
          go_wp2_with fail
          refine (cU.out _ (by rw [hn0.out]; exact bw.out)).mono ?_
          rintro e w9 ⟨c, rfl, hc, b8⟩
          replace bw := hid (bt (hn0.out ▸ bw.out) b8)
          rw [hn0.out] at bw
          clear b8
          cases uB
          all_goals
            go_wp2_with fail
            go_ret
            exact ⟨by
              have hq := hR.out
              try simp only [Bool.and_true, Bool.true_and, Bool.false_and, Bool.and_false, Bool.or_true, Bool.true_or, Bool.or_false, Bool.false_or] at hq
              rw [hq]; rfl, by rw [hn0.out]; exact bw.out⟩
        · have e4 : z4 = false := by rw [← hz4.out]; exact decide_eq_false y4
          have y4i : 0 < ln := by omega
          subst e4
          go_wp2_with fail
          go_ret
          exact ⟨by
            have hq := hR.out
            try simp only [Bool.and_true, Bool.true_and, Bool.false_and, Bool.and_false, Bool.or_true, Bool.true_or, Bool.or_false, Bool.false_or] at hq
            rw [hq]; rfl, by rw [hn0.out]; exact bw.out⟩
      · have e1 : z1 = false := by rw [← hz1.out]; exact decide_eq_false y1
        subst e1
        go_wp2_with fail
        go_ret
        exact ⟨by
          have hq := hR.out
          try simp only [Bool.and_true, Bool.true_and, Bool.false_and, Bool.and_false, Bool.or_true, Bool.true_or, Bool.or_false, Bool.false_or] at hq
          rw [hq]; rfl, by rw [hn0.out]; exact bw.out⟩
    · have gl : ((ll : Int) == 0) = false := by rw [beq_eq_false_iff_ne]; omega
      rw [decide_eq_false q, Bool.and_false] at hR
      go_wp2_with fail
      go_ret
      exact ⟨by
        have hq := hR.out
        try simp only [Bool.and_true, Bool.true_and, Bool.false_and, Bool.and_false, Bool.or_true, Bool.true_or, Bool.or_false, Bool.false_or] at hq
        rw [hq]; rfl, by rw [hn0.out]; exact bw.out⟩
  · replace hF := hid (show F = (vB && (z1 && (true && (z3 && z4)))) from hF.out)
    replace hR := hid (show R = ((vB && (z1 && (true && (z3 && z4)))) && decide (ll = 0)) by rw [hR.out, hF.out]; rfl)
    obtain ⟨c0, c1, c2, c3, c4, c5, cf⟩ := six K1.out
    go_wp2_with fail
    refine (hr.out _).mono ?_
    rintro e w2 ⟨rfl, b8⟩
    replace bw := hid (bw.out.trans (b8.mono (by rw [← hn0.out]; exact (hn0.out ▸ bw.out).size)))
    replace K1 := hid (K1.out.below b8 K1.out.lt)
    rw [show rkidsN 5 = 0 from rfl]
    clear b8
    clear c0 c1 c2 c3 c4 c5 cf
    obtain ⟨c0, c1, c2, c3, c4, c5, cf⟩ := six K1.out
    by_cases q : ll = 0
    · subst q
      rw [decide_eq_true rfl] at hR
      by_cases y1 : num = 0
      · have e1 : z1 = true := by rw [← hz1.out]; exact decide_eq_true y1
        subst e1
        cases z3 with
        | false =>
          go_wp2_with fail
          go_ret
          exact ⟨by
            have hq := hR.out
            try simp only [Bool.and_true, Bool.true_and, Bool.false_and, Bool.and_false, Bool.or_true, Bool.true_or, Bool.or_false, Bool.false_or] at hq
            rw [hq]; rfl, by rw [hn0.out]; exact bw.out⟩
        | true =>
          by_cases y4 : ln = 0
          · have e4 : z4 = true := by rw [← hz4.out]; exact decide_eq_true y4
            have y4i : ¬ 0 < ln := by omega
            subst e4
            obtain ⟨p0, hp0⟩ : ∃ p, (s.toList == [112, 114, 105, 110, 99, 105, 112, 97, 108]) = p := ⟨_, rfl⟩
            obtain ⟨p1, hp1⟩ : ∃ p, (s.toList == [97, 99, 116, 105, 111, 110]) = p := ⟨_, rfl⟩
            obtain ⟨p2, hp2⟩ : ∃ p, (s.toList == [114, 101, 115, 111, 117, 114, 99, 101]) = p := ⟨_, rfl⟩
            obtain ⟨p3, hp3⟩ : ∃ p, (s.toList == [99, 111, 110, 116, 101, 120, 116]) = p := ⟨_, rfl⟩
            rw [hV.out, hp0, hp1, hp2, hp3] at hR
            cases p0 with
            | true =>
              go_wp2_with fail
              go_ret
              exact ⟨by
                have hq := hR.out
                try simp only [Bool.and_true, Bool.true_and, Bool.false_and, Bool.and_false, Bool.or_true, Bool.true_or, Bool.or_false, Bool.false_or] at hq
                rw [hq]; rfl, by rw [hn0.out]; exact bw.out⟩
            | false =>
              cases p1 with
              | true =>
                go_wp2_with fail
                go_ret
                exact ⟨by
                  have hq := hR.out
                  try simp only [Bool.and_true, Bool.true_and, Bool.false_and, Bool.and_false, Bool.or_true, Bool.true_or, Bool.or_false, Bool.false_or] at hq
                  rw [hq]; rfl, by rw [hn0.out]; exact bw.out⟩
              | false =>
                cases p2 with
                | true =>
                  go_wp2_with fail
                  go_ret
                  exact ⟨by
                    have hq := hR.out
                    try simp only [Bool.and_true, Bool.true_and, Bool.false_and, Bool.and_false, Bool.or_true, Bool.true_or, Bool.or_false, Bool.false_or] at hq
                    rw [hq]; rfl, by rw [hn0.out]; exact bw.out⟩
                | false =>
                  cases p3 with
                  | true =>
                    go_wp2_with fail
                    go_ret
                    exact ⟨by
                      have hq := hR.out
                      try simp only [Bool.and_true, Bool.true_and, Bool.false_and, Bool.and_false, Bool.or_true, Bool.true_or, Bool.or_false, Bool.false_or] at hq
                      rw [hq]; rfl, by rw [hn0.out]; exact bw.out⟩
                  | false =>
                    go_wp2_with fail
                    go_ret
                    exact ⟨by
                      have hq := hR.out
                      try simp only [Bool.and_true, Bool.true_and, Bool.false_and, Bool.and_false, Bool.or_true, Bool.true_or, Bool.or_false, Bool.false_or] at hq
                      rw [hq]; rfl, by rw [hn0.out]; exact bw.out⟩
          · have e4 : z4 = false := by rw [← hz4.out]; exact decide_eq_false y4
            have y4i : 0 < ln := by omega
            subst e4
            go_wp2_with fail
            go_ret
            exact ⟨by
              have hq := hR.out
              try simp only [Bool.and_true, Bool.true_and, Bool.false_and, Bool.and_false, Bool.or_true, Bool.true_or, Bool.or_false, Bool.false_or] at hq
              rw [hq]; rfl, by rw [hn0.out]; exact bw.out⟩
      · have e1 : z1 = false := by rw [← hz1.out]; exact decide_eq_false y1
        subst e1
        go_wp2_with fail
        go_ret
        exact ⟨by
          have hq := hR.out
          try simp only [Bool.and_true, Bool.true_and, Bool.false_and, Bool.and_false, Bool.or_true, Bool.true_or, Bool.or_false, Bool.false_or] at hq
          rw [hq]; rfl, by rw [hn0.out]; exact bw.out⟩
    · have gl : ((ll : Int) == 0) = false := by rw [beq_eq_false_iff_ne]; omega
      rw [decide_eq_false q, Bool.and_false] at hR
      go_wp2_with fail
      go_ret
      exact ⟨by
        have hq := hR.out
        try simp only [Bool.and_true, Bool.true_and, Bool.false_and, Bool.and_false, Bool.or_true, Bool.true_or, Bool.or_false, Bool.false_or] at hq
        rw [hq]; rfl, by rw [hn0.out]; exact bw.out⟩
  · replace hF := hid (show F = (z1 && (z2 && (z3 && z4))) from hF.out)
    replace hR := hid (show R = ((z1 && (z2 && (z3 && z4))) && decide (ll ≤ 16)) by rw [hR.out, hF.out]; rfl)
    obtain ⟨c0, c1, c2, c3, c4, c5, cf⟩ := six K1.out
    go_wp2_with fail
    refine (hr.out _).mono ?_
    rintro e w2 ⟨rfl, b8⟩
    replace bw := hid (bw.out.trans (b8.mono (by rw [← hn0.out]; exact (hn0.out ▸ bw.out).size)))
    replace K1 := hid (K1.out.below b8 K1.out.lt)
    rw [show rkidsN 6 = -1 from rfl]
    clear b8
    clear c0 c1 c2 c3 c4 c5 cf
    obtain ⟨c0, c1, c2, c3, c4, c5, cf⟩ := six K1.out
    by_cases q : ll ≤ 16
    · have gl : decide (16 < (ll : Int)) = false := decide_eq_false (by omega)
      rw [decide_eq_true q] at hR
      clear q
      by_cases y1 : num = 0
      · have e1 : z1 = true := by rw [← hz1.out]; exact decide_eq_true y1
        subst e1
        cases z2 with
        | false =>
          go_wp2_with fail
          go_ret
          exact ⟨by
            have hq := hR.out
            try simp only [Bool.and_true, Bool.true_and, Bool.false_and, Bool.and_false, Bool.or_true, Bool.true_or, Bool.or_false, Bool.false_or] at hq
            rw [hq]; rfl, by rw [hn0.out]; exact bw.out⟩
        | true =>
          cases z3 with
          | false =>
            go_wp2_with fail
            go_ret
            exact ⟨by
              have hq := hR.out
              try simp only [Bool.and_true, Bool.true_and, Bool.false_and, Bool.and_false, Bool.or_true, Bool.true_or, Bool.or_false, Bool.false_or] at hq
              rw [hq]; rfl, by rw [hn0.out]; exact bw.out⟩
          | true =>
            by_cases y4 : ln = 0
            · have e4 : z4 = true := by rw [← hz4.out]; exact decide_eq_true y4
              have y4i : ¬ 0 < ln := by omega
              subst e4
              go_wp2_with fail
              go_ret
              exact ⟨by
                have hq := hR.out
                try simp only [Bool.and_true, Bool.true_and, Bool.false_and, Bool.and_false, Bool.or_true, Bool.true_or, Bool.or_false, Bool.false_or] at hq
                rw [hq]; rfl, by rw [hn0.out]; exact bw.out⟩
            · have e4 : z4 = false := by rw [← hz4.out]; exact decide_eq_false y4
              have y4i : 0 < ln := by omega
              subst e4
              go_wp2_with fail
              go_ret
              exact ⟨by
                have hq := hR.out
                try simp only [Bool.and_true, Bool.true_and, Bool.false_and, Bool.and_false, Bool.or_true, Bool.true_or, Bool.or_false, Bool.false_or] at hq
                rw [hq]; rfl, by rw [hn0.out]; exact bw.out⟩
      · have e1 : z1 = false := by rw [← hz1.out]; exact decide_eq_false y1
        subst e1
        go_wp2_with fail
        go_ret
        exact ⟨by
          have hq := hR.out
          try simp only [Bool.and_true, Bool.true_and, Bool.false_and, Bool.and_false, Bool.or_true, Bool.true_or, Bool.or_false, Bool.false_or] at hq
          rw [hq]; rfl, by rw [hn0.out]; exact bw.out⟩
    · have gl : decide (16 < (ll : Int)) = true := decide_eq_true (by omega)
      rw [decide_eq_false q, Bool.and_false] at hR
      clear q
      go_wp2_with fail
      go_ret
      exact ⟨by
        have hq := hR.out
        try simp only [Bool.and_true, Bool.true_and, Bool.false_and, Bool.and_false, Bool.or_true, Bool.true_or, Bool.or_false, Bool.false_or] at hq
        rw [hq]; rfl, by rw [hn0.out]; exact bw.out⟩
  · replace hF := hid (show F = ((decide (ln = ll) && nB) && (z1 && (z2 && (z3 && true)))) from hF.out)
    replace hR := hid (show R = (((decide (ln = ll) && nB) && (z1 && (z2 && (z3 && true)))) && decide (ll ≤ 16)) by rw [hR.out, hF.out]; rfl)
    obtain ⟨c0, c1, c2, c3, c4, c5, cf⟩ := six K1.out
    go_wp2_with fail
    refine (hr.out _).mono ?_
    rintro e w2 ⟨rfl, b8⟩
    replace bw := hid (bw.out.trans (b8.mono (by rw [← hn0.out]; exact (hn0.out ▸ bw.out).size)))
    replace K1 := hid (K1.out.below b8 K1.out.lt)
    rw [show rkidsN 7 = -1 from rfl]
    clear b8
    clear c0 c1 c2 c3 c4 c5 cf
    obtain ⟨c0, c1, c2, c3, c4, c5, cf⟩ := six K1.out
    by_cases q : ll ≤ 16
    · have gl : decide (16 < (ll : Int)) = false := decide_eq_false (by omega)
      rw [decide_eq_true q] at hR
      clear q
      by_cases y1 : num = 0
      · have e1 : z1 = true := by rw [← hz1.out]; exact decide_eq_true y1
        subst e1
        cases z2 with
        | false =>
          go_wp2_with fail
          go_ret
          exact ⟨by
            have hq := hR.out
            try simp only [Bool.and_true, Bool.true_and, Bool.false_and, Bool.and_false, Bool.or_true, Bool.true_or, Bool.or_false, Bool.false_or] at hq
            rw [hq]; rfl, by rw [hn0.out]; exact bw.out⟩
        | true =>
          cases z3 with
          | false =>
            go_wp2_with fail
            go_ret
            exact ⟨by
              have hq := hR.out
              try simp only [Bool.and_true, Bool.true_and, Bool.false_and, Bool.and_false, Bool.or_true, Bool.true_or, Bool.or_false, Bool.false_or] at hq
              rw [hq]; rfl, by rw [hn0.out]; exact bw.out⟩
          | true =>
            by_cases q0 : ln = ll
            · have g0 : ((ln : Int) == (ll : Int)) = true := by rw [q0, beq_self_eq_true]
              rw [decide_eq_true q0] at hR
              clear q0
              go_wp2_with fail
              refine (cN.out _ (by rw [hn0.out]; exact bw.out)).mono ?_
              rintro e w9 ⟨rfl, b8⟩
              replace bw := hid (bt (hn0.out ▸ bw.out) b8)
              rw [hn0.out] at bw
              clear b8
              cases nB
              all_goals
                go_wp2_with fail
                go_ret
                exact ⟨by
                  have hq := hR.out
                  try simp only [Bool.and_true, Bool.true_and, Bool.false_and, Bool.and_false, Bool.or_true, Bool.true_or, Bool.or_false, Bool.false_or] at hq
                  rw [hq]; rfl, by rw [hn0.out]; exact bw.out⟩
            · have g0 : ((ln : Int) == (ll : Int)) = false := by rw [beq_num]; exact decide_eq_false q0
              rw [decide_eq_false q0] at hR
              clear q0
              go_wp2_with fail
              go_ret
              exact ⟨by
                have hq := hR.out
                try simp only [Bool.and_true, Bool.true_and, Bool.false_and, Bool.and_false, Bool.or_true, Bool.true_or, Bool.or_false, Bool.false_or] at hq
                rw [hq]; rfl, by rw [hn0.out]; exact bw.out⟩
      · have e1 : z1 = false := by rw [← hz1.out]; exact decide_eq_false y1
        subst e1
        go_wp2_with fail
        go_ret
        exact ⟨by
          have hq := hR.out
          try simp only [Bool.and_true, Bool.true_and, Bool.false_and, Bool.and_false, Bool.or_true, Bool.true_or, Bool.or_false, Bool.false_or] at hq
          rw [hq]; rfl, by rw [hn0.out]; exact bw.out⟩
    · have gl : decide (16 < (ll : Int)) = true := decide_eq_true (by omega)
      rw [decide_eq_false q, Bool.and_false] at hR
      clear q
      go_wp2_with fail
      go_ret
      exact ⟨by
        have hq := hR.out
        try simp only [Bool.and_true, Bool.true_and, Bool.false_and, Bool.and_false, Bool.or_true, Bool.true_or, Bool.or_false, Bool.false_or] at hq
        rw [hq]; rfl, by rw [hn0.out]; exact bw.out⟩
  · replace hF := hid (show F = (mB && (z1 && (true && (z3 && z4)))) from hF.out)
    replace hR := hid (show R = ((mB && (z1 && (true && (z3 && z4)))) && decide (ll = 1)) by rw [hR.out, hF.out]; rfl)
    obtain ⟨c0, c1, c2, c3, c4, c5, cf⟩ := six K1.out
    go_wp2_with fail
    refine (hr.out _).mono ?_
    rintro e w2 ⟨rfl, b8⟩
    replace bw := hid (bw.out.trans (b8.mono (by rw [← hn0.out]; exact (hn0.out ▸ bw.out).size)))
    replace K1 := hid (K1.out.below b8 K1.out.lt)
    rw [show rkidsN 8 = 1 from rfl]
    clear b8
    clear c0 c1 c2 c3 c4 c5 cf
    obtain ⟨c0, c1, c2, c3, c4, c5, cf⟩ := six K1.out
    by_cases q : ll = 1
    · subst q
      rw [decide_eq_true rfl] at hR
      by_cases y1 : num = 0
      · have e1 : z1 = true := by rw [← hz1.out]; exact decide_eq_true y1
        subst e1
        cases z3 with
        | false =>
          go_wp2_with fail
          go_ret
          exact ⟨by
            have hq := hR.out
            try simp only [Bool.and_true, Bool.true_and, Bool.false_and, Bool.and_false, Bool.or_true, Bool.true_or, Bool.or_false, Bool.false_or] at hq
            rw [hq]; rfl, by rw [hn0.out]; exact bw.out⟩
        | true =>
          by_cases y4 : ln = 0
          · have e4 : z4 = true := by rw [← hz4.out]; exact decide_eq_true y4
            have y4i : ¬ 0 < ln := by omega
            subst e4
            go_wp2_with fail
            refine (cM.out _ (by rw [hn0.out]; exact bw.out)).mono ?_
            rintro e w9 ⟨rfl, b8⟩
            replace bw := hid (bt (hn0.out ▸ bw.out) b8)
            rw [hn0.out] at bw
            clear b8
            cases mB
            all_goals
              go_wp2_with fail
              go_ret
              exact ⟨by
                have hq := hR.out
                try simp only [Bool.and_true, Bool.true_and, Bool.false_and, Bool.and_false, Bool.or_true, Bool.true_or, Bool.or_false, Bool.false_or] at hq
                rw [hq]; rfl, by rw [hn0.out]; exact bw.out⟩
          · have e4 : z4 = false := by rw [← hz4.out]; exact decide_eq_false y4
            have y4i : 0 < ln := by omega
            subst e4
            go_wp2_with fail
            go_ret
            exact ⟨by
              have hq := hR.out
              try simp only [Bool.and_true, Bool.true_and, Bool.false_and, Bool.and_false, Bool.or_true, Bool.true_or, Bool.or_false, Bool.false_or] at hq
              rw [hq]; rfl, by rw [hn0.out]; exact bw.out⟩
      · have e1 : z1 = false := by rw [← hz1.out]; exact decide_eq_false y1
        subst e1
        go_wp2_with fail
        go_ret
        exact ⟨by
          have hq := hR.out
          try simp only [Bool.and_true, Bool.true_and, Bool.false_and, Bool.and_false, Bool.or_true, Bool.true_or, Bool.or_false, Bool.false_or] at hq
          rw [hq]; rfl, by rw [hn0.out]; exact bw.out⟩
    · have gl : ((ll : Int) == 1) = false := by rw [beq_eq_false_iff_ne]; omega
      rw [decide_eq_false q, Bool.and_false] at hR
      go_wp2_with fail
      go_ret
      exact ⟨by
        have hq := hR.out
        try simp only [Bool.and_true, Bool.true_and, Bool.false_and, Bool.and_false, Bool.or_true, Bool.true_or, Bool.or_false, Bool.false_or] at hq
        rw [hq]; rfl, by rw [hn0.out]; exact bw.out⟩
  · replace hF := hid (show F = (mB && (z1 && (true && (z3 && z4)))) from hF.out)
    replace hR := hid (show R = ((mB && (z1 && (true && (z3 && z4)))) && decide (ll = 1)) by rw [hR.out, hF.out]; rfl)
    obtain ⟨c0, c1, c2, c3, c4, c5, cf⟩ := six K1.out
    go_wp2_with fail
    refine (hr.out _).mono ?_
    rintro e w2 ⟨rfl, b8⟩
    replace bw := hid (bw.out.trans (b8.mono (by rw [← hn0.out]; exact (hn0.out ▸ bw.out).size)))
    replace K1 := hid (K1.out.below b8 K1.out.lt)
    rw [show rkidsN 9 = 1 from rfl]
    clear b8
    clear c0 c1 c2 c3 c4 c5 cf
    obtain ⟨c0, c1, c2, c3, c4, c5, cf⟩ := six K1.out
    by_cases q : ll = 1
    · subst q
      rw [decide_eq_true rfl] at hR
      by_cases y1 : num = 0
      · have e1 : z1 = true := by rw [← hz1.out]; exact decide_eq_true y1
        subst e1
        cases z3 with
        | false =>
          go_wp2_with fail
          go_ret
          exact ⟨by
            have hq := hR.out
            try simp only [Bool.and_true, Bool.true_and, Bool.false_and, Bool.and_false, Bool.or_true, Bool.true_or, Bool.or_false, Bool.false_or] at hq
            rw [hq]; rfl, by rw [hn0.out]; exact bw.out⟩
        | true =>
          by_cases y4 : ln = 0
          · have e4 : z4 = true := by rw [← hz4.out]; exact decide_eq_true y4
            have y4i : ¬ 0 < ln := by omega
            subst e4
            go_wp2_with fail
            refine (cM.out _ (by rw [hn0.out]; exact bw.out)).mono ?_
            rintro e w9 ⟨rfl, b8⟩
            replace bw := hid (bt (hn0.out ▸ bw.out) b8)
            rw [hn0.out] at bw
            clear b8
            cases mB
            all_goals
              go_wp2_with fail
              go_ret
              exact ⟨by
                have hq := hR.out
                try simp only [Bool.and_true, Bool.true_and, Bool.false_and, Bool.and_false, Bool.or_true, Bool.true_or, Bool.or_false, Bool.false_or] at hq
                rw [hq]; rfl, by rw [hn0.out]; exact bw.out⟩
          · have e4 : z4 = false := by rw [← hz4.out]; exact decide_eq_false y4
            have y4i : 0 < ln := by omega
            subst e4
            go_wp2_with fail
            go_ret
            exact ⟨by
              have hq := hR.out
              try simp only [Bool.and_true, Bool.true_and, Bool.false_and, Bool.and_false, Bool.or_true, Bool.true_or, Bool.or_false, Bool.false_or] at hq
              rw [hq]; rfl, by rw [hn0.out]; exact bw.out⟩
      · have e1 : z1 = false := by rw [← hz1.out]; exact decide_eq_false y1
        subst e1
        go_wp2_with fail
        go_ret
        exact ⟨by
          have hq := hR.out
          try simp only [Bool.and_true, Bool.true_and, Bool.false_and, Bool.and_false, Bool.or_true, Bool.true_or, Bool.or_false, Bool.false_or] at hq
          rw [hq]; rfl, by rw [hn0.out]; exact bw.out⟩
    · have gl : ((ll : Int) == 1) = false := by rw [beq_eq_false_iff_ne]; omega
      rw [decide_eq_false q, Bool.and_false] at hR
      go_wp2_with fail
      go_ret
      exact ⟨by
        have hq := hR.out
        try simp only [Bool.and_true, Bool.true_and, Bool.false_and, Bool.and_false, Bool.or_true, Bool.true_or, Bool.or_false, Bool.false_or] at hq
        rw [hq]; rfl, by rw [hn0.out]; exact bw.out⟩
  · replace hF := hid (show F = (yB && (z1 && (z2 && (true && z4)))) from hF.out)
    replace hR := hid (show R = ((yB && (z1 && (z2 && (true && z4)))) && decide (ll = 1)) by rw [hR.out, hF.out]; rfl)
    obtain ⟨c0, c1, c2, c3, c4, c5, cf⟩ := six K1.out
    go_wp2_with fail
    refine (hr.out _).mono ?_
    rintro e w2 ⟨rfl, b8⟩
    replace bw := hid (bw.out.trans (b8.mono (by rw [← hn0.out]; exact (hn0.out ▸ bw.out).size)))
    replace K1 := hid (K1.out.below b8 K1.out.lt)
    rw [show rkidsN 10 = 1 from rfl]
    clear b8
    clear c0 c1 c2 c3 c4 c5 cf
    obtain ⟨c0, c1, c2, c3, c4, c5, cf⟩ := six K1.out
    by_cases q : ll = 1
    · subst q
      rw [decide_eq_true rfl] at hR
      by_cases y1 : num = 0
      · have e1 : z1 = true := by rw [← hz1.out]; exact decide_eq_true y1
        subst e1
        cases z2 with
        | false =>
          go_wp2_with fail
          go_ret
          exact ⟨by
            have hq := hR.out
            try simp only [Bool.and_true, Bool.true_and, Bool.false_and, Bool.and_false, Bool.or_true, Bool.true_or, Bool.or_false, Bool.false_or] at hq
            rw [hq]; rfl, by rw [hn0.out]; exact bw.out⟩
        | true =>
          by_cases y4 : ln = 0
          · have e4 : z4 = true := by rw [← hz4.out]; exact decide_eq_true y4
            have y4i : ¬ 0 < ln := by omega
            subst e4
            go_wp2_with fail
            refine (cY.out _ (by rw [hn0.out]; exact bw.out)).mono ?_
            rintro e w9 ⟨rfl, b8⟩
            replace bw := hid (bt (hn0.out ▸ bw.out) b8)
            rw [hn0.out] at bw
            clear b8
            cases yB
            all_goals
              go_wp2_with fail
              go_ret
              exact ⟨by
                have hq := hR.out
                try simp only [Bool.and_true, Bool.true_and, Bool.false_and, Bool.and_false, Bool.or_true, Bool.true_or, Bool.or_false, Bool.false_or] at hq
                rw [hq]; rfl, by rw [hn0.out]; exact bw.out⟩
          · have e4 : z4 = false := by rw [← hz4.out]; exact decide_eq_false y4
            have y4i : 0 < ln := by omega
            subst e4
            go_wp2_with fail
            go_ret
            exact ⟨by
              have hq := hR.out
              try simp only [Bool.and_true, Bool.true_and, Bool.false_and, Bool.and_false, Bool.or_true, Bool.true_or, Bool.or_false, Bool.false_or] at hq
              rw [hq]; rfl, by rw [hn0.out]; exact bw.out⟩
      · have e1 : z1 = false := by rw [← hz1.out]; exact decide_eq_false y1
        subst e1
        go_wp2_with fail
        go_ret
        exact ⟨by
          have hq := hR.out
          try simp only [Bool.and_true, Bool.true_and, Bool.false_and, Bool.and_false, Bool.or_true, Bool.true_or, Bool.or_false, Bool.false_or] at hq
          rw [hq]; rfl, by rw [hn0.out]; exact bw.out⟩
    · have gl : ((ll : Int) == 1) = false := by rw [beq_eq_false_iff_ne]; omega
      rw [decide_eq_false q, Bool.and_false] at hR
      go_wp2_with fail
      go_ret
      exact ⟨by
        have hq := hR.out
        try simp only [Bool.and_true, Bool.true_and, Bool.false_and, Bool.and_false, Bool.or_true, Bool.true_or, Bool.or_false, Bool.false_or] at hq
        rw [hq]; rfl, by rw [hn0.out]; exact bw.out⟩
  · replace hF := hid (show F = (tB && (z1 && (true && (z3 && z4)))) from hF.out)
    replace hR := hid (show R = ((tB && (z1 && (true && (z3 && z4)))) && decide (ll = 1)) by rw [hR.out, hF.out]; rfl)
    obtain ⟨c0, c1, c2, c3, c4, c5, cf⟩ := six K1.out
    go_wp2_with fail
    refine (hr.out _).mono ?_
    rintro e w2 ⟨rfl, b8⟩
    replace bw := hid (bw.out.trans (b8.mono (by rw [← hn0.out]; exact (hn0.out ▸ bw.out).size)))
    replace K1 := hid (K1.out.below b8 K1.out.lt)
    rw [show rkidsN 11 = 1 from rfl]
    clear b8
    clear c0 c1 c2 c3 c4 c5 cf
    obtain ⟨c0, c1, c2, c3, c4, c5, cf⟩ := six K1.out
    by_cases q : ll = 1
    · subst q
      rw [decide_eq_true rfl] at hR
      by_cases y1 : num = 0
      · have e1 : z1 = true := by rw [← hz1.out]; exact decide_eq_true y1
        subst e1
        cases z3 with
        | false =>
          go_wp2_with fail
          go_ret
          exact ⟨by
            have hq := hR.out
            try simp only [Bool.and_true, Bool.true_and, Bool.false_and, Bool.and_false, Bool.or_true, Bool.true_or, Bool.or_false, Bool.false_or] at hq
            rw [hq]; rfl, by rw [hn0.out]; exact bw.out⟩
        | true =>
          by_cases y4 : ln = 0
          · have e4 : z4 = true := by rw [← hz4.out]; exact decide_eq_true y4
            have y4i : ¬ 0 < ln := by omega
            subst e4
            go_wp2_with fail
            refine (cT.out _ (by rw [hn0.out]; exact bw.out)).mono ?_
            rintro e w9 ⟨rfl, b8⟩
            replace bw := hid (bt (hn0.out ▸ bw.out) b8)
            rw [hn0.out] at bw
            clear b8
            cases tB
            all_goals
              go_wp2_with fail
              go_ret
              exact ⟨by
                have hq := hR.out
                try simp only [Bool.and_true, Bool.true_and, Bool.false_and, Bool.and_false, Bool.or_true, Bool.true_or, Bool.or_false, Bool.false_or] at hq
                rw [hq]; rfl, by rw [hn0.out]; exact bw.out⟩
          · have e4 : z4 = false := by rw [← hz4.out]; exact decide_eq_false y4
            have y4i : 0 < ln := by omega
            subst e4
            go_wp2_with fail
            go_ret
            exact ⟨by
              have hq := hR.out
              try simp only [Bool.and_true, Bool.true_and, Bool.false_and, Bool.and_false, Bool.or_true, Bool.true_or, Bool.or_false, Bool.false_or] at hq
              rw [hq]; rfl, by rw [hn0.out]; exact bw.out⟩
      · have e1 : z1 = false := by rw [← hz1.out]; exact decide_eq_false y1
        subst e1
        go_wp2_with fail
        go_ret
        exact ⟨by
          have hq := hR.out
          try simp only [Bool.and_true, Bool.true_and, Bool.false_and, Bool.and_false, Bool.or_true, Bool.true_or, Bool.or_false, Bool.false_or] at hq
          rw [hq]; rfl, by rw [hn0.out]; exact bw.out⟩
    · have gl : ((ll : Int) == 1) = false := by rw [beq_eq_false_iff_ne]; omega
      rw [decide_eq_false q, Bool.and_false] at hR
      go_wp2_with fail
      go_ret
      exact ⟨by
        have hq := hR.out
        try simp only [Bool.and_true, Bool.true_and, Bool.false_and, Bool.and_false, Bool.or_true, Bool.true_or, Bool.or_false, Bool.false_or] at hq
        rw [hq]; rfl, by rw [hn0.out]; exact bw.out⟩
  · replace hF := hid (show F = (z1 && (z2 && (z3 && z4))) from hF.out)
    replace hR := hid (show R = ((z1 && (z2 && (z3 && z4))) && decide (ll = 1)) by rw [hR.out, hF.out]; rfl)
    obtain ⟨c0, c1, c2, c3, c4, c5, cf⟩ := six K1.out
    go_wp2_with fail
    refine (hr.out _).mono ?_
    rintro e w2 ⟨rfl, b8⟩
    replace bw := hid (bw.out.trans (b8.mono (by rw [← hn0.out]; exact (hn0.out ▸ bw.out).size)))
    replace K1 := hid (K1.out.below b8 K1.out.lt)
    rw [show rkidsN 12 = 1 from rfl]
    clear b8
    clear c0 c1 c2 c3 c4 c5 cf
    obtain ⟨c0, c1, c2, c3, c4, c5, cf⟩ := six K1.out
    by_cases q : ll = 1
    · subst q
      rw [decide_eq_true rfl] at hR
      by_cases y1 : num = 0
      · have e1 : z1 = true := by rw [← hz1.out]; exact decide_eq_true y1
        subst e1
        cases z2 with
        | false =>
          go_wp2_with fail
          go_ret
          exact ⟨by
            have hq := hR.out
            try simp only [Bool.and_true, Bool.true_and, Bool.false_and, Bool.and_false, Bool.or_true, Bool.true_or, Bool.or_false, Bool.false_or] at hq
            rw [hq]; rfl, by rw [hn0.out]; exact bw.out⟩
        | true =>
          cases z3 with
          | false =>
            go_wp2_with fail
            go_ret
            exact ⟨by
              have hq := hR.out
              try simp only [Bool.and_true, Bool.true_and, Bool.false_and, Bool.and_false, Bool.or_true, Bool.true_or, Bool.or_false, Bool.false_or] at hq
              rw [hq]; rfl, by rw [hn0.out]; exact bw.out⟩
          | true =>
            by_cases y4 : ln = 0
            · have e4 : z4 = true := by rw [← hz4.out]; exact decide_eq_true y4
              have y4i : ¬ 0 < ln := by omega
              subst e4
              go_wp2_with fail
              go_ret
              exact ⟨by
                have hq := hR.out
                try simp only [Bool.and_true, Bool.true_and, Bool.false_and, Bool.and_false, Bool.or_true, Bool.true_or, Bool.or_false, Bool.false_or] at hq
                rw [hq]; rfl, by rw [hn0.out]; exact bw.out⟩
            · have e4 : z4 = false := by rw [← hz4.out]; exact decide_eq_false y4
              have y4i : 0 < ln := by omega
              subst e4
              go_wp2_with fail
              go_ret
              exact ⟨by
                have hq := hR.out
                try simp only [Bool.and_true, Bool.true_and, Bool.false_and, Bool.and_false, Bool.or_true, Bool.true_or, Bool.or_false, Bool.false_or] at hq
                rw [hq]; rfl, by rw [hn0.out]; exact bw.out⟩
      · have e1 : z1 = false := by rw [← hz1.out]; exact decide_eq_false y1
        subst e1
        go_wp2_with fail
        go_ret
        exact ⟨by
          have hq := hR.out
          try simp only [Bool.and_true, Bool.true_and, Bool.false_and, Bool.and_false, Bool.or_true, Bool.true_or, Bool.or_false, Bool.false_or] at hq
          rw [hq]; rfl, by rw [hn0.out]; exact bw.out⟩
    · have gl : ((ll : Int) == 1) = false := by rw [beq_eq_false_iff_ne]; omega
      rw [decide_eq_false q, Bool.and_false] at hR
      go_wp2_with fail
      go_ret
      exact ⟨by
        have hq := hR.out
        try simp only [Bool.and_true, Bool.true_and, Bool.false_and, Bool.and_false, Bool.or_true, Bool.true_or, Bool.or_false, Bool.false_or] at hq
        rw [hq]; rfl, by rw [hn0.out]; exact bw.out⟩
  · replace hF := hid (show F = (z1 && (z2 && (z3 && z4))) from hF.out)
    replace hR := hid (show R = ((z1 && (z2 && (z3 && z4))) && decide (ll = 1)) by rw [hR.out, hF.out]; rfl)
    obtain ⟨c0, c1, c2, c3, c4, c5, cf⟩ := six K1.out
    go_wp2_with fail
    refine (hr.out _).mono ?_
    rintro e w2 ⟨rfl, b8⟩
    replace bw := hid (bw.out.trans (b8.mono (by rw [← hn0.out]; exact (hn0.out ▸ bw.out).size)))
    replace K1 := hid (K1.out.below b8 K1.out.lt)
    rw [show rkidsN 13 = 1 from rfl]
    clear b8
    clear c0 c1 c2 c3 c4 c5 cf
    obtain ⟨c0, c1, c2, c3, c4, c5, cf⟩ := six K1.out
    by_cases q : ll = 1
    · subst q
      rw [decide_eq_true rfl] at hR
      by_cases y1 : num = 0
      · have e1 : z1 = true := by rw [← hz1.out]; exact decide_eq_true y1
        subst e1
        cases z2 with
        | false =>
          go_wp2_with fail
          go_ret
          exact ⟨by
            have hq := hR.out
            try simp only [Bool.and_true, Bool.true_and, Bool.false_and, Bool.and_false, Bool.or_true, Bool.true_or, Bool.or_false, Bool.false_or] at hq
            rw [hq]; rfl, by rw [hn0.out]; exact bw.out⟩
        | true =>
          cases z3 with
          | false =>
            go_wp2_with fail
            go_ret
            exact ⟨by
              have hq := hR.out
              try simp only [Bool.and_true, Bool.true_and, Bool.false_and, Bool.and_false, Bool.or_true, Bool.true_or, Bool.or_false, Bool.false_or] at hq
              rw [hq]; rfl, by rw [hn0.out]; exact bw.out⟩
          | true =>
            by_cases y4 : ln = 0
            · have e4 : z4 = true := by rw [← hz4.out]; exact decide_eq_true y4
              have y4i : ¬ 0 < ln := by omega
              subst e4
              go_wp2_with fail
              go_ret
              exact ⟨by
                have hq := hR.out
                try simp only [Bool.and_true, Bool.true_and, Bool.false_and, Bool.and_false, Bool.or_true, Bool.true_or, Bool.or_false, Bool.false_or] at hq
                rw [hq]; rfl, by rw [hn0.out]; exact bw.out⟩
            · have e4 : z4 = false := by rw [← hz4.out]; exact decide_eq_false y4
              have y4i : 0 < ln := by omega
              subst e4
              go_wp2_with fail
              go_ret
              exact ⟨by
                have hq := hR.out
                try simp only [Bool.and_true, Bool.true_and, Bool.false_and, Bool.and_false, Bool.or_true, Bool.true_or, Bool.or_false, Bool.false_or] at hq
                rw [hq]; rfl, by rw [hn0.out]; exact bw.out⟩
      · have e1 : z1 = false := by rw [← hz1.out]; exact decide_eq_false y1
        subst e1
        go_wp2_with fail
        go_ret
        exact ⟨by
          have hq := hR.out
          try simp only [Bool.and_true, Bool.true_and, Bool.false_and, Bool.and_false, Bool.or_true, Bool.true_or, Bool.or_false, Bool.false_or] at hq
          rw [hq]; rfl, by rw [hn0.out]; exact bw.out⟩
    · have gl : ((ll : Int) == 1) = false := by rw [beq_eq_false_iff_ne]; omega
      rw [decide_eq_false q, Bool.and_false] at hR
      go_wp2_with fail
      go_ret
      exact ⟨by
        have hq := hR.out
        try simp only [Bool.and_true, Bool.true_and, Bool.false_and, Bool.and_false, Bool.or_true, Bool.true_or, Bool.or_false, Bool.false_or] at hq
        rw [hq]; rfl, by rw [hn0.out]; exact bw.out⟩
  · replace hF := hid (show F = (z1 && (z2 && (z3 && z4))) from hF.out)
    replace hR := hid (show R = ((z1 && (z2 && (z3 && z4))) && decide (ll = 3)) by rw [hR.out, hF.out]; rfl)
    obtain ⟨c0, c1, c2, c3, c4, c5, cf⟩ := six K1.out
    go_wp2_with fail
    refine (hr.out _).mono ?_
    rintro e w2 ⟨rfl, b8⟩
    replace bw := hid (bw.out.trans (b8.mono (by rw [← hn0.out]; exact (hn0.out ▸ bw.out).size)))
    replace K1 := hid (K1.out.below b8 K1.out.lt)
    rw [show rkidsN 14 = 3 from rfl]
    clear b8
    clear c0 c1 c2 c3 c4 c5 cf
    obtain ⟨c0, c1, c2, c3, c4, c5, cf⟩ := six K1.out
    by_cases q : ll = 3
    · subst q
      rw [decide_eq_true rfl] at hR
      by_cases y1 : num = 0
      · have e1 : z1 = true := by rw [← hz1.out]; exact decide_eq_true y1
        subst e1
        cases z2 with
        | false =>
          go_wp2_with fail
          go_ret
          exact ⟨by
            have hq := hR.out
            try simp only [Bool.and_true, Bool.true_and, Bool.false_and, Bool.and_false, Bool.or_true, Bool.true_or, Bool.or_false, Bool.false_or] at hq
            rw [hq]; rfl, by rw [hn0.out]; exact bw.out⟩
        | true =>
          cases z3 with
          | false =>
            go_wp2_with fail
            go_ret
            exact ⟨by
              have hq := hR.out
              try simp only [Bool.and_true, Bool.true_and, Bool.false_and, Bool.and_false, Bool.or_true, Bool.true_or, Bool.or_false, Bool.false_or] at hq
              rw [hq]; rfl, by rw [hn0.out]; exact bw.out⟩
          | true =>
            by_cases y4 : ln = 0
            · have e4 : z4 = true := by rw [← hz4.out]; exact decide_eq_true y4
              have y4i : ¬ 0 < ln := by omega
              subst e4
              go_wp2_with fail
              go_ret
              exact ⟨by
                have hq := hR.out
                try simp only [Bool.and_true, Bool.true_and, Bool.false_and, Bool.and_false, Bool.or_true, Bool.true_or, Bool.or_false, Bool.false_or] at hq
                rw [hq]; rfl, by rw [hn0.out]; exact bw.out⟩
            · have e4 : z4 = false := by rw [← hz4.out]; exact decide_eq_false y4
              have y4i : 0 < ln := by omega
              subst e4
              go_wp2_with fail
              go_ret
              exact ⟨by
                have hq := hR.out
                try simp only [Bool.and_true, Bool.true_and, Bool.false_and, Bool.and_false, Bool.or_true, Bool.true_or, Bool.or_false, Bool.false_or] at hq
                rw [hq]; rfl, by rw [hn0.out]; exact bw.out⟩
      · have e1 : z1 = false := by rw [← hz1.out]; exact decide_eq_false y1
        subst e1
        go_wp2_with fail
        go_ret
        exact ⟨by
          have hq := hR.out
          try simp only [Bool.and_true, Bool.true_and, Bool.false_and, Bool.and_false, Bool.or_true, Bool.true_or, Bool.or_false, Bool.false_or] at hq
          rw [hq]; rfl, by rw [hn0.out]; exact bw.out⟩
    · have gl : ((ll : Int) == 3) = false := by rw [beq_eq_false_iff_ne]; omega
      rw [decide_eq_false q, Bool.and_false] at hR
      go_wp2_with fail
      go_ret
      exact ⟨by
        have hq := hR.out
        try simp only [Bool.and_true, Bool.true_and, Bool.false_and, Bool.and_false, Bool.or_true, Bool.true_or, Bool.or_false, Bool.false_or] at hq
        rw [hq]; rfl, by rw [hn0.out]; exact bw.out⟩
  · replace hF := hid (show F = (z1 && (z2 && (z3 && z4))) by rw [hF.out, if_neg (show ¬ k = 1 by omega), if_neg (show ¬ k = 2 by omega), if_neg (show ¬ k = 3 by omega), if_neg (show ¬ k = 4 by omega), if_neg (show ¬ k = 5 by omega), if_neg (show ¬ k = 7 by omega), if_neg (show ¬ k = 8 by omega), if_neg (show ¬ k = 9 by omega), if_neg (show ¬ k = 10 by omega), if_neg (show ¬ k = 11 by omega)])
    have g0 : ((k : Int) == 0) = false := by rw [beq_eq_false_iff_ne]; omega
    have g1 : ((k : Int) == 1) = false := by rw [beq_eq_false_iff_ne]; omega
    have g2 : ((k : Int) == 2) = false := by rw [beq_eq_false_iff_ne]; omega
    have g3 : ((k : Int) == 3) = false := by rw [beq_eq_false_iff_ne]; omega
    have g4 : ((k : Int) == 4) = false := by rw [beq_eq_false_iff_ne]; omega
    have g5 : ((k : Int) == 5) = false := by rw [beq_eq_false_iff_ne]; omega
    have g7 : ((k : Int) == 7) = false := by rw [beq_eq_false_iff_ne]; omega
    have g8 : ((k : Int) == 8) = false := by rw [beq_eq_false_iff_ne]; omega
    have g9 : ((k : Int) == 9) = false := by rw [beq_eq_false_iff_ne]; omega
    have g10 : ((k : Int) == 10) = false := by rw [beq_eq_false_iff_ne]; omega
    have g11 : ((k : Int) == 11) = false := by rw [beq_eq_false_iff_ne]; omega
    have gk : decide (30 ≤ (k : Int)) = false := decide_eq_false (by omega)
    replace hR := hid (show R = ((z1 && (z2 && (z3 && z4))) && decide (ll = 2)) by rw [hR.out, hF.out]; unfold kidsB; rw [if_neg (by omega), if_neg (by omega), if_neg (by omega), if_neg (by omega), decide_eq_true (show 15 ≤ k ∧ k ≤ 29 by omega), Bool.true_and])
    obtain ⟨c0, c1, c2, c3, c4, c5, cf⟩ := six K1.out
    go_wp2_with fail
    refine (hr.out _).mono ?_
    rintro e w2 ⟨rfl, b8⟩
    replace bw := hid (bw.out.trans (b8.mono (by rw [← hn0.out]; exact (hn0.out ▸ bw.out).size)))
    replace K1 := hid (K1.out.below b8 K1.out.lt)
    rw [show rkidsN k = 2 by unfold rkidsN; rw [if_neg (by omega), if_neg (by omega), if_neg (by omega), if_neg (by omega)]]
    clear b8
    clear c0 c1 c2 c3 c4 c5 cf
    obtain ⟨c0, c1, c2, c3, c4, c5, cf⟩ := six K1.out
    by_cases q : ll = 2
    · subst q
      rw [decide_eq_true rfl] at hR
      by_cases y1 : num = 0
      · have e1 : z1 = true := by rw [← hz1.out]; exact decide_eq_true y1
        subst e1
        cases z2 with
        | false =>
          go_wp2_with fail
          go_ret
          exact ⟨by
            have hq := hR.out
            try simp only [Bool.and_true, Bool.true_and, Bool.false_and, Bool.and_false, Bool.or_true, Bool.true_or, Bool.or_false, Bool.false_or] at hq
            rw [hq]; rfl, by rw [hn0.out]; exact bw.out⟩
        | true =>
          cases z3 with
          | false =>
            go_wp2_with fail
            go_ret
            exact ⟨by
              have hq := hR.out
              try simp only [Bool.and_true, Bool.true_and, Bool.false_and, Bool.and_false, Bool.or_true, Bool.true_or, Bool.or_false, Bool.false_or] at hq
              rw [hq]; rfl, by rw [hn0.out]; exact bw.out⟩
          | true =>
            by_cases y4 : ln = 0
            · have e4 : z4 = true := by rw [← hz4.out]; exact decide_eq_true y4
              have y4i : ¬ 0 < ln := by omega
              subst e4
              go_wp2_with fail
              go_ret
              exact ⟨by
                have hq := hR.out
                try simp only [Bool.and_true, Bool.true_and, Bool.false_and, Bool.and_false, Bool.or_true, Bool.true_or, Bool.or_false, Bool.false_or] at hq
                rw [hq]; rfl, by rw [hn0.out]; exact bw.out⟩
            · have e4 : z4 = false := by rw [← hz4.out]; exact decide_eq_false y4
              have y4i : 0 < ln := by omega
              subst e4
              go_wp2_with fail
              go_ret
              exact ⟨by
                have hq := hR.out
                try simp only [Bool.and_true, Bool.true_and, Bool.false_and, Bool.and_false, Bool.or_true, Bool.true_or, Bool.or_false, Bool.false_or] at hq
                rw [hq]; rfl, by rw [hn0.out]; exact bw.out⟩
      · have e1 : z1 = false := by rw [← hz1.out]; exact decide_eq_false y1
        subst e1
        go_wp2_with fail
        go_ret
        exact ⟨by
          have hq := hR.out
          try simp only [Bool.and_true, Bool.true_and, Bool.false_and, Bool.and_false, Bool.or_true, Bool.true_or, Bool.or_false, Bool.false_or] at hq
          rw [hq]; rfl, by rw [hn0.out]; exact bw.out⟩
    · have gl : ((ll : Int) == 2) = false := by rw [beq_eq_false_iff_ne]; omega
      rw [decide_eq_false q, Bool.and_false] at hR
      go_wp2_with fail
      go_ret
      exact ⟨by
        have hq := hR.out
        try simp only [Bool.and_true, Bool.true_and, Bool.false_and, Bool.and_false, Bool.or_true, Bool.true_or, Bool.or_false, Bool.false_or] at hq
        rw [hq]; rfl, by rw [hn0.out]; exact bw.out⟩
  · have hno : R = false := by rw [hR.out]; unfold kidsB; rw [if_neg (by omega), if_neg (by omega), if_neg (by omega), if_neg (by omega), decide_eq_false (by omega)]; simp
    replace hR := hid hno
    have g0 : ((k : Int) == 0) = false := by rw [beq_eq_false_iff_ne]; omega
    have gk : decide (30 ≤ (k : Int)) = true := decide_eq_true (by omega)
    obtain ⟨c0, c1, c2, c3, c4, c5, cf⟩ := six K1.out
    go_wp2_with fail
    refine (hr.out _).mono ?_
    rintro e w2 ⟨rfl, b8⟩
    replace bw := hid (bw.out.trans (b8.mono (by rw [← hn0.out]; exact (hn0.out ▸ bw.out).size)))
    clear b8
    go_wp2_with fail
    go_ret
    exact ⟨by rw [hR.out]; rfl, by rw [hn0.out]; exact bw.out⟩
end Go.Proofs.YtbcjppbiihgfpaaGreatDoor.Ex
