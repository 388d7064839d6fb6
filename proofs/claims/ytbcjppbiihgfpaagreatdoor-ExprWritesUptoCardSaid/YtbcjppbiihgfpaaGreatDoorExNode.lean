/-
  expr.nodeRight: its contract. Written by wip/exnodegen.py.
-/
import Derived.Test.YtbcjppbiihgfpaaGreatDoorExMath
namespace Go.Proofs.YtbcjppbiihgfpaaGreatDoor.Ex
open Go.ChangeShapes Go.WideShapes Go.ChangeAt Go.RowKit
open Go.Proofs.YtbcjppbiihgfpaaGreatDoor.Mem
set_option linter.unusedVariables false
set_option linter.unusedSimpArgs false
set_option maxRecDepth 100000
/-- what nodeRight calls, told -/
structure NodeTold (x : T) (w : World) : Prop where
  text : ∀ W, Below w.heap.size w W → Calls Tryz.prog 117 #[.string x.str] W fun e w' => e = .returned (.bool (txB x.str)) ∧ Below W.heap.size W w'
  uid : ∀ W, Below w.heap.size w W → Calls Tryz.prog 118 #[.agg #[.string x.typ, .string x.str]] W fun e w' => ∃ c : Int, e = .returned (.int .i64 c) ∧ (c == 0) = uidB x.typ x.str ∧ Below W.heap.size W w'
  var : ∀ W, Below w.heap.size w W → Calls Tryz.prog 119 #[.string x.str] W fun e w' => e = .returned (.bool (varB x.str)) ∧ Below W.heap.size W w'
  name : ∀ W, Below w.heap.size w W → Calls Tryz.prog 121 #[.string x.str] W fun e w' => e = .returned (.bool (nmB x.str)) ∧ Below W.heap.size W w'
  type : ∀ W, Below w.heap.size w W → Calls Tryz.prog 122 #[.string x.typ] W fun e w' => e = .returned (.bool (Nam.typeB x.typ)) ∧ Below W.heap.size W w'
  names : ∀ W, Below w.heap.size w W → Calls Tryz.prog 120 #[x.nv] W fun e w' => e = .returned (.bool (namesB x.names)) ∧ Below W.heap.size W w'
  spell : ∀ W, Below w.heap.size w W → SpellTold x.kind W
theorem size_beq (s : ByteArray) : (s.toList == []) = decide (s.size = 0) := by
  by_cases h : s.size = 0
  · rw [decide_eq_true h, beq_iff_eq, ByteArray.toList_eq]
    exact List.eq_nil_of_length_eq_zero (by rw [← Lib.size_eq]; exact h)
  · rw [decide_eq_false h, beq_eq_false_iff_ne, ByteArray.toList_eq]
    intro e
    apply h
    rw [Lib.size_eq, e]
    rfl
set_option maxHeartbeats 16000000 in
theorem node_any (x : T) (w : World) (h : x.ok w) (hw : NodeTold x w) :
    Calls Tryz.prog 65 #[x.val] w fun e w' => e = .returned (.bool (nodeB x)) ∧ Below w.heap.size w w' := by
  obtain ⟨no, nc, lo, lc, e1, e2, l1, l2⟩ := h.forms
  have cT := hid hw.text
  have cU := hid hw.uid
  have cV := hid hw.var
  have cM := hid hw.name
  have cY := hid hw.type
  have cN := hid hw.names
  have cK := hid (fun W (b : Below w.heap.size w W) => kids_any x.kind x.list.length x.num x.str x.typ no lo x.names.length nc lc W l2 (hw.spell W b))
  rw [T.val_eq e1 e2]
  rw [e1] at cN
  obtain ⟨F, hF⟩ : ∃ F, fldB x = F := ⟨_, rfl⟩
  have hR := hid (show nodeB x = (F && kidsB x.kind x.list.length) by rw [← hF]; rfl)
  replace hF := hid (hF.symm.trans (show fldB x = _ by unfold fldB; rfl))
  generalize nodeB x = R at *
  have i1 : (x.names.length : Int) ≤ 9223372036854775807 := by omega
  have i2 : (x.list.length : Int) ≤ 9223372036854775807 := by omega
  clear h e1 e2 hw l1 l2
  generalize kidsB x.kind x.list.length = kB at *
  generalize txB x.str = tB at *
  generalize uidB x.typ x.str = uB at *
  generalize varB x.str = vB at *
  generalize nmB x.str = mB at *
  generalize Nam.typeB x.typ = yB at *
  generalize namesB x.names = nB at *
  generalize x.kind = k at *
  generalize x.num = num at *
  generalize x.str = s at *
  generalize x.typ = t at *
  generalize x.names.length = ln at *
  generalize x.list.length = ll at *
  have hS := size_beq s
  have hT := size_beq t
  have h1 : (num == 0) = decide (num = 0) := rfl
  have h2 : (((ln : Nat) : Int) == 0) = decide (ln = 0) := beq_num ln 0
  have hm : (bareB 0 s t ln = (true && (decide (s.size = 0) && (decide (t.size = 0) && decide (ln = 0))))) ∧ (bareB num ⟨#[]⟩ t ln = (decide (num = 0) && (true && (decide (t.size = 0) && decide (ln = 0))))) ∧ (bareB num ⟨#[]⟩ ⟨#[]⟩ ln = (decide (num = 0) && (true && (true && decide (ln = 0))))) ∧
      (bareB num s t 0 = (decide (num = 0) && (decide (s.size = 0) && (decide (t.size = 0) && true)))) ∧ (bareB num s ⟨#[]⟩ ln = (decide (num = 0) && (decide (s.size = 0) && (true && decide (ln = 0))))) ∧ (bareB num s t ln = (decide (num = 0) && (decide (s.size = 0) && (decide (t.size = 0) && decide (ln = 0))))) := ⟨rfl, rfl, rfl, rfl, rfl, rfl⟩
  obtain ⟨m1, m2, m3, m4, m5, m6⟩ := hm
  rw [m1, m2, m3, m4, m5, m6] at hF
  clear m1 m2 m3 m4 m5 m6
  generalize hz1 : decide (num = 0) = z1 at h1 hF
  generalize decide (s.size = 0) = z2 at hS hF
  generalize decide (t.size = 0) = z3 at hT hF
  generalize decide (ln = 0) = z4 at h2 hF
  have hz1 := hid hz1
  go_enter Tryz.func65, Tryz.ntmps65
  go_upto_region 1 with fail
  have K1 := hid (Blk.new w [.int .u8 (k : Nat), .int .i64 num, .string s, .string t, .slice no ln nc, .slice lo ll lc] 26)
  have bw := hid ((Below.refl w.heap.size w).alloc (Nat.le_refl _) (.cells #[.int .u8 (k : Nat), .int .i64 num, .string s, .string t, .slice no ln nc, .slice lo ll lc] 26))
  have hs : w.heap.size + 1 = (w.alloc (.cells #[.int .u8 (k : Nat), .int .i64 num, .string s, .string t, .slice no ln nc, .slice lo ll lc] 26)).heap.size := by simp
  generalize w.alloc (.cells #[.int .u8 (k : Nat), .int .i64 num, .string s, .string t, .slice no ln nc, .slice lo ll lc] 26) = X0 at K1 bw hs ⊢
  obtain ⟨c0, c1, c2, c3, c4, c5, cf⟩ := six K1.out
  have hs' := hid hs
  clear hs
  go_upto_region 3 with fail
  have K2 := hid (Blk.new X0 [.int .u8 (k : Nat), .int .i64 num, .string s, .string t, .slice no ln nc, .slice lo ll lc] 26)
  replace K1 := hid (K1.out.alloc (.cells #[.int .u8 (k : Nat), .int .i64 num, .string s, .string t, .slice no ln nc, .slice lo ll lc] 26))
  replace bw := hid (bw.out.alloc (by have := hs'.out; omega) (.cells #[.int .u8 (k : Nat), .int .i64 num, .string s, .string t, .slice no ln nc, .slice lo ll lc] 26))
  clear c0 c1 c2 c3 c4 c5 cf
  generalize X0.alloc (.cells #[.int .u8 (k : Nat), .int .i64 num, .string s, .string t, .slice no ln nc, .slice lo ll lc] 26) = X1 at K1 K2 bw ⊢
  have hlt := hid (show w.heap.size < X0.heap.size by have := hs'.out; omega)
  clear hs'
  generalize X0.heap.size = n1 at K2 hlt ⊢
  generalize hn0 : w.heap.size = n0 at K1 hlt bw ⊢
  replace hn0 := hid hn0
  obtain ⟨c0, c1, c2, c3, c4, c5, cf⟩ := six K1.out
  obtain ⟨d0, d1, d2, d3, d4, d5, df⟩ := six K2.out
  clear c0 c1 c2 c3 c4 c5 cf d0 d1 d2 d3 d4 d5 df
  have hne : n0 ≠ n1 := by have := hlt.out; omega
  have hne2 : n1 ≠ n0 := fun e => hne e.symm
  have hle := hid (Nat.le_of_lt hlt.out)
  clear hlt
  have hk : k = 0 ∨ k = 1 ∨ k = 2 ∨ k = 3 ∨ k = 4 ∨ k = 5 ∨ k = 6 ∨ k = 7 ∨ k = 8 ∨ k = 9 ∨ k = 10 ∨ k = 11 ∨ 12 ≤ k := by omega
  rcases hk with rfl | rfl | rfl | rfl | rfl | rfl | rfl | rfl | rfl | rfl | rfl | rfl | hk
  · replace hF := hid (show F = (true && (z1 && (z2 && (z3 && z4)))) from hF.out)
    rw [hF.out] at hR
    obtain ⟨c0, c1, c2, c3, c4, c5, cf⟩ := six K1.out
    obtain ⟨d0, d1, d2, d3, d4, d5, df⟩ := six K2.out
    go_upto_region 30 with fail
    clear c0 c1 c2 c3 c4 c5 cf d0 d1 d2 d3 d4 d5 df
    obtain ⟨c0, c1, c2, c3, c4, c5, cf⟩ := six K1.out
    obtain ⟨d0, d1, d2, d3, d4, d5, df⟩ := six K2.out
    have hz : (z1 = false) ∨ (z1 = true ∧ z2 = false) ∨ (z1 = true ∧ z2 = true ∧ z3 = false) ∨ (z1 = true ∧ z2 = true ∧ z3 = true ∧ z4 = false) ∨ (z1 = true ∧ z2 = true ∧ z3 = true ∧ z4 = true) := by cases z1 <;> cases z2 <;> cases z3 <;> cases z4 <;> simp
    rcases hz with rfl | ⟨rfl, rfl⟩ | ⟨rfl, rfl, rfl⟩ | ⟨rfl, rfl, rfl, rfl⟩ | ⟨rfl, rfl, rfl, rfl⟩
    · go_wp2_with fail
      go_ret
      exact ⟨by rw [hR.out]; rfl, hn0.out ▸ bw.out⟩
    · go_wp2_with fail
      go_ret
      exact ⟨by rw [hR.out]; rfl, hn0.out ▸ bw.out⟩
    · go_wp2_with fail
      go_ret
      exact ⟨by rw [hR.out]; rfl, hn0.out ▸ bw.out⟩
    · go_wp2_with fail
      go_ret
      exact ⟨by rw [hR.out]; rfl, hn0.out ▸ bw.out⟩
    · go_wp2_with fail
      refine (cK.out _ (by rw [hn0.out]; exact bw.out)).mono ?_
      rintro e w8 ⟨rfl, b8⟩
      replace bw := hid (bt (hn0.out ▸ bw.out) b8)
      clear b8 cK
      clear c0 c1 c2 c3 c4 c5 cf d0 d1 d2 d3 d4 d5 df
      go_wp2_with fail
      go_ret
      exact ⟨by rw [hR.out]; rfl, bw.out⟩
  · obtain ⟨f, hf⟩ : ∃ f, decide (num = 0 ∨ num = 1) = f := ⟨_, rfl⟩
    replace hF := hid (show F = (f && (true && (z2 && (z3 && z4)))) from hf ▸ hF.out)
    rw [hF.out] at hR
    by_cases q0 : num = 0
    · have hf2 : true = f := by rw [← hf]; simp [q0]
      subst hf2
      have g0 : (num == 0) = true := by rw [q0]; rfl
      clear h1 hf q0 hz1
      obtain ⟨c0, c1, c2, c3, c4, c5, cf⟩ := six K1.out
      obtain ⟨d0, d1, d2, d3, d4, d5, df⟩ := six K2.out
      go_upto_region 30 with fail
      replace K1 := hid (K1.out.other (p := ⟨n1, 1, none⟩) hne2 (.int .i64 0))
      replace K2 := hid (show Blk _ n1 [.int .u8 (1 : Nat), .int .i64 0, .string s, .string t, .slice no ln nc, .slice lo ll lc] 26 from K2.out.set 1 (.int .i64 0))
      replace bw := hid (bw.out.setCell (p := ⟨n1, 1, none⟩) hle.out (.int .i64 0))
      generalize (World.setCell _ ⟨n1, 1, none⟩ (.int .i64 0)) = X5 at K1 K2 bw ⊢
      clear c0 c1 c2 c3 c4 c5 cf d0 d1 d2 d3 d4 d5 df
      obtain ⟨c0, c1, c2, c3, c4, c5, cf⟩ := six K1.out
      obtain ⟨d0, d1, d2, d3, d4, d5, df⟩ := six K2.out
      have hz : (z2 = false) ∨ (z2 = true ∧ z3 = false) ∨ (z2 = true ∧ z3 = true ∧ z4 = false) ∨ (z2 = true ∧ z3 = true ∧ z4 = true) := by cases z2 <;> cases z3 <;> cases z4 <;> simp
      rcases hz with rfl | ⟨rfl, rfl⟩ | ⟨rfl, rfl, rfl⟩ | ⟨rfl, rfl, rfl⟩
      · go_wp2_with fail
        go_ret
        exact ⟨by rw [hR.out]; rfl, hn0.out ▸ bw.out⟩
      · go_wp2_with fail
        go_ret
        exact ⟨by rw [hR.out]; rfl, hn0.out ▸ bw.out⟩
      · go_wp2_with fail
        go_ret
        exact ⟨by rw [hR.out]; rfl, hn0.out ▸ bw.out⟩
      · go_wp2_with fail
        refine (cK.out _ (by rw [hn0.out]; exact bw.out)).mono ?_
        rintro e w8 ⟨rfl, b8⟩
        replace bw := hid (bt (hn0.out ▸ bw.out) b8)
        clear b8 cK
        clear c0 c1 c2 c3 c4 c5 cf d0 d1 d2 d3 d4 d5 df
        go_wp2_with fail
        go_ret
        exact ⟨by rw [hR.out]; rfl, bw.out⟩
    · by_cases q1 : num = 1
      · have hf2 : true = f := by rw [← hf]; simp [q1]
        subst hf2
        have g0 : (num == 0) = false := by rw [beq_eq_false_iff_ne]; exact q0
        have g1 : (num == 1) = true := by rw [q1]; rfl
        clear h1 hf q0 q1 hz1
        obtain ⟨c0, c1, c2, c3, c4, c5, cf⟩ := six K1.out
        obtain ⟨d0, d1, d2, d3, d4, d5, df⟩ := six K2.out
        go_upto_region 30 with fail
        replace K1 := hid (K1.out.other (p := ⟨n1, 1, none⟩) hne2 (.int .i64 0))
        replace K2 := hid (show Blk _ n1 [.int .u8 (1 : Nat), .int .i64 0, .string s, .string t, .slice no ln nc, .slice lo ll lc] 26 from K2.out.set 1 (.int .i64 0))
        replace bw := hid (bw.out.setCell (p := ⟨n1, 1, none⟩) hle.out (.int .i64 0))
        generalize (World.setCell _ ⟨n1, 1, none⟩ (.int .i64 0)) = X5 at K1 K2 bw ⊢
        clear c0 c1 c2 c3 c4 c5 cf d0 d1 d2 d3 d4 d5 df
        obtain ⟨c0, c1, c2, c3, c4, c5, cf⟩ := six K1.out
        obtain ⟨d0, d1, d2, d3, d4, d5, df⟩ := six K2.out
        have hz : (z2 = false) ∨ (z2 = true ∧ z3 = false) ∨ (z2 = true ∧ z3 = true ∧ z4 = false) ∨ (z2 = true ∧ z3 = true ∧ z4 = true) := by cases z2 <;> cases z3 <;> cases z4 <;> simp
        rcases hz with rfl | ⟨rfl, rfl⟩ | ⟨rfl, rfl, rfl⟩ | ⟨rfl, rfl, rfl⟩
        · go_wp2_with fail
          go_ret
          exact ⟨by rw [hR.out]; rfl, hn0.out ▸ bw.out⟩
        · go_wp2_with fail
          go_ret
          exact ⟨by rw [hR.out]; rfl, hn0.out ▸ bw.out⟩
        · go_wp2_with fail
          go_ret
          exact ⟨by rw [hR.out]; rfl, hn0.out ▸ bw.out⟩
        · go_wp2_with fail
          refine (cK.out _ (by rw [hn0.out]; exact bw.out)).mono ?_
          rintro e w8 ⟨rfl, b8⟩
          replace bw := hid (bt (hn0.out ▸ bw.out) b8)
          clear b8 cK
          clear c0 c1 c2 c3 c4 c5 cf d0 d1 d2 d3 d4 d5 df
          go_wp2_with fail
          go_ret
          exact ⟨by rw [hR.out]; rfl, bw.out⟩
      · have hf2 : false = f := by rw [← hf]; simp [q0, q1]
        subst hf2
        have g0 : (num == 0) = false := by rw [beq_eq_false_iff_ne]; exact q0
        have g1 : (num == 1) = false := by rw [beq_eq_false_iff_ne]; exact q1
        clear h1 hf q0 q1 hz1
        obtain ⟨c0, c1, c2, c3, c4, c5, cf⟩ := six K1.out
        obtain ⟨d0, d1, d2, d3, d4, d5, df⟩ := six K2.out
        go_upto_region 30 with fail
        replace K1 := hid (K1.out.other (p := ⟨n1, 1, none⟩) hne2 (.int .i64 0))
        replace K2 := hid (show Blk _ n1 [.int .u8 (1 : Nat), .int .i64 0, .string s, .string t, .slice no ln nc, .slice lo ll lc] 26 from K2.out.set 1 (.int .i64 0))
        replace bw := hid (bw.out.setCell (p := ⟨n1, 1, none⟩) hle.out (.int .i64 0))
        generalize (World.setCell _ ⟨n1, 1, none⟩ (.int .i64 0)) = X5 at K1 K2 bw ⊢
        clear c0 c1 c2 c3 c4 c5 cf d0 d1 d2 d3 d4 d5 df
        obtain ⟨c0, c1, c2, c3, c4, c5, cf⟩ := six K1.out
        obtain ⟨d0, d1, d2, d3, d4, d5, df⟩ := six K2.out
        have hz : (z2 = false) ∨ (z2 = true ∧ z3 = false) ∨ (z2 = true ∧ z3 = true ∧ z4 = false) ∨ (z2 = true ∧ z3 = true ∧ z4 = true) := by cases z2 <;> cases z3 <;> cases z4 <;> simp
        rcases hz with rfl | ⟨rfl, rfl⟩ | ⟨rfl, rfl, rfl⟩ | ⟨rfl, rfl, rfl⟩
        · go_wp2_with fail
          go_ret
          exact ⟨by rw [hR.out]; rfl, hn0.out ▸ bw.out⟩
        · go_wp2_with fail
          go_ret
          exact ⟨by rw [hR.out]; rfl, hn0.out ▸ bw.out⟩
        · go_wp2_with fail
          go_ret
          exact ⟨by rw [hR.out]; rfl, hn0.out ▸ bw.out⟩
        · go_wp2_with fail
          go_ret
          exact ⟨by rw [hR.out]; rfl, hn0.out ▸ bw.out⟩
  · obtain ⟨f, hf⟩ : ∃ f, decide (0 ≤ num) = f := ⟨_, rfl⟩
    replace hF := hid (show F = (f && (true && (z2 && (z3 && z4)))) from hf ▸ hF.out)
    rw [hF.out] at hR
    clear h1 hz1
    by_cases q0 : 0 ≤ num
    · have hf2 : true = f := by rw [← hf]; exact (decide_eq_true q0).symm
      subst hf2
      clear hf
      obtain ⟨c0, c1, c2, c3, c4, c5, cf⟩ := six K1.out
      obtain ⟨d0, d1, d2, d3, d4, d5, df⟩ := six K2.out
      go_upto_region 30 with fail
      replace K1 := hid (K1.out.other (p := ⟨n1, 1, none⟩) hne2 (.int .i64 0))
      replace K2 := hid (show Blk _ n1 [.int .u8 (2 : Nat), .int .i64 0, .string s, .string t, .slice no ln nc, .slice lo ll lc] 26 from K2.out.set 1 (.int .i64 0))
      replace bw := hid (bw.out.setCell (p := ⟨n1, 1, none⟩) hle.out (.int .i64 0))
      generalize (World.setCell _ ⟨n1, 1, none⟩ (.int .i64 0)) = X5 at K1 K2 bw ⊢
      clear c0 c1 c2 c3 c4 c5 cf d0 d1 d2 d3 d4 d5 df
      obtain ⟨c0, c1, c2, c3, c4, c5, cf⟩ := six K1.out
      obtain ⟨d0, d1, d2, d3, d4, d5, df⟩ := six K2.out
      have hz : (z2 = false) ∨ (z2 = true ∧ z3 = false) ∨ (z2 = true ∧ z3 = true ∧ z4 = false) ∨ (z2 = true ∧ z3 = true ∧ z4 = true) := by cases z2 <;> cases z3 <;> cases z4 <;> simp
      rcases hz with rfl | ⟨rfl, rfl⟩ | ⟨rfl, rfl, rfl⟩ | ⟨rfl, rfl, rfl⟩
      · go_wp2_with fail
        go_ret
        exact ⟨by rw [hR.out]; rfl, hn0.out ▸ bw.out⟩
      · go_wp2_with fail
        go_ret
        exact ⟨by rw [hR.out]; rfl, hn0.out ▸ bw.out⟩
      · go_wp2_with fail
        go_ret
        exact ⟨by rw [hR.out]; rfl, hn0.out ▸ bw.out⟩
      · go_wp2_with fail
        refine (cK.out _ (by rw [hn0.out]; exact bw.out)).mono ?_
        rintro e w8 ⟨rfl, b8⟩
        replace bw := hid (bt (hn0.out ▸ bw.out) b8)
        clear b8 cK
        clear c0 c1 c2 c3 c4 c5 cf d0 d1 d2 d3 d4 d5 df
        go_wp2_with fail
        go_ret
        exact ⟨by rw [hR.out]; rfl, bw.out⟩
    · have hf2 : false = f := by rw [← hf]; exact (decide_eq_false q0).symm
      subst hf2
      clear hf
      obtain ⟨c0, c1, c2, c3, c4, c5, cf⟩ := six K1.out
      obtain ⟨d0, d1, d2, d3, d4, d5, df⟩ := six K2.out
      go_upto_region 30 with fail
      replace K1 := hid (K1.out.other (p := ⟨n1, 1, none⟩) hne2 (.int .i64 0))
      replace K2 := hid (show Blk _ n1 [.int .u8 (2 : Nat), .int .i64 0, .string s, .string t, .slice no ln nc, .slice lo ll lc] 26 from K2.out.set 1 (.int .i64 0))
      replace bw := hid (bw.out.setCell (p := ⟨n1, 1, none⟩) hle.out (.int .i64 0))
      generalize (World.setCell _ ⟨n1, 1, none⟩ (.int .i64 0)) = X5 at K1 K2 bw ⊢
      clear c0 c1 c2 c3 c4 c5 cf d0 d1 d2 d3 d4 d5 df
      obtain ⟨c0, c1, c2, c3, c4, c5, cf⟩ := six K1.out
      obtain ⟨d0, d1, d2, d3, d4, d5, df⟩ := six K2.out
      have hz : (z2 = false) ∨ (z2 = true ∧ z3 = false) ∨ (z2 = true ∧ z3 = true ∧ z4 = false) ∨ (z2 = true ∧ z3 = true ∧ z4 = true) := by cases z2 <;> cases z3 <;> cases z4 <;> simp
      rcases hz with rfl | ⟨rfl, rfl⟩ | ⟨rfl, rfl, rfl⟩ | ⟨rfl, rfl, rfl⟩
      · go_wp2_with fail
        go_ret
        exact ⟨by rw [hR.out]; rfl, hn0.out ▸ bw.out⟩
      · go_wp2_with fail
        go_ret
        exact ⟨by rw [hR.out]; rfl, hn0.out ▸ bw.out⟩
      · go_wp2_with fail
        go_ret
        exact ⟨by rw [hR.out]; rfl, hn0.out ▸ bw.out⟩
      · go_wp2_with fail
        go_ret
        exact ⟨by rw [hR.out]; rfl, hn0.out ▸ bw.out⟩
  · replace hF := hid (show F = (tB && (z1 && (true && (z3 && z4)))) from hF.out)
    rw [hF.out] at hR
    obtain ⟨c0, c1, c2, c3, c4, c5, cf⟩ := six K1.out
    obtain ⟨d0, d1, d2, d3, d4, d5, df⟩ := six K2.out
    go_wp2_with fail
    refine (cT.out _ (by rw [hn0.out]; exact bw.out)).mono ?_
    rintro e w9 ⟨rfl, b8⟩
    replace K1 := hid (K1.out.below b8 K1.out.lt)
    replace K2 := hid (K2.out.below b8 K2.out.lt)
    replace bw := hid (bt (hn0.out ▸ bw.out) b8)
    rw [hn0.out] at bw
    clear b8
    clear c0 c1 c2 c3 c4 c5 cf d0 d1 d2 d3 d4 d5 df
    obtain ⟨c0, c1, c2, c3, c4, c5, cf⟩ := six K1.out
    obtain ⟨d0, d1, d2, d3, d4, d5, df⟩ := six K2.out
    go_upto_region 30 with fail
    replace K1 := hid (K1.out.other (p := ⟨n1, 2, none⟩) hne2 (.string ⟨#[]⟩))
    replace K2 := hid (show Blk _ n1 [.int .u8 (3 : Nat), .int .i64 num, .string ⟨#[]⟩, .string t, .slice no ln nc, .slice lo ll lc] 26 from K2.out.set 2 (.string ⟨#[]⟩))
    replace bw := hid (bw.out.setCell (p := ⟨n1, 2, none⟩) hle.out (.string ⟨#[]⟩))
    generalize (World.setCell _ ⟨n1, 2, none⟩ (.string ⟨#[]⟩)) = X5 at K1 K2 bw ⊢
    clear c0 c1 c2 c3 c4 c5 cf d0 d1 d2 d3 d4 d5 df
    clear hz1
    obtain ⟨c0, c1, c2, c3, c4, c5, cf⟩ := six K1.out
    obtain ⟨d0, d1, d2, d3, d4, d5, df⟩ := six K2.out
    have hz : (z1 = false) ∨ (z1 = true ∧ z3 = false) ∨ (z1 = true ∧ z3 = true ∧ z4 = false) ∨ (z1 = true ∧ z3 = true ∧ z4 = true) := by cases z1 <;> cases z3 <;> cases z4 <;> simp
    rcases hz with rfl | ⟨rfl, rfl⟩ | ⟨rfl, rfl, rfl⟩ | ⟨rfl, rfl, rfl⟩
    · cases tB
      · go_wp2_with fail
        go_ret
        exact ⟨by rw [hR.out]; rfl, hn0.out ▸ bw.out⟩
      · go_wp2_with fail
        go_ret
        exact ⟨by rw [hR.out]; rfl, hn0.out ▸ bw.out⟩
    · cases tB
      · go_wp2_with fail
        go_ret
        exact ⟨by rw [hR.out]; rfl, hn0.out ▸ bw.out⟩
      · go_wp2_with fail
        go_ret
        exact ⟨by rw [hR.out]; rfl, hn0.out ▸ bw.out⟩
    · cases tB
      · go_wp2_with fail
        go_ret
        exact ⟨by rw [hR.out]; rfl, hn0.out ▸ bw.out⟩
      · go_wp2_with fail
        go_ret
        exact ⟨by rw [hR.out]; rfl, hn0.out ▸ bw.out⟩
    · cases tB
      · go_wp2_with fail
        go_ret
        exact ⟨by rw [hR.out]; rfl, hn0.out ▸ bw.out⟩
      · go_wp2_with fail
        refine (cK.out _ (by rw [hn0.out]; exact bw.out)).mono ?_
        rintro e w8 ⟨rfl, b8⟩
        replace bw := hid (bt (hn0.out ▸ bw.out) b8)
        clear b8 cK
        clear c0 c1 c2 c3 c4 c5 cf d0 d1 d2 d3 d4 d5 df
        go_wp2_with fail
        go_ret
        exact ⟨by rw [hR.out]; rfl, bw.out⟩
  · replace hF := hid (show F = (uB && (z1 && (true && (true && z4)))) from hF.out)
    rw [hF.out] at hR
    obtain ⟨c0, c1, c2, c3, c4, c5, cf⟩ := six K1.out
    obtain ⟨d0, d1, d2, d3, d4, d5, df⟩ := six K2.out
    go_wp2_with fail
    refine (cU.out _ (by rw [hn0.out]; exact bw.out)).mono ?_
    rintro e w9 ⟨c, rfl, hc, b8⟩
    replace K1 := hid (K1.out.below b8 K1.out.lt)
    replace K2 := hid (K2.out.below b8 K2.out.lt)
    replace bw := hid (bt (hn0.out ▸ bw.out) b8)
    rw [hn0.out] at bw
    clear b8
    clear c0 c1 c2 c3 c4 c5 cf d0 d1 d2 d3 d4 d5 df
    obtain ⟨c0, c1, c2, c3, c4, c5, cf⟩ := six K1.out
    obtain ⟨d0, d1, d2, d3, d4, d5, df⟩ := six K2.out
    go_upto_region 30 with fail
    replace K1 := hid (K1.out.other (p := ⟨n1, 3, none⟩) hne2 (.string ⟨#[]⟩))
    replace K2 := hid (show Blk _ n1 [.int .u8 (4 : Nat), .int .i64 num, .string s, .string ⟨#[]⟩, .slice no ln nc, .slice lo ll lc] 26 from K2.out.set 3 (.string ⟨#[]⟩))
    replace bw := hid (bw.out.setCell (p := ⟨n1, 3, none⟩) hle.out (.string ⟨#[]⟩))
    generalize (World.setCell _ ⟨n1, 3, none⟩ (.string ⟨#[]⟩)) = X5 at K1 K2 bw ⊢
    replace K1 := hid (K1.out.other (p := ⟨n1, 2, none⟩) hne2 (.string ⟨#[]⟩))
    replace K2 := hid (show Blk _ n1 [.int .u8 (4 : Nat), .int .i64 num, .string ⟨#[]⟩, .string ⟨#[]⟩, .slice no ln nc, .slice lo ll lc] 26 from K2.out.set 2 (.string ⟨#[]⟩))
    replace bw := hid (bw.out.setCell (p := ⟨n1, 2, none⟩) hle.out (.string ⟨#[]⟩))
    generalize (World.setCell _ ⟨n1, 2, none⟩ (.string ⟨#[]⟩)) = X5 at K1 K2 bw ⊢
    clear c0 c1 c2 c3 c4 c5 cf d0 d1 d2 d3 d4 d5 df
    clear hz1
    obtain ⟨c0, c1, c2, c3, c4, c5, cf⟩ := six K1.out
    obtain ⟨d0, d1, d2, d3, d4, d5, df⟩ := six K2.out
    have hz : (z1 = false) ∨ (z1 = true ∧ z4 = false) ∨ (z1 = true ∧ z4 = true) := by cases z1 <;> cases z4 <;> simp
    rcases hz with rfl | ⟨rfl, rfl⟩ | ⟨rfl, rfl⟩
    · cases uB
      · go_wp2_with fail
        go_ret
        exact ⟨by rw [hR.out]; rfl, hn0.out ▸ bw.out⟩
      · go_wp2_with fail
        go_ret
        exact ⟨by rw [hR.out]; rfl, hn0.out ▸ bw.out⟩
    · cases uB
      · go_wp2_with fail
        go_ret
        exact ⟨by rw [hR.out]; rfl, hn0.out ▸ bw.out⟩
      · go_wp2_with fail
        go_ret
        exact ⟨by rw [hR.out]; rfl, hn0.out ▸ bw.out⟩
    · cases uB
      · go_wp2_with fail
        go_ret
        exact ⟨by rw [hR.out]; rfl, hn0.out ▸ bw.out⟩
      · go_wp2_with fail
        refine (cK.out _ (by rw [hn0.out]; exact bw.out)).mono ?_
        rintro e w8 ⟨rfl, b8⟩
        replace bw := hid (bt (hn0.out ▸ bw.out) b8)
        clear b8 cK
        clear c0 c1 c2 c3 c4 c5 cf d0 d1 d2 d3 d4 d5 df
        go_wp2_with fail
        go_ret
        exact ⟨by rw [hR.out]; rfl, bw.out⟩
  · replace hF := hid (show F = (vB && (z1 && (true && (z3 && z4)))) from hF.out)
    rw [hF.out] at hR
    obtain ⟨c0, c1, c2, c3, c4, c5, cf⟩ := six K1.out
    obtain ⟨d0, d1, d2, d3, d4, d5, df⟩ := six K2.out
    go_wp2_with fail
    refine (cV.out _ (by rw [hn0.out]; exact bw.out)).mono ?_
    rintro e w9 ⟨rfl, b8⟩
    replace K1 := hid (K1.out.below b8 K1.out.lt)
    replace K2 := hid (K2.out.below b8 K2.out.lt)
    replace bw := hid (bt (hn0.out ▸ bw.out) b8)
    rw [hn0.out] at bw
    clear b8
    clear c0 c1 c2 c3 c4 c5 cf d0 d1 d2 d3 d4 d5 df
    obtain ⟨c0, c1, c2, c3, c4, c5, cf⟩ := six K1.out
    obtain ⟨d0, d1, d2, d3, d4, d5, df⟩ := six K2.out
    go_upto_region 30 with fail
    replace K1 := hid (K1.out.other (p := ⟨n1, 2, none⟩) hne2 (.string ⟨#[]⟩))
    replace K2 := hid (show Blk _ n1 [.int .u8 (5 : Nat), .int .i64 num, .string ⟨#[]⟩, .string t, .slice no ln nc, .slice lo ll lc] 26 from K2.out.set 2 (.string ⟨#[]⟩))
    replace bw := hid (bw.out.setCell (p := ⟨n1, 2, none⟩) hle.out (.string ⟨#[]⟩))
    generalize (World.setCell _ ⟨n1, 2, none⟩ (.string ⟨#[]⟩)) = X5 at K1 K2 bw ⊢
    clear c0 c1 c2 c3 c4 c5 cf d0 d1 d2 d3 d4 d5 df
    clear hz1
    obtain ⟨c0, c1, c2, c3, c4, c5, cf⟩ := six K1.out
    obtain ⟨d0, d1, d2, d3, d4, d5, df⟩ := six K2.out
    have hz : (z1 = false) ∨ (z1 = true ∧ z3 = false) ∨ (z1 = true ∧ z3 = true ∧ z4 = false) ∨ (z1 = true ∧ z3 = true ∧ z4 = true) := by cases z1 <;> cases z3 <;> cases z4 <;> simp
    rcases hz with rfl | ⟨rfl, rfl⟩ | ⟨rfl, rfl, rfl⟩ | ⟨rfl, rfl, rfl⟩
    · cases vB
      · go_wp2_with fail
        go_ret
        exact ⟨by rw [hR.out]; rfl, hn0.out ▸ bw.out⟩
      · go_wp2_with fail
        go_ret
        exact ⟨by rw [hR.out]; rfl, hn0.out ▸ bw.out⟩
    · cases vB
      · go_wp2_with fail
        go_ret
        exact ⟨by rw [hR.out]; rfl, hn0.out ▸ bw.out⟩
      · go_wp2_with fail
        go_ret
        exact ⟨by rw [hR.out]; rfl, hn0.out ▸ bw.out⟩
    · cases vB
      · go_wp2_with fail
        go_ret
        exact ⟨by rw [hR.out]; rfl, hn0.out ▸ bw.out⟩
      · go_wp2_with fail
        go_ret
        exact ⟨by rw [hR.out]; rfl, hn0.out ▸ bw.out⟩
    · cases vB
      · go_wp2_with fail
        go_ret
        exact ⟨by rw [hR.out]; rfl, hn0.out ▸ bw.out⟩
      · go_wp2_with fail
        refine (cK.out _ (by rw [hn0.out]; exact bw.out)).mono ?_
        rintro e w8 ⟨rfl, b8⟩
        replace bw := hid (bt (hn0.out ▸ bw.out) b8)
        clear b8 cK
        clear c0 c1 c2 c3 c4 c5 cf d0 d1 d2 d3 d4 d5 df
        go_wp2_with fail
        go_ret
        exact ⟨by rw [hR.out]; rfl, bw.out⟩
  · replace hF := hid (show F = (true && (z1 && (z2 && (z3 && z4)))) from hF.out)
    rw [hF.out] at hR
    obtain ⟨c0, c1, c2, c3, c4, c5, cf⟩ := six K1.out
    obtain ⟨d0, d1, d2, d3, d4, d5, df⟩ := six K2.out
    go_upto_region 30 with fail
    clear c0 c1 c2 c3 c4 c5 cf d0 d1 d2 d3 d4 d5 df
    obtain ⟨c0, c1, c2, c3, c4, c5, cf⟩ := six K1.out
    obtain ⟨d0, d1, d2, d3, d4, d5, df⟩ := six K2.out
    have hz : (z1 = false) ∨ (z1 = true ∧ z2 = false) ∨ (z1 = true ∧ z2 = true ∧ z3 = false) ∨ (z1 = true ∧ z2 = true ∧ z3 = true ∧ z4 = false) ∨ (z1 = true ∧ z2 = true ∧ z3 = true ∧ z4 = true) := by cases z1 <;> cases z2 <;> cases z3 <;> cases z4 <;> simp
    rcases hz with rfl | ⟨rfl, rfl⟩ | ⟨rfl, rfl, rfl⟩ | ⟨rfl, rfl, rfl, rfl⟩ | ⟨rfl, rfl, rfl, rfl⟩
    · go_wp2_with fail
      go_ret
      exact ⟨by rw [hR.out]; rfl, hn0.out ▸ bw.out⟩
    · go_wp2_with fail
      go_ret
      exact ⟨by rw [hR.out]; rfl, hn0.out ▸ bw.out⟩
    · go_wp2_with fail
      go_ret
      exact ⟨by rw [hR.out]; rfl, hn0.out ▸ bw.out⟩
    · go_wp2_with fail
      go_ret
      exact ⟨by rw [hR.out]; rfl, hn0.out ▸ bw.out⟩
    · go_wp2_with fail
      refine (cK.out _ (by rw [hn0.out]; exact bw.out)).mono ?_
      rintro e w8 ⟨rfl, b8⟩
      replace bw := hid (bt (hn0.out ▸ bw.out) b8)
      clear b8 cK
      clear c0 c1 c2 c3 c4 c5 cf d0 d1 d2 d3 d4 d5 df
      go_wp2_with fail
      go_ret
      exact ⟨by rw [hR.out]; rfl, bw.out⟩
  · replace hF := hid (show F = ((decide (ln = ll) && nB) && (z1 && (z2 && (z3 && true)))) from hF.out)
    clear hz1
    by_cases q0 : ln = ll
    · have g0 : ((ln : Int) == (ll : Int)) = true := by rw [q0, beq_self_eq_true]
      replace hF := hid (show F = (nB && (z1 && (z2 && (z3 && true)))) by rw [hF.out, decide_eq_true q0]; rfl)
      rw [hF.out] at hR
      clear q0
      obtain ⟨c0, c1, c2, c3, c4, c5, cf⟩ := six K1.out
      obtain ⟨d0, d1, d2, d3, d4, d5, df⟩ := six K2.out
      go_wp2_with fail
      refine (cN.out _ (by rw [hn0.out]; exact bw.out)).mono ?_
      rintro e w9 ⟨rfl, b8⟩
      replace K1 := hid (K1.out.below b8 K1.out.lt)
      replace K2 := hid (K2.out.below b8 K2.out.lt)
      replace bw := hid (bt (hn0.out ▸ bw.out) b8)
      rw [hn0.out] at bw
      clear b8
      clear c0 c1 c2 c3 c4 c5 cf d0 d1 d2 d3 d4 d5 df
      obtain ⟨c0, c1, c2, c3, c4, c5, cf⟩ := six K1.out
      obtain ⟨d0, d1, d2, d3, d4, d5, df⟩ := six K2.out
      go_upto_region 30 with fail
      replace K1 := hid (K1.out.other (p := ⟨n1, 4, none⟩) hne2 (.slice none 0 0))
      replace K2 := hid (show Blk _ n1 [.int .u8 (7 : Nat), .int .i64 num, .string s, .string t, .slice none 0 0, .slice lo ll lc] 26 from K2.out.set 4 (.slice none 0 0))
      replace bw := hid (bw.out.setCell (p := ⟨n1, 4, none⟩) hle.out (.slice none 0 0))
      generalize (World.setCell _ ⟨n1, 4, none⟩ (.slice none 0 0)) = X5 at K1 K2 bw ⊢
      clear c0 c1 c2 c3 c4 c5 cf d0 d1 d2 d3 d4 d5 df
      obtain ⟨c0, c1, c2, c3, c4, c5, cf⟩ := six K1.out
      obtain ⟨d0, d1, d2, d3, d4, d5, df⟩ := six K2.out
      have hz : (z1 = false) ∨ (z1 = true ∧ z2 = false) ∨ (z1 = true ∧ z2 = true ∧ z3 = false) ∨ (z1 = true ∧ z2 = true ∧ z3 = true) := by cases z1 <;> cases z2 <;> cases z3 <;> simp
      rcases hz with rfl | ⟨rfl, rfl⟩ | ⟨rfl, rfl, rfl⟩ | ⟨rfl, rfl, rfl⟩
      · cases nB
        · go_wp2_with fail
          go_ret
          exact ⟨by rw [hR.out]; rfl, hn0.out ▸ bw.out⟩
        · go_wp2_with fail
          go_ret
          exact ⟨by rw [hR.out]; rfl, hn0.out ▸ bw.out⟩
      · cases nB
        · go_wp2_with fail
          go_ret
          exact ⟨by rw [hR.out]; rfl, hn0.out ▸ bw.out⟩
        · go_wp2_with fail
          go_ret
          exact ⟨by rw [hR.out]; rfl, hn0.out ▸ bw.out⟩
      · cases nB
        · go_wp2_with fail
          go_ret
          exact ⟨by rw [hR.out]; rfl, hn0.out ▸ bw.out⟩
        · go_wp2_with fail
          go_ret
          exact ⟨by rw [hR.out]; rfl, hn0.out ▸ bw.out⟩
      · cases nB
        · go_wp2_with fail
          go_ret
          exact ⟨by rw [hR.out]; rfl, hn0.out ▸ bw.out⟩
        · go_wp2_with fail
          refine (cK.out _ (by rw [hn0.out]; exact bw.out)).mono ?_
          rintro e w8 ⟨rfl, b8⟩
          replace bw := hid (bt (hn0.out ▸ bw.out) b8)
          clear b8 cK
          clear c0 c1 c2 c3 c4 c5 cf d0 d1 d2 d3 d4 d5 df
          go_wp2_with fail
          go_ret
          exact ⟨by rw [hR.out]; rfl, bw.out⟩
    · have g0 : ((ln : Int) == (ll : Int)) = false := by rw [beq_num]; exact decide_eq_false q0
      replace hF := hid (show F = (false && (z1 && (z2 && (z3 && true)))) by rw [hF.out, decide_eq_false q0]; rfl)
      rw [hF.out] at hR
      clear q0
      obtain ⟨c0, c1, c2, c3, c4, c5, cf⟩ := six K1.out
      obtain ⟨d0, d1, d2, d3, d4, d5, df⟩ := six K2.out
      go_upto_region 30 with fail
      replace K1 := hid (K1.out.other (p := ⟨n1, 4, none⟩) hne2 (.slice none 0 0))
      replace K2 := hid (show Blk _ n1 [.int .u8 (7 : Nat), .int .i64 num, .string s, .string t, .slice none 0 0, .slice lo ll lc] 26 from K2.out.set 4 (.slice none 0 0))
      replace bw := hid (bw.out.setCell (p := ⟨n1, 4, none⟩) hle.out (.slice none 0 0))
      generalize (World.setCell _ ⟨n1, 4, none⟩ (.slice none 0 0)) = X5 at K1 K2 bw ⊢
      clear c0 c1 c2 c3 c4 c5 cf d0 d1 d2 d3 d4 d5 df
      obtain ⟨c0, c1, c2, c3, c4, c5, cf⟩ := six K1.out
      obtain ⟨d0, d1, d2, d3, d4, d5, df⟩ := six K2.out
      have hz : (z1 = false) ∨ (z1 = true ∧ z2 = false) ∨ (z1 = true ∧ z2 = true ∧ z3 = false) ∨ (z1 = true ∧ z2 = true ∧ z3 = true) := by cases z1 <;> cases z2 <;> cases z3 <;> simp
      rcases hz with rfl | ⟨rfl, rfl⟩ | ⟨rfl, rfl, rfl⟩ | ⟨rfl, rfl, rfl⟩
      · go_wp2_with fail
        go_ret
        exact ⟨by rw [hR.out]; rfl, hn0.out ▸ bw.out⟩
      · go_wp2_with fail
        go_ret
        exact ⟨by rw [hR.out]; rfl, hn0.out ▸ bw.out⟩
      · go_wp2_with fail
        go_ret
        exact ⟨by rw [hR.out]; rfl, hn0.out ▸ bw.out⟩
      · go_wp2_with fail
        go_ret
        exact ⟨by rw [hR.out]; rfl, hn0.out ▸ bw.out⟩
  · replace hF := hid (show F = (mB && (z1 && (true && (z3 && z4)))) from hF.out)
    rw [hF.out] at hR
    obtain ⟨c0, c1, c2, c3, c4, c5, cf⟩ := six K1.out
    obtain ⟨d0, d1, d2, d3, d4, d5, df⟩ := six K2.out
    go_wp2_with fail
    refine (cM.out _ (by rw [hn0.out]; exact bw.out)).mono ?_
    rintro e w9 ⟨rfl, b8⟩
    replace K1 := hid (K1.out.below b8 K1.out.lt)
    replace K2 := hid (K2.out.below b8 K2.out.lt)
    replace bw := hid (bt (hn0.out ▸ bw.out) b8)
    rw [hn0.out] at bw
    clear b8
    clear c0 c1 c2 c3 c4 c5 cf d0 d1 d2 d3 d4 d5 df
    obtain ⟨c0, c1, c2, c3, c4, c5, cf⟩ := six K1.out
    obtain ⟨d0, d1, d2, d3, d4, d5, df⟩ := six K2.out
    go_upto_region 30 with fail
    replace K1 := hid (K1.out.other (p := ⟨n1, 2, none⟩) hne2 (.string ⟨#[]⟩))
    replace K2 := hid (show Blk _ n1 [.int .u8 (8 : Nat), .int .i64 num, .string ⟨#[]⟩, .string t, .slice no ln nc, .slice lo ll lc] 26 from K2.out.set 2 (.string ⟨#[]⟩))
    replace bw := hid (bw.out.setCell (p := ⟨n1, 2, none⟩) hle.out (.string ⟨#[]⟩))
    generalize (World.setCell _ ⟨n1, 2, none⟩ (.string ⟨#[]⟩)) = X5 at K1 K2 bw ⊢
    clear c0 c1 c2 c3 c4 c5 cf d0 d1 d2 d3 d4 d5 df
    clear hz1
    obtain ⟨c0, c1, c2, c3, c4, c5, cf⟩ := six K1.out
    obtain ⟨d0, d1, d2, d3, d4, d5, df⟩ := six K2.out
    have hz : (z1 = false) ∨ (z1 = true ∧ z3 = false) ∨ (z1 = true ∧ z3 = true ∧ z4 = false) ∨ (z1 = true ∧ z3 = true ∧ z4 = true) := by cases z1 <;> cases z3 <;> cases z4 <;> simp
    rcases hz with rfl | ⟨rfl, rfl⟩ | ⟨rfl, rfl, rfl⟩ | ⟨rfl, rfl, rfl⟩
    · cases mB
      · go_wp2_with fail
        go_ret
        exact ⟨by rw [hR.out]; rfl, hn0.out ▸ bw.out⟩
      · go_wp2_with fail
        go_ret
        exact ⟨by rw [hR.out]; rfl, hn0.out ▸ bw.out⟩
    · cases mB
      · go_wp2_with fail
        go_ret
        exact ⟨by rw [hR.out]; rfl, hn0.out ▸ bw.out⟩
      · go_wp2_with fail
        go_ret
        exact ⟨by rw [hR.out]; rfl, hn0.out ▸ bw.out⟩
    · cases mB
      · go_wp2_with fail
        go_ret
        exact ⟨by rw [hR.out]; rfl, hn0.out ▸ bw.out⟩
      · go_wp2_with fail
        go_ret
        exact ⟨by rw [hR.out]; rfl, hn0.out ▸ bw.out⟩
    · cases mB
      · go_wp2_with fail
        go_ret
        exact ⟨by rw [hR.out]; rfl, hn0.out ▸ bw.out⟩
      · go_wp2_with fail
        refine (cK.out _ (by rw [hn0.out]; exact bw.out)).mono ?_
        rintro e w8 ⟨rfl, b8⟩
        replace bw := hid (bt (hn0.out ▸ bw.out) b8)
        clear b8 cK
        clear c0 c1 c2 c3 c4 c5 cf d0 d1 d2 d3 d4 d5 df
        go_wp2_with fail
        go_ret
        exact ⟨by rw [hR.out]; rfl, bw.out⟩
  · replace hF := hid (show F = (mB && (z1 && (true && (z3 && z4)))) from hF.out)
    rw [hF.out] at hR
    obtain ⟨c0, c1, c2, c3, c4, c5, cf⟩ := six K1.out
    obtain ⟨d0, d1, d2, d3, d4, d5, df⟩ := six K2.out
    go_wp2_with fail
    refine (cM.out _ (by rw [hn0.out]; exact bw.out)).mono ?_
    rintro e w9 ⟨rfl, b8⟩
    replace K1 := hid (K1.out.below b8 K1.out.lt)
    replace K2 := hid (K2.out.below b8 K2.out.lt)
    replace bw := hid (bt (hn0.out ▸ bw.out) b8)
    rw [hn0.out] at bw
    clear b8
    clear c0 c1 c2 c3 c4 c5 cf d0 d1 d2 d3 d4 d5 df
    obtain ⟨c0, c1, c2, c3, c4, c5, cf⟩ := six K1.out
    obtain ⟨d0, d1, d2, d3, d4, d5, df⟩ := six K2.out
    go_upto_region 30 with fail
    replace K1 := hid (K1.out.other (p := ⟨n1, 2, none⟩) hne2 (.string ⟨#[]⟩))
    replace K2 := hid (show Blk _ n1 [.int .u8 (9 : Nat), .int .i64 num, .string ⟨#[]⟩, .string t, .slice no ln nc, .slice lo ll lc] 26 from K2.out.set 2 (.string ⟨#[]⟩))
    replace bw := hid (bw.out.setCell (p := ⟨n1, 2, none⟩) hle.out (.string ⟨#[]⟩))
    generalize (World.setCell _ ⟨n1, 2, none⟩ (.string ⟨#[]⟩)) = X5 at K1 K2 bw ⊢
    clear c0 c1 c2 c3 c4 c5 cf d0 d1 d2 d3 d4 d5 df
    clear hz1
    obtain ⟨c0, c1, c2, c3, c4, c5, cf⟩ := six K1.out
    obtain ⟨d0, d1, d2, d3, d4, d5, df⟩ := six K2.out
    have hz : (z1 = false) ∨ (z1 = true ∧ z3 = false) ∨ (z1 = true ∧ z3 = true ∧ z4 = false) ∨ (z1 = true ∧ z3 = true ∧ z4 = true) := by cases z1 <;> cases z3 <;> cases z4 <;> simp
    rcases hz with rfl | ⟨rfl, rfl⟩ | ⟨rfl, rfl, rfl⟩ | ⟨rfl, rfl, rfl⟩
    · cases mB
      · go_wp2_with fail
        go_ret
        exact ⟨by rw [hR.out]; rfl, hn0.out ▸ bw.out⟩
      · go_wp2_with fail
        go_ret
        exact ⟨by rw [hR.out]; rfl, hn0.out ▸ bw.out⟩
    · cases mB
      · go_wp2_with fail
        go_ret
        exact ⟨by rw [hR.out]; rfl, hn0.out ▸ bw.out⟩
      · go_wp2_with fail
        go_ret
        exact ⟨by rw [hR.out]; rfl, hn0.out ▸ bw.out⟩
    · cases mB
      · go_wp2_with fail
        go_ret
        exact ⟨by rw [hR.out]; rfl, hn0.out ▸ bw.out⟩
      · go_wp2_with fail
        go_ret
        exact ⟨by rw [hR.out]; rfl, hn0.out ▸ bw.out⟩
    · cases mB
      · go_wp2_with fail
        go_ret
        exact ⟨by rw [hR.out]; rfl, hn0.out ▸ bw.out⟩
      · go_wp2_with fail
        refine (cK.out _ (by rw [hn0.out]; exact bw.out)).mono ?_
        rintro e w8 ⟨rfl, b8⟩
        replace bw := hid (bt (hn0.out ▸ bw.out) b8)
        clear b8 cK
        clear c0 c1 c2 c3 c4 c5 cf d0 d1 d2 d3 d4 d5 df
        go_wp2_with fail
        go_ret
        exact ⟨by rw [hR.out]; rfl, bw.out⟩
  · replace hF := hid (show F = (yB && (z1 && (z2 && (true && z4)))) from hF.out)
    rw [hF.out] at hR
    obtain ⟨c0, c1, c2, c3, c4, c5, cf⟩ := six K1.out
    obtain ⟨d0, d1, d2, d3, d4, d5, df⟩ := six K2.out
    go_wp2_with fail
    refine (cY.out _ (by rw [hn0.out]; exact bw.out)).mono ?_
    rintro e w9 ⟨rfl, b8⟩
    replace K1 := hid (K1.out.below b8 K1.out.lt)
    replace K2 := hid (K2.out.below b8 K2.out.lt)
    replace bw := hid (bt (hn0.out ▸ bw.out) b8)
    rw [hn0.out] at bw
    clear b8
    clear c0 c1 c2 c3 c4 c5 cf d0 d1 d2 d3 d4 d5 df
    obtain ⟨c0, c1, c2, c3, c4, c5, cf⟩ := six K1.out
    obtain ⟨d0, d1, d2, d3, d4, d5, df⟩ := six K2.out
    go_upto_region 30 with fail
    replace K1 := hid (K1.out.other (p := ⟨n1, 3, none⟩) hne2 (.string ⟨#[]⟩))
    replace K2 := hid (show Blk _ n1 [.int .u8 (10 : Nat), .int .i64 num, .string s, .string ⟨#[]⟩, .slice no ln nc, .slice lo ll lc] 26 from K2.out.set 3 (.string ⟨#[]⟩))
    replace bw := hid (bw.out.setCell (p := ⟨n1, 3, none⟩) hle.out (.string ⟨#[]⟩))
    generalize (World.setCell _ ⟨n1, 3, none⟩ (.string ⟨#[]⟩)) = X5 at K1 K2 bw ⊢
    clear c0 c1 c2 c3 c4 c5 cf d0 d1 d2 d3 d4 d5 df
    clear hz1
    obtain ⟨c0, c1, c2, c3, c4, c5, cf⟩ := six K1.out
    obtain ⟨d0, d1, d2, d3, d4, d5, df⟩ := six K2.out
    have hz : (z1 = false) ∨ (z1 = true ∧ z2 = false) ∨ (z1 = true ∧ z2 = true ∧ z4 = false) ∨ (z1 = true ∧ z2 = true ∧ z4 = true) := by cases z1 <;> cases z2 <;> cases z4 <;> simp
    rcases hz with rfl | ⟨rfl, rfl⟩ | ⟨rfl, rfl, rfl⟩ | ⟨rfl, rfl, rfl⟩
    · cases yB
      · go_wp2_with fail
        go_ret
        exact ⟨by rw [hR.out]; rfl, hn0.out ▸ bw.out⟩
      · go_wp2_with fail
        go_ret
        exact ⟨by rw [hR.out]; rfl, hn0.out ▸ bw.out⟩
    · cases yB
      · go_wp2_with fail
        go_ret
        exact ⟨by rw [hR.out]; rfl, hn0.out ▸ bw.out⟩
      · go_wp2_with fail
        go_ret
        exact ⟨by rw [hR.out]; rfl, hn0.out ▸ bw.out⟩
    · cases yB
      · go_wp2_with fail
        go_ret
        exact ⟨by rw [hR.out]; rfl, hn0.out ▸ bw.out⟩
      · go_wp2_with fail
        go_ret
        exact ⟨by rw [hR.out]; rfl, hn0.out ▸ bw.out⟩
    · cases yB
      · go_wp2_with fail
        go_ret
        exact ⟨by rw [hR.out]; rfl, hn0.out ▸ bw.out⟩
      · go_wp2_with fail
        refine (cK.out _ (by rw [hn0.out]; exact bw.out)).mono ?_
        rintro e w8 ⟨rfl, b8⟩
        replace bw := hid (bt (hn0.out ▸ bw.out) b8)
        clear b8 cK
        clear c0 c1 c2 c3 c4 c5 cf d0 d1 d2 d3 d4 d5 df
        go_wp2_with fail
        go_ret
        exact ⟨by rw [hR.out]; rfl, bw.out⟩
  · replace hF := hid (show F = (tB && (z1 && (true && (z3 && z4)))) from hF.out)
    rw [hF.out] at hR
    obtain ⟨c0, c1, c2, c3, c4, c5, cf⟩ := six K1.out
    obtain ⟨d0, d1, d2, d3, d4, d5, df⟩ := six K2.out
    go_wp2_with fail
    refine (cT.out _ (by rw [hn0.out]; exact bw.out)).mono ?_
    rintro e w9 ⟨rfl, b8⟩
    replace K1 := hid (K1.out.below b8 K1.out.lt)
    replace K2 := hid (K2.out.below b8 K2.out.lt)
    replace bw := hid (bt (hn0.out ▸ bw.out) b8)
    rw [hn0.out] at bw
    clear b8
    clear c0 c1 c2 c3 c4 c5 cf d0 d1 d2 d3 d4 d5 df
    obtain ⟨c0, c1, c2, c3, c4, c5, cf⟩ := six K1.out
    obtain ⟨d0, d1, d2, d3, d4, d5, df⟩ := six K2.out
    go_upto_region 30 with fail
    replace K1 := hid (K1.out.other (p := ⟨n1, 2, none⟩) hne2 (.string ⟨#[]⟩))
    replace K2 := hid (show Blk _ n1 [.int .u8 (11 : Nat), .int .i64 num, .string ⟨#[]⟩, .string t, .slice no ln nc, .slice lo ll lc] 26 from K2.out.set 2 (.string ⟨#[]⟩))
    replace bw := hid (bw.out.setCell (p := ⟨n1, 2, none⟩) hle.out (.string ⟨#[]⟩))
    generalize (World.setCell _ ⟨n1, 2, none⟩ (.string ⟨#[]⟩)) = X5 at K1 K2 bw ⊢
    clear c0 c1 c2 c3 c4 c5 cf d0 d1 d2 d3 d4 d5 df
    clear hz1
    obtain ⟨c0, c1, c2, c3, c4, c5, cf⟩ := six K1.out
    obtain ⟨d0, d1, d2, d3, d4, d5, df⟩ := six K2.out
    have hz : (z1 = false) ∨ (z1 = true ∧ z3 = false) ∨ (z1 = true ∧ z3 = true ∧ z4 = false) ∨ (z1 = true ∧ z3 = true ∧ z4 = true) := by cases z1 <;> cases z3 <;> cases z4 <;> simp
    rcases hz with rfl | ⟨rfl, rfl⟩ | ⟨rfl, rfl, rfl⟩ | ⟨rfl, rfl, rfl⟩
    · cases tB
      · go_wp2_with fail
        go_ret
        exact ⟨by rw [hR.out]; rfl, hn0.out ▸ bw.out⟩
      · go_wp2_with fail
        go_ret
        exact ⟨by rw [hR.out]; rfl, hn0.out ▸ bw.out⟩
    · cases tB
      · go_wp2_with fail
        go_ret
        exact ⟨by rw [hR.out]; rfl, hn0.out ▸ bw.out⟩
      · go_wp2_with fail
        go_ret
        exact ⟨by rw [hR.out]; rfl, hn0.out ▸ bw.out⟩
    · cases tB
      · go_wp2_with fail
        go_ret
        exact ⟨by rw [hR.out]; rfl, hn0.out ▸ bw.out⟩
      · go_wp2_with fail
        go_ret
        exact ⟨by rw [hR.out]; rfl, hn0.out ▸ bw.out⟩
    · cases tB
      · go_wp2_with fail
        go_ret
        exact ⟨by rw [hR.out]; rfl, hn0.out ▸ bw.out⟩
      · go_wp2_with fail
        refine (cK.out _ (by rw [hn0.out]; exact bw.out)).mono ?_
        rintro e w8 ⟨rfl, b8⟩
        replace bw := hid (bt (hn0.out ▸ bw.out) b8)
        clear b8 cK
        clear c0 c1 c2 c3 c4 c5 cf d0 d1 d2 d3 d4 d5 df
        go_wp2_with fail
        go_ret
        exact ⟨by rw [hR.out]; rfl, bw.out⟩
  · replace hF := hid (show F = (true && (z1 && (z2 && (z3 && z4)))) from by rw [hF.out, if_neg (show ¬ k = 1 by omega), if_neg (show ¬ k = 2 by omega), if_neg (show ¬ k = 3 by omega), if_neg (show ¬ k = 4 by omega), if_neg (show ¬ k = 5 by omega), if_neg (show ¬ k = 7 by omega), if_neg (show ¬ k = 8 by omega), if_neg (show ¬ k = 9 by omega), if_neg (show ¬ k = 10 by omega), if_neg (show ¬ k = 11 by omega), Bool.true_and])
    rw [hF.out] at hR
    have g1 : ((k : Int) == 1) = false := by rw [beq_eq_false_iff_ne]; omega
    have g2 : ((k : Int) == 2) = false := by rw [beq_eq_false_iff_ne]; omega
    have g3 : ((k : Int) == 3) = false := by rw [beq_eq_false_iff_ne]; omega
    have g4 : ((k : Int) == 4) = false := by rw [beq_eq_false_iff_ne]; omega
    have g5 : ((k : Int) == 5) = false := by rw [beq_eq_false_iff_ne]; omega
    have g7 : ((k : Int) == 7) = false := by rw [beq_eq_false_iff_ne]; omega
    have g8 : ((k : Int) == 8) = false := by rw [beq_eq_false_iff_ne]; omega
    have g9 : ((k : Int) == 9) = false := by rw [beq_eq_false_iff_ne]; omega
    have g10 : ((k : Int) == 10) = false := by rw [beq_eq_false_iff_ne]; omega
    have g11 : ((k : Int) == 11) = false := by rw [beq_eq_false_iff_ne]; omega
    obtain ⟨c0, c1, c2, c3, c4, c5, cf⟩ := six K1.out
    obtain ⟨d0, d1, d2, d3, d4, d5, df⟩ := six K2.out
    go_upto_region 30 with fail
    clear c0 c1 c2 c3 c4 c5 cf d0 d1 d2 d3 d4 d5 df
    obtain ⟨c0, c1, c2, c3, c4, c5, cf⟩ := six K1.out
    obtain ⟨d0, d1, d2, d3, d4, d5, df⟩ := six K2.out
    have hz : (z1 = false) ∨ (z1 = true ∧ z2 = false) ∨ (z1 = true ∧ z2 = true ∧ z3 = false) ∨ (z1 = true ∧ z2 = true ∧ z3 = true ∧ z4 = false) ∨ (z1 = true ∧ z2 = true ∧ z3 = true ∧ z4 = true) := by cases z1 <;> cases z2 <;> cases z3 <;> cases z4 <;> simp
    rcases hz with rfl | ⟨rfl, rfl⟩ | ⟨rfl, rfl, rfl⟩ | ⟨rfl, rfl, rfl, rfl⟩ | ⟨rfl, rfl, rfl, rfl⟩
    · go_wp2_with fail
      go_ret
      exact ⟨by rw [hR.out]; rfl, hn0.out ▸ bw.out⟩
    · go_wp2_with fail
      go_ret
      exact ⟨by rw [hR.out]; rfl, hn0.out ▸ bw.out⟩
    · go_wp2_with fail
      go_ret
      exact ⟨by rw [hR.out]; rfl, hn0.out ▸ bw.out⟩
    · go_wp2_with fail
      go_ret
      exact ⟨by rw [hR.out]; rfl, hn0.out ▸ bw.out⟩
    · go_wp2_with fail
      refine (cK.out _ (by rw [hn0.out]; exact bw.out)).mono ?_
      rintro e w8 ⟨rfl, b8⟩
      replace bw := hid (bt (hn0.out ▸ bw.out) b8)
      clear b8 cK
      clear c0 c1 c2 c3 c4 c5 cf d0 d1 d2 d3 d4 d5 df
      go_wp2_with fail
      go_ret
      exact ⟨by rw [hR.out]; rfl, bw.out⟩
end Go.Proofs.YtbcjppbiihgfpaaGreatDoor.Ex
