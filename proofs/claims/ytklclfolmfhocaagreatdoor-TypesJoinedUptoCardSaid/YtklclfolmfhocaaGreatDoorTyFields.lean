/-
  schema.fieldsRight: its contract. Written by wip/tyfieldsgen.py.
-/
import Derived.Test.YtklclfolmfhocaaGreatDoorTyAttr
namespace Go.Proofs.YtklclfolmfhocaaGreatDoor.Tyt
open Go.ChangeShapes Go.WideShapes Go.ChangeAt Go.RowKit
open Go.Proofs.YtklclfolmfhocaaGreatDoor.Mem
set_option linter.unusedVariables false
set_option linter.unusedSimpArgs false
set_option maxRecDepth 100000
/-- a type's own fields -/
def fldB (x : Ty) : Bool :=
  if x.kind = 0 ∨ x.kind = 1 ∨ x.kind = 2 ∨ x.kind = 3 then true && (decide (x.name.size = 0) && (decide (x.of.length = 0) && decide (x.att.length = 0)))
  else if x.kind = 4 then Nam.typeB x.name && (true && (decide (x.of.length = 0) && decide (x.att.length = 0)))
  else if x.kind = 5 then decide (x.of.length = 1) && (decide (x.name.size = 0) && (true && decide (x.att.length = 0)))
  else if x.kind = 6 then attrsB x.an && (decide (x.name.size = 0) && (decide (x.of.length = 0) && true))
  else false
theorem beq_num (n m : Nat) : ((n : Int) == (m : Int)) = decide (n = m) := by
  by_cases h : n = m
  · subst h; rw [decide_eq_true rfl, beq_self_eq_true]
  · rw [decide_eq_false h, beq_eq_false_iff_ne]; omega
set_option maxHeartbeats 16000000 in
theorem fields_any (x : Ty) (w : World) (h : x.ok w) (hw : Ev.Core w) :
    Calls Tryz.prog 48 #[x.val] w fun e w' => e = .returned (.bool (fldB x)) ∧ Below w.heap.size w w' := by
  obtain ⟨oo, oc, ao, ac, e1, e2, l1, l2⟩ := h.forms
  have hns := h.parts.2.1
  have cY := hid (fun W (b : Below w.heap.size w W) => Nam.type_any Nam.split_told x.name W hns (hw.below b).ml)
  have cA := hid (fun W (b : Below w.heap.size w W) => attrsRight_any x.an x.att x.av W ((AV.of h).below b) (hw.below b))
  rw [Ty.val_eq e1 e2]
  rw [e2] at cA
  obtain ⟨R, hR⟩ : ∃ R, fldB x = R := ⟨_, rfl⟩
  rw [hR]
  replace hR := hid (hR.symm.trans (show fldB x = _ by unfold fldB; rfl))
  have i1 : (x.of.length : Int) ≤ 9223372036854775807 := by omega
  have i2 : (x.att.length : Int) ≤ 9223372036854775807 := by omega
  clear h e1 e2 hns hw l1 l2
  generalize Nam.typeB x.name = yB at *
  generalize attrsB x.an = aB at *
  generalize x.kind = k at *
  generalize x.name = nm at *
  generalize x.of.length = ol at *
  generalize x.att.length = al at *
  have hS := size_beq nm
  have h0 : (((ol : Nat) : Int) == 0) = decide (ol = 0) := beq_num ol 0
  have h1 : (((ol : Nat) : Int) == 1) = decide (ol = 1) := beq_num ol 1
  have h2 : (((al : Nat) : Int) == 0) = decide (al = 0) := beq_num al 0
  generalize decide (nm.size = 0) = z1 at hS hR
  generalize decide (ol = 0) = z2 at h0 hR
  generalize decide (al = 0) = z3 at h2 hR
  generalize decide (ol = 1) = o1 at h1 hR
  go_enter Tryz.func48, Tryz.ntmps48
  go_upto_region 1 with fail
  have K1 := hid (Blk.new w [.int .u8 (k : Nat), .string nm, .slice oo ol oc, .slice ao al ac] 26)
  have bw := hid ((Below.refl w.heap.size w).alloc (Nat.le_refl _) (.cells #[.int .u8 (k : Nat), .string nm, .slice oo ol oc, .slice ao al ac] 26))
  have hs : w.heap.size + 1 = (w.alloc (.cells #[.int .u8 (k : Nat), .string nm, .slice oo ol oc, .slice ao al ac] 26)).heap.size := by simp
  generalize w.alloc (.cells #[.int .u8 (k : Nat), .string nm, .slice oo ol oc, .slice ao al ac] 26) = X0 at K1 bw hs ⊢
  obtain ⟨c0, c1, c2, c3, cf⟩ := K1.out.four
  have hs' := hid hs
  clear hs
  go_upto_region 3 with fail
  have K2 := hid (Blk.new X0 [.int .u8 (k : Nat), .string nm, .slice oo ol oc, .slice ao al ac] 26)
  replace K1 := hid (K1.out.alloc (.cells #[.int .u8 (k : Nat), .string nm, .slice oo ol oc, .slice ao al ac] 26))
  replace bw := hid (bw.out.alloc (by have := hs'.out; omega) (.cells #[.int .u8 (k : Nat), .string nm, .slice oo ol oc, .slice ao al ac] 26))
  clear c0 c1 c2 c3 cf
  generalize X0.alloc (.cells #[.int .u8 (k : Nat), .string nm, .slice oo ol oc, .slice ao al ac] 26) = X1 at K1 K2 bw ⊢
  have hlt := hid (show w.heap.size < X0.heap.size by have := hs'.out; omega)
  clear hs'
  generalize X0.heap.size = n1 at K2 hlt ⊢
  generalize hn0 : w.heap.size = n0 at K1 hlt bw ⊢
  replace hn0 := hid hn0
  have hne : n0 ≠ n1 := by have := hlt.out; omega
  have hne2 : n1 ≠ n0 := fun e => hne e.symm
  have hle := hid (Nat.le_of_lt hlt.out)
  clear hlt
  have hk : k = 0 ∨ k = 1 ∨ k = 2 ∨ k = 3 ∨ k = 4 ∨ k = 5 ∨ k = 6 ∨ 7 ≤ k := by omega
  rcases hk with rfl | rfl | rfl | rfl | rfl | rfl | rfl | hk
  · replace hR := hid (show R = (true && (z1 && (z2 && z3))) from hR.out)
    obtain ⟨c0, c1, c2, c3, cf⟩ := K1.out.four
    obtain ⟨d0, d1, d2, d3, df⟩ := K2.out.four
    go_upto_region 18 with fail
    clear c0 c1 c2 c3 cf d0 d1 d2 d3 df
    obtain ⟨c0, c1, c2, c3, cf⟩ := K1.out.four
    obtain ⟨d0, d1, d2, d3, df⟩ := K2.out.four
    have hz : (z1 = false) ∨ (z1 = true ∧ z2 = false) ∨ (z1 = true ∧ z2 = true ∧ z3 = false) ∨ (z1 = true ∧ z2 = true ∧ z3 = true) := by cases z1 <;> cases z2 <;> cases z3 <;> simp
    rcases hz with rfl | ⟨rfl, rfl⟩ | ⟨rfl, rfl, rfl⟩ | ⟨rfl, rfl, rfl⟩
    all_goals
      go_wp2_with fail
      go_ret
      exact ⟨by rw [hR.out]; rfl, hn0.out ▸ bw.out⟩
  · replace hR := hid (show R = (true && (z1 && (z2 && z3))) from hR.out)
    obtain ⟨c0, c1, c2, c3, cf⟩ := K1.out.four
    obtain ⟨d0, d1, d2, d3, df⟩ := K2.out.four
    go_upto_region 18 with fail
    clear c0 c1 c2 c3 cf d0 d1 d2 d3 df
    obtain ⟨c0, c1, c2, c3, cf⟩ := K1.out.four
    obtain ⟨d0, d1, d2, d3, df⟩ := K2.out.four
    have hz : (z1 = false) ∨ (z1 = true ∧ z2 = false) ∨ (z1 = true ∧ z2 = true ∧ z3 = false) ∨ (z1 = true ∧ z2 = true ∧ z3 = true) := by cases z1 <;> cases z2 <;> cases z3 <;> simp
    rcases hz with rfl | ⟨rfl, rfl⟩ | ⟨rfl, rfl, rfl⟩ | ⟨rfl, rfl, rfl⟩
    all_goals
      go_wp2_with fail
      go_ret
      exact ⟨by rw [hR.out]; rfl, hn0.out ▸ bw.out⟩
  · replace hR := hid (show R = (true && (z1 && (z2 && z3))) from hR.out)
    obtain ⟨c0, c1, c2, c3, cf⟩ := K1.out.four
    obtain ⟨d0, d1, d2, d3, df⟩ := K2.out.four
    go_upto_region 18 with fail
    clear c0 c1 c2 c3 cf d0 d1 d2 d3 df
    obtain ⟨c0, c1, c2, c3, cf⟩ := K1.out.four
    obtain ⟨d0, d1, d2, d3, df⟩ := K2.out.four
    have hz : (z1 = false) ∨ (z1 = true ∧ z2 = false) ∨ (z1 = true ∧ z2 = true ∧ z3 = false) ∨ (z1 = true ∧ z2 = true ∧ z3 = true) := by cases z1 <;> cases z2 <;> cases z3 <;> simp
    rcases hz with rfl | ⟨rfl, rfl⟩ | ⟨rfl, rfl, rfl⟩ | ⟨rfl, rfl, rfl⟩
    all_goals
      go_wp2_with fail
      go_ret
      exact ⟨by rw [hR.out]; rfl, hn0.out ▸ bw.out⟩
  · replace hR := hid (show R = (true && (z1 && (z2 && z3))) from hR.out)
    obtain ⟨c0, c1, c2, c3, cf⟩ := K1.out.four
    obtain ⟨d0, d1, d2, d3, df⟩ := K2.out.four
    go_upto_region 18 with fail
    clear c0 c1 c2 c3 cf d0 d1 d2 d3 df
    obtain ⟨c0, c1, c2, c3, cf⟩ := K1.out.four
    obtain ⟨d0, d1, d2, d3, df⟩ := K2.out.four
    have hz : (z1 = false) ∨ (z1 = true ∧ z2 = false) ∨ (z1 = true ∧ z2 = true ∧ z3 = false) ∨ (z1 = true ∧ z2 = true ∧ z3 = true) := by cases z1 <;> cases z2 <;> cases z3 <;> simp
    rcases hz with rfl | ⟨rfl, rfl⟩ | ⟨rfl, rfl, rfl⟩ | ⟨rfl, rfl, rfl⟩
    all_goals
      go_wp2_with fail
      go_ret
      exact ⟨by rw [hR.out]; rfl, hn0.out ▸ bw.out⟩
  · replace hR := hid (show R = (yB && (true && (z2 && z3))) from hR.out)
    obtain ⟨c0, c1, c2, c3, cf⟩ := K1.out.four
    obtain ⟨d0, d1, d2, d3, df⟩ := K2.out.four
    go_wp2_with fail
    refine (cY.out _ (by rw [hn0.out]; exact bw.out)).mono ?_
    rintro e w9 ⟨rfl, b8⟩
    replace K1 := hid (K1.out.below b8 K1.out.lt)
    replace K2 := hid (K2.out.below b8 K2.out.lt)
    replace bw := hid (bt (hn0.out ▸ bw.out) b8)
    rw [hn0.out] at bw
    clear b8
    clear c0 c1 c2 c3 cf d0 d1 d2 d3 df
    obtain ⟨c0, c1, c2, c3, cf⟩ := K1.out.four
    obtain ⟨d0, d1, d2, d3, df⟩ := K2.out.four
    go_upto_region 18 with fail
    replace K1 := hid (K1.out.other (p := ⟨n1, 1, none⟩) hne2 (.string ⟨#[]⟩))
    replace K2 := hid (show Blk _ n1 [.int .u8 (4 : Nat), .string ⟨#[]⟩, .slice oo ol oc, .slice ao al ac] 26 from K2.out.set 1 (.string ⟨#[]⟩))
    replace bw := hid (bw.out.setCell (p := ⟨n1, 1, none⟩) hle.out (.string ⟨#[]⟩))
    generalize (World.setCell _ ⟨n1, 1, none⟩ (.string ⟨#[]⟩)) = X5 at K1 K2 bw ⊢
    clear c0 c1 c2 c3 cf d0 d1 d2 d3 df
    obtain ⟨c0, c1, c2, c3, cf⟩ := K1.out.four
    obtain ⟨d0, d1, d2, d3, df⟩ := K2.out.four
    have hz : (yB = false) ∨ (yB = true ∧ z2 = false) ∨ (yB = true ∧ z2 = true ∧ z3 = false) ∨ (yB = true ∧ z2 = true ∧ z3 = true) := by cases yB <;> cases z2 <;> cases z3 <;> simp
    rcases hz with rfl | ⟨rfl, rfl⟩ | ⟨rfl, rfl, rfl⟩ | ⟨rfl, rfl, rfl⟩
    all_goals
      go_wp2_with fail
      go_ret
      exact ⟨by rw [hR.out]; rfl, hn0.out ▸ bw.out⟩
  · replace hR := hid (show R = (o1 && (z1 && (true && z3))) from hR.out)
    obtain ⟨c0, c1, c2, c3, cf⟩ := K1.out.four
    obtain ⟨d0, d1, d2, d3, df⟩ := K2.out.four
    go_upto_region 18 with fail
    replace K1 := hid (K1.out.other (p := ⟨n1, 2, none⟩) hne2 (.slice none 0 0))
    replace K2 := hid (show Blk _ n1 [.int .u8 (5 : Nat), .string nm, .slice none 0 0, .slice ao al ac] 26 from K2.out.set 2 (.slice none 0 0))
    replace bw := hid (bw.out.setCell (p := ⟨n1, 2, none⟩) hle.out (.slice none 0 0))
    generalize (World.setCell _ ⟨n1, 2, none⟩ (.slice none 0 0)) = X5 at K1 K2 bw ⊢
    clear c0 c1 c2 c3 cf d0 d1 d2 d3 df
    obtain ⟨c0, c1, c2, c3, cf⟩ := K1.out.four
    obtain ⟨d0, d1, d2, d3, df⟩ := K2.out.four
    have hz : (o1 = false) ∨ (o1 = true ∧ z1 = false) ∨ (o1 = true ∧ z1 = true ∧ z3 = false) ∨ (o1 = true ∧ z1 = true ∧ z3 = true) := by cases o1 <;> cases z1 <;> cases z3 <;> simp
    rcases hz with rfl | ⟨rfl, rfl⟩ | ⟨rfl, rfl, rfl⟩ | ⟨rfl, rfl, rfl⟩
    all_goals
      go_wp2_with fail
      go_ret
      exact ⟨by rw [hR.out]; rfl, hn0.out ▸ bw.out⟩
  · replace hR := hid (show R = (aB && (z1 && (z2 && true))) from hR.out)
    obtain ⟨c0, c1, c2, c3, cf⟩ := K1.out.four
    obtain ⟨d0, d1, d2, d3, df⟩ := K2.out.four
    go_wp2_with fail
    refine (cA.out _ (by rw [hn0.out]; exact bw.out)).mono ?_
    rintro e w9 ⟨rfl, b8⟩
    replace K1 := hid (K1.out.below b8 K1.out.lt)
    replace K2 := hid (K2.out.below b8 K2.out.lt)
    replace bw := hid (bt (hn0.out ▸ bw.out) b8)
    rw [hn0.out] at bw
    clear b8
    clear c0 c1 c2 c3 cf d0 d1 d2 d3 df
    obtain ⟨c0, c1, c2, c3, cf⟩ := K1.out.four
    obtain ⟨d0, d1, d2, d3, df⟩ := K2.out.four
    go_upto_region 18 with fail
    replace K1 := hid (K1.out.other (p := ⟨n1, 3, none⟩) hne2 (.slice none 0 0))
    replace K2 := hid (show Blk _ n1 [.int .u8 (6 : Nat), .string nm, .slice oo ol oc, .slice none 0 0] 26 from K2.out.set 3 (.slice none 0 0))
    replace bw := hid (bw.out.setCell (p := ⟨n1, 3, none⟩) hle.out (.slice none 0 0))
    generalize (World.setCell _ ⟨n1, 3, none⟩ (.slice none 0 0)) = X5 at K1 K2 bw ⊢
    clear c0 c1 c2 c3 cf d0 d1 d2 d3 df
    obtain ⟨c0, c1, c2, c3, cf⟩ := K1.out.four
    obtain ⟨d0, d1, d2, d3, df⟩ := K2.out.four
    have hz : (aB = false) ∨ (aB = true ∧ z1 = false) ∨ (aB = true ∧ z1 = true ∧ z2 = false) ∨ (aB = true ∧ z1 = true ∧ z2 = true) := by cases aB <;> cases z1 <;> cases z2 <;> simp
    rcases hz with rfl | ⟨rfl, rfl⟩ | ⟨rfl, rfl, rfl⟩ | ⟨rfl, rfl, rfl⟩
    all_goals
      go_wp2_with fail
      go_ret
      exact ⟨by rw [hR.out]; rfl, hn0.out ▸ bw.out⟩
  · replace hR := hid (show R = false by rw [hR.out, if_neg (by omega), if_neg (by omega), if_neg (by omega), if_neg (by omega)])
    have g0 : ((k : Int) == 0) = false := by rw [beq_eq_false_iff_ne]; omega
    have g1 : ((k : Int) == 1) = false := by rw [beq_eq_false_iff_ne]; omega
    have g2 : ((k : Int) == 2) = false := by rw [beq_eq_false_iff_ne]; omega
    have g3 : ((k : Int) == 3) = false := by rw [beq_eq_false_iff_ne]; omega
    have g4 : ((k : Int) == 4) = false := by rw [beq_eq_false_iff_ne]; omega
    have g5 : ((k : Int) == 5) = false := by rw [beq_eq_false_iff_ne]; omega
    have g6 : ((k : Int) == 6) = false := by rw [beq_eq_false_iff_ne]; omega
    obtain ⟨c0, c1, c2, c3, cf⟩ := K1.out.four
    obtain ⟨d0, d1, d2, d3, df⟩ := K2.out.four
    go_wp2_with fail
    go_ret
    exact ⟨by rw [hR.out]; rfl, hn0.out ▸ bw.out⟩
end Go.Proofs.YtklclfolmfhocaaGreatDoor.Tyt
