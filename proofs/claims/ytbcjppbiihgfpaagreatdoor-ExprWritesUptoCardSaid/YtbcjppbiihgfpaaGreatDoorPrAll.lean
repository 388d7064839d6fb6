/-
  PrAll: PrOwner, PrUnary, PrChoice, PrPair, PrCall, PrAttr, PrQuest, PrLeaf, PrList, PrRec, PrExpr, PrWriter, PrPos, PrShows, PrPrint in one. Written by wip/prgroups.py.
-/
import Derived.Test.YtbcjppbiihgfpaaGreatDoorPrBase
import Derived.Test.YtbcjppbiihgfpaaGreatDoorExSpell
import Derived.Deep.RegionHeld3
import Derived.Test.YtbcjppbiihgfpaaGreatDoorExDeepW
namespace Go.Proofs.YtbcjppbiihgfpaaGreatDoor.Ex
open Go.ChangeShapes Go.WideShapes Go.ChangeAt Go.RowKit
open Go.Proofs.YtbcjppbiihgfpaaGreatDoor.Mem Go.Proofs.YtbcjppbiihgfpaaGreatDoor.Lik
set_option linter.unusedVariables false
set_option linter.unusedSimpArgs false
set_option maxRecDepth 100000
set_option maxHeartbeats 4000000 in
theorem owner_any (x : T) (ih : Shows x) : WShows 164 x (baseL x.kind (showT x)) := by
  intro w0 W b l h hs hp hr hu hI hlen
  obtain ⟨no, nc, lo, lc, e1, e2, l1, l2⟩ := h.forms
  have hkid := hid (fun (s : By) (X : World) (P : PS w0 W b l s X) (hle : l.length + (s.length + (showT x).length) ≤ 140737488355328) => T.val_eq e1 e2 ▸ P.kid x ih h hs hp hr hle)
  have i2 : (x.list.length : Int) ≤ 9223372036854775807 := by omega
  rw [T.val_eq e1 e2]
  generalize showT x = sx at *
  have P0 := hid (PS.begin hI hu)
  obtain ⟨R, hR⟩ : ∃ R, baseL x.kind sx = R := ⟨_, rfl⟩
  rw [hR] at hlen ⊢
  replace hR := hid (hR.symm.trans (show baseL x.kind sx = _ by unfold baseL; rfl))
  replace hlen := hid hlen
  clear h hs hp hr hI hu ih e1 e2 l1 l2
  generalize x.kind = k at *
  generalize x.list.length = ll at *
  go_enter Tryz.func164, Tryz.ntmps164
  go_upto_region 1 with fail
  have K1 := hid (Blk.new W [.int .u8 (k : Nat), .int .i64 x.num, .string x.str, .string x.typ, .slice no x.names.length nc, .slice lo ll lc] 26)
  obtain ⟨P1, st⟩ := P0.out.alloc (.cells #[.int .u8 (k : Nat), .int .i64 x.num, .string x.str, .string x.typ, .slice no x.names.length nc, .slice lo ll lc] 26)
  generalize W.alloc (.cells #[.int .u8 (k : Nat), .int .i64 x.num, .string x.str, .string x.typ, .slice no x.names.length nc, .slice lo ll lc] 26) = X0 at K1 P1 ⊢
  replace P1 := hid P1
  clear P0 st
  by_cases hb : k = 12 ∨ k = 13
  · replace hR := hid (hR.out.trans (if_pos hb))
    replace hlen := hid (show l.length + (40 :: (sx ++ [41])).length ≤ 140737488355328 from hR.out ▸ hlen.out)
    rcases hb with rfl | rfl
    · skip
      have cP := hid (P1.out.put [⟨#[40]⟩] (by simp) (by have hle := hlen.out; simp [catL] at hle ⊢; omega))
      obtain ⟨c0, c1, c2, c3, c4, c5, cf⟩ := six K1.out
      go_wp2_with fail
      refine cP.out.mono ?_
      rintro e X1 ⟨rfl, P2, st⟩
      replace K1 := hid (st _ _ _ (by decide) (by decide) K1.out)
      clear c0 c1 c2 c3 c4 c5 cf cP P1 st
      have P1 := hid P2
      clear P2
      have ck := hid (hkid.out _ _ P1.out (by have hle := hlen.out; simp [catL] at hle ⊢; omega))
      obtain ⟨c0, c1, c2, c3, c4, c5, cf⟩ := six K1.out
      go_wp2_with fail
      refine ck.out.mono ?_
      rintro e X2 ⟨rfl, P2, st⟩
      replace K1 := hid (st _ _ _ (by decide) (by decide) K1.out)
      clear c0 c1 c2 c3 c4 c5 cf ck P1 st
      have P1 := hid P2
      clear P2
      have cP := hid (P1.out.put [⟨#[41]⟩] (by simp) (by have hle := hlen.out; simp [catL] at hle ⊢; omega))
      obtain ⟨c0, c1, c2, c3, c4, c5, cf⟩ := six K1.out
      go_wp2_with fail
      refine cP.out.mono ?_
      rintro e X3 ⟨rfl, P2, st⟩
      replace K1 := hid (st _ _ _ (by decide) (by decide) K1.out)
      clear c0 c1 c2 c3 c4 c5 cf cP P1 st
      have P1 := hid P2
      clear P2
      have hf := hid (P1.out.done (t := R) (by rw [hR.out]; simp [catL]))
      clear P1 K1
      go_wp2_with fail
      first | go_end0 | go_ret2 | go_ret
      exact ⟨rfl, hf.out⟩
    · skip
      have cP := hid (P1.out.put [⟨#[40]⟩] (by simp) (by have hle := hlen.out; simp [catL] at hle ⊢; omega))
      obtain ⟨c0, c1, c2, c3, c4, c5, cf⟩ := six K1.out
      go_wp2_with fail
      refine cP.out.mono ?_
      rintro e X4 ⟨rfl, P2, st⟩
      replace K1 := hid (st _ _ _ (by decide) (by decide) K1.out)
      clear c0 c1 c2 c3 c4 c5 cf cP P1 st
      have P1 := hid P2
      clear P2
      have ck := hid (hkid.out _ _ P1.out (by have hle := hlen.out; simp [catL] at hle ⊢; omega))
      obtain ⟨c0, c1, c2, c3, c4, c5, cf⟩ := six K1.out
      go_wp2_with fail
      refine ck.out.mono ?_
      rintro e X5 ⟨rfl, P2, st⟩
      replace K1 := hid (st _ _ _ (by decide) (by decide) K1.out)
      clear c0 c1 c2 c3 c4 c5 cf ck P1 st
      have P1 := hid P2
      clear P2
      have cP := hid (P1.out.put [⟨#[41]⟩] (by simp) (by have hle := hlen.out; simp [catL] at hle ⊢; omega))
      obtain ⟨c0, c1, c2, c3, c4, c5, cf⟩ := six K1.out
      go_wp2_with fail
      refine cP.out.mono ?_
      rintro e X6 ⟨rfl, P2, st⟩
      replace K1 := hid (st _ _ _ (by decide) (by decide) K1.out)
      clear c0 c1 c2 c3 c4 c5 cf cP P1 st
      have P1 := hid P2
      clear P2
      have hf := hid (P1.out.done (t := R) (by rw [hR.out]; simp [catL]))
      clear P1 K1
      go_wp2_with fail
      first | go_end0 | go_ret2 | go_ret
      exact ⟨rfl, hf.out⟩
  · replace hR := hid (hR.out.trans (if_neg hb))
    replace hlen := hid (show l.length + sx.length ≤ 140737488355328 from hR.out ▸ hlen.out)
    have q1 : ((k : Int) != 12) = true := by simp; omega
    have q2 : ((k : Int) != 13) = true := by simp; omega
    clear hb
    have ck := hid (hkid.out _ _ P1.out (by have hle := hlen.out; simp [catL] at hle ⊢; omega))
    obtain ⟨c0, c1, c2, c3, c4, c5, cf⟩ := six K1.out
    go_wp2_with fail
    refine ck.out.mono ?_
    rintro e X7 ⟨rfl, P2, st⟩
    replace K1 := hid (st _ _ _ (by decide) (by decide) K1.out)
    clear c0 c1 c2 c3 c4 c5 cf ck P1 st
    have P1 := hid P2
    clear P2
    have hf := hid (P1.out.done (t := R) (by rw [hR.out]; simp))
    clear P1 K1
    go_wp2_with fail
    exact bodyPost_ret (v := .tuple #[]) (by simp [results, Tryz.results164, go_sem]) rfl ⟨rfl, hf.out⟩
end Go.Proofs.YtbcjppbiihgfpaaGreatDoor.Ex
namespace Go.Proofs.YtbcjppbiihgfpaaGreatDoor.Ex
open Go.ChangeShapes Go.WideShapes Go.ChangeAt Go.RowKit
open Go.Proofs.YtbcjppbiihgfpaaGreatDoor.Mem Go.Proofs.YtbcjppbiihgfpaaGreatDoor.Lik
set_option linter.unusedVariables false
set_option linter.unusedSimpArgs false
set_option maxRecDepth 100000
set_option maxHeartbeats 4000000 in
theorem unary_any (x : T) (ih : ∀ z ∈ x.list, Shows z) (hk : x.kind = 12 ∨ x.kind = 13) : MShows 108 x := by
  intro w0 W b l h hs hp hr hu hI hlen
  obtain ⟨y, hl⟩ := kids1 hr (by omega)
  have hym : y ∈ x.list := by rw [hl]; simp
  have ho0 : 0 < x.list.length := by rw [hl]; simp
  have hy0 : x.list[0] = y := List.getElem_of_eq hl _
  have yok := h.parts.2.2.2.2.2.2.2 y hym
  obtain ⟨yno, ync, ylo, ylc, fy1, fy2, my1, my2⟩ := yok.forms
  obtain ⟨no, nc, lo, lc, e1, e2, l1, l2⟩ := h.forms
  obtain ⟨xb, xo, rfl⟩ := base_of h e2 ho0
  have hkid0 := hid (fun (s : By) (X : World) (P : PS w0 W b l s X) (hle : l.length + (s.length + (showT y).length) ≤ 140737488355328) => kid_val fy1 fy2 ▸ P.kid y (ih y hym) yok hs hp (right_kid hr hym) hle)
  have hcell0 := hid (fun (X : World) (hu : Below w0.heap.size w0 X) => kid_at h hu e2 0 ho0 hy0 rfl fy1 fy2)
  have hsh : showT x = (if x.kind = 12 then [33] else [45]) ++ showT y := by
    rw [showT_eq, hl]
    unfold nodeS
    rcases hk with hk | hk <;> simp [hk, k0]
  have hll : x.list.length = 1 := by rw [hl]; rfl
  rw [T.val_eq e1 e2]
  rw [hsh] at hlen ⊢
  rw [hll]
  generalize showT y = sy at *
  have P0 := hid (PS.begin hI hu)
  replace hlen := hid hlen
  clear h hs hp hr hI hu ih hsh hym hy0 ho0 yok fy1 fy2 e1 e2 hl hll l1 l2
  generalize x.kind = k at *
  go_enter Tryz.func108, Tryz.ntmps108
  go_upto_region 1 with fail
  have K1 := hid (Blk.new W [.int .u8 (k : Nat), .int .i64 x.num, .string x.str, .string x.typ, .slice no x.names.length nc, .slice (some ⟨xb, xo, none⟩) 1 lc] 26)
  obtain ⟨P1, st⟩ := P0.out.alloc (.cells #[.int .u8 (k : Nat), .int .i64 x.num, .string x.str, .string x.typ, .slice no x.names.length nc, .slice (some ⟨xb, xo, none⟩) 1 lc] 26)
  generalize W.alloc (.cells #[.int .u8 (k : Nat), .int .i64 x.num, .string x.str, .string x.typ, .slice no x.names.length nc, .slice (some ⟨xb, xo, none⟩) 1 lc] 26) = X0 at K1 P1 ⊢
  replace P1 := hid P1
  clear P0 st
  rcases hk with hk | hk
  · subst hk
    have cP := hid (P1.out.put [⟨#[33]⟩] (by simp) (by have hle := hlen.out; simp [catL] at hle ⊢; omega))
    obtain ⟨c0, c1, c2, c3, c4, c5, cf⟩ := six K1.out
    go_wp2_with fail
    refine cP.out.mono ?_
    rintro e X1 ⟨rfl, P2, st⟩
    replace K1 := hid (st _ _ _ (by decide) (by decide) K1.out)
    clear c0 c1 c2 c3 c4 c5 cf cP P1 st
    have P1 := hid P2
    clear P2
    obtain ⟨d0, d1, d2, d3, d4, d5⟩ := hcell0.out _ P1.out.up
    simp only [Nat.zero_mul, Nat.add_zero] at d0 d1 d2 d3 d4 d5
    have ck := hid (hkid0.out _ _ P1.out (by have hle := hlen.out; simp [catL] at hle ⊢; omega))
    obtain ⟨c0, c1, c2, c3, c4, c5, cf⟩ := six K1.out
    go_wp2_with fail
    refine ck.out.mono ?_
    rintro e X2 ⟨rfl, P2, st⟩
    clear d0 d1 d2 d3 d4 d5
    replace K1 := hid (st _ _ _ (by decide) (by decide) K1.out)
    clear c0 c1 c2 c3 c4 c5 cf ck P1 st
    have P1 := hid P2
    clear P2
    have hf := hid (P1.out.done (t := [33] ++ sy) (by simp [catL]))
    clear P1 K1
    go_wp2_with fail
    first | (go_end0; exact ⟨rfl, hf.out⟩) | exact bodyPost_ret (v := .tuple #[]) (by simp [results, Tryz.results108, go_sem]) rfl ⟨rfl, hf.out⟩
  · subst hk
    have cP := hid (P1.out.put [⟨#[45]⟩] (by simp) (by have hle := hlen.out; simp [catL] at hle ⊢; omega))
    obtain ⟨c0, c1, c2, c3, c4, c5, cf⟩ := six K1.out
    go_wp2_with fail
    refine cP.out.mono ?_
    rintro e X3 ⟨rfl, P2, st⟩
    replace K1 := hid (st _ _ _ (by decide) (by decide) K1.out)
    clear c0 c1 c2 c3 c4 c5 cf cP P1 st
    have P1 := hid P2
    clear P2
    obtain ⟨d0, d1, d2, d3, d4, d5⟩ := hcell0.out _ P1.out.up
    simp only [Nat.zero_mul, Nat.add_zero] at d0 d1 d2 d3 d4 d5
    have ck := hid (hkid0.out _ _ P1.out (by have hle := hlen.out; simp [catL] at hle ⊢; omega))
    obtain ⟨c0, c1, c2, c3, c4, c5, cf⟩ := six K1.out
    go_wp2_with fail
    refine ck.out.mono ?_
    rintro e X4 ⟨rfl, P2, st⟩
    clear d0 d1 d2 d3 d4 d5
    replace K1 := hid (st _ _ _ (by decide) (by decide) K1.out)
    clear c0 c1 c2 c3 c4 c5 cf ck P1 st
    have P1 := hid P2
    clear P2
    have hf := hid (P1.out.done (t := [45] ++ sy) (by simp [catL]))
    clear P1 K1
    go_wp2_with fail
    first | (go_end0; exact ⟨rfl, hf.out⟩) | exact bodyPost_ret (v := .tuple #[]) (by simp [results, Tryz.results108, go_sem]) rfl ⟨rfl, hf.out⟩
end Go.Proofs.YtbcjppbiihgfpaaGreatDoor.Ex
namespace Go.Proofs.YtbcjppbiihgfpaaGreatDoor.Ex
open Go.ChangeShapes Go.WideShapes Go.ChangeAt Go.RowKit
open Go.Proofs.YtbcjppbiihgfpaaGreatDoor.Mem Go.Proofs.YtbcjppbiihgfpaaGreatDoor.Lik
set_option linter.unusedVariables false
set_option linter.unusedSimpArgs false
set_option maxRecDepth 100000
set_option maxHeartbeats 4000000 in
theorem choice_any (x : T) (ih : ∀ z ∈ x.list, Shows z) (hk : x.kind = 14) : MShows 109 x := by
  intro w0 W b l h hs hp hr hu hI hlen
  obtain ⟨y, z, u, hl⟩ := kids3 hr hk
  have hym : y ∈ x.list := by rw [hl]; simp
  have ho0 : 0 < x.list.length := by rw [hl]; simp
  have hy0 : x.list[0] = y := List.getElem_of_eq hl _
  have yok := h.parts.2.2.2.2.2.2.2 y hym
  obtain ⟨yno, ync, ylo, ylc, fy1, fy2, my1, my2⟩ := yok.forms
  have hzm : z ∈ x.list := by rw [hl]; simp
  have ho1 : 1 < x.list.length := by rw [hl]; simp
  have hz0 : x.list[1] = z := List.getElem_of_eq hl _
  have zok := h.parts.2.2.2.2.2.2.2 z hzm
  obtain ⟨zno, znc, zlo, zlc, fz1, fz2, mz1, mz2⟩ := zok.forms
  have hum : u ∈ x.list := by rw [hl]; simp
  have ho2 : 2 < x.list.length := by rw [hl]; simp
  have hu0 : x.list[2] = u := List.getElem_of_eq hl _
  have uok := h.parts.2.2.2.2.2.2.2 u hum
  obtain ⟨uno, unc, ulo, ulc, fu1, fu2, mu1, mu2⟩ := uok.forms
  obtain ⟨no, nc, lo, lc, e1, e2, l1, l2⟩ := h.forms
  obtain ⟨xb, xo, rfl⟩ := base_of h e2 ho0
  have hkid0 := hid (fun (s : By) (X : World) (P : PS w0 W b l s X) (hle : l.length + (s.length + (showT y).length) ≤ 140737488355328) => kid_val fy1 fy2 ▸ P.kid y (ih y hym) yok hs hp (right_kid hr hym) hle)
  have hkid1 := hid (fun (s : By) (X : World) (P : PS w0 W b l s X) (hle : l.length + (s.length + (showT z).length) ≤ 140737488355328) => kid_val fz1 fz2 ▸ P.kid z (ih z hzm) zok hs hp (right_kid hr hzm) hle)
  have hkid2 := hid (fun (s : By) (X : World) (P : PS w0 W b l s X) (hle : l.length + (s.length + (showT u).length) ≤ 140737488355328) => kid_val fu1 fu2 ▸ P.kid u (ih u hum) uok hs hp (right_kid hr hum) hle)
  have hcell0 := hid (fun (X : World) (hu : Below w0.heap.size w0 X) => kid_at h hu e2 0 ho0 hy0 rfl fy1 fy2)
  have hcell1 := hid (fun (X : World) (hu : Below w0.heap.size w0 X) => kid_at h hu e2 1 ho1 hz0 rfl fz1 fz2)
  have hcell2 := hid (fun (X : World) (hu : Below w0.heap.size w0 X) => kid_at h hu e2 2 ho2 hu0 rfl fu1 fu2)
  have hsh : showT x = [40, 105, 102, 32] ++ (showT y ++ ([32, 116, 104, 101, 110, 32] ++ (showT z ++ ([32, 101, 108, 115, 101, 32] ++ (showT u ++ [41]))))) := by
    rw [showT_eq, hl]
    unfold nodeS
    simp [hk, k0, k1, k2]
  have hll : x.list.length = 3 := by rw [hl]; rfl
  rw [T.val_eq e1 e2]
  rw [hsh] at hlen ⊢
  rw [hll]
  generalize showT y = sy at *
  generalize showT z = sz at *
  generalize showT u = su at *
  have P0 := hid (PS.begin hI hu)
  replace hlen := hid hlen
  clear h hs hp hr hI hu ih hsh hym hy0 ho0 yok fy1 fy2 hzm hz0 ho1 zok fz1 fz2 hum hu0 ho2 uok fu1 fu2 e1 e2 hl hll l1 l2
  generalize x.kind = k at *
  replace hk := hid hk
  go_enter Tryz.func109, Tryz.ntmps109
  go_upto_region 1 with fail
  have K1 := hid (Blk.new W [.int .u8 (k : Nat), .int .i64 x.num, .string x.str, .string x.typ, .slice no x.names.length nc, .slice (some ⟨xb, xo, none⟩) 3 lc] 26)
  obtain ⟨P1, st⟩ := P0.out.alloc (.cells #[.int .u8 (k : Nat), .int .i64 x.num, .string x.str, .string x.typ, .slice no x.names.length nc, .slice (some ⟨xb, xo, none⟩) 3 lc] 26)
  generalize W.alloc (.cells #[.int .u8 (k : Nat), .int .i64 x.num, .string x.str, .string x.typ, .slice no x.names.length nc, .slice (some ⟨xb, xo, none⟩) 3 lc] 26) = X0 at K1 P1 ⊢
  replace P1 := hid P1
  clear P0 st
  replace hk := hk.out
  subst hk
  have cP := hid (P1.out.put [⟨#[40, 105, 102, 32]⟩] (by simp) (by have hle := hlen.out; simp [catL] at hle ⊢; omega))
  obtain ⟨c0, c1, c2, c3, c4, c5, cf⟩ := six K1.out
  go_wp2_with fail
  refine cP.out.mono ?_
  rintro e X1 ⟨rfl, P2, st⟩
  replace K1 := hid (st _ _ _ (by decide) (by decide) K1.out)
  clear c0 c1 c2 c3 c4 c5 cf cP P1 st
  have P1 := hid P2
  clear P2
  obtain ⟨d0, d1, d2, d3, d4, d5⟩ := hcell0.out _ P1.out.up
  simp only [Nat.zero_mul, Nat.add_zero] at d0 d1 d2 d3 d4 d5
  have ck := hid (hkid0.out _ _ P1.out (by have hle := hlen.out; simp [catL] at hle ⊢; omega))
  obtain ⟨c0, c1, c2, c3, c4, c5, cf⟩ := six K1.out
  go_wp2_with fail
  refine ck.out.mono ?_
  rintro e X2 ⟨rfl, P2, st⟩
  clear d0 d1 d2 d3 d4 d5
  replace K1 := hid (st _ _ _ (by decide) (by decide) K1.out)
  clear c0 c1 c2 c3 c4 c5 cf ck P1 st
  have P1 := hid P2
  clear P2
  have cP := hid (P1.out.put [⟨#[32, 116, 104, 101, 110, 32]⟩] (by simp) (by have hle := hlen.out; simp [catL] at hle ⊢; omega))
  obtain ⟨c0, c1, c2, c3, c4, c5, cf⟩ := six K1.out
  go_wp2_with fail
  refine cP.out.mono ?_
  rintro e X3 ⟨rfl, P2, st⟩
  replace K1 := hid (st _ _ _ (by decide) (by decide) K1.out)
  clear c0 c1 c2 c3 c4 c5 cf cP P1 st
  have P1 := hid P2
  clear P2
  obtain ⟨d0, d1, d2, d3, d4, d5⟩ := hcell1.out _ P1.out.up
  simp only [show 1 * 6 = 6 from rfl] at d0 d1 d2 d3 d4 d5
  have ck := hid (hkid1.out _ _ P1.out (by have hle := hlen.out; simp [catL] at hle ⊢; omega))
  obtain ⟨c0, c1, c2, c3, c4, c5, cf⟩ := six K1.out
  go_wp2_with fail
  refine ck.out.mono ?_
  rintro e X4 ⟨rfl, P2, st⟩
  clear d0 d1 d2 d3 d4 d5
  replace K1 := hid (st _ _ _ (by decide) (by decide) K1.out)
  clear c0 c1 c2 c3 c4 c5 cf ck P1 st
  have P1 := hid P2
  clear P2
  have cP := hid (P1.out.put [⟨#[32, 101, 108, 115, 101, 32]⟩] (by simp) (by have hle := hlen.out; simp [catL] at hle ⊢; omega))
  obtain ⟨c0, c1, c2, c3, c4, c5, cf⟩ := six K1.out
  go_wp2_with fail
  refine cP.out.mono ?_
  rintro e X5 ⟨rfl, P2, st⟩
  replace K1 := hid (st _ _ _ (by decide) (by decide) K1.out)
  clear c0 c1 c2 c3 c4 c5 cf cP P1 st
  have P1 := hid P2
  clear P2
  obtain ⟨d0, d1, d2, d3, d4, d5⟩ := hcell2.out _ P1.out.up
  simp only [show 2 * 6 = 12 from rfl] at d0 d1 d2 d3 d4 d5
  have ck := hid (hkid2.out _ _ P1.out (by have hle := hlen.out; simp [catL] at hle ⊢; omega))
  obtain ⟨c0, c1, c2, c3, c4, c5, cf⟩ := six K1.out
  go_wp2_with fail
  refine ck.out.mono ?_
  rintro e X6 ⟨rfl, P2, st⟩
  clear d0 d1 d2 d3 d4 d5
  replace K1 := hid (st _ _ _ (by decide) (by decide) K1.out)
  clear c0 c1 c2 c3 c4 c5 cf ck P1 st
  have P1 := hid P2
  clear P2
  have cP := hid (P1.out.put [⟨#[41]⟩] (by simp) (by have hle := hlen.out; simp [catL] at hle ⊢; omega))
  obtain ⟨c0, c1, c2, c3, c4, c5, cf⟩ := six K1.out
  go_wp2_with fail
  refine cP.out.mono ?_
  rintro e X7 ⟨rfl, P2, st⟩
  replace K1 := hid (st _ _ _ (by decide) (by decide) K1.out)
  clear c0 c1 c2 c3 c4 c5 cf cP P1 st
  have P1 := hid P2
  clear P2
  have hf := hid (P1.out.done (t := [40, 105, 102, 32] ++ (sy ++ ([32, 116, 104, 101, 110, 32] ++ (sz ++ ([32, 101, 108, 115, 101, 32] ++ (su ++ [41])))))) (by simp [catL]))
  clear P1 K1
  go_wp2_with fail
  first | (go_end0; exact ⟨rfl, hf.out⟩) | exact bodyPost_ret (v := .tuple #[]) (by simp [results, Tryz.results109, go_sem]) rfl ⟨rfl, hf.out⟩
end Go.Proofs.YtbcjppbiihgfpaaGreatDoor.Ex
namespace Go.Proofs.YtbcjppbiihgfpaaGreatDoor.Ex
open Go.ChangeShapes Go.WideShapes Go.ChangeAt Go.RowKit
open Go.Proofs.YtbcjppbiihgfpaaGreatDoor.Mem Go.Proofs.YtbcjppbiihgfpaaGreatDoor.Lik
set_option linter.unusedVariables false
set_option linter.unusedSimpArgs false
set_option maxRecDepth 100000
set_option maxHeartbeats 4000000 in
theorem pair_any (x : T) (ih : ∀ z ∈ x.list, Shows z) (hk : 15 ≤ x.kind ∧ x.kind ≤ 26) : MShows 111 x := by
  intro w0 W b l h hs hp hr hu hI hlen
  obtain ⟨⟨y, z, hl⟩, hk29⟩ := kids2 hr (by omega)
  have hym : y ∈ x.list := by rw [hl]; simp
  have ho0 : 0 < x.list.length := by rw [hl]; simp
  have hy0 : x.list[0] = y := List.getElem_of_eq hl _
  have yok := h.parts.2.2.2.2.2.2.2 y hym
  obtain ⟨yno, ync, ylo, ylc, fy1, fy2, my1, my2⟩ := yok.forms
  have hzm : z ∈ x.list := by rw [hl]; simp
  have ho1 : 1 < x.list.length := by rw [hl]; simp
  have hz0 : x.list[1] = z := List.getElem_of_eq hl _
  have zok := h.parts.2.2.2.2.2.2.2 z hzm
  obtain ⟨zno, znc, zlo, zlc, fz1, fz2, mz1, mz2⟩ := zok.forms
  obtain ⟨no, nc, lo, lc, e1, e2, l1, l2⟩ := h.forms
  obtain ⟨xb, xo, rfl⟩ := base_of h e2 ho0
  have hkid0 := hid (fun (s : By) (X : World) (P : PS w0 W b l s X) (hle : l.length + (s.length + (showT y).length) ≤ 140737488355328) => kid_val fy1 fy2 ▸ P.kid y (ih y hym) yok hs hp (right_kid hr hym) hle)
  have hkid1 := hid (fun (s : By) (X : World) (P : PS w0 W b l s X) (hle : l.length + (s.length + (showT z).length) ≤ 140737488355328) => kid_val fz1 fz2 ▸ P.kid z (ih z hzm) zok hs hp (right_kid hr hzm) hle)
  have hcell0 := hid (fun (X : World) (hu : Below w0.heap.size w0 X) => kid_at h hu e2 0 ho0 hy0 rfl fy1 fy2)
  have hcell1 := hid (fun (X : World) (hu : Below w0.heap.size w0 X) => kid_at h hu e2 1 ho1 hz0 rfl fz1 fz2)
  have hspell := hid (fun (X : World) (hu : Below w0.heap.size w0 X) => spell_any x.kind h.parts.1.1 X ((hs.below hu).laid))
  have hsh : showT x = [40] ++ (showT y ++ ([32] ++ (spellT x.kind ++ ([32] ++ (showT z ++ [41]))))) := by
    rw [showT_eq, hl]
    unfold nodeS
    rw [if_neg (by omega), if_neg (by omega), if_neg (by omega), if_neg (by omega), if_neg (by omega), if_neg (by omega), if_neg (by omega), if_neg (by omega), if_neg (by omega), if_neg (by omega), if_neg (by omega), if_neg (by omega), if_neg (by omega), if_neg (by omega), if_neg (by omega)]
    rfl
  have hll : x.list.length = 2 := by rw [hl]; rfl
  rw [T.val_eq e1 e2]
  rw [hsh] at hlen ⊢
  rw [hll]
  generalize showT y = sy at *
  generalize showT z = sz at *
  unfold spellS at hspell
  generalize spellT x.kind = sp at *
  have P0 := hid (PS.begin hI hu)
  replace hlen := hid hlen
  clear h hs hp hr hI hu ih hsh hym hy0 ho0 yok fy1 fy2 hzm hz0 ho1 zok fz1 fz2 e1 e2 hl hll l1 l2
  generalize x.kind = k at *
  clear hk hk29
  go_enter Tryz.func111, Tryz.ntmps111
  go_upto_region 1 with fail
  have K1 := hid (Blk.new W [.int .u8 (k : Nat), .int .i64 x.num, .string x.str, .string x.typ, .slice no x.names.length nc, .slice (some ⟨xb, xo, none⟩) 2 lc] 26)
  obtain ⟨P1, st⟩ := P0.out.alloc (.cells #[.int .u8 (k : Nat), .int .i64 x.num, .string x.str, .string x.typ, .slice no x.names.length nc, .slice (some ⟨xb, xo, none⟩) 2 lc] 26)
  generalize W.alloc (.cells #[.int .u8 (k : Nat), .int .i64 x.num, .string x.str, .string x.typ, .slice no x.names.length nc, .slice (some ⟨xb, xo, none⟩) 2 lc] 26) = X0 at K1 P1 ⊢
  replace P1 := hid P1
  clear P0 st
  have cP := hid (P1.out.put [⟨#[40]⟩] (by simp) (by have hle := hlen.out; simp [catL] at hle ⊢; omega))
  obtain ⟨c0, c1, c2, c3, c4, c5, cf⟩ := six K1.out
  go_wp2_with fail
  refine cP.out.mono ?_
  rintro e X1 ⟨rfl, P2, st⟩
  replace K1 := hid (st _ _ _ (by decide) (by decide) K1.out)
  clear c0 c1 c2 c3 c4 c5 cf cP P1 st
  have P1 := hid P2
  clear P2
  obtain ⟨d0, d1, d2, d3, d4, d5⟩ := hcell0.out _ P1.out.up
  simp only [Nat.zero_mul, Nat.add_zero] at d0 d1 d2 d3 d4 d5
  have ck := hid (hkid0.out _ _ P1.out (by have hle := hlen.out; simp [catL] at hle ⊢; omega))
  obtain ⟨c0, c1, c2, c3, c4, c5, cf⟩ := six K1.out
  go_wp2_with fail
  refine ck.out.mono ?_
  rintro e X2 ⟨rfl, P2, st⟩
  clear d0 d1 d2 d3 d4 d5
  replace K1 := hid (st _ _ _ (by decide) (by decide) K1.out)
  clear c0 c1 c2 c3 c4 c5 cf ck P1 st
  have P1 := hid P2
  clear P2
  have cQ := hid (hspell.out _ P1.out.up)
  obtain ⟨c0, c1, c2, c3, c4, c5, cf⟩ := six K1.out
  go_wp2_with fail
  refine (cQ.out).mono ?_
  rintro e X3 ⟨rfl, b1⟩
  obtain ⟨P2, st⟩ := P1.out.below b1
  replace K1 := hid (st _ _ _ (by decide) (by decide) K1.out)
  clear c0 c1 c2 c3 c4 c5 cf cQ b1 P1 st
  have P1 := hid P2
  clear P2
  have cP := hid (P1.out.put [⟨#[32]⟩, ⟨sp.toArray⟩, ⟨#[32]⟩] (by simp) (by have hle := hlen.out; simp [catL] at hle ⊢; omega))
  obtain ⟨c0, c1, c2, c3, c4, c5, cf⟩ := six K1.out
  go_wp2_with fail
  refine cP.out.mono ?_
  rintro e X4 ⟨rfl, P2, st⟩
  replace K1 := hid (st _ _ _ (by decide) (by decide) K1.out)
  clear c0 c1 c2 c3 c4 c5 cf cP P1 st
  have P1 := hid P2
  clear P2
  obtain ⟨d0, d1, d2, d3, d4, d5⟩ := hcell1.out _ P1.out.up
  simp only [show 1 * 6 = 6 from rfl] at d0 d1 d2 d3 d4 d5
  have ck := hid (hkid1.out _ _ P1.out (by have hle := hlen.out; simp [catL] at hle ⊢; omega))
  obtain ⟨c0, c1, c2, c3, c4, c5, cf⟩ := six K1.out
  go_wp2_with fail
  refine ck.out.mono ?_
  rintro e X5 ⟨rfl, P2, st⟩
  clear d0 d1 d2 d3 d4 d5
  replace K1 := hid (st _ _ _ (by decide) (by decide) K1.out)
  clear c0 c1 c2 c3 c4 c5 cf ck P1 st
  have P1 := hid P2
  clear P2
  have cP := hid (P1.out.put [⟨#[41]⟩] (by simp) (by have hle := hlen.out; simp [catL] at hle ⊢; omega))
  obtain ⟨c0, c1, c2, c3, c4, c5, cf⟩ := six K1.out
  go_wp2_with fail
  refine cP.out.mono ?_
  rintro e X6 ⟨rfl, P2, st⟩
  replace K1 := hid (st _ _ _ (by decide) (by decide) K1.out)
  clear c0 c1 c2 c3 c4 c5 cf cP P1 st
  have P1 := hid P2
  clear P2
  have hf := hid (P1.out.done (t := [40] ++ (sy ++ ([32] ++ (sp ++ ([32] ++ (sz ++ [41])))))) (by simp [catL]))
  clear P1 K1
  go_wp2_with fail
  first | (go_end0; exact ⟨rfl, hf.out⟩) | exact bodyPost_ret (v := .tuple #[]) (by simp [results, Tryz.results111, go_sem]) rfl ⟨rfl, hf.out⟩
end Go.Proofs.YtbcjppbiihgfpaaGreatDoor.Ex
namespace Go.Proofs.YtbcjppbiihgfpaaGreatDoor.Ex
open Go.ChangeShapes Go.WideShapes Go.ChangeAt Go.RowKit
open Go.Proofs.YtbcjppbiihgfpaaGreatDoor.Mem Go.Proofs.YtbcjppbiihgfpaaGreatDoor.Lik
set_option linter.unusedVariables false
set_option linter.unusedSimpArgs false
set_option maxRecDepth 100000
set_option maxHeartbeats 4000000 in
theorem call_any (x : T) (ih : ∀ z ∈ x.list, Shows z) (hk : x.kind = 27 ∨ x.kind = 28 ∨ x.kind = 29) : MShows 110 x := by
  intro w0 W b l h hs hp hr hu hI hlen
  obtain ⟨⟨y, z, hl⟩, hk29⟩ := kids2 hr (by omega)
  have hym : y ∈ x.list := by rw [hl]; simp
  have ho0 : 0 < x.list.length := by rw [hl]; simp
  have hy0 : x.list[0] = y := List.getElem_of_eq hl _
  have yok := h.parts.2.2.2.2.2.2.2 y hym
  obtain ⟨yno, ync, ylo, ylc, fy1, fy2, my1, my2⟩ := yok.forms
  have hzm : z ∈ x.list := by rw [hl]; simp
  have ho1 : 1 < x.list.length := by rw [hl]; simp
  have hz0 : x.list[1] = z := List.getElem_of_eq hl _
  have zok := h.parts.2.2.2.2.2.2.2 z hzm
  obtain ⟨zno, znc, zlo, zlc, fz1, fz2, mz1, mz2⟩ := zok.forms
  obtain ⟨no, nc, lo, lc, e1, e2, l1, l2⟩ := h.forms
  obtain ⟨xb, xo, rfl⟩ := base_of h e2 ho0
  have hkid0 := hid (fun (s : By) (X : World) (P : PS w0 W b l s X) (hle : l.length + (s.length + (baseL y.kind (showT y)).length) ≤ 140737488355328) => kid_val fy1 fy2 ▸ P.kid y (owner_any y (ih y hym)) yok hs hp (right_kid hr hym) hle)
  have hkid1 := hid (fun (s : By) (X : World) (P : PS w0 W b l s X) (hle : l.length + (s.length + (showT z).length) ≤ 140737488355328) => kid_val fz1 fz2 ▸ P.kid z (ih z hzm) zok hs hp (right_kid hr hzm) hle)
  have hcell0 := hid (fun (X : World) (hu : Below w0.heap.size w0 X) => kid_at h hu e2 0 ho0 hy0 rfl fy1 fy2)
  have hcell1 := hid (fun (X : World) (hu : Below w0.heap.size w0 X) => kid_at h hu e2 1 ho1 hz0 rfl fz1 fz2)
  have hspell := hid (fun (X : World) (hu : Below w0.heap.size w0 X) => spell_any x.kind h.parts.1.1 X ((hs.below hu).laid))
  have hsh : showT x = baseL y.kind (showT y) ++ ([46] ++ (spellT x.kind ++ ([40] ++ (showT z ++ [41])))) := by
    rw [showT_eq, hl]
    unfold nodeS
    rw [if_neg (by omega), if_neg (by omega), if_neg (by omega), if_neg (by omega), if_neg (by omega), if_neg (by omega), if_neg (by omega), if_neg (by omega), if_neg (by omega), if_neg (by omega), if_neg (by omega), if_neg (by omega), if_neg (by omega), if_neg (by omega), if_pos hk]
    have e : kk x = y.kind := by unfold kk; rw [hl]; rfl
    rw [e]
    rfl
  have hll : x.list.length = 2 := by rw [hl]; rfl
  rw [T.val_eq e1 e2]
  rw [hsh] at hlen ⊢
  rw [hll]
  generalize baseL y.kind (showT y) = sy at *
  generalize showT z = sz at *
  unfold spellS at hspell
  generalize spellT x.kind = sp at *
  have P0 := hid (PS.begin hI hu)
  replace hlen := hid hlen
  clear h hs hp hr hI hu ih hsh hym hy0 ho0 yok fy1 fy2 hzm hz0 ho1 zok fz1 fz2 e1 e2 hl hll l1 l2
  generalize x.kind = k at *
  clear hk hk29
  go_enter Tryz.func110, Tryz.ntmps110
  go_upto_region 1 with fail
  have K1 := hid (Blk.new W [.int .u8 (k : Nat), .int .i64 x.num, .string x.str, .string x.typ, .slice no x.names.length nc, .slice (some ⟨xb, xo, none⟩) 2 lc] 26)
  obtain ⟨P1, st⟩ := P0.out.alloc (.cells #[.int .u8 (k : Nat), .int .i64 x.num, .string x.str, .string x.typ, .slice no x.names.length nc, .slice (some ⟨xb, xo, none⟩) 2 lc] 26)
  generalize W.alloc (.cells #[.int .u8 (k : Nat), .int .i64 x.num, .string x.str, .string x.typ, .slice no x.names.length nc, .slice (some ⟨xb, xo, none⟩) 2 lc] 26) = X0 at K1 P1 ⊢
  replace P1 := hid P1
  clear P0 st
  obtain ⟨d0, d1, d2, d3, d4, d5⟩ := hcell0.out _ P1.out.up
  simp only [Nat.zero_mul, Nat.add_zero] at d0 d1 d2 d3 d4 d5
  have ck := hid (hkid0.out _ _ P1.out (by have hle := hlen.out; simp [catL] at hle ⊢; omega))
  obtain ⟨c0, c1, c2, c3, c4, c5, cf⟩ := six K1.out
  go_wp2_with fail
  refine ck.out.mono ?_
  rintro e X1 ⟨rfl, P2, st⟩
  clear d0 d1 d2 d3 d4 d5
  replace K1 := hid (st _ _ _ (by decide) (by decide) K1.out)
  clear c0 c1 c2 c3 c4 c5 cf ck P1 st
  have P1 := hid P2
  clear P2
  have cQ := hid (hspell.out _ P1.out.up)
  obtain ⟨c0, c1, c2, c3, c4, c5, cf⟩ := six K1.out
  go_wp2_with fail
  refine (cQ.out).mono ?_
  rintro e X2 ⟨rfl, b1⟩
  obtain ⟨P2, st⟩ := P1.out.below b1
  replace K1 := hid (st _ _ _ (by decide) (by decide) K1.out)
  clear c0 c1 c2 c3 c4 c5 cf cQ b1 P1 st
  have P1 := hid P2
  clear P2
  have cP := hid (P1.out.put [⟨#[46]⟩, ⟨sp.toArray⟩, ⟨#[40]⟩] (by simp) (by have hle := hlen.out; simp [catL] at hle ⊢; omega))
  obtain ⟨c0, c1, c2, c3, c4, c5, cf⟩ := six K1.out
  go_wp2_with fail
  refine cP.out.mono ?_
  rintro e X3 ⟨rfl, P2, st⟩
  replace K1 := hid (st _ _ _ (by decide) (by decide) K1.out)
  clear c0 c1 c2 c3 c4 c5 cf cP P1 st
  have P1 := hid P2
  clear P2
  obtain ⟨d0, d1, d2, d3, d4, d5⟩ := hcell1.out _ P1.out.up
  simp only [show 1 * 6 = 6 from rfl] at d0 d1 d2 d3 d4 d5
  have ck := hid (hkid1.out _ _ P1.out (by have hle := hlen.out; simp [catL] at hle ⊢; omega))
  obtain ⟨c0, c1, c2, c3, c4, c5, cf⟩ := six K1.out
  go_wp2_with fail
  refine ck.out.mono ?_
  rintro e X4 ⟨rfl, P2, st⟩
  clear d0 d1 d2 d3 d4 d5
  replace K1 := hid (st _ _ _ (by decide) (by decide) K1.out)
  clear c0 c1 c2 c3 c4 c5 cf ck P1 st
  have P1 := hid P2
  clear P2
  have cP := hid (P1.out.put [⟨#[41]⟩] (by simp) (by have hle := hlen.out; simp [catL] at hle ⊢; omega))
  obtain ⟨c0, c1, c2, c3, c4, c5, cf⟩ := six K1.out
  go_wp2_with fail
  refine cP.out.mono ?_
  rintro e X5 ⟨rfl, P2, st⟩
  replace K1 := hid (st _ _ _ (by decide) (by decide) K1.out)
  clear c0 c1 c2 c3 c4 c5 cf cP P1 st
  have P1 := hid P2
  clear P2
  have hf := hid (P1.out.done (t := sy ++ ([46] ++ (sp ++ ([40] ++ (sz ++ [41]))))) (by simp [catL]))
  clear P1 K1
  go_wp2_with fail
  first | (go_end0; exact ⟨rfl, hf.out⟩) | exact bodyPost_ret (v := .tuple #[]) (by simp [results, Tryz.results110, go_sem]) rfl ⟨rfl, hf.out⟩
end Go.Proofs.YtbcjppbiihgfpaaGreatDoor.Ex
namespace Go.Proofs.YtbcjppbiihgfpaaGreatDoor.Ex
open Go.ChangeShapes Go.WideShapes Go.ChangeAt Go.RowKit
open Go.Proofs.YtbcjppbiihgfpaaGreatDoor.Mem Go.Proofs.YtbcjppbiihgfpaaGreatDoor.Lik
set_option linter.unusedVariables false
set_option linter.unusedSimpArgs false
set_option maxRecDepth 100000
set_option maxHeartbeats 4000000 in
theorem attr_any (x : T) (ih : ∀ z ∈ x.list, Shows z) (hk : x.kind = 8) : MShows 106 x := by
  intro w0 W b l h hs hp hr hu hI hlen
  obtain ⟨y, hl⟩ := kids1 hr (by omega)
  have hym : y ∈ x.list := by rw [hl]; simp
  have ho0 : 0 < x.list.length := by rw [hl]; simp
  have hy0 : x.list[0] = y := List.getElem_of_eq hl _
  have yok := h.parts.2.2.2.2.2.2.2 y hym
  obtain ⟨yno, ync, ylo, ylc, fy1, fy2, my1, my2⟩ := yok.forms
  obtain ⟨no, nc, lo, lc, e1, e2, l1, l2⟩ := h.forms
  obtain ⟨xb, xo, rfl⟩ := base_of h e2 ho0
  have hkid0 := hid (fun (s : By) (X : World) (P : PS w0 W b l s X) (hle : l.length + (s.length + (baseL y.kind (showT y)).length) ≤ 140737488355328) => kid_val fy1 fy2 ▸ P.kid y (owner_any y (ih y hym)) yok hs hp (right_kid hr hym) hle)
  have hcell0 := hid (fun (X : World) (hu : Below w0.heap.size w0 X) => kid_at h hu e2 0 ho0 hy0 rfl fy1 fy2)
  have hss := h.parts.2.2.1
  have hts := h.parts.2.2.2.1
  have hnm : nmB x.str = true := by
    have := (node_of hr).1
    unfold fldB at this
    rw [if_neg (by omega), if_neg (by omega), if_neg (by omega), if_neg (by omega), if_neg (by omega), if_neg (by omega), if_pos hk] at this
    simp only [Bool.and_eq_true] at this
    exact this.1
  have hname := hid (fun (X : World) => Nam.name_any x.str X hss)
  have hquot := hid (fun (X : World) (hu : Below w0.heap.size w0 X) => quoted_any x.str X hss (nm_tx hnm) (hs.below hu))
  clear hnm hss hts
  have hsh : showT x = baseL y.kind (showT y) ++ (if Nam.nameB x.str = true then [46] ++ x.str.data.toList else [91] ++ (Tok.quoteL x.str.data.toList ++ [93])) := by
    rw [showT_eq, hl]
    unfold nodeS
    have e : kk x = y.kind := by unfold kk; rw [hl]; rfl
    rw [if_neg (by omega), if_neg (by omega), if_neg (by omega), if_neg (by omega), if_neg (by omega), if_neg (by omega), if_neg (by omega), if_pos hk, e]
    rfl
  have hll : x.list.length = 1 := by rw [hl]; rfl
  rw [T.val_eq e1 e2]
  rw [hsh] at hlen ⊢
  rw [hll]
  generalize baseL y.kind (showT y) = sy at *
  obtain ⟨nb, hnb⟩ : ∃ nb, Nam.nameB x.str = nb := ⟨_, rfl⟩
  rw [hnb] at hname hlen ⊢
  generalize hR : (if nb = true then [46] ++ x.str.data.toList else [91] ++ (Tok.quoteL x.str.data.toList ++ [93])) = R at hlen ⊢
  replace hR := hid hR
  clear hnb
  have P0 := hid (PS.begin hI hu)
  replace hlen := hid hlen
  clear h hs hp hr hI hu ih hsh hym hy0 ho0 yok fy1 fy2 e1 e2 hl hll l1 l2
  generalize x.kind = k at *
  replace hk := hid hk
  go_enter Tryz.func106, Tryz.ntmps106
  go_upto_region 1 with fail
  have K1 := hid (Blk.new W [.int .u8 (k : Nat), .int .i64 x.num, .string x.str, .string x.typ, .slice no x.names.length nc, .slice (some ⟨xb, xo, none⟩) 1 lc] 26)
  obtain ⟨P1, st⟩ := P0.out.alloc (.cells #[.int .u8 (k : Nat), .int .i64 x.num, .string x.str, .string x.typ, .slice no x.names.length nc, .slice (some ⟨xb, xo, none⟩) 1 lc] 26)
  generalize W.alloc (.cells #[.int .u8 (k : Nat), .int .i64 x.num, .string x.str, .string x.typ, .slice no x.names.length nc, .slice (some ⟨xb, xo, none⟩) 1 lc] 26) = X0 at K1 P1 ⊢
  replace P1 := hid P1
  clear P0 st
  replace hk := hk.out
  subst hk
  obtain ⟨d0, d1, d2, d3, d4, d5⟩ := hcell0.out _ P1.out.up
  simp only [Nat.zero_mul, Nat.add_zero] at d0 d1 d2 d3 d4 d5
  have ck := hid (hkid0.out _ _ P1.out (by have hle := hlen.out; simp [catL] at hle ⊢; omega))
  obtain ⟨c0, c1, c2, c3, c4, c5, cf⟩ := six K1.out
  go_wp2_with fail
  refine ck.out.mono ?_
  rintro e X1 ⟨rfl, P2, st⟩
  clear d0 d1 d2 d3 d4 d5
  replace K1 := hid (st _ _ _ (by decide) (by decide) K1.out)
  clear c0 c1 c2 c3 c4 c5 cf ck P1 st
  have P1 := hid P2
  clear P2
  cases nb with
  | true =>
    replace hR := hid (show [46] ++ x.str.data.toList = R from (if_pos rfl).symm.trans hR.out)
    replace hlen := hid (show l.length + (sy ++ ([46] ++ x.str.data.toList)).length ≤ 140737488355328 from hR.out ▸ hlen.out)
    have cQ := hid (hname.out)
    obtain ⟨c0, c1, c2, c3, c4, c5, cf⟩ := six K1.out
    go_wp2_with fail
    refine (cQ.out _).mono ?_
    rintro e X9 ⟨rfl, rfl⟩
    clear cQ c0 c1 c2 c3 c4 c5 cf
    have cP := hid (P1.out.put [⟨#[46]⟩, x.str] (by simp) (by have hle := hlen.out; simp [catL] at hle ⊢; omega))
    obtain ⟨c0, c1, c2, c3, c4, c5, cf⟩ := six K1.out
    go_wp2_with fail
    refine cP.out.mono ?_
    rintro e X2 ⟨rfl, P2, st⟩
    replace K1 := hid (st _ _ _ (by decide) (by decide) K1.out)
    clear c0 c1 c2 c3 c4 c5 cf cP P1 st
    have P1 := hid P2
    clear P2
    have hf := hid (P1.out.done (t := sy ++ R) (by rw [← hR.out]; simp [catL]))
    clear P1 K1
    go_wp2_with fail
    first | (go_end0; exact ⟨rfl, hf.out⟩) | exact bodyPost_ret (v := .tuple #[]) (by simp [results, Tryz.results106, go_sem]) rfl ⟨rfl, hf.out⟩
  | false =>
    replace hR := hid (show [91] ++ (Tok.quoteL x.str.data.toList ++ [93]) = R from (if_neg (by simp)).symm.trans hR.out)
    replace hlen := hid (show l.length + (sy ++ ([91] ++ (Tok.quoteL x.str.data.toList ++ [93]))).length ≤ 140737488355328 from hR.out ▸ hlen.out)
    have cQ := hid (hname.out)
    obtain ⟨c0, c1, c2, c3, c4, c5, cf⟩ := six K1.out
    go_wp2_with fail
    refine (cQ.out _).mono ?_
    rintro e X9 ⟨rfl, rfl⟩
    clear cQ c0 c1 c2 c3 c4 c5 cf
    generalize Tok.quoteL x.str.data.toList = q at *
    have cQ := hid (hquot.out _ P1.out.up)
    obtain ⟨c0, c1, c2, c3, c4, c5, cf⟩ := six K1.out
    go_wp2_with fail
    refine (cQ.out).mono ?_
    rintro e X3 ⟨rfl, b1⟩
    obtain ⟨P2, st⟩ := P1.out.below b1
    replace K1 := hid (st _ _ _ (by decide) (by decide) K1.out)
    clear c0 c1 c2 c3 c4 c5 cf cQ b1 P1 st
    have P1 := hid P2
    clear P2
    have cP := hid (P1.out.put [⟨#[91]⟩, ⟨q.toArray⟩, ⟨#[93]⟩] (by simp) (by have hle := hlen.out; simp [catL] at hle ⊢; omega))
    obtain ⟨c0, c1, c2, c3, c4, c5, cf⟩ := six K1.out
    go_wp2_with fail
    refine cP.out.mono ?_
    rintro e X4 ⟨rfl, P2, st⟩
    replace K1 := hid (st _ _ _ (by decide) (by decide) K1.out)
    clear c0 c1 c2 c3 c4 c5 cf cP P1 st
    have P1 := hid P2
    clear P2
    have hf := hid (P1.out.done (t := sy ++ R) (by rw [← hR.out]; simp [catL]))
    clear P1 K1
    go_wp2_with fail
    first | (go_end0; exact ⟨rfl, hf.out⟩) | exact bodyPost_ret (v := .tuple #[]) (by simp [results, Tryz.results106, go_sem]) rfl ⟨rfl, hf.out⟩
end Go.Proofs.YtbcjppbiihgfpaaGreatDoor.Ex
namespace Go.Proofs.YtbcjppbiihgfpaaGreatDoor.Ex
open Go.ChangeShapes Go.WideShapes Go.ChangeAt Go.RowKit
open Go.Proofs.YtbcjppbiihgfpaaGreatDoor.Mem Go.Proofs.YtbcjppbiihgfpaaGreatDoor.Lik
set_option linter.unusedVariables false
set_option linter.unusedSimpArgs false
set_option maxRecDepth 100000
set_option maxHeartbeats 4000000 in
theorem question9_any (x : T) (ih : ∀ z ∈ x.list, Shows z) (hk : x.kind = 9) : MShows 107 x := by
  intro w0 W b l h hs hp hr hu hI hlen
  obtain ⟨y, hl⟩ := kids1 hr (by omega)
  have hym : y ∈ x.list := by rw [hl]; simp
  have ho0 : 0 < x.list.length := by rw [hl]; simp
  have hy0 : x.list[0] = y := List.getElem_of_eq hl _
  have yok := h.parts.2.2.2.2.2.2.2 y hym
  obtain ⟨yno, ync, ylo, ylc, fy1, fy2, my1, my2⟩ := yok.forms
  obtain ⟨no, nc, lo, lc, e1, e2, l1, l2⟩ := h.forms
  obtain ⟨xb, xo, rfl⟩ := base_of h e2 ho0
  have hkid0 := hid (fun (s : By) (X : World) (P : PS w0 W b l s X) (hle : l.length + (s.length + (showT y).length) ≤ 140737488355328) => kid_val fy1 fy2 ▸ P.kid y (ih y hym) yok hs hp (right_kid hr hym) hle)
  have hcell0 := hid (fun (X : World) (hu : Below w0.heap.size w0 X) => kid_at h hu e2 0 ho0 hy0 rfl fy1 fy2)
  have hss := h.parts.2.2.1
  have hts := h.parts.2.2.2.1
  have hnm : nmB x.str = true := by
    have := (node_of hr).1
    unfold fldB at this
    rw [if_neg (by omega), if_neg (by omega), if_neg (by omega), if_neg (by omega), if_neg (by omega), if_neg (by omega), if_neg (by omega), if_pos hk] at this
    simp only [Bool.and_eq_true] at this
    exact this.1
  have hlab := hid (fun (X : World) (hu : Below w0.heap.size w0 X) => plabel_any x.str X hss hnm (hs.below hu))
  clear hnm hss hts
  have hsh : showT x = [40] ++ (showT y ++ ([32, 104, 97, 115, 32] ++ (namedL x.str ++ [41]))) := by
    rw [showT_eq, hl]
    unfold nodeS
    simp [hk, k0]
  have hll : x.list.length = 1 := by rw [hl]; rfl
  rw [T.val_eq e1 e2]
  rw [hsh] at hlen ⊢
  rw [hll]
  generalize showT y = sy at *
  generalize namedL x.str = q at *
  have P0 := hid (PS.begin hI hu)
  replace hlen := hid hlen
  clear h hs hp hr hI hu ih hsh hym hy0 ho0 yok fy1 fy2 e1 e2 hl hll l1 l2
  generalize x.kind = k at *
  replace hk := hid hk
  go_enter Tryz.func107, Tryz.ntmps107
  go_upto_region 1 with fail
  have K1 := hid (Blk.new W [.int .u8 (k : Nat), .int .i64 x.num, .string x.str, .string x.typ, .slice no x.names.length nc, .slice (some ⟨xb, xo, none⟩) 1 lc] 26)
  obtain ⟨P1, st⟩ := P0.out.alloc (.cells #[.int .u8 (k : Nat), .int .i64 x.num, .string x.str, .string x.typ, .slice no x.names.length nc, .slice (some ⟨xb, xo, none⟩) 1 lc] 26)
  generalize W.alloc (.cells #[.int .u8 (k : Nat), .int .i64 x.num, .string x.str, .string x.typ, .slice no x.names.length nc, .slice (some ⟨xb, xo, none⟩) 1 lc] 26) = X0 at K1 P1 ⊢
  replace P1 := hid P1
  clear P0 st
  replace hk := hk.out
  subst hk
  have cP := hid (P1.out.put [⟨#[40]⟩] (by simp) (by have hle := hlen.out; simp [catL] at hle ⊢; omega))
  obtain ⟨c0, c1, c2, c3, c4, c5, cf⟩ := six K1.out
  go_wp2_with fail
  refine cP.out.mono ?_
  rintro e X1 ⟨rfl, P2, st⟩
  replace K1 := hid (st _ _ _ (by decide) (by decide) K1.out)
  clear c0 c1 c2 c3 c4 c5 cf cP P1 st
  have P1 := hid P2
  clear P2
  obtain ⟨d0, d1, d2, d3, d4, d5⟩ := hcell0.out _ P1.out.up
  simp only [Nat.zero_mul, Nat.add_zero] at d0 d1 d2 d3 d4 d5
  have ck := hid (hkid0.out _ _ P1.out (by have hle := hlen.out; simp [catL] at hle ⊢; omega))
  obtain ⟨c0, c1, c2, c3, c4, c5, cf⟩ := six K1.out
  go_wp2_with fail
  refine ck.out.mono ?_
  rintro e X2 ⟨rfl, P2, st⟩
  clear d0 d1 d2 d3 d4 d5
  replace K1 := hid (st _ _ _ (by decide) (by decide) K1.out)
  clear c0 c1 c2 c3 c4 c5 cf ck P1 st
  have P1 := hid P2
  clear P2
  have cQ := hid (hlab.out _ P1.out.up)
  obtain ⟨c0, c1, c2, c3, c4, c5, cf⟩ := six K1.out
  go_wp2_with fail
  refine (cQ.out).mono ?_
  rintro e X3 ⟨rfl, b1⟩
  obtain ⟨P2, st⟩ := P1.out.below b1
  replace K1 := hid (st _ _ _ (by decide) (by decide) K1.out)
  clear c0 c1 c2 c3 c4 c5 cf cQ b1 P1 st
  have P1 := hid P2
  clear P2
  have cP := hid (P1.out.put [⟨#[32, 104, 97, 115, 32]⟩, ⟨q.toArray⟩] (by simp) (by have hle := hlen.out; simp [catL] at hle ⊢; omega))
  obtain ⟨c0, c1, c2, c3, c4, c5, cf⟩ := six K1.out
  go_wp2_with fail
  refine cP.out.mono ?_
  rintro e X4 ⟨rfl, P2, st⟩
  replace K1 := hid (st _ _ _ (by decide) (by decide) K1.out)
  clear c0 c1 c2 c3 c4 c5 cf cP P1 st
  have P1 := hid P2
  clear P2
  have cP := hid (P1.out.put [⟨#[41]⟩] (by simp) (by have hle := hlen.out; simp [catL] at hle ⊢; omega))
  obtain ⟨c0, c1, c2, c3, c4, c5, cf⟩ := six K1.out
  go_wp2_with fail
  refine cP.out.mono ?_
  rintro e X5 ⟨rfl, P2, st⟩
  replace K1 := hid (st _ _ _ (by decide) (by decide) K1.out)
  clear c0 c1 c2 c3 c4 c5 cf cP P1 st
  have P1 := hid P2
  clear P2
  have hf := hid (P1.out.done (t := [40] ++ (sy ++ ([32, 104, 97, 115, 32] ++ (q ++ [41])))) (by simp [catL]))
  clear P1 K1
  go_wp2_with fail
  first | (go_end0; exact ⟨rfl, hf.out⟩) | exact bodyPost_ret (v := .tuple #[]) (by simp [results, Tryz.results107, go_sem]) rfl ⟨rfl, hf.out⟩
set_option maxHeartbeats 4000000 in
theorem question10_any (x : T) (ih : ∀ z ∈ x.list, Shows z) (hk : x.kind = 10) : MShows 107 x := by
  intro w0 W b l h hs hp hr hu hI hlen
  obtain ⟨y, hl⟩ := kids1 hr (by omega)
  have hym : y ∈ x.list := by rw [hl]; simp
  have ho0 : 0 < x.list.length := by rw [hl]; simp
  have hy0 : x.list[0] = y := List.getElem_of_eq hl _
  have yok := h.parts.2.2.2.2.2.2.2 y hym
  obtain ⟨yno, ync, ylo, ylc, fy1, fy2, my1, my2⟩ := yok.forms
  obtain ⟨no, nc, lo, lc, e1, e2, l1, l2⟩ := h.forms
  obtain ⟨xb, xo, rfl⟩ := base_of h e2 ho0
  have hkid0 := hid (fun (s : By) (X : World) (P : PS w0 W b l s X) (hle : l.length + (s.length + (showT y).length) ≤ 140737488355328) => kid_val fy1 fy2 ▸ P.kid y (ih y hym) yok hs hp (right_kid hr hym) hle)
  have hcell0 := hid (fun (X : World) (hu : Below w0.heap.size w0 X) => kid_at h hu e2 0 ho0 hy0 rfl fy1 fy2)
  have hss := h.parts.2.2.1
  have hts := h.parts.2.2.2.1
  clear hss hts
  have hsh : showT x = [40] ++ (showT y ++ ([32, 105, 115, 32] ++ (x.typ.data.toList ++ [41]))) := by
    rw [showT_eq, hl]
    unfold nodeS
    simp [hk, k0]
  have hll : x.list.length = 1 := by rw [hl]; rfl
  rw [T.val_eq e1 e2]
  rw [hsh] at hlen ⊢
  rw [hll]
  generalize showT y = sy at *
  have P0 := hid (PS.begin hI hu)
  replace hlen := hid hlen
  clear h hs hp hr hI hu ih hsh hym hy0 ho0 yok fy1 fy2 e1 e2 hl hll l1 l2
  generalize x.kind = k at *
  replace hk := hid hk
  go_enter Tryz.func107, Tryz.ntmps107
  go_upto_region 1 with fail
  have K1 := hid (Blk.new W [.int .u8 (k : Nat), .int .i64 x.num, .string x.str, .string x.typ, .slice no x.names.length nc, .slice (some ⟨xb, xo, none⟩) 1 lc] 26)
  obtain ⟨P1, st⟩ := P0.out.alloc (.cells #[.int .u8 (k : Nat), .int .i64 x.num, .string x.str, .string x.typ, .slice no x.names.length nc, .slice (some ⟨xb, xo, none⟩) 1 lc] 26)
  generalize W.alloc (.cells #[.int .u8 (k : Nat), .int .i64 x.num, .string x.str, .string x.typ, .slice no x.names.length nc, .slice (some ⟨xb, xo, none⟩) 1 lc] 26) = X0 at K1 P1 ⊢
  replace P1 := hid P1
  clear P0 st
  replace hk := hk.out
  subst hk
  have cP := hid (P1.out.put [⟨#[40]⟩] (by simp) (by have hle := hlen.out; simp [catL] at hle ⊢; omega))
  obtain ⟨c0, c1, c2, c3, c4, c5, cf⟩ := six K1.out
  go_wp2_with fail
  refine cP.out.mono ?_
  rintro e X1 ⟨rfl, P2, st⟩
  replace K1 := hid (st _ _ _ (by decide) (by decide) K1.out)
  clear c0 c1 c2 c3 c4 c5 cf cP P1 st
  have P1 := hid P2
  clear P2
  obtain ⟨d0, d1, d2, d3, d4, d5⟩ := hcell0.out _ P1.out.up
  simp only [Nat.zero_mul, Nat.add_zero] at d0 d1 d2 d3 d4 d5
  have ck := hid (hkid0.out _ _ P1.out (by have hle := hlen.out; simp [catL] at hle ⊢; omega))
  obtain ⟨c0, c1, c2, c3, c4, c5, cf⟩ := six K1.out
  go_wp2_with fail
  refine ck.out.mono ?_
  rintro e X2 ⟨rfl, P2, st⟩
  clear d0 d1 d2 d3 d4 d5
  replace K1 := hid (st _ _ _ (by decide) (by decide) K1.out)
  clear c0 c1 c2 c3 c4 c5 cf ck P1 st
  have P1 := hid P2
  clear P2
  have cP := hid (P1.out.put [⟨#[32, 105, 115, 32]⟩, x.typ] (by simp) (by have hle := hlen.out; simp [catL] at hle ⊢; omega))
  obtain ⟨c0, c1, c2, c3, c4, c5, cf⟩ := six K1.out
  go_wp2_with fail
  refine cP.out.mono ?_
  rintro e X3 ⟨rfl, P2, st⟩
  replace K1 := hid (st _ _ _ (by decide) (by decide) K1.out)
  clear c0 c1 c2 c3 c4 c5 cf cP P1 st
  have P1 := hid P2
  clear P2
  have cP := hid (P1.out.put [⟨#[41]⟩] (by simp) (by have hle := hlen.out; simp [catL] at hle ⊢; omega))
  obtain ⟨c0, c1, c2, c3, c4, c5, cf⟩ := six K1.out
  go_wp2_with fail
  refine cP.out.mono ?_
  rintro e X4 ⟨rfl, P2, st⟩
  replace K1 := hid (st _ _ _ (by decide) (by decide) K1.out)
  clear c0 c1 c2 c3 c4 c5 cf cP P1 st
  have P1 := hid P2
  clear P2
  have hf := hid (P1.out.done (t := [40] ++ (sy ++ ([32, 105, 115, 32] ++ (x.typ.data.toList ++ [41])))) (by simp [catL]))
  clear P1 K1
  go_wp2_with fail
  first | (go_end0; exact ⟨rfl, hf.out⟩) | exact bodyPost_ret (v := .tuple #[]) (by simp [results, Tryz.results107, go_sem]) rfl ⟨rfl, hf.out⟩
set_option maxHeartbeats 4000000 in
theorem question11_any (x : T) (ih : ∀ z ∈ x.list, Shows z) (hk : x.kind = 11) : MShows 107 x := by
  intro w0 W b l h hs hp hr hu hI hlen
  obtain ⟨y, hl⟩ := kids1 hr (by omega)
  have hym : y ∈ x.list := by rw [hl]; simp
  have ho0 : 0 < x.list.length := by rw [hl]; simp
  have hy0 : x.list[0] = y := List.getElem_of_eq hl _
  have yok := h.parts.2.2.2.2.2.2.2 y hym
  obtain ⟨yno, ync, ylo, ylc, fy1, fy2, my1, my2⟩ := yok.forms
  obtain ⟨no, nc, lo, lc, e1, e2, l1, l2⟩ := h.forms
  obtain ⟨xb, xo, rfl⟩ := base_of h e2 ho0
  have hkid0 := hid (fun (s : By) (X : World) (P : PS w0 W b l s X) (hle : l.length + (s.length + (showT y).length) ≤ 140737488355328) => kid_val fy1 fy2 ▸ P.kid y (ih y hym) yok hs hp (right_kid hr hym) hle)
  have hcell0 := hid (fun (X : World) (hu : Below w0.heap.size w0 X) => kid_at h hu e2 0 ho0 hy0 rfl fy1 fy2)
  have hss := h.parts.2.2.1
  have hts := h.parts.2.2.2.1
  have htx : txB x.str = true := by
    have := (node_of hr).1
    unfold fldB at this
    rw [if_neg (by omega), if_neg (by omega), if_neg (by omega), if_neg (by omega), if_neg (by omega), if_neg (by omega), if_neg (by omega), if_neg (by omega), if_neg (by omega), if_pos hk] at this
    simp only [Bool.and_eq_true] at this
    exact this.1
  have hquot := hid (fun (X : World) (hu : Below w0.heap.size w0 X) => quoted_any x.str X hss htx (hs.below hu))
  clear htx hss hts
  have hsh : showT x = [40] ++ (showT y ++ ([32, 108, 105, 107, 101, 32] ++ (Tok.quoteL x.str.data.toList ++ [41]))) := by
    rw [showT_eq, hl]
    unfold nodeS
    simp [hk, k0]
  have hll : x.list.length = 1 := by rw [hl]; rfl
  rw [T.val_eq e1 e2]
  rw [hsh] at hlen ⊢
  rw [hll]
  generalize showT y = sy at *
  generalize Tok.quoteL x.str.data.toList = q at *
  have P0 := hid (PS.begin hI hu)
  replace hlen := hid hlen
  clear h hs hp hr hI hu ih hsh hym hy0 ho0 yok fy1 fy2 e1 e2 hl hll l1 l2
  generalize x.kind = k at *
  replace hk := hid hk
  go_enter Tryz.func107, Tryz.ntmps107
  go_upto_region 1 with fail
  have K1 := hid (Blk.new W [.int .u8 (k : Nat), .int .i64 x.num, .string x.str, .string x.typ, .slice no x.names.length nc, .slice (some ⟨xb, xo, none⟩) 1 lc] 26)
  obtain ⟨P1, st⟩ := P0.out.alloc (.cells #[.int .u8 (k : Nat), .int .i64 x.num, .string x.str, .string x.typ, .slice no x.names.length nc, .slice (some ⟨xb, xo, none⟩) 1 lc] 26)
  generalize W.alloc (.cells #[.int .u8 (k : Nat), .int .i64 x.num, .string x.str, .string x.typ, .slice no x.names.length nc, .slice (some ⟨xb, xo, none⟩) 1 lc] 26) = X0 at K1 P1 ⊢
  replace P1 := hid P1
  clear P0 st
  replace hk := hk.out
  subst hk
  have cP := hid (P1.out.put [⟨#[40]⟩] (by simp) (by have hle := hlen.out; simp [catL] at hle ⊢; omega))
  obtain ⟨c0, c1, c2, c3, c4, c5, cf⟩ := six K1.out
  go_wp2_with fail
  refine cP.out.mono ?_
  rintro e X1 ⟨rfl, P2, st⟩
  replace K1 := hid (st _ _ _ (by decide) (by decide) K1.out)
  clear c0 c1 c2 c3 c4 c5 cf cP P1 st
  have P1 := hid P2
  clear P2
  obtain ⟨d0, d1, d2, d3, d4, d5⟩ := hcell0.out _ P1.out.up
  simp only [Nat.zero_mul, Nat.add_zero] at d0 d1 d2 d3 d4 d5
  have ck := hid (hkid0.out _ _ P1.out (by have hle := hlen.out; simp [catL] at hle ⊢; omega))
  obtain ⟨c0, c1, c2, c3, c4, c5, cf⟩ := six K1.out
  go_wp2_with fail
  refine ck.out.mono ?_
  rintro e X2 ⟨rfl, P2, st⟩
  clear d0 d1 d2 d3 d4 d5
  replace K1 := hid (st _ _ _ (by decide) (by decide) K1.out)
  clear c0 c1 c2 c3 c4 c5 cf ck P1 st
  have P1 := hid P2
  clear P2
  have cQ := hid (hquot.out _ P1.out.up)
  obtain ⟨c0, c1, c2, c3, c4, c5, cf⟩ := six K1.out
  go_wp2_with fail
  refine (cQ.out).mono ?_
  rintro e X3 ⟨rfl, b1⟩
  obtain ⟨P2, st⟩ := P1.out.below b1
  replace K1 := hid (st _ _ _ (by decide) (by decide) K1.out)
  clear c0 c1 c2 c3 c4 c5 cf cQ b1 P1 st
  have P1 := hid P2
  clear P2
  have cP := hid (P1.out.put [⟨#[32, 108, 105, 107, 101, 32]⟩, ⟨q.toArray⟩] (by simp) (by have hle := hlen.out; simp [catL] at hle ⊢; omega))
  obtain ⟨c0, c1, c2, c3, c4, c5, cf⟩ := six K1.out
  go_wp2_with fail
  refine cP.out.mono ?_
  rintro e X4 ⟨rfl, P2, st⟩
  replace K1 := hid (st _ _ _ (by decide) (by decide) K1.out)
  clear c0 c1 c2 c3 c4 c5 cf cP P1 st
  have P1 := hid P2
  clear P2
  have cP := hid (P1.out.put [⟨#[41]⟩] (by simp) (by have hle := hlen.out; simp [catL] at hle ⊢; omega))
  obtain ⟨c0, c1, c2, c3, c4, c5, cf⟩ := six K1.out
  go_wp2_with fail
  refine cP.out.mono ?_
  rintro e X5 ⟨rfl, P2, st⟩
  replace K1 := hid (st _ _ _ (by decide) (by decide) K1.out)
  clear c0 c1 c2 c3 c4 c5 cf cP P1 st
  have P1 := hid P2
  clear P2
  have hf := hid (P1.out.done (t := [40] ++ (sy ++ ([32, 108, 105, 107, 101, 32] ++ (q ++ [41])))) (by simp [catL]))
  clear P1 K1
  go_wp2_with fail
  first | (go_end0; exact ⟨rfl, hf.out⟩) | exact bodyPost_ret (v := .tuple #[]) (by simp [results, Tryz.results107, go_sem]) rfl ⟨rfl, hf.out⟩
end Go.Proofs.YtbcjppbiihgfpaaGreatDoor.Ex
namespace Go.Proofs.YtbcjppbiihgfpaaGreatDoor.Ex
open Go.ChangeShapes Go.WideShapes Go.ChangeAt Go.RowKit
open Go.Proofs.YtbcjppbiihgfpaaGreatDoor.Mem Go.Proofs.YtbcjppbiihgfpaaGreatDoor.Lik
set_option linter.unusedVariables false
set_option linter.unusedSimpArgs false
set_option maxRecDepth 100000
set_option maxHeartbeats 4000000 in
theorem leaf1_any (x : T) (ih : ∀ z ∈ x.list, Shows z) (hk : x.kind = 1) : MShows 103 x := by
  intro w0 W b l h hs hp hr hu hI hlen
  obtain ⟨no, nc, lo, lc, e1, e2, l1, l2⟩ := h.forms
  have hss := h.parts.2.2.1
  have hts := h.parts.2.2.2.1
  clear hss hts
  have hsh : showT x = (if x.num = 1 then [116, 114, 117, 101] else [102, 97, 108, 115, 101]) := by
    rw [showT_eq]
    unfold nodeS
    simp [hk]
  rw [T.val_eq e1 e2]
  rw [hsh] at hlen ⊢
  generalize x.list.length = ll at *
  have hfb := hid (fun (X : World) => fbool_any (x.num == 1) X)
  have hif : (if (x.num == 1) = true then ([116, 114, 117, 101] : List UInt8) else [102, 97, 108, 115, 101]) = (if x.num = 1 then [116, 114, 117, 101] else [102, 97, 108, 115, 101]) := by
    by_cases q : x.num = 1 <;> simp [q]
  rw [hif] at hfb
  clear hif
  generalize (if x.num = 1 then ([116, 114, 117, 101] : List UInt8) else [102, 97, 108, 115, 101]) = q at *
  have P0 := hid (PS.begin hI hu)
  replace hlen := hid hlen
  clear h hs hp hr hI hu ih hsh  e1 e2 l1 l2
  generalize x.kind = k at *
  replace hk := hid hk
  go_enter Tryz.func103, Tryz.ntmps103
  go_upto_region 1 with fail
  have K1 := hid (Blk.new W [.int .u8 (k : Nat), .int .i64 x.num, .string x.str, .string x.typ, .slice no x.names.length nc, .slice lo ll lc] 26)
  obtain ⟨P1, st⟩ := P0.out.alloc (.cells #[.int .u8 (k : Nat), .int .i64 x.num, .string x.str, .string x.typ, .slice no x.names.length nc, .slice lo ll lc] 26)
  generalize W.alloc (.cells #[.int .u8 (k : Nat), .int .i64 x.num, .string x.str, .string x.typ, .slice no x.names.length nc, .slice lo ll lc] 26) = X0 at K1 P1 ⊢
  replace P1 := hid P1
  clear P0 st
  replace hk := hk.out
  subst hk
  have cQ := hid (hfb.out X0)
  obtain ⟨c0, c1, c2, c3, c4, c5, cf⟩ := six K1.out
  go_wp2_with fail
  refine (cQ.out).mono ?_
  rintro e X1 ⟨rfl, b1⟩
  obtain ⟨P2, st⟩ := P1.out.below b1
  replace K1 := hid (st _ _ _ (by decide) (by decide) K1.out)
  clear c0 c1 c2 c3 c4 c5 cf cQ b1 P1 st
  have P1 := hid P2
  clear P2
  have cP := hid (P1.out.put [⟨q.toArray⟩] (by simp) (by have hle := hlen.out; simp [catL] at hle ⊢; omega))
  obtain ⟨c0, c1, c2, c3, c4, c5, cf⟩ := six K1.out
  go_wp2_with fail
  refine cP.out.mono ?_
  rintro e X2 ⟨rfl, P2, st⟩
  replace K1 := hid (st _ _ _ (by decide) (by decide) K1.out)
  clear c0 c1 c2 c3 c4 c5 cf cP P1 st
  have P1 := hid P2
  clear P2
  have hf := hid (P1.out.done (t := q) (by simp [catL]))
  clear P1 K1
  go_wp2_with fail
  first | (go_end0; exact ⟨rfl, hf.out⟩) | exact bodyPost_ret (v := .tuple #[]) (by simp [results, Tryz.results103, go_sem]) rfl ⟨rfl, hf.out⟩
set_option maxHeartbeats 4000000 in
theorem leaf2_any (x : T) (ih : ∀ z ∈ x.list, Shows z) (hk : x.kind = 2) : MShows 103 x := by
  intro w0 W b l h hs hp hr hu hI hlen
  obtain ⟨no, nc, lo, lc, e1, e2, l1, l2⟩ := h.forms
  have hss := h.parts.2.2.1
  have hts := h.parts.2.2.2.1
  have hn0 : 0 ≤ x.num := by
    have := (node_of hr).1
    unfold fldB at this
    rw [if_neg (by omega), if_pos hk] at this
    simp only [Bool.and_eq_true, decide_eq_true_eq] at this
    exact this.1
  have hfi := hid (fun (X : World) (hu : Below w0.heap.size w0 X) => fint_any x.num X hn0 h.parts.2.1.2 (hp.below hu))
  clear hn0 hss hts
  have hsh : showT x = Lib.decDigits x.num.toNat := by
    rw [showT_eq]
    unfold nodeS
    simp [hk]
  rw [T.val_eq e1 e2]
  rw [hsh] at hlen ⊢
  generalize x.list.length = ll at *
  generalize Lib.decDigits x.num.toNat = q at *
  have P0 := hid (PS.begin hI hu)
  replace hlen := hid hlen
  clear h hs hp hr hI hu ih hsh  e1 e2 l1 l2
  generalize x.kind = k at *
  replace hk := hid hk
  go_enter Tryz.func103, Tryz.ntmps103
  go_upto_region 1 with fail
  have K1 := hid (Blk.new W [.int .u8 (k : Nat), .int .i64 x.num, .string x.str, .string x.typ, .slice no x.names.length nc, .slice lo ll lc] 26)
  obtain ⟨P1, st⟩ := P0.out.alloc (.cells #[.int .u8 (k : Nat), .int .i64 x.num, .string x.str, .string x.typ, .slice no x.names.length nc, .slice lo ll lc] 26)
  generalize W.alloc (.cells #[.int .u8 (k : Nat), .int .i64 x.num, .string x.str, .string x.typ, .slice no x.names.length nc, .slice lo ll lc] 26) = X0 at K1 P1 ⊢
  replace P1 := hid P1
  clear P0 st
  replace hk := hk.out
  subst hk
  have cQ := hid (hfi.out _ P1.out.up)
  obtain ⟨c0, c1, c2, c3, c4, c5, cf⟩ := six K1.out
  go_wp2_with fail
  refine (cQ.out).mono ?_
  rintro e X1 ⟨rfl, b1⟩
  obtain ⟨P2, st⟩ := P1.out.below b1
  replace K1 := hid (st _ _ _ (by decide) (by decide) K1.out)
  clear c0 c1 c2 c3 c4 c5 cf cQ b1 P1 st
  have P1 := hid P2
  clear P2
  have cP := hid (P1.out.put [⟨q.toArray⟩] (by simp) (by have hle := hlen.out; simp [catL] at hle ⊢; omega))
  obtain ⟨c0, c1, c2, c3, c4, c5, cf⟩ := six K1.out
  go_wp2_with fail
  refine cP.out.mono ?_
  rintro e X2 ⟨rfl, P2, st⟩
  replace K1 := hid (st _ _ _ (by decide) (by decide) K1.out)
  clear c0 c1 c2 c3 c4 c5 cf cP P1 st
  have P1 := hid P2
  clear P2
  have hf := hid (P1.out.done (t := q) (by simp [catL]))
  clear P1 K1
  go_wp2_with fail
  first | (go_end0; exact ⟨rfl, hf.out⟩) | exact bodyPost_ret (v := .tuple #[]) (by simp [results, Tryz.results103, go_sem]) rfl ⟨rfl, hf.out⟩
set_option maxHeartbeats 4000000 in
theorem leaf3_any (x : T) (ih : ∀ z ∈ x.list, Shows z) (hk : x.kind = 3) : MShows 103 x := by
  intro w0 W b l h hs hp hr hu hI hlen
  obtain ⟨no, nc, lo, lc, e1, e2, l1, l2⟩ := h.forms
  have hss := h.parts.2.2.1
  have hts := h.parts.2.2.2.1
  have htx : txB x.str = true := by
    have := (node_of hr).1
    unfold fldB at this
    rw [if_neg (by omega), if_neg (by omega), if_pos hk] at this
    simp only [Bool.and_eq_true] at this
    exact this.1
  have hquot := hid (fun (X : World) (hu : Below w0.heap.size w0 X) => quoted_any x.str X hss htx (hs.below hu))
  clear htx hss hts
  have hsh : showT x = Tok.quoteL x.str.data.toList := by
    rw [showT_eq]
    unfold nodeS
    simp [hk]
  rw [T.val_eq e1 e2]
  rw [hsh] at hlen ⊢
  generalize x.list.length = ll at *
  generalize Tok.quoteL x.str.data.toList = q at *
  have P0 := hid (PS.begin hI hu)
  replace hlen := hid hlen
  clear h hs hp hr hI hu ih hsh  e1 e2 l1 l2
  generalize x.kind = k at *
  replace hk := hid hk
  go_enter Tryz.func103, Tryz.ntmps103
  go_upto_region 1 with fail
  have K1 := hid (Blk.new W [.int .u8 (k : Nat), .int .i64 x.num, .string x.str, .string x.typ, .slice no x.names.length nc, .slice lo ll lc] 26)
  obtain ⟨P1, st⟩ := P0.out.alloc (.cells #[.int .u8 (k : Nat), .int .i64 x.num, .string x.str, .string x.typ, .slice no x.names.length nc, .slice lo ll lc] 26)
  generalize W.alloc (.cells #[.int .u8 (k : Nat), .int .i64 x.num, .string x.str, .string x.typ, .slice no x.names.length nc, .slice lo ll lc] 26) = X0 at K1 P1 ⊢
  replace P1 := hid P1
  clear P0 st
  replace hk := hk.out
  subst hk
  have cQ := hid (hquot.out _ P1.out.up)
  obtain ⟨c0, c1, c2, c3, c4, c5, cf⟩ := six K1.out
  go_wp2_with fail
  refine (cQ.out).mono ?_
  rintro e X1 ⟨rfl, b1⟩
  obtain ⟨P2, st⟩ := P1.out.below b1
  replace K1 := hid (st _ _ _ (by decide) (by decide) K1.out)
  clear c0 c1 c2 c3 c4 c5 cf cQ b1 P1 st
  have P1 := hid P2
  clear P2
  have cP := hid (P1.out.put [⟨q.toArray⟩] (by simp) (by have hle := hlen.out; simp [catL] at hle ⊢; omega))
  obtain ⟨c0, c1, c2, c3, c4, c5, cf⟩ := six K1.out
  go_wp2_with fail
  refine cP.out.mono ?_
  rintro e X2 ⟨rfl, P2, st⟩
  replace K1 := hid (st _ _ _ (by decide) (by decide) K1.out)
  clear c0 c1 c2 c3 c4 c5 cf cP P1 st
  have P1 := hid P2
  clear P2
  have hf := hid (P1.out.done (t := q) (by simp [catL]))
  clear P1 K1
  go_wp2_with fail
  first | (go_end0; exact ⟨rfl, hf.out⟩) | exact bodyPost_ret (v := .tuple #[]) (by simp [results, Tryz.results103, go_sem]) rfl ⟨rfl, hf.out⟩
set_option maxHeartbeats 4000000 in
theorem leaf4_any (x : T) (ih : ∀ z ∈ x.list, Shows z) (hk : x.kind = 4) : MShows 103 x := by
  intro w0 W b l h hs hp hr hu hI hlen
  obtain ⟨no, nc, lo, lc, e1, e2, l1, l2⟩ := h.forms
  have hss := h.parts.2.2.1
  have hts := h.parts.2.2.2.1
  have htx : txB x.str = true := by
    have := (node_of hr).1
    unfold fldB at this
    rw [if_neg (by omega), if_neg (by omega), if_neg (by omega), if_pos hk] at this
    simp only [Bool.and_eq_true] at this
    exact uid_tx this.1
  have hquot := hid (fun (X : World) (hu : Below w0.heap.size w0 X) => quoted_any x.str X hss htx (hs.below hu))
  clear htx hss hts
  have hsh : showT x = x.typ.data.toList ++ ([58, 58] ++ Tok.quoteL x.str.data.toList) := by
    rw [showT_eq]
    unfold nodeS
    simp [hk]
  rw [T.val_eq e1 e2]
  rw [hsh] at hlen ⊢
  generalize x.list.length = ll at *
  generalize Tok.quoteL x.str.data.toList = q at *
  have P0 := hid (PS.begin hI hu)
  replace hlen := hid hlen
  clear h hs hp hr hI hu ih hsh  e1 e2 l1 l2
  generalize x.kind = k at *
  replace hk := hid hk
  go_enter Tryz.func103, Tryz.ntmps103
  go_upto_region 1 with fail
  have K1 := hid (Blk.new W [.int .u8 (k : Nat), .int .i64 x.num, .string x.str, .string x.typ, .slice no x.names.length nc, .slice lo ll lc] 26)
  obtain ⟨P1, st⟩ := P0.out.alloc (.cells #[.int .u8 (k : Nat), .int .i64 x.num, .string x.str, .string x.typ, .slice no x.names.length nc, .slice lo ll lc] 26)
  generalize W.alloc (.cells #[.int .u8 (k : Nat), .int .i64 x.num, .string x.str, .string x.typ, .slice no x.names.length nc, .slice lo ll lc] 26) = X0 at K1 P1 ⊢
  replace P1 := hid P1
  clear P0 st
  replace hk := hk.out
  subst hk
  obtain ⟨c0, c1, c2, c3, c4, c5, cf⟩ := six K1.out
  go_upto_region 9 with fail
  have hpe := hid (show Calls Tryz.prog 159 #[.string x.str] X0.drew _ from hquot.out X0.drew (PS.below P1.out ((Below.refl _ X0).drew)).1.up)
  have P2 := hid (PS.below P1.out ((Below.refl _ X0).drew)).1
  clear c0 c1 c4 c5 cf hquot
  go_region_held3 (fun Y => Y.cell? ⟨W.heap.size, 2, none⟩ = some (.string x.str) ∧ Y.cell? ⟨W.heap.size, 3, none⟩ = some (.string x.typ)) (first | with_reducible exact ⟨c2, c3⟩ | with_reducible exact ⟨celld c2, celld c3⟩ | with_reducible exact ⟨cella c2, cella c3⟩) (first
    | (go_at_call 159
       (with_reducible refine hpe.out.mono ?_)
       rintro e X1 ⟨rfl, b1⟩
       obtain ⟨P3, st⟩ := P2.out.below b1
       replace K1 := hid (st _ _ _ (by decide) (by decide) K1.out.drew)
       clear c2 c3
       obtain ⟨_, _, c2, c3, _, _, _⟩ := six K1.out
       replace P3 := hid P3
       have cP := hid (P3.out.put [x.typ, ⟨#[58, 58]⟩, ⟨q.toArray⟩] (by simp) (by have hle := hlen.out; simp [catL] at hle ⊢; omega))
       clear b1 st hpe P2)
    | (go_at_call 156
       refine cP.out.mono ?_
       rintro e X2 ⟨rfl, P4, st⟩
       replace P4 := hid P4
       replace K1 := hid (st _ _ _ (by decide) (by decide) K1.out)
       clear cP st P3 c2 c3
       obtain ⟨_, _, c2, c3, _, _, _⟩ := six K1.out))
  have hf := hid (P4.out.done (t := x.typ.data.toList ++ ([58, 58] ++ q)) (by simp [catL]))
  clear P4 K1 P1
  go_wp2_with fail
  first | (go_end0; exact ⟨rfl, hf.out⟩) | exact bodyPost_ret (v := .tuple #[]) (by simp [results, Tryz.results103, go_sem]) rfl ⟨rfl, hf.out⟩
set_option maxHeartbeats 4000000 in
theorem leaf5_any (x : T) (ih : ∀ z ∈ x.list, Shows z) (hk : x.kind = 5) : MShows 103 x := by
  intro w0 W b l h hs hp hr hu hI hlen
  obtain ⟨no, nc, lo, lc, e1, e2, l1, l2⟩ := h.forms
  have hss := h.parts.2.2.1
  have hts := h.parts.2.2.2.1
  clear hss hts
  have hsh : showT x = x.str.data.toList := by
    rw [showT_eq]
    unfold nodeS
    simp [hk]
  rw [T.val_eq e1 e2]
  rw [hsh] at hlen ⊢
  generalize x.list.length = ll at *
  have P0 := hid (PS.begin hI hu)
  replace hlen := hid hlen
  clear h hs hp hr hI hu ih hsh  e1 e2 l1 l2
  generalize x.kind = k at *
  replace hk := hid hk
  go_enter Tryz.func103, Tryz.ntmps103
  go_upto_region 1 with fail
  have K1 := hid (Blk.new W [.int .u8 (k : Nat), .int .i64 x.num, .string x.str, .string x.typ, .slice no x.names.length nc, .slice lo ll lc] 26)
  obtain ⟨P1, st⟩ := P0.out.alloc (.cells #[.int .u8 (k : Nat), .int .i64 x.num, .string x.str, .string x.typ, .slice no x.names.length nc, .slice lo ll lc] 26)
  generalize W.alloc (.cells #[.int .u8 (k : Nat), .int .i64 x.num, .string x.str, .string x.typ, .slice no x.names.length nc, .slice lo ll lc] 26) = X0 at K1 P1 ⊢
  replace P1 := hid P1
  clear P0 st
  replace hk := hk.out
  subst hk
  have cP := hid (P1.out.put [x.str] (by simp) (by have hle := hlen.out; simp [catL] at hle ⊢; omega))
  obtain ⟨c0, c1, c2, c3, c4, c5, cf⟩ := six K1.out
  go_wp2_with fail
  refine cP.out.mono ?_
  rintro e X1 ⟨rfl, P2, st⟩
  replace K1 := hid (st _ _ _ (by decide) (by decide) K1.out)
  clear c0 c1 c2 c3 c4 c5 cf cP P1 st
  have P1 := hid P2
  clear P2
  have hf := hid (P1.out.done (t := x.str.data.toList) (by simp [catL]))
  clear P1 K1
  go_wp2_with fail
  first | (go_end0; exact ⟨rfl, hf.out⟩) | exact bodyPost_ret (v := .tuple #[]) (by simp [results, Tryz.results103, go_sem]) rfl ⟨rfl, hf.out⟩
end Go.Proofs.YtbcjppbiihgfpaaGreatDoor.Ex
namespace Go.Proofs.YtbcjppbiihgfpaaGreatDoor.Ex
open Go.ChangeShapes Go.WideShapes Go.ChangeAt Go.RowKit
open Go.Proofs.YtbcjppbiihgfpaaGreatDoor.Mem Go.Proofs.YtbcjppbiihgfpaaGreatDoor.Lik
set_option linter.unusedVariables false
set_option linter.unusedSimpArgs false
set_option maxRecDepth 100000
set_option maxHeartbeats 4000000 in
theorem list_any (x : T) (ih : ∀ z ∈ x.list, Shows z) (fid : Nat) (caps : Array Value) (I : World → Prop) (hII : ∀ X X', Stay X X' → I X → I X') (hcf : ∀ args W, (callFunc fid args).run Tryz.prog W = .ok (.enter fid args) W)
    (w0 W X : World) (b : Nat) (l s : By) (P : PS w0 W b l s X) (hIX : I X) (h : x.ok w0) (hs : Sta w0) (hp : Pow w0) (hr : rightB x = true) (hlen : l.length + (s.length + (itemsL x (x.list.map showT) x.list.length).length) ≤ 140737488355328)
    (ha : ∀ (i : Nat) (hi : i < x.list.length) (s' : By) (X' : World), PS w0 W b l s' X' → I X' → l.length + (s'.length + (aheadL x i).length) ≤ 140737488355328 → Calls Tryz.prog fid (#[.int .i64 i] ++ caps) X' fun e w' => e = .returned (.tuple #[]) ∧ PS w0 W b l (s' ++ aheadL x i) w' ∧ Stay X' w') :
    Calls Tryz.prog 160 #[.pointer (some ⟨b, 0, none⟩), x.val, .func (Fn.func fid) #[] caps] X fun e w' => e = .returned (.tuple #[]) ∧ PS w0 W b l (s ++ itemsL x (x.list.map showT) x.list.length) w' ∧ Stay X w' := by
  obtain ⟨no, nc, lo, lc, e1, e2, l1, l2⟩ := h.forms
  obtain ⟨n, hn⟩ : ∃ n, x.list.length = n := ⟨_, rfl⟩
  rw [T.val_eq e1 e2]
  rw [hn] at hlen l2 ⊢
  have i2 : (n : Int) ≤ 9223372036854775807 := by omega
  have hkid := hid (fun (z : T) (hz : z ∈ x.list) (s' : By) (X' : World) (P' : PS w0 W b l s' X') (hle : l.length + (s'.length + (showT z).length) ≤ 140737488355328) => P'.kid z (ih z hz) (h.parts.2.2.2.2.2.2.2 z hz) hs hp (right_kid hr hz) hle)
  have h' := hid h
  have e2' := hid e2
  have hn' := hid hn
  have hlen' := hid hlen
  have ha' := hid ha
  have hI' := hid hII
  have P0 := hid P
  have hI0 := hid hIX
  clear ih h hs hp hr e1 e2 hn hlen ha hII P hIX l1 l2
  go_enter Tryz.func160, Tryz.ntmps160
  go_upto_region 1 with fail
  have K1 := hid (Blk.new X [.int .u8 (x.kind : Nat), .int .i64 x.num, .string x.str, .string x.typ, .slice no x.names.length nc, .slice lo n lc] 26)
  obtain ⟨P1, st0⟩ := P0.out.alloc (.cells #[.int .u8 (x.kind : Nat), .int .i64 x.num, .string x.str, .string x.typ, .slice no x.names.length nc, .slice lo n lc] 26)
  generalize X.alloc (.cells #[.int .u8 (x.kind : Nat), .int .i64 x.num, .string x.str, .string x.typ, .slice no x.names.length nc, .slice lo n lc] 26) = X0 at K1 P1 st0 ⊢
  replace P1 := hid (show PS w0 W b l (s ++ itemsL x (x.list.map showT) 0) X0 by rw [itemsL, List.append_nil]; exact P1)
  replace st0 := hid st0
  obtain ⟨c0, c1, c2, c3, c4, c5, cf⟩ := six K1.out
  go_wp2_with fail
  clear c0 c1 c2 c3 c4 c5 cf P0 K1
  go_loopw [11] (fun i wr => ∃ k : Nat, k ≤ n ∧ i = .int .i64 k ∧ Hid (PS w0 W b l (s ++ itemsL x (x.list.map showT) k) wr) ∧ Hid (Stay X wr)) (fun i _ => n - (intOf i).toNat)
  case atStart => exact ⟨0, by omega, rfl, P1, st0⟩
  case round =>
    clear P1 st0
    obtain ⟨k, hk, rfl, P1, st1⟩ := hrel
    rename_i wr
    by_cases hkl : k < n
    · have hki : (k : Int) < (n : Int) := by omega
      have hkx : k < x.list.length := by rw [hn'.out]; exact hkl
      obtain ⟨xb, xo, hxo, d0, d1, d2, d3, d4, d5⟩ := (h'.out.below P1.out.up).part6 (lo := lo) (lc := lc) (by rw [e2'.out, hn'.out]) k hkx
      subst hxo
      have hzok := (h'.out.parts.2.2.2.2.2.2.2 _ (List.getElem_mem hkx)).forms
      have hks := ks_at x k hkx
      have hrec := hid (hkid.out x.list[k] (List.getElem_mem hkx))
      have hst := items_step x (x.list.map showT) k n hkl
      have hit : itemsL x (x.list.map showT) (k + 1) = itemsL x (x.list.map showT) k ++ (sepL k ++ (aheadL x k ++ (x.list.map showT).getD k [])) := rfl
      have hah := hid (ha'.out k hkx)
      rw [hks] at hst hit
      clear hks
      generalize x.list[k] = z at d0 d1 d2 d3 d4 d5 hrec hzok hst hit
      obtain ⟨zno, znc, zlo, zlc, ez1, ez2, zl1, zl2⟩ := hzok
      have hzv := T.val_eq ez1 ez2
      rw [ez1] at d4
      rw [ez2] at d5
      replace hrec := hid (show ∀ (s' : By) (X' : World), PS w0 W b l s' X' → l.length + (s'.length + (showT z).length) ≤ 140737488355328 → Calls Tryz.prog 24 #[.pointer (some ⟨b, 0, none⟩), .agg #[.int .u8 (z.kind : Nat), .int .i64 z.num, .string z.str, .string z.typ, .slice zno z.names.length znc, .slice zlo z.list.length zlc]] X' fun e w' => e = .returned (.tuple #[]) ∧ PS w0 W b l (s' ++ showT z) w' ∧ Stay X' w' from hzv ▸ hrec.out)
      clear ez1 ez2 hzv hkid
      generalize showT z = sz at *
      have hle : l.length + (s.length + ((itemsL x (x.list.map showT) k).length + ((sepL k).length + ((aheadL x k).length + sz.length)))) ≤ 140737488355328 := by have := hlen'.out; omega
      clear hst
      obtain ⟨post, hpost⟩ : ∃ p, itemsL x (x.list.map showT) (k + 1) = p := ⟨_, rfl⟩
      rw [hpost] at hit
      replace hpost := hid hpost
      replace hit := hid hit
      replace hle := hid hle
      generalize itemsL x (x.list.map showT) k = pre at *
      generalize aheadL x k = ah at *
      go_upto_region 4 with fail
      have K4 := hid (Blk.new wr [.int .u8 (z.kind : Nat), .int .i64 z.num, .string z.str, .string z.typ, .slice zno z.names.length znc, .slice zlo z.list.length zlc] 26)
      obtain ⟨P2, st2⟩ := P1.out.alloc (.cells #[.int .u8 (z.kind : Nat), .int .i64 z.num, .string z.str, .string z.typ, .slice zno z.names.length znc, .slice zlo z.list.length zlc] 26)
      clear d0 d1 d2 d3 d4 d5 P1
      generalize wr.alloc (.cells #[.int .u8 (z.kind : Nat), .int .i64 z.num, .string z.str, .string z.typ, .slice zno z.names.length znc, .slice zlo z.list.length zlc] 26) = X3 at K4 P2 st2 ⊢
      generalize wr.heap.size = b4 at K4 ⊢
      replace st1 := hid (st1.out.trans st2)
      replace P2 := hid P2
      clear st2
      by_cases hk0 : k = 0
      · have hk0i : ¬ (0 : Int) < (k : Int) := by omega
        have hse : sepL k = [] := by rw [hk0]; rfl
        rw [hse] at hit hle
        clear hse hk0
        have cA := hid (hah.out (s ++ pre) X3 P2.out (hI'.out _ _ st1.out hI0.out) (by have := hle.out; simp at this ⊢; omega))
        go_wp2_with fail
        refine cA.out.mono ?_
        rintro e X5 ⟨rfl, P3, st3⟩
        replace K4 := hid (st3 _ _ _ (by decide) (by decide) K4.out)
        replace st1 := hid (st1.out.trans st3)
        have cR := hid (hrec.out _ X5 P3 (by have := hle.out; simp at this ⊢; omega))
        clear cA P2 st3
        replace P3 := hid P3
        obtain ⟨f0, f1, f2, f3, f4, f5, ff⟩ := six K4.out
        go_wp2_with fail
        refine cR.out.mono ?_
        rintro e X6 ⟨rfl, P4, st4⟩
        replace st1 := hid (st1.out.trans st4)
        have P4' := hid (show PS w0 W b l (s ++ post) X6 by rw [hit.out]; simpa using P4)
        clear cR P3 P4 st4 f0 f1 f2 f3 f4 f5 ff K4
        go_wp2_with fail
        go_roundw
        case rel => exact ⟨k + 1, by omega, by go_num, by rw [hpost.out]; exact P4', st1⟩
        case measure => simp [intOf]; omega
      · have hk0i : (0 : Int) < (k : Int) := by omega
        have hse : sepL k = [44, 32] := by unfold sepL; rw [if_neg hk0]
        rw [hse] at hit hle
        clear hse hk0
        have cP := hid (P2.out.put [⟨#[44, 32]⟩] (by simp) (by have := hle.out; simp [catL] at this ⊢; omega))
        go_wp2_with fail
        refine cP.out.mono ?_
        rintro e X4 ⟨rfl, P2', st2⟩
        replace K4 := hid (st2 _ _ _ (by decide) (by decide) K4.out)
        replace st1 := hid (st1.out.trans st2)
        clear P2 cP st2
        have P2 := hid P2'
        clear P2'
        have cA := hid (hah.out _ X4 P2.out (hI'.out _ _ st1.out hI0.out) (by have := hle.out; simp [catL] at this ⊢; omega))
        go_wp2_with fail
        refine cA.out.mono ?_
        rintro e X5 ⟨rfl, P3, st3⟩
        replace K4 := hid (st3 _ _ _ (by decide) (by decide) K4.out)
        replace st1 := hid (st1.out.trans st3)
        have cR := hid (hrec.out _ X5 P3 (by have := hle.out; simp [catL] at this ⊢; omega))
        clear cA P2 st3
        replace P3 := hid P3
        obtain ⟨f0, f1, f2, f3, f4, f5, ff⟩ := six K4.out
        go_wp2_with fail
        refine cR.out.mono ?_
        rintro e X6 ⟨rfl, P4, st4⟩
        replace st1 := hid (st1.out.trans st4)
        have P4' := hid (show PS w0 W b l (s ++ post) X6 by rw [hit.out]; simpa [catL] using P4)
        clear cR P3 P4 st4 f0 f1 f2 f3 f4 f5 ff K4
        go_wp2_with fail
        go_roundw
        case rel => exact ⟨k + 1, by omega, by go_num, by rw [hpost.out]; exact P4', st1⟩
        case measure => simp [intOf]; omega
    · have hki : ¬ (k : Int) < (n : Int) := by omega
      have hke : k = n := by omega
      have hf := hid (show PS w0 W b l (s ++ itemsL x (x.list.map showT) n) wr from hke ▸ P1.out)
      clear P1
      go_wp2_with fail
      first | go_end0 | go_ret2 | go_ret
      exact ⟨rfl, hf.out, st1.out⟩
end Go.Proofs.YtbcjppbiihgfpaaGreatDoor.Ex
namespace Go.Proofs.YtbcjppbiihgfpaaGreatDoor.Ex
open Go.ChangeShapes Go.WideShapes Go.ChangeAt Go.RowKit
open Go.Proofs.YtbcjppbiihgfpaaGreatDoor.Mem Go.Proofs.YtbcjppbiihgfpaaGreatDoor.Lik
set_option linter.unusedVariables false
set_option linter.unusedSimpArgs false
set_option maxRecDepth 100000
theorem cf_set1 : ∀ args W, (callFunc 161 args).run Tryz.prog W = .ok (.enter 161 args) W := by
  intro args W
  simp [callFunc, go_sem, Tryz.func161, Tryz.f161]
theorem cf_rec1 : ∀ args W, (callFunc 162 args).run Tryz.prog W = .ok (.enter 162 args) W := by
  intro args W
  simp [callFunc, go_sem, Tryz.func162, Tryz.f162]
theorem set1_any (i : Nat) (X : World) : Calls Tryz.prog 161 (#[.int .i64 i] ++ #[]) X fun e w' => e = .returned (.tuple #[]) ∧ w' = X := by
  show Calls Tryz.prog 161 #[.int .i64 i] X _
  go_enter Tryz.func161, Tryz.ntmps161
  go_wp2_with fail
  first | go_end0 | go_ret2
  exact ⟨rfl, rfl⟩
set_option maxHeartbeats 4000000 in
theorem rec1_any (w0 W X : World) (b bp be i m : Nat) (l s : By) (st : ByteArray) (nb no nc : Nat) (v0 v1 v2 v3 v5 : Value) (P : PS w0 W b l s X) (hs : Sta w0) (hz : st.size ≤ 140737488355328) (hn : nmB st = true)
    (K1 : Blk X bp [.pointer (some ⟨b, 0, none⟩)] 105) (K2 : Blk X be [v0, v1, v2, v3, .slice (some ⟨nb, no, none⟩) m nc, v5] 26) (hi : i < m) (hm : m ≤ 9223372036854775807) (hcc : ∀ Y, Below w0.heap.size w0 Y → Y.cell? ⟨nb, no + i, none⟩ = some (.string st))
    (hlen : l.length + (s.length + (namedL st ++ [58, 32]).length) ≤ 140737488355328) :
    Calls Tryz.prog 162 (#[.int .i64 i] ++ #[.pointer (some ⟨bp, 0, none⟩), .pointer (some ⟨be, 0, none⟩)]) X fun e w' => e = .returned (.tuple #[]) ∧ PS w0 W b l (s ++ (namedL st ++ [58, 32])) w' ∧ Stay X w' := by
  show Calls Tryz.prog 162 #[.int .i64 i, .pointer (some ⟨bp, 0, none⟩), .pointer (some ⟨be, 0, none⟩)] X _
  have i1 : (i : Int) < (m : Int) := by omega
  have i2 : (m : Int) ≤ 9223372036854775807 := by omega
  obtain ⟨P1, st1⟩ := PS.below P ((Below.refl _ X).drew)
  have hl := hid (plabel_any st X.drew hz hn (hs.below P1.up))
  have hlen' := hid hlen
  generalize namedL st = q at *
  have hc := hcc X P.up
  have a0 : X.cell? ⟨bp, 0, none⟩ = some (.pointer (some ⟨b, 0, none⟩)) := K1.cell 0 (by simp)
  have c4 : X.cell? ⟨be, 4, none⟩ = some (.slice (some ⟨nb, no, none⟩) m nc) := K2.cell 4 (by simp)
  have hK1 := hid K1
  have hK2 := hid K2
  have P1 := hid P1
  have st1 := hid st1
  clear P hs hz hn K1 K2 hi hm hlen
  have hcc := hid hcc
  go_enter Tryz.func162, Tryz.ntmps162
  go_wp2_with fail
  go_region_held3 (fun Y => Y.cell? ⟨bp, 0, none⟩ = some (.pointer (some ⟨b, 0, none⟩)) ∧ Y.cell? ⟨be, 4, none⟩ = some (.slice (some ⟨nb, no, none⟩) m nc) ∧ Y.cell? ⟨nb, no + i, none⟩ = some (.string st)) (first | with_reducible exact ⟨a0, c4, hc⟩ | with_reducible exact ⟨celld a0, celld c4, celld hc⟩ | with_reducible exact ⟨cella a0, cella c4, cella hc⟩) (first
    | (go_at_call 163
       (with_reducible refine hl.out.mono ?_)
       rintro e X1 ⟨rfl, b1⟩
       obtain ⟨P3, st3⟩ := P1.out.below b1
       replace hK1 := hid (st3 _ _ _ (by decide) (by decide) (st1.out _ _ _ (by decide) (by decide) hK1.out))
       replace hK2 := hid (st3 _ _ _ (by decide) (by decide) (st1.out _ _ _ (by decide) (by decide) hK2.out))
       replace st1 := hid (st1.out.trans st3)
       replace hc := cell_below b1 _ _ (show X.drew.cell? _ = _ from hc)
       clear a0 c4
       have a0 : X1.cell? ⟨bp, 0, none⟩ = some (.pointer (some ⟨b, 0, none⟩)) := hK1.out.cell 0 (by simp)
       have c4 : X1.cell? ⟨be, 4, none⟩ = some (.slice (some ⟨nb, no, none⟩) m nc) := hK2.out.cell 4 (by simp)
       replace P3 := hid P3
       have cP := hid (P3.out.put [⟨q.toArray⟩, ⟨#[58, 32]⟩] (by simp) (by have hle := hlen'.out; simp [catL] at hle ⊢; omega))
       clear b1 st3 hl P1)
    | (go_at_call 156
       refine cP.out.mono ?_
       rintro e X2 ⟨rfl, P4, st4⟩
       replace P4 := hid P4
       replace st1 := hid (st1.out.trans st4)
       replace hK1 := hid (st4 _ _ _ (by decide) (by decide) hK1.out)
       replace hK2 := hid (st4 _ _ _ (by decide) (by decide) hK2.out)
       clear a0 c4 hc
       have a0 : X2.cell? ⟨bp, 0, none⟩ = some (.pointer (some ⟨b, 0, none⟩)) := hK1.out.cell 0 (by simp)
       have c4 : X2.cell? ⟨be, 4, none⟩ = some (.slice (some ⟨nb, no, none⟩) m nc) := hK2.out.cell 4 (by simp)
       have hc := hcc.out X2 P4.out.up
       clear cP P3))
  have hf := hid (show PS w0 W b l (s ++ (q ++ [58, 32])) X2 by simpa [catL] using P4.out)
  clear P4 a0 c4 hc
  go_wp2_with fail
  first | go_end0 | go_ret2
  exact ⟨rfl, hf.out, st1.out⟩
end Go.Proofs.YtbcjppbiihgfpaaGreatDoor.Ex
namespace Go.Proofs.YtbcjppbiihgfpaaGreatDoor.Ex
open Go.ChangeShapes Go.WideShapes Go.ChangeAt Go.RowKit
open Go.Proofs.YtbcjppbiihgfpaaGreatDoor.Mem Go.Proofs.YtbcjppbiihgfpaaGreatDoor.Lik
set_option linter.unusedVariables false
set_option linter.unusedSimpArgs false
set_option maxRecDepth 100000
set_option maxHeartbeats 4000000 in
theorem set_any (x : T) (ih : ∀ z ∈ x.list, Shows z) (hk : x.kind = 6) : MShows 104 x := by
  intro w0 W b l h hs hp hr hu hI hlen
  obtain ⟨no, nc, lo, lc, e1, e2, l1, l2⟩ := h.forms
  have hsh : showT x = [91] ++ (itemsL x (x.list.map showT) x.list.length ++ [93]) := by
    rw [showT_eq]
    unfold nodeS
    simp [hk]
  have i1 : (x.names.length : Int) ≤ 9223372036854775807 := by omega
  have i2 : (x.list.length : Int) ≤ 9223372036854775807 := by omega
  rw [hsh] at hlen ⊢
  have hv := T.val_eq e1 e2
  rw [hv]
  have P0 := hid (PS.begin hI hu)
  have hlist := hid (fun (s : By) (X : World) (P : PS w0 W b l s X) (hle : l.length + (s.length + (itemsL x (x.list.map showT) x.list.length).length) ≤ 140737488355328) => hv ▸ list_any x ih 161 #[] (fun _ => True) (fun _ _ _ _ => trivial) cf_set1 w0 W X b l s P trivial h hs hp hr hle
    (fun i hi s' X' P' _ _ => (set1_any i X').mono fun e w' he => ⟨he.1, by
      have ea : aheadL x i = [] := by unfold aheadL; rw [if_neg (by omega)]
      rw [ea, List.append_nil, he.2]
      exact P', by rw [he.2]; exact fun _ _ _ _ _ hb => hb⟩))
  replace hlen := hid hlen
  clear h hs hp hr hI hu ih e1 e2 l1 l2 hsh hk hv
  generalize itemsL x (x.list.map showT) x.list.length = its at *
  go_enter Tryz.func104, Tryz.ntmps104
  go_upto_region 1 with fail
  have K1 := hid (Blk.new W [.int .u8 (x.kind : Nat), .int .i64 x.num, .string x.str, .string x.typ, .slice no x.names.length nc, .slice lo x.list.length lc] 26)
  obtain ⟨P1, st⟩ := P0.out.alloc (.cells #[.int .u8 (x.kind : Nat), .int .i64 x.num, .string x.str, .string x.typ, .slice no x.names.length nc, .slice lo x.list.length lc] 26)
  generalize W.alloc (.cells #[.int .u8 (x.kind : Nat), .int .i64 x.num, .string x.str, .string x.typ, .slice no x.names.length nc, .slice lo x.list.length lc] 26) = X0 at K1 P1 ⊢
  replace P1 := hid P1
  clear P0 st
  have cP := hid (P1.out.put [⟨#[91]⟩] (by simp) (by have hle := hlen.out; simp [catL] at hle ⊢; omega))
  obtain ⟨c0, c1, c2, c3, c4, c5, cf⟩ := six K1.out
  go_wp2_with fail
  refine cP.out.mono ?_
  rintro e X1 ⟨rfl, P2, st⟩
  replace K1 := hid (st _ _ _ (by decide) (by decide) K1.out)
  clear c0 c1 c2 c3 c4 c5 cf
  clear cP P1 st
  have P1 := hid P2
  clear P2
  have cL := hid (hlist.out _ _ P1.out (by have hle := hlen.out; simp [catL] at hle ⊢; omega))
  obtain ⟨c0, c1, c2, c3, c4, c5, cf⟩ := six K1.out
  go_wp2_with fail
  refine cL.out.mono ?_
  rintro e X2 ⟨rfl, P2, st⟩
  replace K1 := hid (st _ _ _ (by decide) (by decide) K1.out)
  clear c0 c1 c2 c3 c4 c5 cf cL P1 st
  have P1 := hid P2
  clear P2
  have cP := hid (P1.out.put [⟨#[93]⟩] (by simp) (by have hle := hlen.out; simp [catL] at hle ⊢; omega))
  obtain ⟨c0, c1, c2, c3, c4, c5, cf⟩ := six K1.out
  go_wp2_with fail
  refine cP.out.mono ?_
  rintro e X3 ⟨rfl, P2, st⟩
  replace K1 := hid (st _ _ _ (by decide) (by decide) K1.out)
  clear c0 c1 c2 c3 c4 c5 cf
  clear cP P1 st
  have P1 := hid P2
  clear P2
  have hf := hid (P1.out.done (t := [91] ++ (its ++ [93])) (by simp [catL]))
  clear P1 K1
  go_wp2_with fail
  first | (go_end0; exact ⟨rfl, hf.out⟩) | exact bodyPost_ret (v := .tuple #[]) (by simp [results, Tryz.results104, go_sem]) rfl ⟨rfl, hf.out⟩
set_option maxHeartbeats 4000000 in
theorem record_any (x : T) (ih : ∀ z ∈ x.list, Shows z) (hk : x.kind = 7) : MShows 105 x := by
  intro w0 W b l h hs hp hr hu hI hlen
  obtain ⟨no, nc, lo, lc, e1, e2, l1, l2⟩ := h.forms
  have hsh : showT x = [123] ++ (itemsL x (x.list.map showT) x.list.length ++ [125]) := by
    rw [showT_eq]
    unfold nodeS
    simp [hk]
  have i1 : (x.names.length : Int) ≤ 9223372036854775807 := by omega
  have i2 : (x.list.length : Int) ≤ 9223372036854775807 := by omega
  rw [hsh] at hlen ⊢
  have hv := T.val_eq e1 e2
  rw [hv]
  have P0 := hid (PS.begin hI hu)
  have hfld := (node_of hr).1
  unfold fldB at hfld
  rw [if_neg (by omega), if_neg (by omega), if_neg (by omega), if_neg (by omega), if_neg (by omega), if_pos hk] at hfld
  simp only [Bool.and_eq_true, decide_eq_true_eq] at hfld
  have hnl := hfld.1.1
  have hna := hfld.1.2
  have hlist := hid (fun (bp be : Nat) (s : By) (X : World) (P : PS w0 W b l s X) (hle : l.length + (s.length + (itemsL x (x.list.map showT) x.list.length).length) ≤ 140737488355328) (K2 : Blk X bp [.pointer (some ⟨b, 0, none⟩)] 105) (K1 : Blk X be [.int .u8 (x.kind : Nat), .int .i64 x.num, .string x.str, .string x.typ, .slice no x.names.length nc, .slice lo x.list.length lc] 26) =>
    hv ▸ list_any x ih 162 #[.pointer (some ⟨bp, 0, none⟩), .pointer (some ⟨be, 0, none⟩)] (fun Y => Blk Y bp [.pointer (some ⟨b, 0, none⟩)] 105 ∧ Blk Y be [.int .u8 (x.kind : Nat), .int .i64 x.num, .string x.str, .string x.typ, .slice no x.names.length nc, .slice lo x.list.length lc] 26) (fun _ _ st hY => ⟨st _ _ _ (by decide) (by decide) hY.1, st _ _ _ (by decide) (by decide) hY.2⟩) cf_rec1 w0 W X b l s P ⟨K2, K1⟩ h hs hp hr hle
    (fun i hi s' X' P' hY hle' => by
      have hin : i < x.names.length := by rw [hnl]; exact hi
      obtain ⟨nb, no', rfl, _⟩ := h.name e1 i hin
      have ea : aheadL x i = namedL x.names[i] ++ [58, 32] := by
        unfold aheadL
        rw [if_pos hk, List.getD_eq_getElem?_getD, List.getElem?_eq_getElem hin]
        rfl
      rw [ea] at hle' ⊢
      exact rec1_any w0 W X' b bp be i x.names.length l s' x.names[i] nb no' nc _ _ _ _ _ P' hs (h.parts.2.2.2.2.1 _ (List.getElem_mem hin)) (namesGo_all _ _ hna _ (List.getElem_mem hin)) hY.1 hY.2 hin l1
        (fun Y hB => by
          obtain ⟨nb2, no2, e, hc⟩ := (h.below hB).name e1 i hin
          simp only [Option.some.injEq, Addr.mk.injEq, and_true] at e
          obtain ⟨rfl, rfl⟩ := e
          exact hc) hle'))
  replace hlen := hid hlen
  clear h hs hp hr hI hu ih e1 e2 l1 l2 hsh hk hv hfld hnl hna
  generalize itemsL x (x.list.map showT) x.list.length = its at *
  go_enter Tryz.func105, Tryz.ntmps105
  go_upto_region 1 with fail
  have K2 := hid (Blk.new W [.pointer (some ⟨b, 0, none⟩)] 105)
  obtain ⟨P0', st⟩ := P0.out.alloc (.cells #[.pointer (some ⟨b, 0, none⟩)] 105)
  have hsz : W.heap.size + 1 = (W.alloc (.cells #[.pointer (some ⟨b, 0, none⟩)] 105)).heap.size := by simp
  have K1 := hid (Blk.new' (W.alloc (.cells #[.pointer (some ⟨b, 0, none⟩)] 105)) [.int .u8 (x.kind : Nat), .int .i64 x.num, .string x.str, .string x.typ, .slice no x.names.length nc, .slice lo x.list.length lc] 26 (W.heap.size + 1) hsz)
  obtain ⟨P1, st2⟩ := P0'.alloc (.cells #[.int .u8 (x.kind : Nat), .int .i64 x.num, .string x.str, .string x.typ, .slice no x.names.length nc, .slice lo x.list.length lc] 26)
  replace K2 := hid (st2 _ _ _ (by decide) (by decide) K2.out)
  clear P0 P0' st st2 hsz
  generalize (W.alloc (.cells #[.pointer (some ⟨b, 0, none⟩)] 105)).alloc (.cells #[.int .u8 (x.kind : Nat), .int .i64 x.num, .string x.str, .string x.typ, .slice no x.names.length nc, .slice lo x.list.length lc] 26) = X0 at K1 K2 P1 ⊢
  replace P1 := hid P1
  have cP := hid (P1.out.put [⟨#[123]⟩] (by simp) (by have hle := hlen.out; simp [catL] at hle ⊢; omega))
  obtain ⟨a0, af⟩ := K2.out.one
  go_wp2_with fail
  refine cP.out.mono ?_
  rintro e X1 ⟨rfl, P2, st⟩
  replace K1 := hid (st _ _ _ (by decide) (by decide) K1.out)
  replace K2 := hid (st _ _ _ (by decide) (by decide) K2.out)
  clear a0 af
  clear cP P1 st
  have P1 := hid P2
  clear P2
  have cL := hid (hlist.out W.heap.size (W.heap.size + 1) _ _ P1.out (by have hle := hlen.out; simp [catL] at hle ⊢; omega) K2.out K1.out)
  obtain ⟨a0, af⟩ := K2.out.one
  obtain ⟨c0, c1, c2, c3, c4, c5, cf⟩ := six K1.out
  go_wp2_with fail
  refine cL.out.mono ?_
  rintro e X2 ⟨rfl, P2, st⟩
  replace K1 := hid (st _ _ _ (by decide) (by decide) K1.out)
  replace K2 := hid (st _ _ _ (by decide) (by decide) K2.out)
  clear a0 af c0 c1 c2 c3 c4 c5 cf cL P1 st
  have P1 := hid P2
  clear P2
  have cP := hid (P1.out.put [⟨#[125]⟩] (by simp) (by have hle := hlen.out; simp [catL] at hle ⊢; omega))
  obtain ⟨a0, af⟩ := K2.out.one
  go_wp2_with fail
  refine cP.out.mono ?_
  rintro e X3 ⟨rfl, P2, st⟩
  replace K1 := hid (st _ _ _ (by decide) (by decide) K1.out)
  replace K2 := hid (st _ _ _ (by decide) (by decide) K2.out)
  clear a0 af
  clear cP P1 st
  have P1 := hid P2
  clear P2
  have hf := hid (P1.out.done (t := [123] ++ (its ++ [125])) (by simp [catL]))
  clear P1 K1
  go_wp2_with fail
  first | (go_end0; exact ⟨rfl, hf.out⟩) | exact bodyPost_ret (v := .tuple #[]) (by simp [results, Tryz.results105, go_sem]) rfl ⟨rfl, hf.out⟩
end Go.Proofs.YtbcjppbiihgfpaaGreatDoor.Ex
namespace Go.Proofs.YtbcjppbiihgfpaaGreatDoor.Ex
open Go.ChangeShapes Go.WideShapes Go.ChangeAt Go.RowKit
open Go.Proofs.YtbcjppbiihgfpaaGreatDoor.Mem Go.Proofs.YtbcjppbiihgfpaaGreatDoor.Lik
set_option linter.unusedVariables false
set_option linter.unusedSimpArgs false
set_option maxRecDepth 100000
/-- by which method an op is written -/
def methF (k : Nat) : FuncId :=
  if k ≤ 5 then 103 else if k = 6 then 104 else if k = 7 then 105 else if k = 8 then 106 else if k ≤ 11 then 107 else if k ≤ 13 then 108 else if k = 14 then 109 else if k ≤ 26 then 111 else 110
theorem cf_leaf : ∀ args W, (callFunc 103 args).run Tryz.prog W = .ok (.enter 103 args) W := by
  intro args W
  simp [callFunc, go_sem, Tryz.func103, Tryz.f103]
theorem cf_set : ∀ args W, (callFunc 104 args).run Tryz.prog W = .ok (.enter 104 args) W := by
  intro args W
  simp [callFunc, go_sem, Tryz.func104, Tryz.f104]
theorem cf_record : ∀ args W, (callFunc 105 args).run Tryz.prog W = .ok (.enter 105 args) W := by
  intro args W
  simp [callFunc, go_sem, Tryz.func105, Tryz.f105]
theorem cf_attr : ∀ args W, (callFunc 106 args).run Tryz.prog W = .ok (.enter 106 args) W := by
  intro args W
  simp [callFunc, go_sem, Tryz.func106, Tryz.f106]
theorem cf_question : ∀ args W, (callFunc 107 args).run Tryz.prog W = .ok (.enter 107 args) W := by
  intro args W
  simp [callFunc, go_sem, Tryz.func107, Tryz.f107]
theorem cf_unary : ∀ args W, (callFunc 108 args).run Tryz.prog W = .ok (.enter 108 args) W := by
  intro args W
  simp [callFunc, go_sem, Tryz.func108, Tryz.f108]
theorem cf_choice : ∀ args W, (callFunc 109 args).run Tryz.prog W = .ok (.enter 109 args) W := by
  intro args W
  simp [callFunc, go_sem, Tryz.func109, Tryz.f109]
theorem cf_pair : ∀ args W, (callFunc 111 args).run Tryz.prog W = .ok (.enter 111 args) W := by
  intro args W
  simp [callFunc, go_sem, Tryz.func111, Tryz.f111]
theorem cf_call : ∀ args W, (callFunc 110 args).run Tryz.prog W = .ok (.enter 110 args) W := by
  intro args W
  simp [callFunc, go_sem, Tryz.func110, Tryz.f110]
theorem range_split {k : Nat} (h : 1 ≤ k ∧ k ≤ 29) : k = 1 ∨ k = 2 ∨ k = 3 ∨ k = 4 ∨ k = 5 ∨ k = 6 ∨ k = 7 ∨ k = 8 ∨ k = 9 ∨ k = 10 ∨ k = 11 ∨ k = 12 ∨ k = 13 ∨ k = 14 ∨ k = 27 ∨ k = 28 ∨ k = 29 ∨ (15 ≤ k ∧ k ≤ 26) := by omega
set_option maxHeartbeats 4000000 in
theorem writer_1 (w : World) : Calls Tryz.prog 56 #[.int .u8 1] w fun e w' => e = .returned (.func (Fn.func 103) #[] #[]) ∧ Below w.heap.size w w' := by
  have bw := hid (Below.refl w.heap.size w)
  go_enter Tryz.func56, Tryz.ntmps56
  go_wp2_with fail
  go_ret
  exact ⟨rfl, bw.out⟩
set_option maxHeartbeats 4000000 in
theorem writer_2 (w : World) : Calls Tryz.prog 56 #[.int .u8 2] w fun e w' => e = .returned (.func (Fn.func 103) #[] #[]) ∧ Below w.heap.size w w' := by
  have bw := hid (Below.refl w.heap.size w)
  go_enter Tryz.func56, Tryz.ntmps56
  go_wp2_with fail
  go_ret
  exact ⟨rfl, bw.out⟩
set_option maxHeartbeats 4000000 in
theorem writer_3 (w : World) : Calls Tryz.prog 56 #[.int .u8 3] w fun e w' => e = .returned (.func (Fn.func 103) #[] #[]) ∧ Below w.heap.size w w' := by
  have bw := hid (Below.refl w.heap.size w)
  go_enter Tryz.func56, Tryz.ntmps56
  go_wp2_with fail
  go_ret
  exact ⟨rfl, bw.out⟩
set_option maxHeartbeats 4000000 in
theorem writer_4 (w : World) : Calls Tryz.prog 56 #[.int .u8 4] w fun e w' => e = .returned (.func (Fn.func 103) #[] #[]) ∧ Below w.heap.size w w' := by
  have bw := hid (Below.refl w.heap.size w)
  go_enter Tryz.func56, Tryz.ntmps56
  go_wp2_with fail
  go_ret
  exact ⟨rfl, bw.out⟩
set_option maxHeartbeats 4000000 in
theorem writer_5 (w : World) : Calls Tryz.prog 56 #[.int .u8 5] w fun e w' => e = .returned (.func (Fn.func 103) #[] #[]) ∧ Below w.heap.size w w' := by
  have bw := hid (Below.refl w.heap.size w)
  go_enter Tryz.func56, Tryz.ntmps56
  go_wp2_with fail
  go_ret
  exact ⟨rfl, bw.out⟩
set_option maxHeartbeats 4000000 in
theorem writer_6 (w : World) : Calls Tryz.prog 56 #[.int .u8 6] w fun e w' => e = .returned (.func (Fn.func 104) #[] #[]) ∧ Below w.heap.size w w' := by
  have bw := hid (Below.refl w.heap.size w)
  go_enter Tryz.func56, Tryz.ntmps56
  go_wp2_with fail
  go_ret
  exact ⟨rfl, bw.out⟩
set_option maxHeartbeats 4000000 in
theorem writer_7 (w : World) : Calls Tryz.prog 56 #[.int .u8 7] w fun e w' => e = .returned (.func (Fn.func 105) #[] #[]) ∧ Below w.heap.size w w' := by
  have bw := hid (Below.refl w.heap.size w)
  go_enter Tryz.func56, Tryz.ntmps56
  go_wp2_with fail
  go_ret
  exact ⟨rfl, bw.out⟩
set_option maxHeartbeats 4000000 in
theorem writer_8 (w : World) : Calls Tryz.prog 56 #[.int .u8 8] w fun e w' => e = .returned (.func (Fn.func 106) #[] #[]) ∧ Below w.heap.size w w' := by
  have bw := hid (Below.refl w.heap.size w)
  go_enter Tryz.func56, Tryz.ntmps56
  go_wp2_with fail
  go_ret
  exact ⟨rfl, bw.out⟩
set_option maxHeartbeats 4000000 in
theorem writer_9 (w : World) : Calls Tryz.prog 56 #[.int .u8 9] w fun e w' => e = .returned (.func (Fn.func 107) #[] #[]) ∧ Below w.heap.size w w' := by
  have bw := hid (Below.refl w.heap.size w)
  go_enter Tryz.func56, Tryz.ntmps56
  go_wp2_with fail
  go_ret
  exact ⟨rfl, bw.out⟩
set_option maxHeartbeats 4000000 in
theorem writer_10 (w : World) : Calls Tryz.prog 56 #[.int .u8 10] w fun e w' => e = .returned (.func (Fn.func 107) #[] #[]) ∧ Below w.heap.size w w' := by
  have bw := hid (Below.refl w.heap.size w)
  go_enter Tryz.func56, Tryz.ntmps56
  go_wp2_with fail
  go_ret
  exact ⟨rfl, bw.out⟩
set_option maxHeartbeats 4000000 in
theorem writer_11 (w : World) : Calls Tryz.prog 56 #[.int .u8 11] w fun e w' => e = .returned (.func (Fn.func 107) #[] #[]) ∧ Below w.heap.size w w' := by
  have bw := hid (Below.refl w.heap.size w)
  go_enter Tryz.func56, Tryz.ntmps56
  go_wp2_with fail
  go_ret
  exact ⟨rfl, bw.out⟩
set_option maxHeartbeats 4000000 in
theorem writer_12 (w : World) : Calls Tryz.prog 56 #[.int .u8 12] w fun e w' => e = .returned (.func (Fn.func 108) #[] #[]) ∧ Below w.heap.size w w' := by
  have bw := hid (Below.refl w.heap.size w)
  go_enter Tryz.func56, Tryz.ntmps56
  go_wp2_with fail
  go_ret
  exact ⟨rfl, bw.out⟩
set_option maxHeartbeats 4000000 in
theorem writer_13 (w : World) : Calls Tryz.prog 56 #[.int .u8 13] w fun e w' => e = .returned (.func (Fn.func 108) #[] #[]) ∧ Below w.heap.size w w' := by
  have bw := hid (Below.refl w.heap.size w)
  go_enter Tryz.func56, Tryz.ntmps56
  go_wp2_with fail
  go_ret
  exact ⟨rfl, bw.out⟩
set_option maxHeartbeats 4000000 in
theorem writer_14 (w : World) : Calls Tryz.prog 56 #[.int .u8 14] w fun e w' => e = .returned (.func (Fn.func 109) #[] #[]) ∧ Below w.heap.size w w' := by
  have bw := hid (Below.refl w.heap.size w)
  go_enter Tryz.func56, Tryz.ntmps56
  go_wp2_with fail
  go_ret
  exact ⟨rfl, bw.out⟩
set_option maxHeartbeats 4000000 in
theorem writer_27 (w : World) : Calls Tryz.prog 56 #[.int .u8 27] w fun e w' => e = .returned (.func (Fn.func 110) #[] #[]) ∧ Below w.heap.size w w' := by
  have bw := hid (Below.refl w.heap.size w)
  go_enter Tryz.func56, Tryz.ntmps56
  go_wp2_with fail
  go_ret
  exact ⟨rfl, bw.out⟩
set_option maxHeartbeats 4000000 in
theorem writer_28 (w : World) : Calls Tryz.prog 56 #[.int .u8 28] w fun e w' => e = .returned (.func (Fn.func 110) #[] #[]) ∧ Below w.heap.size w w' := by
  have bw := hid (Below.refl w.heap.size w)
  go_enter Tryz.func56, Tryz.ntmps56
  go_wp2_with fail
  go_ret
  exact ⟨rfl, bw.out⟩
set_option maxHeartbeats 4000000 in
theorem writer_29 (w : World) : Calls Tryz.prog 56 #[.int .u8 29] w fun e w' => e = .returned (.func (Fn.func 110) #[] #[]) ∧ Below w.heap.size w w' := by
  have bw := hid (Below.refl w.heap.size w)
  go_enter Tryz.func56, Tryz.ntmps56
  go_wp2_with fail
  go_ret
  exact ⟨rfl, bw.out⟩
set_option maxHeartbeats 4000000 in
theorem writer_pair (k : Nat) (hk : 15 ≤ k ∧ k ≤ 26) (w : World) : Calls Tryz.prog 56 #[.int .u8 (k : Nat)] w fun e w' => e = .returned (.func (Fn.func 111) #[] #[]) ∧ Below w.heap.size w w' := by
  have bw := hid (Below.refl w.heap.size w)
  have n1 : ((k : Int) == 1) = false := by rw [beq_eq_false_iff_ne]; omega
  have n2 : ((k : Int) == 2) = false := by rw [beq_eq_false_iff_ne]; omega
  have n3 : ((k : Int) == 3) = false := by rw [beq_eq_false_iff_ne]; omega
  have n4 : ((k : Int) == 4) = false := by rw [beq_eq_false_iff_ne]; omega
  have n5 : ((k : Int) == 5) = false := by rw [beq_eq_false_iff_ne]; omega
  have n6 : ((k : Int) == 6) = false := by rw [beq_eq_false_iff_ne]; omega
  have n7 : ((k : Int) == 7) = false := by rw [beq_eq_false_iff_ne]; omega
  have n8 : ((k : Int) == 8) = false := by rw [beq_eq_false_iff_ne]; omega
  have n9 : ((k : Int) == 9) = false := by rw [beq_eq_false_iff_ne]; omega
  have n10 : ((k : Int) == 10) = false := by rw [beq_eq_false_iff_ne]; omega
  have n11 : ((k : Int) == 11) = false := by rw [beq_eq_false_iff_ne]; omega
  have n12 : ((k : Int) == 12) = false := by rw [beq_eq_false_iff_ne]; omega
  have n13 : ((k : Int) == 13) = false := by rw [beq_eq_false_iff_ne]; omega
  have n14 : ((k : Int) == 14) = false := by rw [beq_eq_false_iff_ne]; omega
  have n27 : ((k : Int) == 27) = false := by rw [beq_eq_false_iff_ne]; omega
  have n28 : ((k : Int) == 28) = false := by rw [beq_eq_false_iff_ne]; omega
  have n29 : ((k : Int) == 29) = false := by rw [beq_eq_false_iff_ne]; omega
  clear hk
  go_enter Tryz.func56, Tryz.ntmps56
  go_wp2_with fail
  go_ret
  exact ⟨rfl, bw.out⟩
theorem writer_any (k : Nat) (hk : 1 ≤ k ∧ k ≤ 29) (w : World) :
    Calls Tryz.prog 56 #[.int .u8 (k : Nat)] w fun e w' => e = .returned (.func (Fn.func (methF k)) #[] #[]) ∧ Below w.heap.size w w' := by
  rcases range_split hk with rfl | rfl | rfl | rfl | rfl | rfl | rfl | rfl | rfl | rfl | rfl | rfl | rfl | rfl | rfl | rfl | rfl | h
  · exact writer_1 w
  · exact writer_2 w
  · exact writer_3 w
  · exact writer_4 w
  · exact writer_5 w
  · exact writer_6 w
  · exact writer_7 w
  · exact writer_8 w
  · exact writer_9 w
  · exact writer_10 w
  · exact writer_11 w
  · exact writer_12 w
  · exact writer_13 w
  · exact writer_14 w
  · exact writer_27 w
  · exact writer_28 w
  · exact writer_29 w
  · have e : methF k = 111 := by
      unfold methF
      rw [if_neg (by omega), if_neg (by omega), if_neg (by omega), if_neg (by omega), if_neg (by omega), if_neg (by omega), if_neg (by omega), if_pos (by omega)]
    rw [e]
    exact writer_pair k h w
end Go.Proofs.YtbcjppbiihgfpaaGreatDoor.Ex
namespace Go.Proofs.YtbcjppbiihgfpaaGreatDoor.Ex
open Go.ChangeShapes Go.WideShapes Go.ChangeAt Go.RowKit
open Go.Proofs.YtbcjppbiihgfpaaGreatDoor.Mem Go.Proofs.YtbcjppbiihgfpaaGreatDoor.Lik
set_option linter.unusedVariables false
set_option linter.unusedSimpArgs false
set_option maxRecDepth 100000
theorem kind_range {x : T} (h : rightB x = true) : 1 ≤ x.kind ∧ x.kind ≤ 29 := by
  have := (node_of h).2
  unfold kidsB at this
  refine ⟨Nat.pos_of_ne_zero fun e => ?_, ?_⟩
  · rw [e] at this
    simp at this
  · by_cases h1 : 15 ≤ x.kind
    · exact (kids2 h h1).2
    · omega
theorem show_pos {x : T} (h : rightB x = true) : showT x ≠ [] := by
  intro e
  have hk := kind_range h
  have hf := (node_of h).1
  rw [showT_eq] at e
  unfold nodeS at e
  unfold fldB at hf
  by_cases h1 : x.kind = 1
  · rw [if_pos h1] at e; split at e <;> cases e
  rw [if_neg h1] at e hf
  by_cases h2 : x.kind = 2
  · rw [if_pos h2] at e
    have := Lib.decDigits_length x.num.toNat
    have h3 := Lib.nDigits_pos x.num.toNat
    rw [e] at this
    simp at this
    omega
  rw [if_neg h2] at e hf
  by_cases h3 : x.kind = 3
  · rw [if_pos h3] at e; cases e
  rw [if_neg h3] at e hf
  by_cases h4 : x.kind = 4
  · rw [if_pos h4] at e
    have := congrArg List.length e
    simp at this
  rw [if_neg h4] at e hf
  by_cases h5 : x.kind = 5
  · rw [if_pos h5] at e hf
    simp only [Bool.and_eq_true] at hf
    have hv := hf.1
    unfold varB hasB varsL at hv
    simp only [List.any_cons, List.any_nil, Bool.or_false, Bool.or_eq_true, beq_iff_eq, ByteArray.toList_eq, e] at hv
    rcases hv with hv | hv | hv | hv <;> cases hv
  rw [if_neg h5] at e
  have key : (nodeS x (x.list.map showT)).length = 0 := by
    unfold nodeS
    rw [if_neg h1, if_neg h2, if_neg h3, if_neg h4, if_neg h5, e]
    rfl
  unfold nodeS at key
  rw [if_neg h1, if_neg h2, if_neg h3, if_neg h4, if_neg h5] at key
  repeat' split at key
  all_goals (simp only [List.length_append, List.length_cons, List.length_nil] at key; try omega)
end Go.Proofs.YtbcjppbiihgfpaaGreatDoor.Ex
namespace Go.Proofs.YtbcjppbiihgfpaaGreatDoor.Ex
open Go.ChangeShapes Go.WideShapes Go.ChangeAt Go.RowKit
open Go.Proofs.YtbcjppbiihgfpaaGreatDoor.Mem Go.Proofs.YtbcjppbiihgfpaaGreatDoor.Lik
set_option linter.unusedVariables false
set_option linter.unusedSimpArgs false
set_option maxRecDepth 100000
theorem meth_any (x : T) (ih : ∀ z ∈ x.list, Shows z) (hr : rightB x = true) : MShows (methF x.kind) x ∧ ∀ args W, (callFunc (methF x.kind) args).run Tryz.prog W = .ok (.enter (methF x.kind) args) W := by
  have hk := kind_range hr
  unfold methF
  by_cases h1 : x.kind ≤ 5
  · rw [if_pos h1]
    refine ⟨?_, cf_leaf⟩
    have : x.kind = 1 ∨ x.kind = 2 ∨ x.kind = 3 ∨ x.kind = 4 ∨ x.kind = 5 := by omega
    rcases this with h | h | h | h | h
    · exact leaf1_any x ih h
    · exact leaf2_any x ih h
    · exact leaf3_any x ih h
    · exact leaf4_any x ih h
    · exact leaf5_any x ih h
  rw [if_neg h1]
  by_cases h2 : x.kind = 6
  · rw [if_pos h2]; exact ⟨set_any x ih h2, cf_set⟩
  rw [if_neg h2]
  by_cases h3 : x.kind = 7
  · rw [if_pos h3]; exact ⟨record_any x ih h3, cf_record⟩
  rw [if_neg h3]
  by_cases h4 : x.kind = 8
  · rw [if_pos h4]; exact ⟨attr_any x ih h4, cf_attr⟩
  rw [if_neg h4]
  by_cases h5 : x.kind ≤ 11
  · rw [if_pos h5]
    refine ⟨?_, cf_question⟩
    have : x.kind = 9 ∨ x.kind = 10 ∨ x.kind = 11 := by omega
    rcases this with h | h | h
    · exact question9_any x ih h
    · exact question10_any x ih h
    · exact question11_any x ih h
  rw [if_neg h5]
  by_cases h6 : x.kind ≤ 13
  · rw [if_pos h6]; exact ⟨unary_any x ih (by omega), cf_unary⟩
  rw [if_neg h6]
  by_cases h7 : x.kind = 14
  · rw [if_pos h7]; exact ⟨choice_any x ih h7, cf_choice⟩
  rw [if_neg h7]
  by_cases h8 : x.kind ≤ 26
  · rw [if_pos h8]; exact ⟨pair_any x ih (by omega), cf_pair⟩
  rw [if_neg h8]
  exact ⟨call_any x ih (by omega), cf_call⟩
set_option maxHeartbeats 4000000 in
theorem shows_step (x : T) (ih : ∀ z ∈ x.list, Shows z) : Shows x := by
  intro w0 W b l h hs hp hr hu hI hlen
  obtain ⟨hm, hcf⟩ := meth_any x ih hr
  have hwr := hid (fun X => writer_any x.kind (kind_range hr) X)
  obtain ⟨no, nc, lo, lc, e1, e2, l1, l2⟩ := h.forms
  have hkid := hid (fun (s : By) (X : World) (P : PS w0 W b l s X) (hle : l.length + (s.length + (showT x).length) ≤ 140737488355328) => T.val_eq e1 e2 ▸ P.kid x hm h hs hp hr hle)
  rw [T.val_eq e1 e2]
  generalize methF x.kind = m at *
  generalize showT x = sx at *
  have P0 := hid (PS.begin hI hu)
  replace hlen := hid hlen
  clear h hs hp hr hI hu ih e1 e2 l1 l2 hm
  generalize x.kind = k at *
  generalize x.list.length = ll at *
  generalize x.names.length = ln at *
  go_enter Tryz.func24, Tryz.ntmps24
  go_upto_region 1 with fail
  have K1 := hid (Blk.new W [.int .u8 (k : Nat), .int .i64 x.num, .string x.str, .string x.typ, .slice no ln nc, .slice lo ll lc] 26)
  obtain ⟨P1, st⟩ := P0.out.alloc (.cells #[.int .u8 (k : Nat), .int .i64 x.num, .string x.str, .string x.typ, .slice no ln nc, .slice lo ll lc] 26)
  generalize W.alloc (.cells #[.int .u8 (k : Nat), .int .i64 x.num, .string x.str, .string x.typ, .slice no ln nc, .slice lo ll lc] 26) = X0 at K1 P1 ⊢
  replace P1 := hid P1
  clear P0 st
  have cW := hid (hwr.out X0)
  obtain ⟨c0, c1, c2, c3, c4, c5, cf⟩ := six K1.out
  go_wp2_with fail
  refine cW.out.mono ?_
  rintro e X1 ⟨rfl, b1⟩
  obtain ⟨P2, st⟩ := P1.out.below b1
  replace K1 := hid (st _ _ _ (by decide) (by decide) K1.out)
  clear c0 c1 c2 c3 c4 c5 cf cW P1 st b1
  have P1 := hid P2
  clear P2
  have ck := hid (hkid.out _ X1 P1.out (by have hle := hlen.out; simp at hle ⊢; omega))
  obtain ⟨c0, c1, c2, c3, c4, c5, cf⟩ := six K1.out
  go_wp2_with fail
  refine ck.out.mono ?_
  rintro e X2 ⟨rfl, P2, st⟩
  have hf := hid (P2.done (t := sx) (by simp))
  clear c0 c1 c2 c3 c4 c5 cf ck P1 P2 st K1
  go_wp2_with fail
  go_end0
  exact ⟨rfl, hf.out⟩
theorem shows_any (x : T) : Shows x := by
  suffices h : ∀ n (x : T), x.size ≤ n → Shows x from h x.size x (Nat.le_refl _)
  intro n
  induction n with
  | zero => intro x hx; have := x.size_pos; omega
  | succ n ih => intro x hx; exact shows_step x (fun z hm => ih z (by have := T.size_part hm; omega))
end Go.Proofs.YtbcjppbiihgfpaaGreatDoor.Ex
namespace Go.Proofs.YtbcjppbiihgfpaaGreatDoor.Ex
open Go.ChangeShapes Go.WideShapes Go.ChangeAt Go.RowKit
open Go.Proofs.YtbcjppbiihgfpaaGreatDoor.Mem Go.Proofs.YtbcjppbiihgfpaaGreatDoor.Lik
set_option linter.unusedVariables false
set_option linter.unusedSimpArgs false
set_option maxRecDepth 100000
set_option maxHeartbeats 4000000 in
/-- expr.Print, of an expression of at most 8388608 nodes -/
theorem print_any (x : T) (w : World) (h : x.ok w) (hz : x.size ≤ 8388608) (hs : Sta w) (hp : Pow w) :
    Calls Tryz.prog 6 #[x.val] w fun e w' => e = .returned (.tuple #[.string (bs (if chkN x = 0 then showT x else [])), .int .i64 (chkN x)]) ∧ Below w.heap.size w w' := by
  have cC := hid (fun W (b : Below w.heap.size w W) => check_any x W (h.below b) hz (hs.below b))
  obtain ⟨no, nc, lo, lc, e1, e2, l1, l2⟩ := h.forms
  have hv := T.val_eq e1 e2
  have cC := hid (show ∀ W, Below w.heap.size w W → Calls Tryz.prog 9 #[.agg #[.int .u8 (x.kind : Nat), .int .i64 x.num, .string x.str, .string x.typ, .slice no x.names.length nc, .slice lo x.list.length lc]] W fun e w' => e = .returned (.int .i64 (chkN x)) ∧ Below W.heap.size W w' from fun W b => by rw [← hv]; exact cC.out W b)
  rw [hv]
  obtain ⟨c, hc⟩ : ∃ c, chkN x = c := ⟨_, rfl⟩
  rw [hc] at cC ⊢
  by_cases h0 : c = 0
  · subst h0
    have hr : rightB x = true := by
      unfold chkN at hc
      cases q : rightB x with
      | true => rfl
      | false => rw [q, if_pos rfl] at hc; cases hc
    have hsl := show_len x w h hr
    have hpos := hid (show_pos hr)
    have hsh := hid (show ∀ (X : World) (hu : Below w.heap.size w X) (b : Nat) (hI : IsP w.heap.size b [] X), Calls Tryz.prog 24 #[.pointer (some ⟨b, 0, none⟩), .agg #[.int .u8 (x.kind : Nat), .int .i64 x.num, .string x.str, .string x.typ, .slice no x.names.length nc, .slice lo x.list.length lc]] X fun e w' => e = .returned (.tuple #[]) ∧ IsP w.heap.size b (showT x) w' ∧ Below w.heap.size X w' ∧ Kept b X w' from fun X hu b hI => by
      rw [← hv]
      have := shows_any x w X b [] h hs hp hr hu hI (by simp; omega)
      rw [List.nil_append] at this
      exact this)
    rw [if_pos rfl]
    generalize showT x = sx at *
    have bw0 := hid (Below.refl w.heap.size w)
    clear h hs hp e1 e2 hv hc hr hsl l1 l2
    generalize x.list.length = ll at *
    generalize x.names.length = ln at *
    generalize x.kind = k at *
    go_enter Tryz.func6, Tryz.ntmps6
    go_upto_region 1 with fail
    have K1 := hid (Blk.new w [.int .u8 (k : Nat), .int .i64 x.num, .string x.str, .string x.typ, .slice no ln nc, .slice lo ll lc] 26)
    have bw := hid (bw0.out.alloc (Nat.le_refl _) (.cells #[.int .u8 (k : Nat), .int .i64 x.num, .string x.str, .string x.typ, .slice no ln nc, .slice lo ll lc] 26))
    generalize w.alloc (.cells #[.int .u8 (k : Nat), .int .i64 x.num, .string x.str, .string x.typ, .slice no ln nc, .slice lo ll lc] 26) = X0 at K1 bw ⊢
    clear bw0
    have cQ := hid (cC.out X0 bw.out)
    obtain ⟨c0, c1, c2, c3, c4, c5, cf⟩ := six K1.out
    go_wp2_with fail
    refine cQ.out.mono ?_
    rintro e X1 ⟨rfl, b1⟩
    replace K1 := hid (K1.out.below b1 K1.out.lt)
    replace bw := hid (bt bw.out b1)
    clear c0 c1 c2 c3 c4 c5 cf cQ cC b1
    go_upto_region 5 with fail
    have hI0 := hid (show IsP w.heap.size X1.heap.size [] (X1.alloc (.cells #[.pointer none, .slice none 0 0] 73)) from by
      refine .inl ⟨bw.out.size, .slice none 0 0, ?_, World.ownsRowF_nil _ _ _ _, by simp [Value.ownBlock]⟩
      show (X1.heap.push _)[X1.heap.size]? = _
      simp)
    replace K1 := hid (K1.out.alloc (.cells #[.pointer none, .slice none 0 0] 73))
    replace bw := hid (bw.out.alloc bw.out.size (.cells #[.pointer none, .slice none 0 0] 73))
    generalize X1.alloc (.cells #[.pointer none, .slice none 0 0] 73) = X2 at K1 bw hI0 ⊢
    generalize X1.heap.size = b at hI0 ⊢
    have cS := hid (hsh.out X2 bw.out b hI0.out)
    obtain ⟨c0, c1, c2, c3, c4, c5, cf⟩ := six K1.out
    go_wp2_with fail
    refine cS.out.mono ?_
    rintro e X3 ⟨rfl, hI, b3, k3⟩
    replace bw := hid (bw.out.trans b3)
    have cT := hid (pstring_any w.heap.size b sx X3 hI hpos.out)
    clear c0 c1 c2 c3 c4 c5 cf cS hI0 K1 hI b3 k3
    go_wp2_with fail
    refine cT.out.mono ?_
    rintro e X4 ⟨rfl, hI, b4, k4⟩
    replace bw := hid (bw.out.trans b4)
    clear cT hI b4 k4
    go_wp2_with fail
    go_ret2
    exact ⟨rfl, bw.out⟩
  · rw [if_neg h0]
    have bw0 := hid (Below.refl w.heap.size w)
    have h0 : ¬ c = 0 := h0
    clear h hs hp e1 e2 hv hc l1 l2
    generalize x.list.length = ll at *
    generalize x.names.length = ln at *
    generalize x.kind = k at *
    go_enter Tryz.func6, Tryz.ntmps6
    go_upto_region 1 with fail
    have K1 := hid (Blk.new w [.int .u8 (k : Nat), .int .i64 x.num, .string x.str, .string x.typ, .slice no ln nc, .slice lo ll lc] 26)
    have bw := hid (bw0.out.alloc (Nat.le_refl _) (.cells #[.int .u8 (k : Nat), .int .i64 x.num, .string x.str, .string x.typ, .slice no ln nc, .slice lo ll lc] 26))
    generalize w.alloc (.cells #[.int .u8 (k : Nat), .int .i64 x.num, .string x.str, .string x.typ, .slice no ln nc, .slice lo ll lc] 26) = X0 at K1 bw ⊢
    clear bw0
    have cQ := hid (cC.out X0 bw.out)
    obtain ⟨c0, c1, c2, c3, c4, c5, cf⟩ := six K1.out
    go_wp2_with fail
    refine cQ.out.mono ?_
    rintro e X1 ⟨rfl, b1⟩
    replace bw := hid (bt bw.out b1)
    clear c0 c1 c2 c3 c4 c5 cf cQ cC b1 K1
    go_wp2_with fail
    go_ret2
    exact ⟨rfl, bw.out⟩
end Go.Proofs.YtbcjppbiihgfpaaGreatDoor.Ex
