/-
  lictorlaw09.PolicyConds: the walk. Written by wip/polcondgen.py.
-/
import Derived.Test.YtihnhinnohnfgaaGreatDoorPolBodyWalk
import Derived.Test.YtihnhinnohnfgaaGreatDoorExSame
import Derived.Test.YtihnhinnohnfgaaGreatDoorEvLives9
import Derived.Test.YtihnhinnohnfgaaGreatDoorRowApp
import Derived.Deep.RegionHeld3
namespace Go.Proofs.YtihnhinnohnfgaaGreatDoor.Pol
open Go.ChangeShapes Go.WideShapes Go.ChangeAt Go.RowKit
open Go.Proofs.YtihnhinnohnfgaaGreatDoor.Mem
open Go.Proofs.YtihnhinnohnfgaaGreatDoor.Ex (T chkW chkN sameT)
set_option linter.unusedVariables false
set_option linter.unusedSimpArgs false
set_option maxRecDepth 100000
theorem step_append_run {P : Program} {ops : Array Oper} {o : Oper} {a : Act} {w : World} {K : Act → World → Prop} {Q : Exit → Act → World → Prop} {E : Prop}
    (hg : o.guard = none) (s x : Operand) (t : TypeId) (hop : o.op = Op.call { callee := Callee.builtin Builtin.append, args := #[s, x], argTypes := #[t, t] })
    (v1 v2 v : Value) (w' : World) (hs : a.eval s = v1) (hx : a.eval x = v2) (hrun : (Builtin.append_ #[t, t] o.type #[v1, v2]).run P w = .ok v w') (hK : K (a.put o.dst v) w') :
    if Region.wanted o (yielded ops a.tmps) = true then Oper.wp P o a w K Q else E := by
  have hw : Region.wanted o (yielded ops a.tmps) = true := by simp [Region.wanted, hg]
  rw [if_pos hw]
  unfold Oper.wp
  simp [execOp, hop, resolve, invoke, builtin, hs, hx, hrun, Result.andThen]
  exact hK
theorem condsN_append (a b : List Cd) : condsN (a ++ b) = if condsN a = 0 then condsN b else condsN a := by
  induction a with
  | nil => rfl
  | cons c a ih =>
    rw [List.cons_append, condsN, condsN, ih]
    by_cases h : chkW c.e = 0
    · rw [if_pos h, if_pos h]
    · rw [if_neg h, if_neg h, if_neg h]
theorem chk_within {a b : T} (hs : (wrapT 15 ⟨#[]⟩ [a, b]).size ≤ 8388608) (h : chkW (wrapT 15 ⟨#[]⟩ [a, b]) = 0) : chkW a = 0 := by
  rw [Ex.chkW_small _ hs] at h
  have hsz := wrapT_size 15 ⟨#[]⟩ [a, b]
  rw [T.sizeL, T.sizeL, T.sizeL] at hsz
  rw [Ex.chkW_small _ (by omega)]
  have hd : Ex.deepN (wrapT 15 ⟨#[]⟩ [a, b]) = max (Ex.deepN a) (max (Ex.deepN b) 0) + 1 := by
    rw [Ex.deepN_eq]
    rfl
  unfold chkN at h ⊢
  have hr : Ex.rightB (wrapT 15 ⟨#[]⟩ [a, b]) = (Ex.nodeB (wrapT 15 ⟨#[]⟩ [a, b]) && (Ex.rightB a && (Ex.rightB b && true))) := by
    rw [Ex.rightB_eq]
    rfl
  by_cases h1 : Ex.rightB (wrapT 15 ⟨#[]⟩ [a, b]) = false
  · rw [if_pos h1] at h; exact absurd h (by decide)
  · rw [if_neg h1] at h
    rw [hr] at h1
    have h2 : Ex.rightB a = true := by
      cases hra : Ex.rightB a with
      | true => rfl
      | false => rw [hra] at h1; simp at h1
    rw [if_neg (by rw [h2]; decide)]
    by_cases h3 : 16 < Ex.deepN (wrapT 15 ⟨#[]⟩ [a, b])
    · rw [if_pos h3] at h; exact absurd h (by decide)
    · rw [if_neg h3] at h
      rw [if_neg (by omega)]
      by_cases h4 : 128 < (wrapT 15 ⟨#[]⟩ [a, b]).size
      · rw [if_pos h4] at h; exact absurd h (by decide)
      · rw [if_neg (by omega)]
theorem body_more (x : Po) (c : Cd) (v : Value) : bodyT { x with l := x.l ++ [c], lv := v } = wrapT 15 ⟨#[]⟩ [bodyT x, condT c] := by
  show andL _ ([scT acB true x.b, scT reB false x.c] ++ (x.l ++ [c]).map condT) = _
  rw [List.map_append, ← List.append_assoc, andL_append]
  rfl
theorem polN_more (x : Po) (c : Cd) (v : Value) (hz : bulkP x ≤ 1048576) (hc : c.e.size ≤ 1048576) (h : polN { x with l := x.l ++ [c], lv := v } = 0) : polN x = 0 := by
  obtain ⟨h1, h2, h3⟩ := polN_zero h
  have hf := frame_zero h1
  have hs := body_size { x with l := x.l ++ [c], lv := v } hf.1 hf.2.1 hf.2.2.1 hf.2.2.2 (by
    show ((x.l ++ [c]).map fun c => c.e.size).sum ≤ _
    rw [List.map_append, List.sum_append]
    unfold bulkP at hz
    simp
    omega)
  rw [body_more] at h3 hs
  have h4 := chk_within hs h3
  have h5 : condsN x.l = 0 := by
    have : condsN (x.l ++ [c]) = 0 := h2
    rw [condsN_append] at this
    by_cases g : condsN x.l = 0
    · exact g
    · rw [if_neg g] at this; exact absurd this g
  have h6 : frameN x = 0 := by
    unfold frameN at h1 ⊢
    by_cases g : (scopeB x.a && (actionB x.b && scopeB x.c)) = false
    · rw [if_pos g] at h1; exact absurd h1 (by decide)
    · rw [if_neg g]
      have := hf.2.2.2
      rw [List.length_append] at this
      rw [if_neg (by omega)]
  unfold polN
  rw [if_pos h6, if_pos h5, h4]
theorem len_bulk (x : Po) : x.l.length ≤ bulkP x := by
  unfold bulkP
  generalize x.l = l
  induction l with
  | nil => simp
  | cons c l ih => rw [List.map_cons, List.sum_cons, List.length_cons]; have := c.e.size_pos; omega
theorem encC_one {c : Cd} {w : World} (h : c.e.ok w) : ∀ u ∈ c.enc, u.oneCell' = true := by
  intro u hu
  rcases List.mem_cons.1 hu with rfl | hu
  · rfl
  · exact Ex.enc_one h u hu
theorem encCL_one {l : List Cd} {w : World} (h : ∀ c ∈ l, c.e.ok w) : ∀ u ∈ encC l, u.oneCell' = true := by
  intro u hu
  obtain ⟨c, hc, hu⟩ := List.mem_flatMap.1 hu
  exact encC_one (h c hc) u hu
theorem info_cond : ∃ i z, Tryz.prog.info? 48 = some i ∧ i.zero = some z ∧ i.size = 7 ∧ i.bytes = 104 ∧ z.cells.size = 7 := ⟨_, _, rfl, rfl, rfl, rfl, rfl⟩
set_option maxHeartbeats 16000000 in
theorem conds_walk (x : Po) (c : Cd) (w : World) (h : x.ok w) (hz : bulkP x ≤ 1048576) (hc : c.e.ok w) (hcz : c.e.size ≤ 1048576) (hw : Ex.Sta w) :
    Calls Tryz.prog 6 #[x.val, .agg c.enc.toArray] w fun e w' => e = .returned (.bool true) ∧ Below w.heap.size w w' := by
  have cL := hid (fun W (b : Below w.heap.size w W) => Ev.lives9_any (hw.below b).laid)
  have cB := hid (fun (z : Po) W (b : Below w.heap.size w W) (hz : z.ok W) => body_of z W hz (hw.below b))
  have cS := hid (fun (y z : T) W (hy : y.ok W) (hz : z.ok W) => Ex.same_any y z W hy hz)
  have hmore := hid (fun v (h : polN { x with l := x.l ++ [c], lv := v } = 0) => polN_more x c v hz hcz h)
  obtain ⟨ao, ac, e1, _⟩ := h.1.1.form
  obtain ⟨bo, bc, e2, _⟩ := h.1.2.1.form
  obtain ⟨co, cc, e3, _⟩ := h.1.2.2.form
  obtain ⟨lo, lc, e4, hl⟩ := h.form
  obtain ⟨no, nc, l9, lc9, ec1, ec2, cl1, cl2⟩ := hc.forms
  have hcv := hid (show Value.agg c.enc.toArray = .agg #[.bool c.u, .int .u8 (c.e.kind : Nat), .int .i64 c.e.num, .string c.e.str, .string c.e.typ, .slice no c.e.names.length nc, .slice l9 c.e.list.length lc9] from by unfold Cd.enc; rw [enc_eq ec1 ec2])
  have hcc := hid (show encC [c] = [.bool c.u, .int .u8 (c.e.kind : Nat), .int .i64 c.e.num, .string c.e.str, .string c.e.typ, .slice no c.e.names.length nc, .slice l9 c.e.list.length lc9] from by show c.enc ++ [] = _; rw [List.append_nil]; unfold Cd.enc; rw [enc_eq ec1 ec2])
  have hce := hid (enc_eq ec1 ec2)
  have hcev := hid (Ex.T.val_eq ec1 ec2)
  have hxok := hid h
  have hcok := hid hc
  have hsl0 : SlV w (.slice lo x.l.length lc) x.l.length (encC x.l) := e4 ▸ h.2.2.2
  have hone1 := hid (encCL_one h.2.2.1)
  have hone2 := hid (encCL_one (l := [c]) (fun d hd => by rw [List.mem_singleton] at hd; subst hd; exact hc))
  have hm20 : x.l.length ≤ 1048576 := Nat.le_trans (len_bulk x) hz
  rw [hcv.out]
  have hxv := hid (Po.val_eq e1 e2 e3 e4)
  have hqv := hid (fun (v : Value) {g sc : Nat} (e : v = .slice (some ⟨g, 0, none⟩) (x.l ++ [c]).length sc) => Po.val_eq (x := { x with l := x.l ++ [c], lv := v }) e1 e2 e3 e)
  rw [hxv.out]
  obtain ⟨m, hm⟩ : ∃ m, x.l.length = m := ⟨_, rfl⟩
  rw [hm] at hl hxv hsl0 hm20 ⊢
  have hsl := hid (fun W (B : Below w.heap.size w W) => hsl0.below B)
  replace hm := hid hm
  have i2 : (m : Int) ≤ 9223372036854775807 := by omega
  obtain ⟨ic, zc, hi, hz0, hz1, hz2, hz3⟩ := info_cond
  clear h hw e1 e2 e3 e4 ec1 ec2 hz hcz hc hsl0
  go_enter Tryz.func6, Tryz.ntmps6
  go_upto_region 1 with fail
  have K1 := hid (Blk.new w [.bool x.p, .int .u8 (x.a.k : Nat), .slice ao x.a.us.length ac, .string x.a.t, .int .u8 (x.b.k : Nat), .slice bo x.b.us.length bc, .string x.b.t, .int .u8 (x.c.k : Nat), .slice co x.c.us.length cc, .string x.c.t, .slice lo m lc] 39)
  have bw := hid ((Below.refl w.heap.size w).alloc (Nat.le_refl _) (.cells #[.bool x.p, .int .u8 (x.a.k : Nat), .slice ao x.a.us.length ac, .string x.a.t, .int .u8 (x.b.k : Nat), .slice bo x.b.us.length bc, .string x.b.t, .int .u8 (x.c.k : Nat), .slice co x.c.us.length cc, .string x.c.t, .slice lo m lc] 39))
  have hs : w.heap.size + 1 = (w.alloc (.cells #[.bool x.p, .int .u8 (x.a.k : Nat), .slice ao x.a.us.length ac, .string x.a.t, .int .u8 (x.b.k : Nat), .slice bo x.b.us.length bc, .string x.b.t, .int .u8 (x.c.k : Nat), .slice co x.c.us.length cc, .string x.c.t, .slice lo m lc] 39)).heap.size := by simp
  generalize w.alloc (.cells #[.bool x.p, .int .u8 (x.a.k : Nat), .slice ao x.a.us.length ac, .string x.a.t, .int .u8 (x.b.k : Nat), .slice bo x.b.us.length bc, .string x.b.t, .int .u8 (x.c.k : Nat), .slice co x.c.us.length cc, .string x.c.t, .slice lo m lc] 39) = X0 at K1 bw hs ⊢
  have K2 := hid (Blk.new' X0 [.bool c.u, .int .u8 (c.e.kind : Nat), .int .i64 c.e.num, .string c.e.str, .string c.e.typ, .slice no c.e.names.length nc, .slice l9 c.e.list.length lc9] 48 (w.heap.size + 1) hs)
  replace K1 := hid (K1.out.alloc (.cells #[.bool c.u, .int .u8 (c.e.kind : Nat), .int .i64 c.e.num, .string c.e.str, .string c.e.typ, .slice no c.e.names.length nc, .slice l9 c.e.list.length lc9] 48))
  replace bw := hid (bw.out.alloc (by omega) (.cells #[.bool c.u, .int .u8 (c.e.kind : Nat), .int .i64 c.e.num, .string c.e.str, .string c.e.typ, .slice no c.e.names.length nc, .slice l9 c.e.list.length lc9] 48))
  clear hs
  generalize X0.alloc (.cells #[.bool c.u, .int .u8 (c.e.kind : Nat), .int .i64 c.e.num, .string c.e.str, .string c.e.typ, .slice no c.e.names.length nc, .slice l9 c.e.list.length lc9] 48) = X1 at K1 K2 bw ⊢
  go_wp2_with fail
  refine (cL.out _ bw.out).mono ?_
  rintro e w1 ⟨rfl, b1⟩
  replace K1 := hid (K1.out.below b1 K1.out.lt)
  replace K2 := hid (K2.out.below b1 K2.out.lt)
  replace bw := hid (bt bw.out b1)
  clear b1 cL
  obtain ⟨c0, c1, c2, c3, c4, c5, c6, c7, c8, c9, c10, cf⟩ := eleven K1.out
  go_upto_region 4 with fail
  have K3 := hid (Blk.new w1 [.bool x.p, .int .u8 (x.a.k : Nat), .slice ao x.a.us.length ac, .string x.a.t, .int .u8 (x.b.k : Nat), .slice bo x.b.us.length bc, .string x.b.t, .int .u8 (x.c.k : Nat), .slice co x.c.us.length cc, .string x.c.t, .slice lo m lc] 39)
  have hlt3 := hid K2.out.lt
  have hbX := (Below.refl w1.heap.size w1).alloc (Nat.le_refl _) (.cells #[.bool x.p, .int .u8 (x.a.k : Nat), .slice ao x.a.us.length ac, .string x.a.t, .int .u8 (x.b.k : Nat), .slice bo x.b.us.length bc, .string x.b.t, .int .u8 (x.c.k : Nat), .slice co x.c.us.length cc, .string x.c.t, .slice lo m lc] 39)
  replace K1 := hid (K1.out.below hbX K1.out.lt)
  replace K2 := hid (K2.out.below hbX K2.out.lt)
  replace bw := hid (bt bw.out hbX)
  clear hbX c0 c1 c2 c3 c4 c5 c6 c7 c8 c9 c10 cf
  generalize w1.alloc (.cells #[.bool x.p, .int .u8 (x.a.k : Nat), .slice ao x.a.us.length ac, .string x.a.t, .int .u8 (x.b.k : Nat), .slice bo x.b.us.length bc, .string x.b.t, .int .u8 (x.c.k : Nat), .slice co x.c.us.length cc, .string x.c.t, .slice lo m lc] 39) = X2 at K1 K2 K3 bw ⊢
  generalize w1.heap.size = b3 at K3 hlt3 ⊢
  go_cut [5] from 11 (fun s5 wx => s5 = .pointer (some ⟨b3, 0, none⟩) ∧ ∃ g sc, Hid (Blk wx w.heap.size [.bool x.p, .int .u8 (x.a.k : Nat), .slice ao x.a.us.length ac, .string x.a.t, .int .u8 (x.b.k : Nat), .slice bo x.b.us.length bc, .string x.b.t, .int .u8 (x.c.k : Nat), .slice co x.c.us.length cc, .string x.c.t, .slice lo m lc] 39) ∧ Hid (Blk wx (w.heap.size + 1) [.bool c.u, .int .u8 (c.e.kind : Nat), .int .i64 c.e.num, .string c.e.str, .string c.e.typ, .slice no c.e.names.length nc, .slice l9 c.e.list.length lc9] 48) ∧ Hid (Blk wx b3 [.bool x.p, .int .u8 (x.a.k : Nat), .slice ao x.a.us.length ac, .string x.a.t, .int .u8 (x.b.k : Nat), .slice bo x.b.us.length bc, .string x.b.t, .int .u8 (x.c.k : Nat), .slice co x.c.us.length cc, .string x.c.t, .slice (some ⟨g, 0, none⟩) (m + 1) sc] 39) ∧ Hid (wx.ownsRow (b3 + 1) 48 7 (.slice (some ⟨g, 0, none⟩) (m + 1) sc) (m + 1) (encC x.l ++ encC [c])) ∧ Hid (Below w.heap.size w wx))
  case first =>
    refine wp_region_held_drew (S := (fun W => W.cell? ⟨w.heap.size, 10, none⟩ = some (.slice lo m lc) ∧ W.cell? ⟨w.heap.size + 1, 0, none⟩ = some (.bool c.u) ∧ W.cell? ⟨w.heap.size + 1, 1, none⟩ = some (.int .u8 (c.e.kind : Nat)) ∧ W.cell? ⟨w.heap.size + 1, 2, none⟩ = some (.int .i64 c.e.num) ∧ W.cell? ⟨w.heap.size + 1, 3, none⟩ = some (.string c.e.str) ∧ W.cell? ⟨w.heap.size + 1, 4, none⟩ = some (.string c.e.typ) ∧ W.cell? ⟨w.heap.size + 1, 5, none⟩ = some (.slice no c.e.names.length nc) ∧ W.cell? ⟨w.heap.size + 1, 6, none⟩ = some (.slice l9 c.e.list.length lc9))) (by kernel_rfl) (by obtain ⟨-, -, -, -, -, -, -, -, -, -, k10, -⟩ := eleven K1.out; obtain ⟨s0, s1, s2, s3, s4, s5, s6, -⟩ := seven K2.out; exact ⟨k10, s0, s1, s2, s3, s4, s5, s6⟩) (fun hHeld => ?_)
    replace K1 := hid K1.out.drew
    replace K2 := hid K2.out.drew
    replace K3 := hid K3.out.drew
    replace bw := hid bw.out.drew
    generalize X2.drew = V0 at K1 K2 K3 bw hHeld ⊢
    refine wpAnyH_take (i := 1) (v := ?_) rfl (by kernel_rfl) (by kernel_rfl) (by kernel_rfl) (fun _ _ _ h => h) (Or.inl ⟨by rfl, ?_⟩) (by assumption) ?_; rotate_left 1; (intro w hSw; (try dsimp only at hSw); go_simp; try with_reducible rfl); (try simp only [Act.put, List.getElem_toArray, List.getElem_cons_zero, List.getElem_cons_succ, List.setIfInBounds_toArray, List.set_cons_zero, List.set_cons_succ])
    refine wpAnyH_take (i := 2) (v := ?_) rfl (by kernel_rfl) (by kernel_rfl) (by kernel_rfl) (fun _ _ _ h => h) (Or.inl ⟨by rfl, ?_⟩) (by assumption) ?_; rotate_left 1; (intro w hSw; (try dsimp only at hSw); go_simp; try with_reducible rfl); (try simp only [Act.put, List.getElem_toArray, List.getElem_cons_zero, List.getElem_cons_succ, List.setIfInBounds_toArray, List.set_cons_zero, List.set_cons_succ])
    refine wpAnyH_take (i := 4) (v := ?_) rfl (by kernel_rfl) (by kernel_rfl) (by kernel_rfl) (fun _ _ _ h => h) (Or.inl ⟨by rfl, ?_⟩) (by assumption) ?_; rotate_left 1; (intro w hSw; (try dsimp only at hSw); go_simp; try with_reducible rfl); (try simp only [Act.put, List.getElem_toArray, List.getElem_cons_zero, List.getElem_cons_succ, List.setIfInBounds_toArray, List.set_cons_zero, List.set_cons_succ])
    refine wpAnyH_ready (rs := [0, 5]) (by kernel_rfl) (by simp) ?_
    refine AllReadyH.cons rfl (fun K hK => ?_) ?_
    · skip
      go_simp
      have hr0 := hid (World.ownsRow_made (base := (b3 + 1)) (e := 48) (size := 7) V0 #[] 0 (by have := K3.out.lt; omega) (by decide) rfl)
      have hbX := (Below.refl V0.heap.size V0).alloc (Nat.le_refl _) (.cells #[] 48)
      replace K1 := hid (K1.out.below hbX K1.out.lt)
      replace K2 := hid (K2.out.below hbX K2.out.lt)
      replace K3 := hid (K3.out.below hbX K3.out.lt)
      replace bw := hid (bt bw.out hbX)
      have hg0 := hid (show V0.heap.size < (V0.alloc (.cells #[] 48)).heap.size by simp)
      clear hbX
      generalize V0.alloc (.cells #[] 48) = V1 at K1 K2 K3 bw hr0 hg0 ⊢
      generalize V0.heap.size = g0 at hr0 hg0 ⊢
      refine hK.out _ _ ((by obtain ⟨-, -, -, -, -, -, -, -, -, -, k10, -⟩ := eleven K1.out; obtain ⟨s0, s1, s2, s3, s4, s5, s6, -⟩ := seven K2.out; exact ⟨k10, s0, s1, s2, s3, s4, s5, s6⟩)) (fun hHeldN => ?_)
      clear hK K hHeld
      have hHeld := hHeldN
      clear hHeldN
      (try simp only [Act.put, List.getElem_toArray, List.getElem_cons_zero, List.getElem_cons_succ, List.setIfInBounds_toArray, List.set_cons_zero, List.set_cons_succ])
      refine wpAnyH_ready (rs := [3, 5]) (by kernel_rfl) (by simp) ?_
      refine AllReadyH.cons rfl (fun K hK => ?_) ?_
      · skip
        obtain ⟨v1, V2, hrun, ho, hg, hp⟩ := app_own (P := Tryz.prog) V1 (b3 + 1) 37 37 48 ic zc 7 104 Tryz.underlying37 hi hz0 hz1 hz2 hz3 (by decide) (.slice (some ⟨g0, 0, none⟩) 0 0) (0) ([]) hr0.out (.slice lo m lc) m (encC x.l) (hsl.out _ bw.out) (by rw [encC_len, hm.out]) hone1.out (by unfold maxLen; omega) (by omega) (by have := K3.out.lt; omega)
        have hrun2 := hrun
        clear hrun
        refine step_append_run rfl (.tmp 14) (.tmp 16) 37 rfl _ _ _ _ rfl rfl hrun2 ?_
        replace K1 := hid (show Blk V2 _ _ _ from ⟨(hg.block _ K1.out.lt (fun e => by have := (hr0.out.lt _ e.symm).1; have := hlt3.out; omega)).trans K1.out.at'⟩)
        replace K2 := hid (show Blk V2 _ _ _ from ⟨(hg.block _ K2.out.lt (fun e => by have := (hr0.out.lt _ e.symm).1; have := hlt3.out; omega)).trans K2.out.at'⟩)
        replace K3 := hid (show Blk V2 _ _ _ from ⟨(hg.block _ K3.out.lt (fun e => by have := (hr0.out.lt _ e.symm).1; have := hlt3.out; omega)).trans K3.out.at'⟩)
        replace bw := hid (bw.out.grown hg (by have := bw.out.size; omega) (fun k hk => by have := (hr0.out.lt k hk).1; have := hlt3.out; omega))
        obtain ⟨vo1, vc1, rfl, _, _⟩ := ownsRow_form ho
        rw [Nat.zero_add, List.nil_append] at ho
        have hr1 := hid ho
        clear ho hg hp hr0 hrun2
        simp only [Nat.zero_add]
        refine hK.out _ _ ((by obtain ⟨-, -, -, -, -, -, -, -, -, -, k10, -⟩ := eleven K1.out; obtain ⟨s0, s1, s2, s3, s4, s5, s6, -⟩ := seven K2.out; exact ⟨k10, s0, s1, s2, s3, s4, s5, s6⟩)) (fun hHeldN => ?_)
        clear hK K hHeld
        have hHeld := hHeldN
        clear hHeldN
        (try simp only [Act.put, List.getElem_toArray, List.getElem_cons_zero, List.getElem_cons_succ, List.setIfInBounds_toArray, List.set_cons_zero, List.set_cons_succ])
        refine wpAnyH_ready (rs := [5]) (by kernel_rfl) (by simp) ?_
        refine AllReadyH.cons rfl (fun K hK => ?_) AllReadyH.nil
        go_simp
        have hc1 := hid (Blk.new V2 [.bool c.u, .int .u8 (c.e.kind : Nat), .int .i64 c.e.num, .string c.e.str, .string c.e.typ, .slice no c.e.names.length nc, .slice l9 c.e.list.length lc9] 48)
        have hbX := (Below.refl V2.heap.size V2).alloc (Nat.le_refl _) (.cells #[.bool c.u, .int .u8 (c.e.kind : Nat), .int .i64 c.e.num, .string c.e.str, .string c.e.typ, .slice no c.e.names.length nc, .slice l9 c.e.list.length lc9] 48)
        replace K1 := hid (K1.out.below hbX K1.out.lt)
        replace K2 := hid (K2.out.below hbX K2.out.lt)
        replace K3 := hid (K3.out.below hbX K3.out.lt)
        replace hr1 := hid (ownsRow_below hr1.out hbX)
        replace bw := hid (bt bw.out hbX)
        have hcl := hid (show V2.heap.size < (V2.alloc (.cells #[.bool c.u, .int .u8 (c.e.kind : Nat), .int .i64 c.e.num, .string c.e.str, .string c.e.typ, .slice no c.e.names.length nc, .slice l9 c.e.list.length lc9] 48)).heap.size by simp)
        have hgc := hid (fun k hk => (hr1.out.lt k hk).2)
        clear hbX
        generalize V2.alloc (.cells #[.bool c.u, .int .u8 (c.e.kind : Nat), .int .i64 c.e.num, .string c.e.str, .string c.e.typ, .slice no c.e.names.length nc, .slice l9 c.e.list.length lc9] 48) = V3 at K1 K2 K3 bw hr1 hc1 hcl ⊢
        generalize V2.heap.size = gc at hc1 hcl ⊢
        refine hK.out _ _ ((by obtain ⟨-, -, -, -, -, -, -, -, -, -, k10, -⟩ := eleven K1.out; obtain ⟨s0, s1, s2, s3, s4, s5, s6, -⟩ := seven K2.out; exact ⟨k10, s0, s1, s2, s3, s4, s5, s6⟩)) (fun hHeldN => ?_)
        clear hK K hHeld
        have hHeld := hHeldN
        clear hHeldN
        (try simp only [Act.put, List.getElem_toArray, List.getElem_cons_zero, List.getElem_cons_succ, List.setIfInBounds_toArray, List.set_cons_zero, List.set_cons_succ])
        refine wpAnyH_ready (rs := [6]) (by kernel_rfl) (by simp) ?_
        refine AllReadyH.cons rfl (fun K hK => ?_) AllReadyH.nil
        obtain ⟨v2, V4, hrun, ho, hg, hp⟩ := app_own (P := Tryz.prog) V3 (b3 + 1) 37 37 48 ic zc 7 104 Tryz.underlying37 hi hz0 hz1 hz2 hz3 (by decide) (_) (m) (encC x.l) hr1.out (.slice (some ⟨gc, 0, none⟩) 1 1) 1 (encC [c]) (slv_blk (n := 1) (show Blk _ gc (encC [c]) 48 from by rw [hcc.out]; exact hc1.out) (by decide) (fun e => by cases e)) (by rw [encC_len]; rfl) hone2.out (by unfold maxLen; omega) (by omega) (by have := K3.out.lt; omega)
        have hrun2 := hrun
        clear hrun
        refine step_append_run rfl (.tmp 17) (.tmp 19) 37 rfl _ _ _ _ rfl rfl hrun2 ?_
        replace K1 := hid (show Blk V4 _ _ _ from ⟨(hg.block _ K1.out.lt (fun e => by have := (hr1.out.lt _ e.symm).1; have := hlt3.out; omega)).trans K1.out.at'⟩)
        replace K2 := hid (show Blk V4 _ _ _ from ⟨(hg.block _ K2.out.lt (fun e => by have := (hr1.out.lt _ e.symm).1; have := hlt3.out; omega)).trans K2.out.at'⟩)
        replace K3 := hid (show Blk V4 _ _ _ from ⟨(hg.block _ K3.out.lt (fun e => by have := (hr1.out.lt _ e.symm).1; have := hlt3.out; omega)).trans K3.out.at'⟩)
        replace bw := hid (bw.out.grown hg (by have := bw.out.size; omega) (fun k hk => by have := (hr1.out.lt k hk).1; have := hlt3.out; omega))
        have hr2 := hid ho
        clear ho hg hp hr1 hrun2 hc1
        refine hK.out _ _ ((by obtain ⟨-, -, -, -, -, -, -, -, -, -, k10, -⟩ := eleven K1.out; obtain ⟨s0, s1, s2, s3, s4, s5, s6, -⟩ := seven K2.out; exact ⟨k10, s0, s1, s2, s3, s4, s5, s6⟩)) (fun hHeldN => ?_)
        clear hK K hHeld
        have hHeld := hHeldN
        clear hHeldN
        (try simp only [Act.put, List.getElem_toArray, List.getElem_cons_zero, List.getElem_cons_succ, List.setIfInBounds_toArray, List.set_cons_zero, List.set_cons_succ])
        refine wpAnyH_take (i := 7) (v := ?_) rfl (by kernel_rfl) (by kernel_rfl) (by kernel_rfl) (fun _ _ _ h => h) (Or.inl ⟨by rfl, ?_⟩) (by assumption) ?_; rotate_left 1; (intro w hSw; (try dsimp only at hSw); go_simp; try with_reducible rfl); (try simp only [Act.put, List.getElem_toArray, List.getElem_cons_zero, List.getElem_cons_succ, List.setIfInBounds_toArray, List.set_cons_zero, List.set_cons_succ])
        refine wpAnyH_ready (rs := [8]) (by kernel_rfl) (by simp) ?_
        refine AllReadyH.cons rfl (fun K hK => ?_) AllReadyH.nil
        obtain ⟨g, sc, hv2⟩ : ∃ g sc, v2 = .slice (some ⟨g, 0, none⟩) (m + 1) sc := by
            obtain ⟨so, sc, hso, _, _⟩ := ownsRow_form hr2.out
            subst hso
            rcases (own_blk hr2.out).1 with ⟨h1, _⟩ | ⟨g, tail, h1, _, _⟩
            · exfalso
              have := congrArg List.length h1
              rw [List.length_append, encC_len, encC_len] at this
              simp at this
            · exact ⟨g, sc, by rw [h1]⟩
        subst hv2
        obtain ⟨e0, e1, e2, e3, e4, e5, e6, e7, e8, e9, e10, ef⟩ := eleven K3.out
        go_simp
        clear e0 e1 e2 e3 e4 e5 e6 e7 e8 e9 e10 ef
        replace K1 := hid (K1.out.other (p := ⟨b3, 10, none⟩) (by have := hlt3.out; show b3 ≠ w.heap.size; omega) (.slice (some ⟨g, 0, none⟩) (m + 1) sc))
        replace K2 := hid (K2.out.other (p := ⟨b3, 10, none⟩) (by have := hlt3.out; show b3 ≠ w.heap.size + 1; omega) (.slice (some ⟨g, 0, none⟩) (m + 1) sc))
        replace K3 := hid (show Blk _ _ [.bool x.p, .int .u8 (x.a.k : Nat), .slice ao x.a.us.length ac, .string x.a.t, .int .u8 (x.b.k : Nat), .slice bo x.b.us.length bc, .string x.b.t, .int .u8 (x.c.k : Nat), .slice co x.c.us.length cc, .string x.c.t, .slice (some ⟨g, 0, none⟩) (m + 1) sc] 39 from K3.out.set 10 (.slice (some ⟨g, 0, none⟩) (m + 1) sc))
        replace bw := hid (bw.out.setCell (p := ⟨b3, 10, none⟩) (by have := hlt3.out; show w.heap.size ≤ b3; omega) (.slice (some ⟨g, 0, none⟩) (m + 1) sc))
        replace hr2 := hid (ownsRow_setCell_below hr2.out (a := ⟨b3, 10, none⟩) (by show b3 < b3 + 1; omega) (.slice (some ⟨g, 0, none⟩) (m + 1) sc))
        generalize V4.setCell ⟨b3, 10, none⟩ (.slice (some ⟨g, 0, none⟩) (m + 1) sc) = V5 at K1 K2 K3 bw hr2 ⊢
        refine hK.out _ _ ((by obtain ⟨-, -, -, -, -, -, -, -, -, -, k10, -⟩ := eleven K1.out; obtain ⟨s0, s1, s2, s3, s4, s5, s6, -⟩ := seven K2.out; exact ⟨k10, s0, s1, s2, s3, s4, s5, s6⟩)) (fun hHeldN => ?_)
        clear hK K hHeld
        have hHeld := hHeldN
        clear hHeldN
        (try simp only [Act.put, List.getElem_toArray, List.getElem_cons_zero, List.getElem_cons_succ, List.setIfInBounds_toArray, List.set_cons_zero, List.set_cons_succ])
        refine wpAnyH_done (by kernel_rfl) ?_ _
        clear hHeld
        go_wp2_with fail
        go_meet
        exact ⟨rfl, g, sc, K1, K2, K3, hr2, bw⟩
      refine AllReadyH.cons rfl (fun K hK => ?_) AllReadyH.nil
      go_simp
      have hc1 := hid (Blk.new V1 [.bool c.u, .int .u8 (c.e.kind : Nat), .int .i64 c.e.num, .string c.e.str, .string c.e.typ, .slice no c.e.names.length nc, .slice l9 c.e.list.length lc9] 48)
      have hbX := (Below.refl V1.heap.size V1).alloc (Nat.le_refl _) (.cells #[.bool c.u, .int .u8 (c.e.kind : Nat), .int .i64 c.e.num, .string c.e.str, .string c.e.typ, .slice no c.e.names.length nc, .slice l9 c.e.list.length lc9] 48)
      replace K1 := hid (K1.out.below hbX K1.out.lt)
      replace K2 := hid (K2.out.below hbX K2.out.lt)
      replace K3 := hid (K3.out.below hbX K3.out.lt)
      replace hr0 := hid (ownsRow_below hr0.out hbX)
      replace bw := hid (bt bw.out hbX)
      have hcl := hid (show V1.heap.size < (V1.alloc (.cells #[.bool c.u, .int .u8 (c.e.kind : Nat), .int .i64 c.e.num, .string c.e.str, .string c.e.typ, .slice no c.e.names.length nc, .slice l9 c.e.list.length lc9] 48)).heap.size by simp)
      have hgc := hid (show g0 < V1.heap.size from hg0.out)
      clear hbX
      generalize V1.alloc (.cells #[.bool c.u, .int .u8 (c.e.kind : Nat), .int .i64 c.e.num, .string c.e.str, .string c.e.typ, .slice no c.e.names.length nc, .slice l9 c.e.list.length lc9] 48) = V2 at K1 K2 K3 bw hr0 hc1 hcl ⊢
      generalize V1.heap.size = gc at hc1 hcl hgc ⊢
      refine hK.out _ _ ((by obtain ⟨-, -, -, -, -, -, -, -, -, -, k10, -⟩ := eleven K1.out; obtain ⟨s0, s1, s2, s3, s4, s5, s6, -⟩ := seven K2.out; exact ⟨k10, s0, s1, s2, s3, s4, s5, s6⟩)) (fun hHeldN => ?_)
      clear hK K hHeld
      have hHeld := hHeldN
      clear hHeldN
      (try simp only [Act.put, List.getElem_toArray, List.getElem_cons_zero, List.getElem_cons_succ, List.setIfInBounds_toArray, List.set_cons_zero, List.set_cons_succ])
      refine wpAnyH_ready (rs := [3]) (by kernel_rfl) (by simp) ?_
      refine AllReadyH.cons rfl (fun K hK => ?_) AllReadyH.nil
      have hcl2 := hid hc1.out.lt
      obtain ⟨v1, V3, hrun, ho, hg, hp⟩ := app_own (P := Tryz.prog) V2 (b3 + 1) 37 37 48 ic zc 7 104 Tryz.underlying37 hi hz0 hz1 hz2 hz3 (by decide) (.slice (some ⟨g0, 0, none⟩) 0 0) (0) ([]) hr0.out (.slice lo m lc) m (encC x.l) (hsl.out _ bw.out) (by rw [encC_len, hm.out]) hone1.out (by unfold maxLen; omega) (by omega) (by have := K3.out.lt; omega)
      have hrun2 := hrun
      clear hrun
      refine step_append_run rfl (.tmp 14) (.tmp 16) 37 rfl _ _ _ _ rfl rfl hrun2 ?_
      replace K1 := hid (show Blk V3 _ _ _ from ⟨(hg.block _ K1.out.lt (fun e => by have := (hr0.out.lt _ e.symm).1; have := hlt3.out; omega)).trans K1.out.at'⟩)
      replace K2 := hid (show Blk V3 _ _ _ from ⟨(hg.block _ K2.out.lt (fun e => by have := (hr0.out.lt _ e.symm).1; have := hlt3.out; omega)).trans K2.out.at'⟩)
      replace K3 := hid (show Blk V3 _ _ _ from ⟨(hg.block _ K3.out.lt (fun e => by have := (hr0.out.lt _ e.symm).1; have := hlt3.out; omega)).trans K3.out.at'⟩)
      replace bw := hid (bw.out.grown hg (by have := bw.out.size; omega) (fun k hk => by have := (hr0.out.lt k hk).1; have := hlt3.out; omega))
      replace hc1 := hid (show Blk V3 _ _ _ from ⟨(hg.block _ hc1.out.lt (fun e => by have h9 : gc = g0 := Option.some.inj e; have := hgc.out; omega)).trans hc1.out.at'⟩)
      have hv1 := hid (show v1.ownBlock ≠ some gc from fun e => by
            rcases hp with hp | ⟨g2, hp, hge⟩
            · have h9 : g0 = gc := Option.some.inj (hp.symm.trans e); have := hgc.out; omega
            · have h9 : g2 = gc := Option.some.inj (hp.symm.trans e); have := hcl2.out; omega)
      obtain ⟨vo1, vc1, rfl, _, _⟩ := ownsRow_form ho
      rw [Nat.zero_add, List.nil_append] at ho
      have hr1 := hid ho
      clear ho hg hp hr0 hrun2
      simp only [Nat.zero_add]
      refine hK.out _ _ ((by obtain ⟨-, -, -, -, -, -, -, -, -, -, k10, -⟩ := eleven K1.out; obtain ⟨s0, s1, s2, s3, s4, s5, s6, -⟩ := seven K2.out; exact ⟨k10, s0, s1, s2, s3, s4, s5, s6⟩)) (fun hHeldN => ?_)
      clear hK K hHeld
      have hHeld := hHeldN
      clear hHeldN
      (try simp only [Act.put, List.getElem_toArray, List.getElem_cons_zero, List.getElem_cons_succ, List.setIfInBounds_toArray, List.set_cons_zero, List.set_cons_succ])
      refine wpAnyH_ready (rs := [6]) (by kernel_rfl) (by simp) ?_
      refine AllReadyH.cons rfl (fun K hK => ?_) AllReadyH.nil
      obtain ⟨v2, V4, hrun, ho, hg, hp⟩ := app_own (P := Tryz.prog) V3 (b3 + 1) 37 37 48 ic zc 7 104 Tryz.underlying37 hi hz0 hz1 hz2 hz3 (by decide) (_) (m) (encC x.l) hr1.out (.slice (some ⟨gc, 0, none⟩) 1 1) 1 (encC [c]) (slv_blk (n := 1) (show Blk _ gc (encC [c]) 48 from by rw [hcc.out]; exact hc1.out) (by decide) (fun e => by cases e)) (by rw [encC_len]; rfl) hone2.out (by unfold maxLen; omega) (by omega) (by have := K3.out.lt; omega)
      have hrun2 := hrun
      clear hrun
      refine step_append_run rfl (.tmp 17) (.tmp 19) 37 rfl _ _ _ _ rfl rfl hrun2 ?_
      replace K1 := hid (show Blk V4 _ _ _ from ⟨(hg.block _ K1.out.lt (fun e => by have := (hr1.out.lt _ e.symm).1; have := hlt3.out; omega)).trans K1.out.at'⟩)
      replace K2 := hid (show Blk V4 _ _ _ from ⟨(hg.block _ K2.out.lt (fun e => by have := (hr1.out.lt _ e.symm).1; have := hlt3.out; omega)).trans K2.out.at'⟩)
      replace K3 := hid (show Blk V4 _ _ _ from ⟨(hg.block _ K3.out.lt (fun e => by have := (hr1.out.lt _ e.symm).1; have := hlt3.out; omega)).trans K3.out.at'⟩)
      replace bw := hid (bw.out.grown hg (by have := bw.out.size; omega) (fun k hk => by have := (hr1.out.lt k hk).1; have := hlt3.out; omega))
      have hr2 := hid ho
      clear ho hg hp hr1 hrun2 hc1
      refine hK.out _ _ ((by obtain ⟨-, -, -, -, -, -, -, -, -, -, k10, -⟩ := eleven K1.out; obtain ⟨s0, s1, s2, s3, s4, s5, s6, -⟩ := seven K2.out; exact ⟨k10, s0, s1, s2, s3, s4, s5, s6⟩)) (fun hHeldN => ?_)
      clear hK K hHeld
      have hHeld := hHeldN
      clear hHeldN
      (try simp only [Act.put, List.getElem_toArray, List.getElem_cons_zero, List.getElem_cons_succ, List.setIfInBounds_toArray, List.set_cons_zero, List.set_cons_succ])
      refine wpAnyH_take (i := 7) (v := ?_) rfl (by kernel_rfl) (by kernel_rfl) (by kernel_rfl) (fun _ _ _ h => h) (Or.inl ⟨by rfl, ?_⟩) (by assumption) ?_; rotate_left 1; (intro w hSw; (try dsimp only at hSw); go_simp; try with_reducible rfl); (try simp only [Act.put, List.getElem_toArray, List.getElem_cons_zero, List.getElem_cons_succ, List.setIfInBounds_toArray, List.set_cons_zero, List.set_cons_succ])
      refine wpAnyH_ready (rs := [8]) (by kernel_rfl) (by simp) ?_
      refine AllReadyH.cons rfl (fun K hK => ?_) AllReadyH.nil
      obtain ⟨g, sc, hv2⟩ : ∃ g sc, v2 = .slice (some ⟨g, 0, none⟩) (m + 1) sc := by
          obtain ⟨so, sc, hso, _, _⟩ := ownsRow_form hr2.out
          subst hso
          rcases (own_blk hr2.out).1 with ⟨h1, _⟩ | ⟨g, tail, h1, _, _⟩
          · exfalso
            have := congrArg List.length h1
            rw [List.length_append, encC_len, encC_len] at this
            simp at this
          · exact ⟨g, sc, by rw [h1]⟩
      subst hv2
      obtain ⟨e0, e1, e2, e3, e4, e5, e6, e7, e8, e9, e10, ef⟩ := eleven K3.out
      go_simp
      clear e0 e1 e2 e3 e4 e5 e6 e7 e8 e9 e10 ef
      replace K1 := hid (K1.out.other (p := ⟨b3, 10, none⟩) (by have := hlt3.out; show b3 ≠ w.heap.size; omega) (.slice (some ⟨g, 0, none⟩) (m + 1) sc))
      replace K2 := hid (K2.out.other (p := ⟨b3, 10, none⟩) (by have := hlt3.out; show b3 ≠ w.heap.size + 1; omega) (.slice (some ⟨g, 0, none⟩) (m + 1) sc))
      replace K3 := hid (show Blk _ _ [.bool x.p, .int .u8 (x.a.k : Nat), .slice ao x.a.us.length ac, .string x.a.t, .int .u8 (x.b.k : Nat), .slice bo x.b.us.length bc, .string x.b.t, .int .u8 (x.c.k : Nat), .slice co x.c.us.length cc, .string x.c.t, .slice (some ⟨g, 0, none⟩) (m + 1) sc] 39 from K3.out.set 10 (.slice (some ⟨g, 0, none⟩) (m + 1) sc))
      replace bw := hid (bw.out.setCell (p := ⟨b3, 10, none⟩) (by have := hlt3.out; show w.heap.size ≤ b3; omega) (.slice (some ⟨g, 0, none⟩) (m + 1) sc))
      replace hr2 := hid (ownsRow_setCell_below hr2.out (a := ⟨b3, 10, none⟩) (by show b3 < b3 + 1; omega) (.slice (some ⟨g, 0, none⟩) (m + 1) sc))
      generalize V4.setCell ⟨b3, 10, none⟩ (.slice (some ⟨g, 0, none⟩) (m + 1) sc) = V5 at K1 K2 K3 bw hr2 ⊢
      refine hK.out _ _ ((by obtain ⟨-, -, -, -, -, -, -, -, -, -, k10, -⟩ := eleven K1.out; obtain ⟨s0, s1, s2, s3, s4, s5, s6, -⟩ := seven K2.out; exact ⟨k10, s0, s1, s2, s3, s4, s5, s6⟩)) (fun hHeldN => ?_)
      clear hK K hHeld
      have hHeld := hHeldN
      clear hHeldN
      (try simp only [Act.put, List.getElem_toArray, List.getElem_cons_zero, List.getElem_cons_succ, List.setIfInBounds_toArray, List.set_cons_zero, List.set_cons_succ])
      refine wpAnyH_done (by kernel_rfl) ?_ _
      clear hHeld
      go_wp2_with fail
      go_meet
      exact ⟨rfl, g, sc, K1, K2, K3, hr2, bw⟩
    refine AllReadyH.cons rfl (fun K hK => ?_) AllReadyH.nil
    go_simp
    have hc1 := hid (Blk.new V0 [.bool c.u, .int .u8 (c.e.kind : Nat), .int .i64 c.e.num, .string c.e.str, .string c.e.typ, .slice no c.e.names.length nc, .slice l9 c.e.list.length lc9] 48)
    have hbX := (Below.refl V0.heap.size V0).alloc (Nat.le_refl _) (.cells #[.bool c.u, .int .u8 (c.e.kind : Nat), .int .i64 c.e.num, .string c.e.str, .string c.e.typ, .slice no c.e.names.length nc, .slice l9 c.e.list.length lc9] 48)
    replace K1 := hid (K1.out.below hbX K1.out.lt)
    replace K2 := hid (K2.out.below hbX K2.out.lt)
    replace K3 := hid (K3.out.below hbX K3.out.lt)
    replace bw := hid (bt bw.out hbX)
    have hcl := hid (show V0.heap.size < (V0.alloc (.cells #[.bool c.u, .int .u8 (c.e.kind : Nat), .int .i64 c.e.num, .string c.e.str, .string c.e.typ, .slice no c.e.names.length nc, .slice l9 c.e.list.length lc9] 48)).heap.size by simp)
    clear hbX
    generalize V0.alloc (.cells #[.bool c.u, .int .u8 (c.e.kind : Nat), .int .i64 c.e.num, .string c.e.str, .string c.e.typ, .slice no c.e.names.length nc, .slice l9 c.e.list.length lc9] 48) = V1 at K1 K2 K3 bw hc1 hcl ⊢
    generalize V0.heap.size = gc at hc1 hcl ⊢
    refine hK.out _ _ ((by obtain ⟨-, -, -, -, -, -, -, -, -, -, k10, -⟩ := eleven K1.out; obtain ⟨s0, s1, s2, s3, s4, s5, s6, -⟩ := seven K2.out; exact ⟨k10, s0, s1, s2, s3, s4, s5, s6⟩)) (fun hHeldN => ?_)
    clear hK K hHeld
    have hHeld := hHeldN
    clear hHeldN
    (try simp only [Act.put, List.getElem_toArray, List.getElem_cons_zero, List.getElem_cons_succ, List.setIfInBounds_toArray, List.set_cons_zero, List.set_cons_succ])
    refine wpAnyH_ready (rs := [0]) (by kernel_rfl) (by simp) ?_
    refine AllReadyH.cons rfl (fun K hK => ?_) AllReadyH.nil
    go_simp
    have hr0 := hid (World.ownsRow_made (base := (b3 + 1)) (e := 48) (size := 7) V1 #[] 0 (by have := K3.out.lt; omega) (by decide) rfl)
    have hbX := (Below.refl V1.heap.size V1).alloc (Nat.le_refl _) (.cells #[] 48)
    replace K1 := hid (K1.out.below hbX K1.out.lt)
    replace K2 := hid (K2.out.below hbX K2.out.lt)
    replace K3 := hid (K3.out.below hbX K3.out.lt)
    replace hc1 := hid (hc1.out.below hbX hc1.out.lt)
    replace bw := hid (bt bw.out hbX)
    have hg0 := hid (show V1.heap.size < (V1.alloc (.cells #[] 48)).heap.size by simp)
    have hgc := hid (show gc < V1.heap.size from hcl.out)
    clear hbX
    generalize V1.alloc (.cells #[] 48) = V2 at K1 K2 K3 bw hc1 hr0 hg0 ⊢
    generalize V1.heap.size = g0 at hr0 hg0 hgc ⊢
    refine hK.out _ _ ((by obtain ⟨-, -, -, -, -, -, -, -, -, -, k10, -⟩ := eleven K1.out; obtain ⟨s0, s1, s2, s3, s4, s5, s6, -⟩ := seven K2.out; exact ⟨k10, s0, s1, s2, s3, s4, s5, s6⟩)) (fun hHeldN => ?_)
    clear hK K hHeld
    have hHeld := hHeldN
    clear hHeldN
    (try simp only [Act.put, List.getElem_toArray, List.getElem_cons_zero, List.getElem_cons_succ, List.setIfInBounds_toArray, List.set_cons_zero, List.set_cons_succ])
    refine wpAnyH_ready (rs := [3]) (by kernel_rfl) (by simp) ?_
    refine AllReadyH.cons rfl (fun K hK => ?_) AllReadyH.nil
    have hcl2 := hid hc1.out.lt
    obtain ⟨v1, V3, hrun, ho, hg, hp⟩ := app_own (P := Tryz.prog) V2 (b3 + 1) 37 37 48 ic zc 7 104 Tryz.underlying37 hi hz0 hz1 hz2 hz3 (by decide) (.slice (some ⟨g0, 0, none⟩) 0 0) (0) ([]) hr0.out (.slice lo m lc) m (encC x.l) (hsl.out _ bw.out) (by rw [encC_len, hm.out]) hone1.out (by unfold maxLen; omega) (by omega) (by have := K3.out.lt; omega)
    have hrun2 := hrun
    clear hrun
    refine step_append_run rfl (.tmp 14) (.tmp 16) 37 rfl _ _ _ _ rfl rfl hrun2 ?_
    replace K1 := hid (show Blk V3 _ _ _ from ⟨(hg.block _ K1.out.lt (fun e => by have := (hr0.out.lt _ e.symm).1; have := hlt3.out; omega)).trans K1.out.at'⟩)
    replace K2 := hid (show Blk V3 _ _ _ from ⟨(hg.block _ K2.out.lt (fun e => by have := (hr0.out.lt _ e.symm).1; have := hlt3.out; omega)).trans K2.out.at'⟩)
    replace K3 := hid (show Blk V3 _ _ _ from ⟨(hg.block _ K3.out.lt (fun e => by have := (hr0.out.lt _ e.symm).1; have := hlt3.out; omega)).trans K3.out.at'⟩)
    replace bw := hid (bw.out.grown hg (by have := bw.out.size; omega) (fun k hk => by have := (hr0.out.lt k hk).1; have := hlt3.out; omega))
    replace hc1 := hid (show Blk V3 _ _ _ from ⟨(hg.block _ hc1.out.lt (fun e => by have h9 : gc = g0 := Option.some.inj e; have := hgc.out; omega)).trans hc1.out.at'⟩)
    have hv1 := hid (show v1.ownBlock ≠ some gc from fun e => by
          rcases hp with hp | ⟨g2, hp, hge⟩
          · have h9 : g0 = gc := Option.some.inj (hp.symm.trans e); have := hgc.out; omega
          · have h9 : g2 = gc := Option.some.inj (hp.symm.trans e); have := hcl2.out; omega)
    obtain ⟨vo1, vc1, rfl, _, _⟩ := ownsRow_form ho
    rw [Nat.zero_add, List.nil_append] at ho
    have hr1 := hid ho
    clear ho hg hp hr0 hrun2
    simp only [Nat.zero_add]
    refine hK.out _ _ ((by obtain ⟨-, -, -, -, -, -, -, -, -, -, k10, -⟩ := eleven K1.out; obtain ⟨s0, s1, s2, s3, s4, s5, s6, -⟩ := seven K2.out; exact ⟨k10, s0, s1, s2, s3, s4, s5, s6⟩)) (fun hHeldN => ?_)
    clear hK K hHeld
    have hHeld := hHeldN
    clear hHeldN
    (try simp only [Act.put, List.getElem_toArray, List.getElem_cons_zero, List.getElem_cons_succ, List.setIfInBounds_toArray, List.set_cons_zero, List.set_cons_succ])
    refine wpAnyH_ready (rs := [6]) (by kernel_rfl) (by simp) ?_
    refine AllReadyH.cons rfl (fun K hK => ?_) AllReadyH.nil
    obtain ⟨v2, V4, hrun, ho, hg, hp⟩ := app_own (P := Tryz.prog) V3 (b3 + 1) 37 37 48 ic zc 7 104 Tryz.underlying37 hi hz0 hz1 hz2 hz3 (by decide) (_) (m) (encC x.l) hr1.out (.slice (some ⟨gc, 0, none⟩) 1 1) 1 (encC [c]) (slv_blk (n := 1) (show Blk _ gc (encC [c]) 48 from by rw [hcc.out]; exact hc1.out) (by decide) (fun e => by cases e)) (by rw [encC_len]; rfl) hone2.out (by unfold maxLen; omega) (by omega) (by have := K3.out.lt; omega)
    have hrun2 := hrun
    clear hrun
    refine step_append_run rfl (.tmp 17) (.tmp 19) 37 rfl _ _ _ _ rfl rfl hrun2 ?_
    replace K1 := hid (show Blk V4 _ _ _ from ⟨(hg.block _ K1.out.lt (fun e => by have := (hr1.out.lt _ e.symm).1; have := hlt3.out; omega)).trans K1.out.at'⟩)
    replace K2 := hid (show Blk V4 _ _ _ from ⟨(hg.block _ K2.out.lt (fun e => by have := (hr1.out.lt _ e.symm).1; have := hlt3.out; omega)).trans K2.out.at'⟩)
    replace K3 := hid (show Blk V4 _ _ _ from ⟨(hg.block _ K3.out.lt (fun e => by have := (hr1.out.lt _ e.symm).1; have := hlt3.out; omega)).trans K3.out.at'⟩)
    replace bw := hid (bw.out.grown hg (by have := bw.out.size; omega) (fun k hk => by have := (hr1.out.lt k hk).1; have := hlt3.out; omega))
    have hr2 := hid ho
    clear ho hg hp hr1 hrun2 hc1
    refine hK.out _ _ ((by obtain ⟨-, -, -, -, -, -, -, -, -, -, k10, -⟩ := eleven K1.out; obtain ⟨s0, s1, s2, s3, s4, s5, s6, -⟩ := seven K2.out; exact ⟨k10, s0, s1, s2, s3, s4, s5, s6⟩)) (fun hHeldN => ?_)
    clear hK K hHeld
    have hHeld := hHeldN
    clear hHeldN
    (try simp only [Act.put, List.getElem_toArray, List.getElem_cons_zero, List.getElem_cons_succ, List.setIfInBounds_toArray, List.set_cons_zero, List.set_cons_succ])
    refine wpAnyH_take (i := 7) (v := ?_) rfl (by kernel_rfl) (by kernel_rfl) (by kernel_rfl) (fun _ _ _ h => h) (Or.inl ⟨by rfl, ?_⟩) (by assumption) ?_; rotate_left 1; (intro w hSw; (try dsimp only at hSw); go_simp; try with_reducible rfl); (try simp only [Act.put, List.getElem_toArray, List.getElem_cons_zero, List.getElem_cons_succ, List.setIfInBounds_toArray, List.set_cons_zero, List.set_cons_succ])
    refine wpAnyH_ready (rs := [8]) (by kernel_rfl) (by simp) ?_
    refine AllReadyH.cons rfl (fun K hK => ?_) AllReadyH.nil
    obtain ⟨g, sc, hv2⟩ : ∃ g sc, v2 = .slice (some ⟨g, 0, none⟩) (m + 1) sc := by
        obtain ⟨so, sc, hso, _, _⟩ := ownsRow_form hr2.out
        subst hso
        rcases (own_blk hr2.out).1 with ⟨h1, _⟩ | ⟨g, tail, h1, _, _⟩
        · exfalso
          have := congrArg List.length h1
          rw [List.length_append, encC_len, encC_len] at this
          simp at this
        · exact ⟨g, sc, by rw [h1]⟩
    subst hv2
    obtain ⟨e0, e1, e2, e3, e4, e5, e6, e7, e8, e9, e10, ef⟩ := eleven K3.out
    go_simp
    clear e0 e1 e2 e3 e4 e5 e6 e7 e8 e9 e10 ef
    replace K1 := hid (K1.out.other (p := ⟨b3, 10, none⟩) (by have := hlt3.out; show b3 ≠ w.heap.size; omega) (.slice (some ⟨g, 0, none⟩) (m + 1) sc))
    replace K2 := hid (K2.out.other (p := ⟨b3, 10, none⟩) (by have := hlt3.out; show b3 ≠ w.heap.size + 1; omega) (.slice (some ⟨g, 0, none⟩) (m + 1) sc))
    replace K3 := hid (show Blk _ _ [.bool x.p, .int .u8 (x.a.k : Nat), .slice ao x.a.us.length ac, .string x.a.t, .int .u8 (x.b.k : Nat), .slice bo x.b.us.length bc, .string x.b.t, .int .u8 (x.c.k : Nat), .slice co x.c.us.length cc, .string x.c.t, .slice (some ⟨g, 0, none⟩) (m + 1) sc] 39 from K3.out.set 10 (.slice (some ⟨g, 0, none⟩) (m + 1) sc))
    replace bw := hid (bw.out.setCell (p := ⟨b3, 10, none⟩) (by have := hlt3.out; show w.heap.size ≤ b3; omega) (.slice (some ⟨g, 0, none⟩) (m + 1) sc))
    replace hr2 := hid (ownsRow_setCell_below hr2.out (a := ⟨b3, 10, none⟩) (by show b3 < b3 + 1; omega) (.slice (some ⟨g, 0, none⟩) (m + 1) sc))
    generalize V4.setCell ⟨b3, 10, none⟩ (.slice (some ⟨g, 0, none⟩) (m + 1) sc) = V5 at K1 K2 K3 bw hr2 ⊢
    refine hK.out _ _ ((by obtain ⟨-, -, -, -, -, -, -, -, -, -, k10, -⟩ := eleven K1.out; obtain ⟨s0, s1, s2, s3, s4, s5, s6, -⟩ := seven K2.out; exact ⟨k10, s0, s1, s2, s3, s4, s5, s6⟩)) (fun hHeldN => ?_)
    clear hK K hHeld
    have hHeld := hHeldN
    clear hHeldN
    (try simp only [Act.put, List.getElem_toArray, List.getElem_cons_zero, List.getElem_cons_succ, List.setIfInBounds_toArray, List.set_cons_zero, List.set_cons_succ])
    refine wpAnyH_done (by kernel_rfl) ?_ _
    clear hHeld
    go_wp2_with fail
    go_meet
    exact ⟨rfl, g, sc, K1, K2, K3, hr2, bw⟩
  case rest =>
    clear K1 K2 K3 bw
    obtain ⟨rfl, g, sc, K1, K2, K3, hr2, bw⟩ := hcut
    have hqok := hid (show Po.ok wc ({ x with l := x.l ++ [c], lv := .slice (some ⟨g, 0, none⟩) (m + 1) sc } : Po) from ⟨(hxok.out.below bw.out).1, by show (x.l ++ [c]).length * 104 ≤ _; rw [List.length_append, hm.out]; show (m + 1) * 104 ≤ _; omega, fun d hd => by
      rcases List.mem_append.1 hd with hd | hd
      · exact (hxok.out.below bw.out).2.2.1 d hd
      · rw [List.mem_singleton] at hd
        subst hd
        exact hcok.out.below bw.out, by
      have := SlV.own hr2.out
      show SlV wc _ (x.l ++ [c]).length (encC (x.l ++ [c]))
      rw [encC_append, List.length_append, hm.out]
      exact this⟩)
    have hqv2 := hid (show ({ x with l := x.l ++ [c], lv := .slice (some ⟨g, 0, none⟩) (m + 1) sc } : Po).val = .agg #[.bool x.p, .int .u8 (x.a.k : Nat), .slice ao x.a.us.length ac, .string x.a.t, .int .u8 (x.b.k : Nat), .slice bo x.b.us.length bc, .string x.b.t, .int .u8 (x.c.k : Nat), .slice co x.c.us.length cc, .string x.c.t, .slice (some ⟨g, 0, none⟩) (m + 1) sc] from by
      have := hqv.out (.slice (some ⟨g, 0, none⟩) (m + 1) sc) (g := g) (sc := sc) (by rw [List.length_append, hm.out]; rfl)
      rw [this]
      show Value.agg #[_, _, _, _, _, _, _, _, _, _, .slice (some ⟨g, 0, none⟩) (x.l ++ [c]).length sc] = _
      rw [List.length_append, hm.out]
      rfl)
    have hmore2 := hid (hmore.out (.slice (some ⟨g, 0, none⟩) (m + 1) sc))
    have cB1 := hid (show ∀ W, Below w.heap.size w W → Calls Tryz.prog 14 #[.agg #[.bool x.p, .int .u8 (x.a.k : Nat), .slice ao x.a.us.length ac, .string x.a.t, .int .u8 (x.b.k : Nat), .slice bo x.b.us.length bc, .string x.b.t, .int .u8 (x.c.k : Nat), .slice co x.c.us.length cc, .string x.c.t, .slice lo m lc]] W fun e w' => BodyOf W.heap.size x e w' ∧ Below W.heap.size W w' from fun W b => by rw [← hxv.out]; exact cB.out x W b (hxok.out.below b))
    have cB2 := hid (show ∀ W, Below w.heap.size w W → Below wc.heap.size wc W → Calls Tryz.prog 14 #[.agg #[.bool x.p, .int .u8 (x.a.k : Nat), .slice ao x.a.us.length ac, .string x.a.t, .int .u8 (x.b.k : Nat), .slice bo x.b.us.length bc, .string x.b.t, .int .u8 (x.c.k : Nat), .slice co x.c.us.length cc, .string x.c.t, .slice (some ⟨g, 0, none⟩) (m + 1) sc]] W fun e w' => BodyOf W.heap.size ({ x with l := x.l ++ [c], lv := .slice (some ⟨g, 0, none⟩) (m + 1) sc } : Po) e w' ∧ Below W.heap.size W w' from fun W b b' => by rw [← hqv2.out]; exact cB.out ({ x with l := x.l ++ [c], lv := .slice (some ⟨g, 0, none⟩) (m + 1) sc } : Po) W b (hqok.out.below b'))
    have hb2 := hid (body_more x c (.slice (some ⟨g, 0, none⟩) (m + 1) sc))
    obtain ⟨R2, hR2⟩ : ∃ R, polN ({ x with l := x.l ++ [c], lv := .slice (some ⟨g, 0, none⟩) (m + 1) sc } : Po) = R := ⟨_, rfl⟩
    have cB3 := hid (show ∀ W, Below w.heap.size w W → Below wc.heap.size wc W → Calls Tryz.prog 14 #[.agg #[.bool x.p, .int .u8 (x.a.k : Nat), .slice ao x.a.us.length ac, .string x.a.t, .int .u8 (x.b.k : Nat), .slice bo x.b.us.length bc, .string x.b.t, .int .u8 (x.c.k : Nat), .slice co x.c.us.length cc, .string x.c.t, .slice (some ⟨g, 0, none⟩) (m + 1) sc]] W fun e w' => (∃ z : T, e = .returned (.tuple #[z.val, .int .i64 R2]) ∧ (R2 = 0 → (wrapT 15 ⟨#[]⟩ [bodyT x, condT c]).like z) ∧ z.ok w') ∧ Below W.heap.size W w' from fun W b b' => (cB2.out W b b').mono fun e w' h => by
      obtain ⟨⟨z, h1, h2, _, h3, _, _⟩, h4⟩ := h
      rw [hR2] at h1 h2
      rw [hb2.out] at h2
      exact ⟨⟨z, h1, h2, h3⟩, h4⟩)
    obtain ⟨R1, hR1⟩ : ∃ R, polN x = R := ⟨_, rfl⟩
    have hmore3 := hid (show R2 = 0 → R1 = 0 from fun h => by rw [← hR1]; exact hmore2.out (hR2.trans h))
    have cB4 := hid (show ∀ W, Below w.heap.size w W → Calls Tryz.prog 14 #[.agg #[.bool x.p, .int .u8 (x.a.k : Nat), .slice ao x.a.us.length ac, .string x.a.t, .int .u8 (x.b.k : Nat), .slice bo x.b.us.length bc, .string x.b.t, .int .u8 (x.c.k : Nat), .slice co x.c.us.length cc, .string x.c.t, .slice lo m lc]] W fun e w' => (∃ z : T, e = .returned (.tuple #[z.val, .int .i64 R1]) ∧ (R1 = 0 → (bodyT x).like z) ∧ z.ok w') ∧ Below W.heap.size W w' from fun W b => (cB1.out W b).mono fun e w' h => by
      obtain ⟨⟨z, h1, h2, _, h3, _, _⟩, h4⟩ := h
      rw [hR1] at h1 h2
      exact ⟨⟨z, h1, h2, h3⟩, h4⟩)
    clear cB1 cB2 hR1 hR2 hmore2 hb2 hqv2 hqok hmore cB hqv hr2 hone1 hone2 hsl hi hz0 hz1 hz2 hz3
    have bc := hid (Below.refl wc.heap.size wc)
    obtain ⟨c0, c1, c2, c3, c4, c5, c6, c7, c8, c9, c10, cf⟩ := eleven K1.out
    go_wp2_with fail
    refine (cB4.out _ bw.out).mono ?_
    rintro e w5 ⟨⟨y, rfl, hy1, hyok⟩, b5⟩
    replace K1 := hid (K1.out.below b5 K1.out.lt)
    replace K2 := hid (K2.out.below b5 K2.out.lt)
    replace K3 := hid (K3.out.below b5 K3.out.lt)
    replace bw := hid (bt bw.out b5)
    replace bc := hid (bt bc.out b5)
    clear b5 cB4 c0 c1 c2 c3 c4 c5 c6 c7 c8 c9 c10 cf
    obtain ⟨yno, ync, ylo, ylc, ey1, ey2, yl1, yl2⟩ := hyok.forms
    have hyv := hid (Ex.T.val_eq ey1 ey2)
    rw [hyv.out]
    clear ey1 ey2
    go_upto_region 6 with fail
    have K5 := hid (Blk.new w5 [.int .u8 (y.kind : Nat), .int .i64 y.num, .string y.str, .string y.typ, .slice yno y.names.length ync, .slice ylo y.list.length ylc] 26)
    have hbX := (Below.refl w5.heap.size w5).alloc (Nat.le_refl _) (.cells #[.int .u8 (y.kind : Nat), .int .i64 y.num, .string y.str, .string y.typ, .slice yno y.names.length ync, .slice ylo y.list.length ylc] 26)
    replace K1 := hid (K1.out.below hbX K1.out.lt)
    replace K2 := hid (K2.out.below hbX K2.out.lt)
    replace K3 := hid (K3.out.below hbX K3.out.lt)
    replace bw := hid (bt bw.out hbX)
    replace bc := hid (bt bc.out hbX)
    replace hyok := hid (hyok.below hbX)
    clear hbX
    generalize w5.alloc (.cells #[.int .u8 (y.kind : Nat), .int .i64 y.num, .string y.str, .string y.typ, .slice yno y.names.length ync, .slice ylo y.list.length ylc] 26) = X5 at K1 K2 K3 K5 bw bc hyok ⊢
    generalize w5.heap.size = b5 at K5 ⊢
    obtain ⟨g0, g1, g2, g3, g4, g5, g6, g7, g8, g9, g10, gf⟩ := eleven K3.out
    go_wp2_with fail
    refine (cB3.out _ bw.out bc.out).mono ?_
    rintro e w6 ⟨⟨z, rfl, hz1, hzok⟩, b6⟩
    replace K1 := hid (K1.out.below b6 K1.out.lt)
    replace K2 := hid (K2.out.below b6 K2.out.lt)
    replace K5 := hid (K5.out.below b6 K5.out.lt)
    replace bw := hid (bt bw.out b6)
    replace hyok := hid (hyok.out.below b6)
    clear b6 cB3 g0 g1 g2 g3 g4 g5 g6 g7 g8 g9 g10 gf K3 bc
    obtain ⟨zno, znc, zlo, zlc, ez1, ez2, zl1, zl2⟩ := hzok.forms
    have hzv := hid (Ex.T.val_eq ez1 ez2)
    rw [hzv.out]
    go_upto_region 7 with fail
    have K6 := hid (Blk.new w6 [.int .u8 (z.kind : Nat), .int .i64 z.num, .string z.str, .string z.typ, .slice zno z.names.length znc, .slice zlo z.list.length zlc] 26)
    have hbX := (Below.refl w6.heap.size w6).alloc (Nat.le_refl _) (.cells #[.int .u8 (z.kind : Nat), .int .i64 z.num, .string z.str, .string z.typ, .slice zno z.names.length znc, .slice zlo z.list.length zlc] 26)
    replace K1 := hid (K1.out.below hbX K1.out.lt)
    replace K2 := hid (K2.out.below hbX K2.out.lt)
    replace K5 := hid (K5.out.below hbX K5.out.lt)
    replace bw := hid (bt bw.out hbX)
    replace hyok := hid (hyok.out.below hbX)
    replace hzok := hid (hzok.below hbX)
    clear hbX
    generalize w6.alloc (.cells #[.int .u8 (z.kind : Nat), .int .i64 z.num, .string z.str, .string z.typ, .slice zno z.names.length znc, .slice zlo z.list.length zlc] 26) = X6 at K1 K2 K5 K6 bw hyok hzok ⊢
    generalize w6.heap.size = b6 at K6 ⊢
    by_cases hF1 : R1 = 0
    · by_cases hF2 : R2 = 0
      · subst hF1
        subst hF2
        replace hy1 := hid (hy1 rfl)
        replace hz1 := hz1 rfl
        obtain ⟨t1, t2, t3⟩ := like_two hz1
        have hl0 : 0 < z.list.length := by omega
        have hl1 : 1 < z.list.length := by omega
        rw [t2] at K6
        obtain ⟨zb, zo, hzo, p0, p1, p2, p3, p4, p5⟩ := hzok.out.part6 ez2 0 hl0
        subst hzo
        obtain ⟨zb', zo', hzo, r0, r1, r2, r3, r4, r5⟩ := hzok.out.part6 ez2 1 hl1
        have hze := Option.some.inj hzo
        simp only [Addr.mk.injEq] at hze
        obtain ⟨rfl, rfl, -⟩ := hze
        obtain ⟨a0, ha0⟩ : ∃ a, z.list[0] = a := ⟨_, rfl⟩
        obtain ⟨v, hv⟩ : ∃ a, z.list[1] = a := ⟨_, rfl⟩
        have haok := hid (show a0.ok X6 from ha0 ▸ hzok.out.parts.2.2.2.2.2.2.2 _ (List.getElem_mem hl0))
        have hvok := hid (show v.ok X6 from hv ▸ hzok.out.parts.2.2.2.2.2.2.2 _ (List.getElem_mem hl1))
        have hal := hid (show (bodyT x).like a0 from ha0 ▸ (t3 hl0 hl1).1)
        have hvl := hid (show (condT c).like v from hv ▸ (t3 hl0 hl1).2)
        have hsame1 := hid (show sameT a0 y = true from Ex.like_same (Ex.T.like_trans (Ex.T.like_symm hal.out) hy1.out))
        rw [ha0] at p0 p1 p2 p3 p4 p5
        rw [hv] at r0 r1 r2 r3 r4 r5
        obtain ⟨ano, anc, alo, alc, ea1, ea2, al1, al2⟩ := haok.out.forms
        obtain ⟨vno, vnc, vlo, vlc, ev1, ev2, vl1, vl2⟩ := hvok.out.forms
        rw [ea1] at p4
        rw [ea2] at p5
        rw [ev1] at r4
        rw [ev2] at r5
        have hav := hid (Ex.T.val_eq ea1 ea2)
        have hvv := hid (Ex.T.val_eq ev1 ev2)
        simp only [Nat.zero_mul, Nat.one_mul, Nat.add_zero] at p0 p1 p2 p3 p4 p5 r0 r1 r2 r3 r4 r5
        have g1 : ((z.kind : Int) != 15) = false := by rw [t1]; rfl
        have g3 : ((z.list.length : Int) != 2) = false := by rw [t2]; rfl
        have g5 : (0 : Int) < (z.list.length : Int) := by omega
        have g6 : (1 : Int) < (z.list.length : Int) := by omega
        clear t1 t2 t3 hl0 hl1 hzo ha0 hv hz1 hal hmore3 ea1 ea2 ez1 ez2
        obtain ⟨f0, f1, f2, f3, f4, f5, ff⟩ := Ex.six K6.out
        go_upto_region 12 with fail
        have K7 := hid (Blk.new X6 [.int .u8 (v.kind : Nat), .int .i64 v.num, .string v.str, .string v.typ, .slice vno v.names.length vnc, .slice vlo v.list.length vlc] 26)
        have hlt7 := hid K6.out.lt
        have hlt75 := hid K5.out.lt
        have hlt72 := hid K2.out.lt
        have hbX := (Below.refl X6.heap.size X6).alloc (Nat.le_refl _) (.cells #[.int .u8 (v.kind : Nat), .int .i64 v.num, .string v.str, .string v.typ, .slice vno v.names.length vnc, .slice vlo v.list.length vlc] 26)
        have hvbl := hid hvok.out.inS
        have habl := hid haok.out.inS
        have hybl := hid hyok.out.inS
        have hzblk := hid (World.block_lt_of_cell? _ _ p0)
        replace p0 := cell_below hbX _ _ p0
        replace p1 := cell_below hbX _ _ p1
        replace p2 := cell_below hbX _ _ p2
        replace p3 := cell_below hbX _ _ p3
        replace p4 := cell_below hbX _ _ p4
        replace p5 := cell_below hbX _ _ p5
        replace K1 := hid (K1.out.below hbX K1.out.lt)
        replace K2 := hid (K2.out.below hbX K2.out.lt)
        replace K5 := hid (K5.out.below hbX K5.out.lt)
        replace K6 := hid (K6.out.below hbX K6.out.lt)
        replace bw := hid (bt bw.out hbX)
        replace hyok := hid (hyok.out.below hbX)
        replace hvok := hid (hvok.out.below hbX)
        replace haok := hid (haok.out.below hbX)
        clear hbX r0 r1 r2 r3 r4 r5 f0 f1 f2 f3 f4 f5 ff hzok
        generalize X6.alloc (.cells #[.int .u8 (v.kind : Nat), .int .i64 v.num, .string v.str, .string v.typ, .slice vno v.names.length vnc, .slice vlo v.list.length vlc] 26) = X7 at K1 K2 K5 K6 K7 bw hyok hvok haok p0 p1 p2 p3 p4 p5 ⊢
        generalize X6.heap.size = b7 at K7 hlt7 hlt75 hlt72 hvbl habl hybl hzblk ⊢
        obtain ⟨d0, d1, d2, d3, d4, d5, d6, df⟩ := seven K2.out
        cases hu : c.u with
        | false =>
          have hsame2 := hid (show sameT v c.e = true from Ex.like_same (Ex.T.like_symm (by have := hvl.out; unfold condT at this; rw [hu] at this; exact this)))
          rw [hu] at d0
          have huok := hvok
          have huv := hvv
          go_upto_region 16 with fail
          clear d0 d1 d2 d3 d4 d5 d6 df
          have cS1 := hid (show ∀ W, Below X7.heap.size X7 W → Calls Tryz.prog 15 #[.agg #[.int .u8 (a0.kind : Nat), .int .i64 a0.num, .string a0.str, .string a0.typ, .slice ano a0.names.length anc, .slice alo a0.list.length alc], .agg #[.int .u8 (y.kind : Nat), .int .i64 y.num, .string y.str, .string y.typ, .slice yno y.names.length ync, .slice ylo y.list.length ylc]] W fun e w' => e = .returned (.bool true) ∧ Below W.heap.size W w' from fun W b => by
            have := cS.out a0 y W (haok.out.below b) (hyok.out.below b)
            rw [hsame1.out, hav.out, hyv.out] at this
            exact this)
          have cS2 := hid (show ∀ W, Below X7.heap.size X7 W → Calls Tryz.prog 15 #[.agg #[.int .u8 (v.kind : Nat), .int .i64 v.num, .string v.str, .string v.typ, .slice vno v.names.length vnc, .slice vlo v.list.length vlc], .agg #[.int .u8 (c.e.kind : Nat), .int .i64 c.e.num, .string c.e.str, .string c.e.typ, .slice no c.e.names.length nc, .slice l9 c.e.list.length lc9]] W fun e w' => e = .returned (.bool true) ∧ Below W.heap.size W w' from fun W b => by
            have := cS.out v c.e W (huok.out.below b) ((hcok.out.below bw.out).below b)
            rw [hsame2.out, huv.out, hcev.out] at this
            exact this)
          obtain ⟨f0, f1, f2, f3, f4, f5, ff⟩ := Ex.six K6.out
          obtain ⟨e0, e1, e2, e3, e4, e5, ef⟩ := Ex.six K5.out
          obtain ⟨h0, h1, h2, h3, h4, h5, hf⟩ := Ex.six K7.out
          obtain ⟨d0, d1, d2, d3, d4, d5, d6, df⟩ := seven K2.out
          clear d0 f0 f1 f2 f3 f4 ff ef hf df
          go_region_held3 (fun W => W.cell? ⟨b6, 5, none⟩ = some (.slice (some ⟨zb, zo, none⟩) 2 zlc) ∧ W.cell? ⟨zb, zo, none⟩ = some (.int .u8 (a0.kind : Nat)) ∧ W.cell? ⟨zb, zo + 1, none⟩ = some (.int .i64 a0.num) ∧ W.cell? ⟨zb, zo + 2, none⟩ = some (.string a0.str) ∧ W.cell? ⟨zb, zo + 3, none⟩ = some (.string a0.typ) ∧ W.cell? ⟨zb, zo + 4, none⟩ = some (.slice ano a0.names.length anc) ∧ W.cell? ⟨zb, zo + 5, none⟩ = some (.slice alo a0.list.length alc) ∧ W.cell? ⟨b5, 0, none⟩ = some (.int .u8 (y.kind : Nat)) ∧ W.cell? ⟨b5, 1, none⟩ = some (.int .i64 y.num) ∧ W.cell? ⟨b5, 2, none⟩ = some (.string y.str) ∧ W.cell? ⟨b5, 3, none⟩ = some (.string y.typ) ∧ W.cell? ⟨b5, 4, none⟩ = some (.slice yno y.names.length ync) ∧ W.cell? ⟨b5, 5, none⟩ = some (.slice ylo y.list.length ylc) ∧ W.cell? ⟨b7, 0, none⟩ = some (.int .u8 (v.kind : Nat)) ∧ W.cell? ⟨b7, 1, none⟩ = some (.int .i64 v.num) ∧ W.cell? ⟨b7, 2, none⟩ = some (.string v.str) ∧ W.cell? ⟨b7, 3, none⟩ = some (.string v.typ) ∧ W.cell? ⟨b7, 4, none⟩ = some (.slice vno v.names.length vnc) ∧ W.cell? ⟨b7, 5, none⟩ = some (.slice vlo v.list.length vlc) ∧ W.cell? ⟨w.heap.size + 1, 1, none⟩ = some (.int .u8 (c.e.kind : Nat)) ∧ W.cell? ⟨w.heap.size + 1, 2, none⟩ = some (.int .i64 c.e.num) ∧ W.cell? ⟨w.heap.size + 1, 3, none⟩ = some (.string c.e.str) ∧ W.cell? ⟨w.heap.size + 1, 4, none⟩ = some (.string c.e.typ) ∧ W.cell? ⟨w.heap.size + 1, 5, none⟩ = some (.slice no c.e.names.length nc) ∧ W.cell? ⟨w.heap.size + 1, 6, none⟩ = some (.slice l9 c.e.list.length lc9)) (first | with_reducible exact ⟨f5, p0, p1, p2, p3, p4, p5, e0, e1, e2, e3, e4, e5, h0, h1, h2, h3, h4, h5, d1, d2, d3, d4, d5, d6⟩ | with_reducible exact ⟨cell_drew f5, cell_drew p0, cell_drew p1, cell_drew p2, cell_drew p3, cell_drew p4, cell_drew p5, cell_drew e0, cell_drew e1, cell_drew e2, cell_drew e3, cell_drew e4, cell_drew e5, cell_drew h0, cell_drew h1, cell_drew h2, cell_drew h3, cell_drew h4, cell_drew h5, cell_drew d1, cell_drew d2, cell_drew d3, cell_drew d4, cell_drew d5, cell_drew d6⟩) (first
            | (go_at_call 15
               (with_reducible refine (cS1.out _ (Below.refl X7.heap.size X7).drew).mono ?_)
               rintro e w1 ⟨rfl, b1⟩
               replace b1 := (Below.refl X7.heap.size X7).drew.trans b1
               have ca : ∀ {a : Addr} {v : Value}, X7.cell? a = some v → w1.cell? a = some v := fun h => (b1.cell (World.block_lt_of_cell? _ _ h)).trans h
               replace f5 := ca f5; replace p0 := ca p0; replace p1 := ca p1; replace p2 := ca p2; replace p3 := ca p3; replace p4 := ca p4; replace p5 := ca p5; replace e0 := ca e0; replace e1 := ca e1; replace e2 := ca e2; replace e3 := ca e3; replace e4 := ca e4; replace e5 := ca e5; replace h0 := ca h0; replace h1 := ca h1; replace h2 := ca h2; replace h3 := ca h3; replace h4 := ca h4; replace h5 := ca h5; replace d1 := ca d1; replace d2 := ca d2; replace d3 := ca d3; replace d4 := ca d4; replace d5 := ca d5; replace d6 := ca d6
               clear ca cS1)
            | (go_at_call 15
               (with_reducible refine (cS2.out _ b1).mono ?_)
               rintro e w2 ⟨rfl, b2⟩
               have ca : ∀ {a : Addr} {v : Value}, w1.cell? a = some v → w2.cell? a = some v := fun h => (b2.cell (World.block_lt_of_cell? _ _ h)).trans h
               replace f5 := ca f5; replace p0 := ca p0; replace p1 := ca p1; replace p2 := ca p2; replace p3 := ca p3; replace p4 := ca p4; replace p5 := ca p5; replace e0 := ca e0; replace e1 := ca e1; replace e2 := ca e2; replace e3 := ca e3; replace e4 := ca e4; replace e5 := ca e5; replace h0 := ca h0; replace h1 := ca h1; replace h2 := ca h2; replace h3 := ca h3; replace h4 := ca h4; replace h5 := ca h5; replace d1 := ca d1; replace d2 := ca d2; replace d3 := ca d3; replace d4 := ca d4; replace d5 := ca d5; replace d6 := ca d6
               clear ca cS2))
          replace bw := hid (bt (bt bw.out b1) b2)
          clear b1 b2 f5 p0 p1 p2 p3 p4 p5 e0 e1 e2 e3 e4 e5 h0 h1 h2 h3 h4 h5 d1 d2 d3 d4 d5 d6 K1 K2 K5 K6 K7
          go_wp2_with fail
          go_ret
          exact ⟨rfl, bw.out⟩
        | true =>
          have hvl2 := hvl.out
          unfold condT at hvl2
          rw [hu] at hvl2
          rw [if_pos rfl] at hvl2
          obtain ⟨q1, q2, q3, q4, q5, q6⟩ := T.like_iff.1 hvl2
          have hl1 : v.list.length = 1 := (T.likeL_length q6).symm
          have hl0 : 0 < v.list.length := by omega
          obtain ⟨u, hu2⟩ : ∃ u, v.list[0] = u := ⟨_, rfl⟩
          have hsame2 := hid (show sameT u c.e = true from Ex.like_same (Ex.T.like_symm (hu2 ▸ T.likeL_get q6 0 (by show 0 < 1; decide) hl0)))
          have huok := hid (show u.ok X7 from hu2 ▸ hvok.out.parts.2.2.2.2.2.2.2 _ (List.getElem_mem hl0))
          have hubl := hid (show u.inS (· < b7) from hu2 ▸ (T.inS_iff.1 hvbl.out).2.2 _ (List.getElem_mem hl0))
          obtain ⟨vb, vo, hvo, r0, r1, r2, r3, r4, r5⟩ := hvok.out.part6 ev2 0 hl0
          subst hvo
          rw [hu2] at r0 r1 r2 r3 r4 r5
          obtain ⟨uno, unc, ulo, ulc, eu1, eu2, ul1, ul2⟩ := huok.out.forms
          rw [eu1] at r4
          rw [eu2] at r5
          have huv := hid (Ex.T.val_eq eu1 eu2)
          simp only [Nat.zero_mul, Nat.add_zero] at r0 r1 r2 r3 r4 r5
          have g7 : ((v.kind : Int) != 12) = false := by rw [← q1]; rfl
          have g8 : ((v.list.length : Int) != 1) = false := by rw [hl1]; rfl
          have g9 : (0 : Int) < (v.list.length : Int) := by omega
          rw [hu] at d0
          clear hvl2 q1 q2 q3 q4 q5 q6 hl1 hl0 hu2 hvl hvok eu1 eu2 ev1 ev2
          obtain ⟨h0, h1, h2, h3, h4, h5, hf⟩ := Ex.six K7.out
          go_upto_region 16 with fail
          clear d0 d1 d2 d3 d4 d5 d6 df r0 r1 r2 r3 r4 r5 h0 h1 h2 h3 h4 h5 hf
          generalize hX : (((((X7.setCell ⟨b7, 0, none⟩ (.int .u8 (u.kind : Nat))).setCell ⟨b7, 1, none⟩ (.int .i64 u.num)).setCell ⟨b7, 2, none⟩ (.string u.str)).setCell ⟨b7, 3, none⟩ (.string u.typ)).setCell ⟨b7, 4, none⟩ (.slice uno u.names.length unc)).setCell ⟨b7, 5, none⟩ (.slice ulo u.list.length ulc) = X9
          have hX2 : Ex.st6 X7 b7 0 (.int .u8 (u.kind : Nat)) (.int .i64 u.num) (.string u.str) (.string u.typ) (.slice uno u.names.length unc) (.slice ulo u.list.length ulc) = X9 := hX
          clear hX
          have hp : ∀ a : Addr, a.block ≠ b7 → ∀ {v : Value}, X7.cell? a = some v → X9.cell? a = some v := fun a ha v h => hX2 ▸ (show (Ex.st6 X7 b7 0 (.int .u8 (u.kind : Nat)) (.int .i64 u.num) (.string u.str) (.string u.typ) (.slice uno u.names.length unc) (.slice ulo u.list.length ulc)).cell? a = some v from cell_set6 ⟨ha, ha, ha, ha, ha, ha⟩ h)
          have hzb := hzblk.out
          replace p0 := hp _ (by show zb ≠ b7; have : zb < b7 := hzb; omega) p0
          replace p1 := hp _ (by show zb ≠ b7; have : zb < b7 := hzb; omega) p1
          replace p2 := hp _ (by show zb ≠ b7; have : zb < b7 := hzb; omega) p2
          replace p3 := hp _ (by show zb ≠ b7; have : zb < b7 := hzb; omega) p3
          replace p4 := hp _ (by show zb ≠ b7; have : zb < b7 := hzb; omega) p4
          replace p5 := hp _ (by show zb ≠ b7; have : zb < b7 := hzb; omega) p5
          clear hp hzb
          have hlt2 := K2.out.lt
          have hw7 : w.heap.size + 1 < b7 := hlt72.out
          replace K2 := hid (show Blk X9 (w.heap.size + 1) _ _ from hX2 ▸ Blk.keepAt K2.out (Ex.heap_st6 X7 b7 0 (.int .u8 (u.kind : Nat)) (.int .i64 u.num) (.string u.str) (.string u.typ) (.slice uno u.names.length unc) (.slice ulo u.list.length ulc) (by omega)))
          replace K5 := hid (show Blk X9 b5 _ _ from hX2 ▸ Blk.keepAt K5.out (Ex.heap_st6 X7 b7 0 (.int .u8 (u.kind : Nat)) (.int .i64 u.num) (.string u.str) (.string u.typ) (.slice uno u.names.length unc) (.slice ulo u.list.length ulc) (by have := hlt75.out; omega)))
          replace K6 := hid (show Blk X9 b6 _ _ from hX2 ▸ Blk.keepAt K6.out (Ex.heap_st6 X7 b7 0 (.int .u8 (u.kind : Nat)) (.int .i64 u.num) (.string u.str) (.string u.typ) (.slice uno u.names.length unc) (.slice ulo u.list.length ulc) (by have := hlt7.out; omega)))
          replace K7 := hid (show Blk X9 b7 [.int .u8 (u.kind : Nat), .int .i64 u.num, .string u.str, .string u.typ, .slice uno u.names.length unc, .slice ulo u.list.length ulc] 26 from hX2 ▸ Ex.blk_st6 (A := []) (C := []) (o := 0) K7.out rfl (.int .u8 (u.kind : Nat)) (.int .i64 u.num) (.string u.str) (.string u.typ) (.slice uno u.names.length unc) (.slice ulo u.list.length ulc))
          replace haok := hid (show a0.ok X9 from hX2 ▸ haok.out.keep (fun k hk => Ex.heap_st6 X7 b7 0 (.int .u8 (u.kind : Nat)) (.int .i64 u.num) (.string u.str) (.string u.typ) (.slice uno u.names.length unc) (.slice ulo u.list.length ulc) (Nat.ne_of_lt hk)) habl.out)
          replace huok := hid (show u.ok X9 from hX2 ▸ huok.out.keep (fun k hk => Ex.heap_st6 X7 b7 0 (.int .u8 (u.kind : Nat)) (.int .i64 u.num) (.string u.str) (.string u.typ) (.slice uno u.names.length unc) (.slice ulo u.list.length ulc) (Nat.ne_of_lt hk)) hubl.out)
          replace hyok := hid (show y.ok X9 from hX2 ▸ hyok.out.keep (fun k hk => Ex.heap_st6 X7 b7 0 (.int .u8 (u.kind : Nat)) (.int .i64 u.num) (.string u.str) (.string u.typ) (.slice uno u.names.length unc) (.slice ulo u.list.length ulc) (Nat.ne_of_lt hk)) hybl.out)
          replace bw := hid (show Below w.heap.size w X9 from hX2 ▸ Ex.below_st6 bw.out (by omega) 0 (.int .u8 (u.kind : Nat)) (.int .i64 u.num) (.string u.str) (.string u.typ) (.slice uno u.names.length unc) (.slice ulo u.list.length ulc))
          clear hX2 hlt2 hw7
          have cS1 := hid (show ∀ W, Below X9.heap.size X9 W → Calls Tryz.prog 15 #[.agg #[.int .u8 (a0.kind : Nat), .int .i64 a0.num, .string a0.str, .string a0.typ, .slice ano a0.names.length anc, .slice alo a0.list.length alc], .agg #[.int .u8 (y.kind : Nat), .int .i64 y.num, .string y.str, .string y.typ, .slice yno y.names.length ync, .slice ylo y.list.length ylc]] W fun e w' => e = .returned (.bool true) ∧ Below W.heap.size W w' from fun W b => by
            have := cS.out a0 y W (haok.out.below b) (hyok.out.below b)
            rw [hsame1.out, hav.out, hyv.out] at this
            exact this)
          have cS2 := hid (show ∀ W, Below X9.heap.size X9 W → Calls Tryz.prog 15 #[.agg #[.int .u8 (u.kind : Nat), .int .i64 u.num, .string u.str, .string u.typ, .slice uno u.names.length unc, .slice ulo u.list.length ulc], .agg #[.int .u8 (c.e.kind : Nat), .int .i64 c.e.num, .string c.e.str, .string c.e.typ, .slice no c.e.names.length nc, .slice l9 c.e.list.length lc9]] W fun e w' => e = .returned (.bool true) ∧ Below W.heap.size W w' from fun W b => by
            have := cS.out u c.e W (huok.out.below b) ((hcok.out.below bw.out).below b)
            rw [hsame2.out, huv.out, hcev.out] at this
            exact this)
          obtain ⟨f0, f1, f2, f3, f4, f5, ff⟩ := Ex.six K6.out
          obtain ⟨e0, e1, e2, e3, e4, e5, ef⟩ := Ex.six K5.out
          obtain ⟨h0, h1, h2, h3, h4, h5, hf⟩ := Ex.six K7.out
          obtain ⟨d0, d1, d2, d3, d4, d5, d6, df⟩ := seven K2.out
          clear d0 f0 f1 f2 f3 f4 ff ef hf df
          go_region_held3 (fun W => W.cell? ⟨b6, 5, none⟩ = some (.slice (some ⟨zb, zo, none⟩) 2 zlc) ∧ W.cell? ⟨zb, zo, none⟩ = some (.int .u8 (a0.kind : Nat)) ∧ W.cell? ⟨zb, zo + 1, none⟩ = some (.int .i64 a0.num) ∧ W.cell? ⟨zb, zo + 2, none⟩ = some (.string a0.str) ∧ W.cell? ⟨zb, zo + 3, none⟩ = some (.string a0.typ) ∧ W.cell? ⟨zb, zo + 4, none⟩ = some (.slice ano a0.names.length anc) ∧ W.cell? ⟨zb, zo + 5, none⟩ = some (.slice alo a0.list.length alc) ∧ W.cell? ⟨b5, 0, none⟩ = some (.int .u8 (y.kind : Nat)) ∧ W.cell? ⟨b5, 1, none⟩ = some (.int .i64 y.num) ∧ W.cell? ⟨b5, 2, none⟩ = some (.string y.str) ∧ W.cell? ⟨b5, 3, none⟩ = some (.string y.typ) ∧ W.cell? ⟨b5, 4, none⟩ = some (.slice yno y.names.length ync) ∧ W.cell? ⟨b5, 5, none⟩ = some (.slice ylo y.list.length ylc) ∧ W.cell? ⟨b7, 0, none⟩ = some (.int .u8 (u.kind : Nat)) ∧ W.cell? ⟨b7, 1, none⟩ = some (.int .i64 u.num) ∧ W.cell? ⟨b7, 2, none⟩ = some (.string u.str) ∧ W.cell? ⟨b7, 3, none⟩ = some (.string u.typ) ∧ W.cell? ⟨b7, 4, none⟩ = some (.slice uno u.names.length unc) ∧ W.cell? ⟨b7, 5, none⟩ = some (.slice ulo u.list.length ulc) ∧ W.cell? ⟨w.heap.size + 1, 1, none⟩ = some (.int .u8 (c.e.kind : Nat)) ∧ W.cell? ⟨w.heap.size + 1, 2, none⟩ = some (.int .i64 c.e.num) ∧ W.cell? ⟨w.heap.size + 1, 3, none⟩ = some (.string c.e.str) ∧ W.cell? ⟨w.heap.size + 1, 4, none⟩ = some (.string c.e.typ) ∧ W.cell? ⟨w.heap.size + 1, 5, none⟩ = some (.slice no c.e.names.length nc) ∧ W.cell? ⟨w.heap.size + 1, 6, none⟩ = some (.slice l9 c.e.list.length lc9)) (first | with_reducible exact ⟨f5, p0, p1, p2, p3, p4, p5, e0, e1, e2, e3, e4, e5, h0, h1, h2, h3, h4, h5, d1, d2, d3, d4, d5, d6⟩ | with_reducible exact ⟨cell_drew f5, cell_drew p0, cell_drew p1, cell_drew p2, cell_drew p3, cell_drew p4, cell_drew p5, cell_drew e0, cell_drew e1, cell_drew e2, cell_drew e3, cell_drew e4, cell_drew e5, cell_drew h0, cell_drew h1, cell_drew h2, cell_drew h3, cell_drew h4, cell_drew h5, cell_drew d1, cell_drew d2, cell_drew d3, cell_drew d4, cell_drew d5, cell_drew d6⟩) (first
            | (go_at_call 15
               (with_reducible refine (cS1.out _ (Below.refl X9.heap.size X9).drew).mono ?_)
               rintro e w1 ⟨rfl, b1⟩
               replace b1 := (Below.refl X9.heap.size X9).drew.trans b1
               have ca : ∀ {a : Addr} {v : Value}, X9.cell? a = some v → w1.cell? a = some v := fun h => (b1.cell (World.block_lt_of_cell? _ _ h)).trans h
               replace f5 := ca f5; replace p0 := ca p0; replace p1 := ca p1; replace p2 := ca p2; replace p3 := ca p3; replace p4 := ca p4; replace p5 := ca p5; replace e0 := ca e0; replace e1 := ca e1; replace e2 := ca e2; replace e3 := ca e3; replace e4 := ca e4; replace e5 := ca e5; replace h0 := ca h0; replace h1 := ca h1; replace h2 := ca h2; replace h3 := ca h3; replace h4 := ca h4; replace h5 := ca h5; replace d1 := ca d1; replace d2 := ca d2; replace d3 := ca d3; replace d4 := ca d4; replace d5 := ca d5; replace d6 := ca d6
               clear ca cS1)
            | (go_at_call 15
               (with_reducible refine (cS2.out _ b1).mono ?_)
               rintro e w2 ⟨rfl, b2⟩
               have ca : ∀ {a : Addr} {v : Value}, w1.cell? a = some v → w2.cell? a = some v := fun h => (b2.cell (World.block_lt_of_cell? _ _ h)).trans h
               replace f5 := ca f5; replace p0 := ca p0; replace p1 := ca p1; replace p2 := ca p2; replace p3 := ca p3; replace p4 := ca p4; replace p5 := ca p5; replace e0 := ca e0; replace e1 := ca e1; replace e2 := ca e2; replace e3 := ca e3; replace e4 := ca e4; replace e5 := ca e5; replace h0 := ca h0; replace h1 := ca h1; replace h2 := ca h2; replace h3 := ca h3; replace h4 := ca h4; replace h5 := ca h5; replace d1 := ca d1; replace d2 := ca d2; replace d3 := ca d3; replace d4 := ca d4; replace d5 := ca d5; replace d6 := ca d6
               clear ca cS2))
          replace bw := hid (bt (bt bw.out b1) b2)
          clear b1 b2 f5 p0 p1 p2 p3 p4 p5 e0 e1 e2 e3 e4 e5 h0 h1 h2 h3 h4 h5 d1 d2 d3 d4 d5 d6 K1 K2 K5 K6 K7
          go_wp2_with fail
          go_ret
          exact ⟨rfl, bw.out⟩
      · have g2 : (R2 != 0) = true := by simp [hF2]
        subst hF1
        clear hF2
        go_wp2_with fail
        go_ret
        exact ⟨rfl, bw.out⟩
    · have hF2 : R2 ≠ 0 := fun h => hF1 (hmore3.out h)
      have g1 : (R1 != 0) = true := by simp [hF1]
      have g2 : (R2 != 0) = true := by simp [hF2]
      have g3 : (R1 == 0) = false := by simp [hF1]
      clear hF1 hF2
      go_wp2_with fail
      go_ret
      exact ⟨rfl, bw.out⟩
end Go.Proofs.YtihnhinnohnfgaaGreatDoor.Pol
