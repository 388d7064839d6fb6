/-
  lictorref10.CopyAttrs, copyOf: contracts. Written by wip/tycopygen.py.
-/
import Derived.Test.YtklclfolmfhocaaGreatDoorTyKeep
import Derived.Test.YtklclfolmfhocaaGreatDoorRowApp
namespace Go.Proofs.YtklclfolmfhocaaGreatDoor.Tyt
open Go.ChangeShapes Go.WideShapes Go.ChangeAt Go.RowKit
open Go.Proofs.YtklclfolmfhocaaGreatDoor.Mem
set_option linter.unusedVariables false
set_option linter.unusedSimpArgs false
set_option maxRecDepth 100000
theorem step_append_run {P : Program} {ops : Array Oper} {o : Oper} {a : Act} {w : World} {K : Act → World → Prop} {Q : Exit → Act → World → Prop} {E : Prop}
    (hg : o.guard = none) (s x : Operand) (t : TypeId) (hop : o.op = Op.call { callee := Callee.builtin Builtin.append, args := #[s, x], argTypes := #[t, t] })
    (v1 v2 v : Value) (w' : World) (hs : a.eval s = v1) (hx : a.eval x = v2) (hrun : (Builtin.append_ #[t, t] o.type #[v1, v2]).run P w = .ok v w') (hK : K (a.put o.dst v) w') :
    if Region.wanted o (yielded ops a.tmps) = true then Oper.wp P o a w K Q else E := by
  have hw : Region.wanted o (yielded ops a.tmps) = true := by simp [Region.wanted, hg]
  rw [if_pos hw]
  unfold Oper.wp
  simp [execOp, hop, resolve, invoke, builtin, hs, hx, hrun, Result.andThen]
  exact hK
theorem info_attr : ∃ i z, Tryz.prog.info? 53 = some i ∧ i.zero = some z ∧ i.size = 5 ∧ i.bytes = 88 ∧ z.cells.size = 5 := ⟨_, _, rfl, rfl, rfl, rfl, rfl⟩
theorem info_type : ∃ i z, Tryz.prog.info? 26 = some i ∧ i.zero = some z ∧ i.size = 4 ∧ i.bytes = 72 ∧ z.cells.size = 4 := ⟨_, _, rfl, rfl, rfl, rfl, rfl⟩
theorem sl_sub {S R : Nat → Prop} {v : Value} {n : Nat} (h : SlIn S v n) (hi : ∀ b, S b → R b) : SlIn R v n := fun hn ao m cap e a ha => hi _ (h hn ao m cap e a ha)
set_option maxHeartbeats 8000000 in
theorem copyattrs_step (an : List ByteArray) (att : List Ty) (ih : ∀ z ∈ att, CopTy z) (hb : att.length * 88 ≤ 140737488355328) (w : World) (S : Nat → Prop) (av : Value) (h : AttrsV w av an att) (hS : ∀ b, w.heap.size ≤ b → S b) :
    Calls Tryz.prog 65 #[av] w fun e w' => ABuilt S an att e w' ∧ Below w.heap.size w w' := by
  obtain ⟨ic, zc, hi, hz0, hz1, hz2, hz3⟩ := info_attr
  obtain ⟨so, sc, rfl, l1⟩ := h.form
  obtain ⟨n, hn⟩ : ∃ n, att.length = n := ⟨_, rfl⟩
  rw [hn] at l1 hb h ⊢
  have hnn := h.1
  have i1 : (n : Int) ≤ 9223372036854775807 := by omega
  have h' := hid h
  have hn' := hid hn
  have hnn' := hid hnn
  have ih' := hid ih
  have hS' := hid hS
  have bw := hid (Below.refl w.heap.size w)
  have hB0 := hid (Nat.le_refl w.heap.size)
  clear h hn ih hS hnn l1
  go_enter Tryz.func65, Tryz.ntmps65
  go_wp2_with fail
  go_loopw [3, 8] (fun v i wr => ∃ (k : Nat) (ys : List Ty), k ≤ n ∧ i = .int .i64 k ∧ (∃ ao cap, v = .slice ao k cap ∧ Hid (wr.ownsRow w.heap.size 53 5 (.slice ao k cap) k (Ty.encA (an.take k) ys)) ∧ Hid (∀ y ∈ ys, y.ok wr ∧ y.inS (fun b => S b ∧ (Value.slice ao k cap).ownBlock ≠ some b))) ∧ Hid (Ty.likeL (att.take k) ys) ∧ Hid (w.heap.size ≤ wr.heap.size) ∧ Hid (Below w.heap.size w wr)) (fun _ i _ => n - (intOf i).toNat)
  case atStart => exact ⟨0, [], by omega, rfl, ⟨none, 0, rfl, hid (World.ownsRow_nil _ _ _ _), hid (fun y hy => by cases hy)⟩, hid trivial, hB0, bw⟩
  case round =>
    clear bw hB0
    obtain ⟨k, ys, hk, rfl, ⟨ao, cap, rfl, hown, hys⟩, hlk, hB, bw⟩ := hrel
    rename_i wr _
    by_cases hkn : k < n
    · have hki : (k : Int) < (n : Int) := by omega
      have hka : k < att.length := by rw [hn'.out]; exact hkn
      have hkm : k < an.length := by rw [hnn'.out, hn'.out]; exact hkn
      have hlen := hid (show ys.length = k by have := Ty.likeL_length hlk.out; rw [List.length_take] at this; omega)
      obtain ⟨xb, xo, hxo, f0, f1, f2, f3, f4⟩ := (h'.out.below bw.out).attr k hka hkm
      subst hxo
      have hzok := hid ((h'.out.2.2.1 _ (List.getElem_mem hka)))
      have hrec := hid (ih'.out _ (List.getElem_mem hka))
      have hst := hid (show att.take (k + 1) = att.take k ++ [att[k]] from List.take_succ_eq_append_getElem hka)
      have hsn := hid (show an.take (k + 1) = an.take k ++ [an[k]] from List.take_succ_eq_append_getElem hkm)
      have hanl := hid (show (an.take k).length = ys.length by rw [List.length_take, hlen.out]; omega)
      generalize att[k] = z at f1 f2 f3 f4 hzok hrec hst
      generalize an[k] = nm at f0 hsn
      obtain ⟨zoo, zoc, zao, zac, e1, e2, _, _⟩ := hzok.out.forms
      rw [e1] at f3
      rw [e2] at f4
      have hzv := hid (Ty.val_eq e1 e2)
      clear e1 e2
      go_upto_region 5 with fail
      have K5 := hid (Blk.new wr [.string nm, .int .u8 (z.kind : Nat), .string z.name, .slice zoo z.of.length zoc, .slice zao z.att.length zac] 53)
      have hbX := (Below.refl wr.heap.size wr).alloc (Nat.le_refl _) (.cells #[.string nm, .int .u8 (z.kind : Nat), .string z.name, .slice zoo z.of.length zoc, .slice zao z.att.length zac] 53)
      have hown3 := hid (ownsRow_below hown.out hbX)
      have hb5n := hid (show (Value.slice ao k cap).ownBlock ≠ some wr.heap.size from fun e => by have := (hown.out.lt _ e).2; omega)
      have hys3 := hid (fun y (hy : y ∈ ys) => (show _ ∧ _ from ⟨(hys.out y hy).1.below hbX, (hys.out y hy).2⟩))
      replace hB := hid (Nat.le_trans hB.out hbX.size)
      replace bw := hid (bt bw.out hbX)
      clear f0 f1 f2 f3 f4 hown hys hbX
      generalize wr.alloc (.cells #[.string nm, .int .u8 (z.kind : Nat), .string z.name, .slice zoo z.of.length zoc, .slice zao z.att.length zac] 53) = X5 at K5 hown3 hys3 hB bw ⊢
      generalize wr.heap.size = b5 at K5 hb5n ⊢
      have hcl := hid (show Calls Tryz.prog 97 #[z.val] X5.drew _ from hrec.out X5.drew (fun b => S b ∧ (Value.slice ao k cap).ownBlock ≠ some b) ((hzok.out.below bw.out).below (Below.refl _ X5).drew) (fun b hb => ⟨hS'.out b (by have := hB.out; have h2 : X5.heap.size ≤ b := hb; omega), fun e => by have := (hown3.out.lt b e).2; have h2 : X5.heap.size ≤ b := hb; omega⟩))
      rw [hzv.out] at hcl
      refine wp_region_held_drew (S := (fun Y => Y.cell? ⟨b5, 0, none⟩ = some (.string nm) ∧ Y.cell? ⟨b5, 1, none⟩ = some (.int .u8 (z.kind : Nat)) ∧ Y.cell? ⟨b5, 2, none⟩ = some (.string z.name) ∧ Y.cell? ⟨b5, 3, none⟩ = some (.slice zoo z.of.length zoc) ∧ Y.cell? ⟨b5, 4, none⟩ = some (.slice zao z.att.length zac))) (by kernel_rfl) (by obtain ⟨s0, s1, s2, s3, s4, -⟩ := five K5.out; exact ⟨s0, s1, s2, s3, s4⟩) (fun hHeld => ?_)
      replace K5 := hid K5.out.drew
      replace hown3 := hid (ownsRow_below hown3.out ((Below.refl X5.heap.size X5).drew))
      replace hys3 := hid (fun y (hy : y ∈ ys) => (show _ ∧ _ from ⟨(hys3.out y hy).1.below ((Below.refl X5.heap.size X5).drew), (hys3.out y hy).2⟩))
      replace hB := hid (show w.heap.size ≤ X5.drew.heap.size from hB.out)
      replace bw := hid bw.out.drew
      generalize X5.drew = X6 at K5 hown3 hys3 hB bw hcl hHeld ⊢
      refine wpAnyH_take (i := 0) (v := ?_) rfl (by kernel_rfl) (by kernel_rfl) (by kernel_rfl) (fun _ _ _ h => h) (Or.inl ⟨by rfl, ?_⟩) (by assumption) ?_; rotate_left 1; (intro w hSw; (try dsimp only at hSw); go_simp; try with_reducible rfl); (try simp only [Act.put, List.getElem_toArray, List.getElem_cons_zero, List.getElem_cons_succ, List.setIfInBounds_toArray, List.set_cons_zero, List.set_cons_succ])
      refine wpAnyH_take (i := 1) (v := ?_) rfl (by kernel_rfl) (by kernel_rfl) (by kernel_rfl) (fun _ _ _ h => h) (Or.inl ⟨by rfl, ?_⟩) (by assumption) ?_; rotate_left 1; (intro w hSw; (try dsimp only at hSw); go_simp; try with_reducible rfl); (try simp only [Act.put, List.getElem_toArray, List.getElem_cons_zero, List.getElem_cons_succ, List.setIfInBounds_toArray, List.set_cons_zero, List.set_cons_succ])
      refine wpAnyH_take (i := 2) (v := ?_) rfl (by kernel_rfl) (by kernel_rfl) (by kernel_rfl) (fun _ _ _ h => h) (Or.inl ⟨by rfl, ?_⟩) (by assumption) ?_; rotate_left 1; (intro w hSw; (try dsimp only at hSw); go_simp; try with_reducible rfl); (try simp only [Act.put, List.getElem_toArray, List.getElem_cons_zero, List.getElem_cons_succ, List.setIfInBounds_toArray, List.set_cons_zero, List.set_cons_succ])
      refine wpAnyH_take (i := 3) (v := ?_) rfl (by kernel_rfl) (by kernel_rfl) (by kernel_rfl) (fun _ _ _ h => h) (Or.inl ⟨by rfl, ?_⟩) (by assumption) ?_; rotate_left 1; (intro w hSw; (try dsimp only at hSw); go_simp; try with_reducible rfl); (try simp only [Act.put, List.getElem_toArray, List.getElem_cons_zero, List.getElem_cons_succ, List.setIfInBounds_toArray, List.set_cons_zero, List.set_cons_succ])
      refine wpAnyH_take (i := 4) (v := ?_) rfl (by kernel_rfl) (by kernel_rfl) (by kernel_rfl) (fun _ _ _ h => h) (Or.inl ⟨by rfl, ?_⟩) (by assumption) ?_; rotate_left 1; (intro w hSw; (try dsimp only at hSw); go_simp; try with_reducible rfl); (try simp only [Act.put, List.getElem_toArray, List.getElem_cons_zero, List.getElem_cons_succ, List.setIfInBounds_toArray, List.set_cons_zero, List.set_cons_succ])
      refine wpAnyH_ready (rs := [5]) (by kernel_rfl) (by simp) ?_
      refine AllReadyH.cons rfl (fun K hK => ?_) AllReadyH.nil
      go_simp
      (with_reducible refine (hcl.out).mono ?_)
      rintro e w6 ⟨⟨y, rfl, hyl, hyok, hyin⟩, b6⟩
      obtain ⟨yoo, yoc, yao, yac, ey1, ey2, yl1, yl2⟩ := hyok.forms
      have hye := hid (Ty.enc_eq ey1 ey2)
      rw [Ty.val_eq ey1 ey2]
      replace hown3 := hid (ownsRow_below hown3.out b6)
      have hys6 := hid (fun u (hu : u ∈ ys) => (show _ ∧ _ from ⟨(hys3.out u hu).1.below b6, (hys3.out u hu).2⟩))
      replace K5 := hid (K5.out.below b6 K5.out.lt)
      replace hB := hid (Nat.le_trans hB.out b6.size)
      replace bw := hid (bt bw.out b6)
      replace hyl := hid hyl
      replace hyok := hid hyok
      replace hyin := hid hyin
      clear b6 hcl ey1 ey2 hys3
      refine hK.out _ _ (by obtain ⟨s0, s1, s2, s3, s4, -⟩ := five K5.out; exact ⟨s0, s1, s2, s3, s4⟩) (fun hHeldN => ?_)
      clear hK K hHeld
      have hHeld := hHeldN
      clear hHeldN
      (try simp only [Act.put, List.getElem_toArray, List.getElem_cons_zero, List.getElem_cons_succ, List.setIfInBounds_toArray, List.set_cons_zero, List.set_cons_succ])
      refine wpAnyH_take (i := 6) (v := ?_) rfl (by kernel_rfl) (by kernel_rfl) (by kernel_rfl) (fun _ _ _ h => h) (Or.inl ⟨by rfl, ?_⟩) (by assumption) ?_; rotate_left 1; (intro w hSw; (try dsimp only at hSw); go_simp; try with_reducible rfl); (try simp only [Act.put, List.getElem_toArray, List.getElem_cons_zero, List.getElem_cons_succ, List.setIfInBounds_toArray, List.set_cons_zero, List.set_cons_succ])
      refine wpAnyH_ready (rs := [7]) (by kernel_rfl) (by simp) ?_
      refine AllReadyH.cons rfl (fun K hK => ?_) AllReadyH.nil
      go_simp
      have hb7 := (Below.refl w6.heap.size w6).alloc (Nat.le_refl _) (.cells #[.string nm, .int .u8 (y.kind : Nat), .string y.name, .slice yoo y.of.length yoc, .slice yao y.att.length yac] 53)
      have K9 := Blk.new w6 [.string nm, .int .u8 (y.kind : Nat), .string y.name, .slice yoo y.of.length yoc, .slice yao y.att.length yac] 53
      have hown7 := ownsRow_below hown3.out hb7
      have hys7 := hid (fun u (hu : u ∈ ys ++ [y]) => (show u.ok (w6.alloc (.cells #[.string nm, .int .u8 (y.kind : Nat), .string y.name, .slice yoo y.of.length yoc, .slice yao y.att.length yac] 53)) ∧ u.inS (fun b => (fun b => S b ∧ (Value.slice ao k cap).ownBlock ≠ some b) b ∧ b < (w6.alloc (.cells #[.string nm, .int .u8 (y.kind : Nat), .string y.name, .slice yoo y.of.length yoc, .slice yao y.att.length yac] 53)).heap.size) from by
        have key : ∀ u : Ty, u.ok w6 → u.inS (fun b => S b ∧ (Value.slice ao k cap).ownBlock ≠ some b) → (u.ok (w6.alloc (.cells #[.string nm, .int .u8 (y.kind : Nat), .string y.name, .slice yoo y.of.length yoc, .slice yao y.att.length yac] 53)) ∧ u.inS (fun b => (fun b => S b ∧ (Value.slice ao k cap).ownBlock ≠ some b) b ∧ b < (w6.alloc (.cells #[.string nm, .int .u8 (y.kind : Nat), .string y.name, .slice yoo y.of.length yoc, .slice yao y.att.length yac] 53)).heap.size)) := fun u h1 h2 => ⟨h1.below hb7, Ty.inS_and h2 (h1.below hb7).inS⟩
        rcases List.mem_append.1 hu with hu | hu
        · exact key u (hys6.out u hu).1 (hys6.out u hu).2
        · rw [List.mem_singleton] at hu
          subst hu
          exact key u hyok.out hyin.out))
      replace K5 := hid (K5.out.below hb7 K5.out.lt)
      replace hB := hid (Nat.le_trans hB.out hb7.size)
      replace bw := hid (bt bw.out hb7)
      replace hown7 := hid hown7
      replace K9 := hid K9
      clear hb7 hown3 hys6 hyok hyin
      generalize w6.alloc (.cells #[.string nm, .int .u8 (y.kind : Nat), .string y.name, .slice yoo y.of.length yoc, .slice yao y.att.length yac] 53) = X7 at K5 K9 hown7 hys7 hB bw ⊢
      generalize w6.heap.size = b9 at K9 ⊢
      refine hK.out _ _ (by obtain ⟨s0, s1, s2, s3, s4, -⟩ := five K5.out; exact ⟨s0, s1, s2, s3, s4⟩) (fun hHeldN => ?_)
      clear hK K hHeld
      have hHeld := hHeldN
      clear hHeldN
      (try simp only [Act.put, List.getElem_toArray, List.getElem_cons_zero, List.getElem_cons_succ, List.setIfInBounds_toArray, List.set_cons_zero, List.set_cons_succ])
      refine wpAnyH_ready (rs := [8]) (by kernel_rfl) (by simp) ?_
      refine AllReadyH.cons rfl (fun K hK => ?_) AllReadyH.nil
      obtain ⟨v', w8, hrun, ho, hg, hp⟩ := run_append_place (P := Tryz.prog) X7 w.heap.size 24 24 53 ic zc 5 88 Tryz.underlying24 hi hz0 hz1 hz2 hz3 (by decide)
        (.slice ao k cap) k (Ty.encA (an.take k) ys) hown7.out ⟨b9, 0, none⟩ 1 1 [.string nm, .int .u8 (y.kind : Nat), .string y.name, .slice yoo y.of.length yoc, .slice yao y.att.length yac] rfl
        (getElem?_cells' (fun j hj => by rw [Mem.add_plain, Nat.zero_add]; exact K9.out.cell j hj)) (by simp [Value.oneCell']) (by unfold maxLen; omega) (by omega) hB.out
      have hrun2 := hrun
      clear hrun
      refine step_append_run rfl (.tmp 12) (.tmp 19) 24 rfl _ _ _ _ rfl rfl hrun2 ?_
      have hgr := hid hg
      have hb8 := hid (bw.out.grown hg (by have := bw.out.size; omega) (fun k hk => (hown7.out.lt k hk).1))
      have K5f := hid (show Blk w8 b5 _ _ from ⟨(hg.block b5 (by have := K5.out.lt; omega) (fun e => hb5n.out e.symm)).trans K5.out.at'⟩)
      have hBf := hid (Nat.le_trans hB.out hg.size)
      obtain ⟨ao', cap', hv', _, _⟩ := ownsRow_form ho
      subst hv'
      have hrow8 := hid (show w8.ownsRow w.heap.size 53 5 (.slice ao' (k + 1) cap') (k + 1) (Ty.encA (an.take (k + 1)) (ys ++ [y])) from by
        rw [hsn.out, Ty.encA_snoc _ _ _ _ hanl.out]
        unfold Ty.encP
        rw [hye.out]
        exact ho)
      have hysf := hid (show ∀ u ∈ ys ++ [y], u.ok w8 ∧ u.inS (fun b => S b ∧ (Value.slice ao' (k + 1) cap').ownBlock ≠ some b) from fun u hu => by
        obtain ⟨h1, h2⟩ := hys7.out u hu
        refine ⟨h1.keep (fun b hb => hgr.out.block b hb.2 (fun e => hb.1.2 e.symm)) h2, h2.mono (fun b hb => ⟨hb.1.1, fun e => ?_⟩)⟩
        rcases hp with hp | ⟨g2, hp, hge⟩
        · exact hb.1.2 (hp.symm.trans e)
        · have h3 : g2 = b := Option.some.inj (hp.symm.trans e)
          have := hb.2
          omega)
      have hlkf := hid (show Ty.likeL (att.take (k + 1)) (ys ++ [y]) by rw [hst.out]; exact Ty.likeL_snoc hlk.out hyl.out)
      replace K5 := K5f
      clear hg hp ho hown7 hys7 K9 bw hgr hyl hst hlk hye hrun2 hB K5f hsn hanl hlen
      refine hK.out _ _ (by obtain ⟨s0, s1, s2, s3, s4, -⟩ := five K5.out; exact ⟨s0, s1, s2, s3, s4⟩) (fun hHeldN => ?_)
      clear hK K hHeld
      have hHeld := hHeldN
      clear hHeldN
      (try simp only [Act.put, List.getElem_toArray, List.getElem_cons_zero, List.getElem_cons_succ, List.setIfInBounds_toArray, List.set_cons_zero, List.set_cons_succ])
      refine wpAnyH_take (i := 9) (v := ?_) rfl (by kernel_rfl) (by kernel_rfl) (by kernel_rfl) (fun _ _ _ h => h) (Or.inl ⟨by rfl, ?_⟩) (by assumption) ?_; rotate_left 1; (intro w hSw; (try dsimp only at hSw); go_simp; try with_reducible rfl); (try simp only [Act.put, List.getElem_toArray, List.getElem_cons_zero, List.getElem_cons_succ, List.setIfInBounds_toArray, List.set_cons_zero, List.set_cons_succ])
      refine wpAnyH_done (by kernel_rfl) ?_ _
      clear hHeld
      go_wp2_with fail
      go_roundw
      case rel => exact ⟨k + 1, ys ++ [y], by omega, by go_num, ⟨ao', cap', rfl, hrow8, hysf⟩, hlkf, hBf, hb8⟩
      case measure => simp [intOf]; omega
    · have hki : ¬ (k : Int) < (n : Int) := by omega
      obtain rfl : k = n := by omega
      have hlk2 := hid (show Ty.likeL att ys by have := hlk.out; rwa [List.take_of_length_le (by rw [hn'.out]; exact Nat.le_refl _)] at this)
      have hlen := hid (show ys.length = k by have := Ty.likeL_length hlk2.out; rw [hn'.out] at this; exact this.symm)
      have hfin := hid (show ABuilt S an att (.returned (.slice ao k cap)) wr from ⟨ys, _, rfl, hlk2.out, ⟨by rw [hnn'.out, hlen.out, hn'.out], by
        have := SlV.own hown.out
        rw [List.take_of_length_le (by rw [hnn'.out, hn'.out]; exact Nat.le_refl _)] at this
        rw [hlen.out]
        exact this, fun y hy => (hys.out y hy).1, h'.out.2.2.2⟩, by
          rw [hlen.out]
          exact sl_sub (own_in hown.out) (fun b hb => hS'.out b hb.1), fun y hy => (hys.out y hy).2.mono (fun b hb => hb.1)⟩)
      clear hown hys hlk hlk2
      go_wp2_with fail
      go_ret
      exact ⟨hfin.out, bw.out⟩
end Go.Proofs.YtklclfolmfhocaaGreatDoor.Tyt
