/-
  schema.copiedType: what it answers is a type's value, and nothing below is turned. Written by wip/tycopied2gen.py.
-/
import Derived.Test.YtbcjppbiihgfpaaGreatDoorTyCopiedA
import Derived.Deep.RegionHeld3
namespace Go.Proofs.YtbcjppbiihgfpaaGreatDoor.Tyt
open Go.ChangeShapes Go.WideShapes Go.ChangeAt Go.RowKit
open Go.Proofs.YtbcjppbiihgfpaaGreatDoor.Mem
set_option linter.unusedVariables false
set_option linter.unusedSimpArgs false
set_option maxRecDepth 100000
theorem encL_drop (l : List Ty) (k : Nat) (h : k < l.length) : Ty.encL (l.drop k) = l[k].enc ++ Ty.encL (l.drop (k + 1)) := by
  rw [List.drop_eq_getElem_cons h]
  rfl
theorem encL_one {w : World} {l : List Ty} (h : ∀ y ∈ l, y.ok w) : ∀ u ∈ Ty.encL l, u.oneCell' = true := by
  intro u hu
  obtain ⟨y, hy, hu⟩ := List.mem_flatMap.1 hu
  obtain ⟨_, _, _, _, q1, q2, _, _⟩ := (h y hy).forms
  rw [Ty.enc_eq q1 q2] at hu
  simp at hu
  rcases hu with rfl | rfl | rfl | rfl <;> rfl
set_option maxHeartbeats 8000000 in
theorem copiedty_step (x : Ty) (ihof : ∀ z ∈ x.of, CopiedTy z) (ihatt : ∀ z ∈ x.att, CopiedTy z) (hf : x.fit) : CopiedTy x := by
  intro w h
  obtain ⟨ft1, ft2, _, _⟩ := Ty.fit_iff.1 hf
  obtain ⟨ic, zc, hi, hz0, hz1, hz2, hz3⟩ := info_type
  obtain ⟨oo, oc, ao, ac, e1, e2, l1, l2⟩ := h.forms
  have hcat := hid (fun W (B : Below w.heap.size w W) => copiedattrs_step x.an x.att ihatt ft2 W x.av ((h.below B).attrs))
  rw [Ty.val_eq e1 e2]
  rw [e2] at hcat
  obtain ⟨n, hn⟩ : ∃ n, x.of.length = n := ⟨_, rfl⟩
  obtain ⟨m, hm⟩ : ∃ m, x.att.length = m := ⟨_, rfl⟩
  rw [hn] at l1 ft1 e1 ⊢
  rw [hm] at hcat ⊢
  have i1 : (n : Int) ≤ 9223372036854775807 := by omega
  have h' := hid h
  have hn' := hid hn
  have e1' := hid e1
  have ih' := hid ihof
  have bw0 := hid (Below.refl w.heap.size w)
  clear h hn hm ihof ihatt l1 l2 e1 e2 ft2 hf
  go_enter Tryz.func98, Tryz.ntmps98
  go_upto_region 1 with fail
  have K1 := hid (Blk.new w [.int .u8 (x.kind : Nat), .string x.name, .slice oo n oc, .slice ao m ac] 63)
  have bw1 := hid (bw0.out.alloc (Nat.le_refl _) (.cells #[.int .u8 (x.kind : Nat), .string x.name, .slice oo n oc, .slice ao m ac] 63))
  have hs : w.heap.size + 1 = (w.alloc (.cells #[.int .u8 (x.kind : Nat), .string x.name, .slice oo n oc, .slice ao m ac] 63)).heap.size := by simp
  generalize w.alloc (.cells #[.int .u8 (x.kind : Nat), .string x.name, .slice oo n oc, .slice ao m ac] 63) = X0 at K1 bw1 hs ⊢
  have K2 := hid (Blk.new' X0 [.int .u8 0, .string ⟨#[]⟩, .slice none 0 0, .slice none 0 0] 63 (w.heap.size + 1) hs)
  replace K1 := hid (K1.out.alloc (.cells #[.int .u8 0, .string ⟨#[]⟩, .slice none 0 0, .slice none 0 0] 63))
  have bw := hid (bw1.out.alloc (by omega) (.cells #[.int .u8 0, .string ⟨#[]⟩, .slice none 0 0, .slice none 0 0] 63))
  have hB := hid (show w.heap.size + 2 ≤ (X0.alloc (.cells #[.int .u8 0, .string ⟨#[]⟩, .slice none 0 0, .slice none 0 0] 63)).heap.size by simp; omega)
  clear bw0 bw1 hs
  generalize X0.alloc (.cells #[.int .u8 0, .string ⟨#[]⟩, .slice none 0 0, .slice none 0 0] 63) = X1 at K1 K2 bw hB ⊢
  obtain ⟨v1, W1, hrun, ho, hg, _⟩ := app_own (P := Tryz.prog) X1 (w.heap.size + 2) 61 61 63 ic zc 4 72 Tryz.underlying61 hi hz0 hz1 hz2 hz3 (by decide) (.slice none 0 0) 0 [] (World.ownsRow_nil _ _ _ _) (.slice oo n oc) n (Ty.encL x.of) (by have := (h'.out.below bw.out).parts.2.2.2.2.1; rw [e1'.out, hn'.out] at this; exact this) (by rw [Ty.encL_len, hn'.out]) (encL_one (h'.out.below bw.out).parts.2.2.2.2.2.2.1) (by unfold maxLen; omega) (by omega) hB.out
  rw [Nat.zero_add, List.nil_append] at ho
  obtain ⟨so, sc, rfl, _, _⟩ := ownsRow_form ho
  have hb : Below X1.heap.size X1 W1 := ⟨hg.os, hg.tape, hg.output, hg.size, fun b hb => hg.block b hb (by simp [Value.ownBlock])⟩
  have hrow := hid (own_blk ho).1
  have hcap := hid (own_blk ho).2
  have K1w := hid (K1.out.below hb K1.out.lt)
  have K2w := hid (K2.out.below hb K2.out.lt)
  have bww := hid (bt bw.out hb)
  have hBw := hid (Nat.le_trans hB.out hb.size)
  replace hrun := hid hrun
  obtain ⟨c0, c1, c2, c3, cf⟩ := four' K1.out
  obtain ⟨-, -, c2', -, cf'⟩ := four' K1w.out
  clear hb ho hg hi hz0 hz1 hz2 hz3
  go_upto_region 2 with (at_builtin; refine wpList_app3 rfl (.const (.slice none 0 0)) (.tmp 5) _ _ rfl _ _ _ _ rfl rfl hrun.out ?_)
  clear c0 c1 c2 c3 cf c2' cf' hrun K1 K2 bw hB
  have K1 := hid (show Blk (W1.setCell ⟨w.heap.size, 2, none⟩ (.slice so n sc)) w.heap.size [.int .u8 (x.kind : Nat), .string x.name, .slice so n sc, .slice ao m ac] 63 from K1w.out.set 2 (.slice so n sc))
  have K2 := hid (K2w.out.other (p := ⟨w.heap.size, 2, none⟩) (by show w.heap.size ≠ w.heap.size + 1; omega) (.slice so n sc))
  have bw := hid (bww.out.setCell (p := ⟨w.heap.size, 2, none⟩) (Nat.le_refl _) (.slice so n sc))
  have hB := hid (show w.heap.size + 2 ≤ (W1.setCell ⟨w.heap.size, 2, none⟩ (.slice so n sc)).heap.size by simp; exact hBw.out)
  have hrow2 := hid (show (n = 0) ∨ ∃ g tail, so = some ⟨g, 0, none⟩ ∧ w.heap.size + 2 ≤ g ∧ Blk (W1.setCell ⟨w.heap.size, 2, none⟩ (.slice so n sc)) g (Ty.encL x.of ++ tail) 63 by
    rcases hrow.out with ⟨h1, h2⟩ | ⟨g, tail, h1, h2, h3⟩
    · refine .inl ?_
      have := congrArg List.length h1
      rw [Ty.encL_len, hn'.out] at this
      simp only [List.length_nil] at this
      omega
    · exact .inr ⟨g, tail, h1, h2, h3.other (p := ⟨w.heap.size, 2, none⟩) (by show w.heap.size ≠ g; omega) _⟩)
  clear hrow K1w K2w bww hBw
  generalize W1.setCell ⟨w.heap.size, 2, none⟩ (.slice so n sc) = X2 at K1 K2 bw hB hrow2 ⊢
  obtain ⟨g, tail, hro⟩ : ∃ g tail, Hid (w.heap.size + 2 ≤ g ∧ (0 < n → so = some ⟨g, 0, none⟩ ∧ Blk X2 g (Ty.encL x.of ++ tail) 63)) := by
    rcases hrow2.out with h1 | ⟨g, tail, h1, h2, h3⟩
    · exact ⟨w.heap.size + 2, [], hid ⟨Nat.le_refl _, fun h => absurd h (by omega)⟩⟩
    · exact ⟨g, tail, hid ⟨h2, fun _ => ⟨h1, h3⟩⟩⟩
  have hgB := hid hro.out.1
  have hroe := hid (fun h => (hro.out.2 h).1)
  have hrw0 := hid (fun h => (hro.out.2 h).2)
  clear hro hrow2 hB
  obtain ⟨c0, c1, c2, c3, cf⟩ := four' K1.out
  go_wp2_with fail
  go_loopw [11] (fun i wr => ∃ (k : Nat), k ≤ n ∧ i = .int .i64 k ∧ Hid (Blk wr w.heap.size [.int .u8 (x.kind : Nat), .string x.name, .slice so n sc, .slice ao m ac] 63) ∧ Hid (Blk wr (w.heap.size + 1) [.int .u8 0, .string ⟨#[]⟩, .slice none 0 0, .slice none 0 0] 63) ∧ (0 < n → Hid (∃ pre : List Value, pre.length = k * 4 ∧ Blk wr g (pre ++ (Ty.encL (x.of.drop k) ++ tail)) 63)) ∧ Hid (Below w.heap.size w wr)) (fun i _ => n - (intOf i).toNat)
  case atStart => exact ⟨0, by omega, rfl, K1, K2, fun h => hid ⟨[], rfl, hrw0.out h⟩, bw⟩
  case round =>
    obtain ⟨k, hk, rfl, K1', K2', hrw', bw'⟩ := hrel
    clear c0 c1 c2 c3 cf K1 K2 bw hrw0
    rename_i wr _
    have K1 := K1'
    have K2 := K2'
    have bw := bw'
    clear K1' K2' bw'
    by_cases hkl : k < n
    · have hki : (k : Int) < (n : Int) := by omega
      obtain ⟨pre, hpl, hrw⟩ := (hrw' (by omega)).out
      replace hpl := hid hpl
      clear hrw'
      obtain rfl := hroe.out (by omega)
      have hka : k < x.of.length := by rw [hn'.out]; exact hkl
      have hst := encL_drop x.of k hka
      have hzok := hid (h'.out.parts.2.2.2.2.2.2.1 _ (List.getElem_mem hka))
      have hrc := hid (ih'.out _ (List.getElem_mem hka))
      generalize x.of[k] = z at hst hzok hrc
      obtain ⟨zoo, zoc, zao, zac, e3, e4, _, _⟩ := hzok.out.forms
      rw [Ty.enc_eq e3 e4] at hst
      have hrec := hid (show ∀ W, Below w.heap.size w W → Calls Tryz.prog 98 #[.agg #[.int .u8 (z.kind : Nat), .string z.name, .slice zoo z.of.length zoc, .slice zao z.att.length zac]] W fun e w' => Anew W e w' from fun W B => Ty.val_eq e3 e4 ▸ hrc.out W (hzok.out.below B))
      obtain ⟨rest, hrs⟩ : ∃ rest, Ty.encL (x.of.drop (k + 1)) = rest := ⟨_, rfl⟩
      rw [hst, hrs, List.append_assoc] at hrw
      replace hrs := hid hrs
      have hB3 := hid hrw
      have hp1' := hid (show pre.length = k * 4 from hpl.out)
      have key : ∀ j (hj : j < 4), wr.cell? ⟨g, k * 4 + j, none⟩ = some ([Value.int .u8 (z.kind : Nat), .string z.name, .slice zoo z.of.length zoc, .slice zao z.att.length zac][j]'(by simpa using hj)) := fun j hj => by
        rw [hrw.cell (k * 4 + j) (by rw [List.length_append, hpl.out]; simp; omega), List.getElem_append_right (by rw [hpl.out]; omega), List.getElem_append_left (by have := hpl.out; simp; omega)]
        congr 1
        simp [hpl.out]
      have hcz := hid (show wr.cell? ⟨g, k * 4, none⟩ = some (.int .u8 (z.kind : Nat)) ∧ wr.cell? ⟨g, k * 4 + 1, none⟩ = some (.string z.name) ∧ wr.cell? ⟨g, k * 4 + 2, none⟩ = some (.slice zoo z.of.length zoc) ∧ wr.cell? ⟨g, k * 4 + 3, none⟩ = some (.slice zao z.att.length zac) ∧ ∀ o, wr.frozen? ⟨g, o, none⟩ = false from ⟨key 0 (by omega), key 1 (by omega), key 2 (by omega), key 3 (by omega), hrw.free⟩)
      clear e3 e4 key hst hrw hzok hrc hpl
      obtain ⟨c0, c1, c2, c3, cf⟩ := four' K1.out
      go_upto_region 5 with fail
      clear c0 c1 c2 c3 cf
      refine wp_region_held_drew (S := (fun W => W.cell? ⟨w.heap.size, 2, none⟩ = some (.slice (some ⟨g, 0, none⟩) n sc))) (by kernel_rfl) (by exact (four' K1.out).2.2.1) (fun hHeld => ?_)
      replace K1 := hid K1.out.drew
      replace K2 := hid K2.out.drew
      replace hB3 := hid hB3.out.drew
      replace bw := hid bw.out.drew
      replace hcz := hid (show wr.drew.cell? ⟨g, k * 4, none⟩ = some (.int .u8 (z.kind : Nat)) ∧ wr.drew.cell? ⟨g, k * 4 + 1, none⟩ = some (.string z.name) ∧ wr.drew.cell? ⟨g, k * 4 + 2, none⟩ = some (.slice zoo z.of.length zoc) ∧ wr.drew.cell? ⟨g, k * 4 + 3, none⟩ = some (.slice zao z.att.length zac) ∧ ∀ o, wr.drew.frozen? ⟨g, o, none⟩ = false from hcz.out)
      generalize wr.drew = w5 at K1 K2 hB3 hcz bw hHeld ⊢
      refine wpAnyH_take (i := 0) (v := ?_) rfl (by kernel_rfl) (by kernel_rfl) (by kernel_rfl) (fun _ _ _ h => h) (Or.inl ⟨by rfl, ?_⟩) (by assumption) ?_; rotate_left 1; (intro w hSw; (try dsimp only at hSw); go_simp; try with_reducible rfl); (try simp only [Act.put, List.getElem_toArray, List.getElem_cons_zero, List.getElem_cons_succ, List.setIfInBounds_toArray, List.set_cons_zero, List.set_cons_succ])
      refine wpAnyH_take (i := 1) (v := ?_) rfl (by kernel_rfl) (by kernel_rfl) (by kernel_rfl) (fun _ _ _ h => h) (Or.inl ⟨by rfl, ?_⟩) (by assumption) ?_; rotate_left 1; (intro w hSw; (try dsimp only at hSw); go_simp; try with_reducible rfl); (try simp only [Act.put, List.getElem_toArray, List.getElem_cons_zero, List.getElem_cons_succ, List.setIfInBounds_toArray, List.set_cons_zero, List.set_cons_succ])
      refine wpAnyH_take (i := 2) (v := ?_) rfl (by kernel_rfl) (by kernel_rfl) (by kernel_rfl) (fun _ _ _ h => h) (Or.inl ⟨by rfl, ?_⟩) (by assumption) ?_; rotate_left 1; (intro w hSw; (try dsimp only at hSw); go_simp; try with_reducible rfl); (try simp only [Act.put, List.getElem_toArray, List.getElem_cons_zero, List.getElem_cons_succ, List.setIfInBounds_toArray, List.set_cons_zero, List.set_cons_succ])
      refine wpAnyH_take (i := 3) (v := ?_) rfl (by kernel_rfl) (by kernel_rfl) (by kernel_rfl) (fun _ _ _ h => h) (Or.inl ⟨by rfl, ?_⟩) (by assumption) ?_; rotate_left 1; (intro w hSw; (try dsimp only at hSw); go_simp; try with_reducible rfl); (try simp only [Act.put, List.getElem_toArray, List.getElem_cons_zero, List.getElem_cons_succ, List.setIfInBounds_toArray, List.set_cons_zero, List.set_cons_succ])
      refine wpAnyH_take (i := 4) (v := ?_) rfl (by kernel_rfl) (by kernel_rfl) (by kernel_rfl) (fun _ _ _ h => h) (Or.inl ⟨by rfl, ?_⟩) (by assumption) ?_; rotate_left 1; (intro w hSw; (try dsimp only at hSw); go_simp; try with_reducible rfl); (try simp only [Act.put, List.getElem_toArray, List.getElem_cons_zero, List.getElem_cons_succ, List.setIfInBounds_toArray, List.set_cons_zero, List.set_cons_succ])
      refine wpAnyH_take (i := 5) (v := ?_) rfl (by kernel_rfl) (by kernel_rfl) (by kernel_rfl) (fun _ _ _ h => h) (Or.inl ⟨by rfl, ?_⟩) (by assumption) ?_; rotate_left 1; (intro w hSw; (try dsimp only at hSw); go_simp; try with_reducible rfl); (try simp only [Act.put, List.getElem_toArray, List.getElem_cons_zero, List.getElem_cons_succ, List.setIfInBounds_toArray, List.set_cons_zero, List.set_cons_succ])
      refine wpAnyH_take (i := 6) (v := ?_) rfl (by kernel_rfl) (by kernel_rfl) (by kernel_rfl) (fun _ _ _ h => h) (Or.inl ⟨by rfl, ?_⟩) (by assumption) ?_; rotate_left 1; (intro w hSw; (try dsimp only at hSw); go_simp; try with_reducible rfl); (try simp only [Act.put, List.getElem_toArray, List.getElem_cons_zero, List.getElem_cons_succ, List.setIfInBounds_toArray, List.set_cons_zero, List.set_cons_succ])
      refine wpAnyH_ready (rs := [7]) (by kernel_rfl) (by simp) ?_
      refine AllReadyH.cons rfl (fun K hK => ?_) AllReadyH.nil
      obtain ⟨xf0, xf1, xf2, xf3, xff⟩ := hcz.out
      go_simp
      clear xf0 xf1 xf2 xf3 xff
      refine hK.out _ _ (by exact (four' K1.out).2.2.1) (fun hHeldN => ?_)
      clear hK K hHeld
      have hHeld := hHeldN
      clear hHeldN
      (try simp only [Act.put, List.getElem_toArray, List.getElem_cons_zero, List.getElem_cons_succ, List.setIfInBounds_toArray, List.set_cons_zero, List.set_cons_succ])
      refine wpAnyH_ready (rs := [8]) (by kernel_rfl) (by simp) ?_
      refine AllReadyH.cons rfl (fun K hK => ?_) AllReadyH.nil
      go_simp
      (with_reducible refine (hrec.out _ bw.out).mono ?_)
      rintro e6 w6 ⟨⟨k', nm', so1, n1, c1, so2, n2, c2, rfl⟩, b6⟩
      replace K1 := hid (K1.out.below b6 K1.out.lt)
      replace K2 := hid (K2.out.below b6 K2.out.lt)
      replace hB3 := hid (hB3.out.below b6 hB3.out.lt)
      replace hcz := hid (show _ ∧ _ ∧ _ ∧ _ ∧ _ from ⟨cell_below b6 _ _ hcz.out.1, cell_below b6 _ _ hcz.out.2.1, cell_below b6 _ _ hcz.out.2.2.1, cell_below b6 _ _ hcz.out.2.2.2.1, fun o => hB3.out.free o⟩)
      replace bw := hid (bt bw.out b6)
      clear b6 hrec
      refine hK.out _ _ (by exact (four' K1.out).2.2.1) (fun hHeldN => ?_)
      clear hK K hHeld
      have hHeld := hHeldN
      clear hHeldN
      (try simp only [Act.put, List.getElem_toArray, List.getElem_cons_zero, List.getElem_cons_succ, List.setIfInBounds_toArray, List.set_cons_zero, List.set_cons_succ])
      refine wpAnyH_take (i := 9) (v := ?_) rfl (by kernel_rfl) (by kernel_rfl) (by kernel_rfl) (fun _ _ _ h => h) (Or.inl ⟨by rfl, ?_⟩) (by assumption) ?_; rotate_left 1; (intro w hSw; (try dsimp only at hSw); go_simp; try with_reducible rfl); (try simp only [Act.put, List.getElem_toArray, List.getElem_cons_zero, List.getElem_cons_succ, List.setIfInBounds_toArray, List.set_cons_zero, List.set_cons_succ])
      refine wpAnyH_ready (rs := [10]) (by kernel_rfl) (by simp) ?_
      refine AllReadyH.cons rfl (fun K hK => ?_) AllReadyH.nil
      obtain ⟨xf0, xf1, xf2, xf3, xff⟩ := hcz.out
      go_simp
      clear xf0 xf1 xf2 xf3 xff
      have hst1 := hid (blk_st4o hB3.out hp1'.out (.int .u8 (k' : Nat)) (.string nm') (.slice so1 n1 c1) (.slice so2 n2 c2))
      have hne : w.heap.size ≠ g ∧ w.heap.size + 1 ≠ g := by have := hgB.out; omega
      replace K1 := hid (show Blk (st4o w6 g (k * 4) (.int .u8 (k' : Nat)) (.string nm') (.slice so1 n1 c1) (.slice so2 n2 c2)) _ _ _ from ⟨(heap_st4o w6 g (k * 4) _ _ _ _ hne.1).trans K1.out.at'⟩)
      replace K2 := hid (show Blk (st4o w6 g (k * 4) (.int .u8 (k' : Nat)) (.string nm') (.slice so1 n1 c1) (.slice so2 n2 c2)) _ _ _ from ⟨(heap_st4o w6 g (k * 4) _ _ _ _ hne.2).trans K2.out.at'⟩)
      replace bw := hid (below_st4o bw.out (show w.heap.size ≤ g by have := hgB.out; omega) (k * 4) (.int .u8 (k' : Nat)) (.string nm') (.slice so1 n1 c1) (.slice so2 n2 c2))
      clear hne hB3 hcz
      rw [show (((w6.setCell ⟨g, k * 4, none⟩ (.int .u8 (k' : Nat))).setCell ⟨g, k * 4 + 1, none⟩ (.string nm')).setCell ⟨g, k * 4 + 2, none⟩ (.slice so1 n1 c1)).setCell ⟨g, k * 4 + 3, none⟩ (.slice so2 n2 c2) = st4o w6 g (k * 4) (.int .u8 (k' : Nat)) (.string nm') (.slice so1 n1 c1) (.slice so2 n2 c2) from rfl]
      generalize st4o w6 g (k * 4) (.int .u8 (k' : Nat)) (.string nm') (.slice so1 n1 c1) (.slice so2 n2 c2) = X7 at K1 K2 hst1 bw ⊢
      refine hK.out _ _ (by exact (four' K1.out).2.2.1) (fun hHeldN => ?_)
      clear hK K hHeld
      have hHeld := hHeldN
      clear hHeldN
      (try simp only [Act.put, List.getElem_toArray, List.getElem_cons_zero, List.getElem_cons_succ, List.setIfInBounds_toArray, List.set_cons_zero, List.set_cons_succ])
      refine wpAnyH_done (by kernel_rfl) ?_ _
      clear hHeld
      go_wp2_with fail
      go_roundw
      case rel => exact ⟨k + 1, by omega, by go_num, K1, K2, fun _ => hid ⟨pre ++ [.int .u8 (k' : Nat), .string nm', .slice so1 n1 c1, .slice so2 n2 c2], by rw [List.length_append, hp1'.out]; simp; omega, by rw [hrs.out, List.append_assoc]; exact hst1.out⟩, bw⟩
      case measure => simp [intOf]; omega
    · have hki : ¬ (k : Int) < (n : Int) := by omega
      clear hrw'
      obtain ⟨c0, c1, c2, c3, cf⟩ := four' K1.out
      have cA := hid (hcat.out wr bw.out)
      go_upto_region 7 with fail
      go_wp2_with fail
      refine cA.out.mono ?_
      rintro e w10 ⟨⟨bo, bc, xs, rfl, hown⟩, b10⟩
      replace K1 := hid (K1.out.below b10 K1.out.lt)
      replace K2 := hid (K2.out.below b10 K2.out.lt)
      replace bw := hid (bt bw.out b10)
      clear c0 c1 c2 c3 cf cA b10 hown
      obtain ⟨c0, c1, c2, c3, cf⟩ := four' K1.out
      go_upto_region 8 with fail
      clear c0 c1 c2 c3 cf
      have K1t := hid (show Blk (w10.setCell ⟨w.heap.size, 3, none⟩ (.slice bo m bc)) w.heap.size [.int .u8 (x.kind : Nat), .string x.name, .slice so n sc, .slice bo m bc] 63 from K1.out.set 3 (.slice bo m bc))
      have K2t := hid (K2.out.other (p := ⟨w.heap.size, 3, none⟩) (by show w.heap.size ≠ w.heap.size + 1; omega) (.slice bo m bc))
      have bwt := hid (bw.out.setCell (p := ⟨w.heap.size, 3, none⟩) (Nat.le_refl _) (.slice bo m bc))
      clear K1 K2 bw
      generalize w10.setCell ⟨w.heap.size, 3, none⟩ (.slice bo m bc) = W11 at K1t K2t bwt ⊢
      have hK := hid (blk_st4 K2t.out (.int .u8 (x.kind : Nat)) (.string x.name) (.slice so n sc) (.slice bo m bc))
      have hBw := hid (below_st4 bwt.out (g := w.heap.size + 1) (Nat.le_succ _) (.int .u8 (x.kind : Nat)) (.string x.name) (.slice so n sc) (.slice bo m bc))
      obtain ⟨c0, c1, c2, c3, cf⟩ := four' K1t.out
      obtain ⟨d0, d1, d2, d3, df⟩ := four' K2t.out
      clear bwt h' ih' K1t K2t
      go_wp2_with fail
      obtain ⟨q0, q1, q2, q3, qf⟩ := four' hK.out
      exact bodyPost_ret (v := .agg #[.int .u8 (x.kind : Nat), .string x.name, .slice so n sc, .slice bo m bc]) (by unfold st4 at q0 q1 q2 q3; simp [results, Tryz.results98, go_sem, q0, q1, q2, q3]) rfl ⟨⟨_, _, _, _, _, _, _, _, rfl⟩, hBw.out⟩
theorem copiedty_any : ∀ (x : Ty), x.fit → CopiedTy x := by
  suffices g : ∀ n (x : Ty), x.size ≤ n → x.fit → CopiedTy x from fun x => g x.size x (Nat.le_refl _)
  intro n
  induction n with
  | zero => intro x hx; have := x.size_pos; omega
  | succ n ih =>
    intro x hx hf
    obtain ⟨_, _, f1, f2⟩ := Ty.fit_iff.1 hf
    exact copiedty_step x (fun z hz => ih z (by have := Ty.size_of hz; omega) (f1 z hz)) (fun z hz => ih z (by have := Ty.size_att hz; omega) (f2 z hz)) hf
theorem copiedattrs_any (an : List ByteArray) (att : List Ty) (hf : ∀ y ∈ att, y.fit) (hb : att.length * 88 ≤ 140737488355328) (w : World) (av : Value) (h : AttrsV w av an att) : Calls Tryz.prog 51 #[av] w fun e w' => AOwn w att.length e w' :=
  copiedattrs_step an att (fun z hz => copiedty_any z (hf z hz)) hb w av h
end Go.Proofs.YtbcjppbiihgfpaaGreatDoor.Tyt
