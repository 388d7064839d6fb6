/-
  types.trimmed: contract. Written by wip/tjgen.py.
-/
import Derived.Test.YtklclfolmfhocaaGreatDoorTjParts
import Derived.Deep.RegionHeld3
namespace Go.Proofs.YtklclfolmfhocaaGreatDoor.Tyt
open Go.ChangeShapes Go.WideShapes Go.ChangeAt Go.RowKit
open Go.Proofs.YtklclfolmfhocaaGreatDoor.Mem
set_option linter.unusedVariables false
set_option linter.unusedSimpArgs false
set_option maxRecDepth 100000
def TB (S : Nat → Prop) (p : PT) (e : Ending) (w' : World) : Prop := ∃ y : Ty, e = .returned y.val ∧ er y = p ∧ y.ok w' ∧ y.inS S
def Trim (x : Ty) : Prop := ∀ (w : World) (S : Nat → Prop), x.ok w → (∀ b, w.heap.size ≤ b → S b) → Calls Tryz.prog 16 #[x.val] w fun e w' => TB S (PT.trim (er x)) e w' ∧ Below w.heap.size w w'
theorem erL_snoc (l : List Ty) (x : Ty) : erL (l ++ [x]) = erL l ++ [er x] := by rw [erL_map, erL_map]; simp
theorem trimL_snoc (l : List PT) (x : PT) : PT.trimL (l ++ [x]) = PT.trimL l ++ [PT.trim x] := by
  induction l with
  | nil => rfl
  | cons y l ih => rw [List.cons_append, PT.trimL, ih, PT.trimL]; rfl
theorem erL_length (l : List Ty) : (erL l).length = l.length := by rw [erL_map, List.length_map]
set_option maxHeartbeats 16000000 in
theorem trim_step (x : Ty) (ihp : x.kind = 5 → ∀ y l, x.of = y :: l → Trim y) (ih0 : x.kind = 5 → Trim (leaf 0 ⟨#[]⟩)) (ih : ∀ z ∈ x.att, Trim z) (hb : x.att.length * 88 ≤ 140737488355328) : Trim x := by
  intro w S h hS
  have hS' := hid hS
  have hev := hid (h.attrs)
  obtain ⟨ic, zc, hi, hz0, hz1, hz2, hz3⟩ := info_attr
  obtain ⟨oo, oc, ao0, ac, e1, e2, l1, l2⟩ := h.forms
  rw [e2] at hev
  obtain ⟨n, hn⟩ : ∃ n, x.att.length = n := ⟨_, rfl⟩
  have hnn := h.attrs.1
  have hnm := hid h.parts.2.1
  have i1 : (x.att.length : Int) ≤ 9223372036854775807 := by omega
  rw [Ty.val_eq e1 e2]
  have bw0 := hid (Below.refl w.heap.size w)
  have h' := hid h
  have hk256 := hid h.parts.1
  have ih' := hid ih
  have ih0' := hid ih0
  have ihp' := hid ihp
  have e2' := hid e2
  have hov := hid e1
  rw [hn] at i1 hb hev ⊢
  have hn' := hid hn
  have hnn' := hid hnn
  obtain ⟨kk, hkk⟩ : ∃ kk : Int, ((x.kind : Nat) : Int) = kk := ⟨_, rfl⟩
  rw [hkk]
  have hres := hid (PT.trim_eq (er x))
  rw [er_k, er_nm, er_of, er_an, er_att] at hres
  generalize PT.trim (er x) = RR at hres ⊢
  replace hkk := hid hkk
  clear h hS e1 e2 l1 l2 ih ih0 ihp hn hnn
  go_enter Tryz.func16, Tryz.ntmps16
  go_upto_region 1 with fail
  have K := hid (Blk.new w [.int .u8 kk, .string x.name, .slice oo x.of.length oc, .slice ao0 n ac] 26)
  have bw1 := hid (bw0.out.alloc (Nat.le_refl _) (.cells #[.int .u8 kk, .string x.name, .slice oo x.of.length oc, .slice ao0 n ac] 26))
  have hs : w.heap.size + 1 = (w.alloc (.cells #[.int .u8 kk, .string x.name, .slice oo x.of.length oc, .slice ao0 n ac] 26)).heap.size := by simp
  clear bw0
  generalize w.alloc (.cells #[.int .u8 kk, .string x.name, .slice oo x.of.length oc, .slice ao0 n ac] 26) = X0 at K bw1 hs ⊢
  have R := hid (Blk.new' X0 [.int .u8 0, .string ⟨#[]⟩, .slice none 0 0, .slice none 0 0] 26 (w.heap.size + 1) hs)
  replace K := hid (K.out.alloc (.cells #[.int .u8 0, .string ⟨#[]⟩, .slice none 0 0, .slice none 0 0] 26))
  have bw := hid (bw1.out.alloc (by omega) (.cells #[.int .u8 0, .string ⟨#[]⟩, .slice none 0 0, .slice none 0 0] 26))
  have hsz := hid (show w.heap.size + 2 = (X0.alloc (.cells #[.int .u8 0, .string ⟨#[]⟩, .slice none 0 0, .slice none 0 0] 26)).heap.size by simp; omega)
  clear bw1 hs
  generalize X0.alloc (.cells #[.int .u8 0, .string ⟨#[]⟩, .slice none 0 0, .slice none 0 0] 26) = X1 at K R bw hsz ⊢
  have hcase : kk = 4 ∨ kk = 5 ∨ kk = 6 ∨ ¬ kk = 4 ∧ ¬ kk = 5 ∧ ¬ kk = 6 := by omega
  rcases hcase with rfl | rfl | rfl | ⟨n4, n5, n6⟩
  · have hR := hid (show RR = PT.ent x.name by rw [hres.out, if_pos (by have := hkk.out; omega)])
    obtain ⟨c0, c1, c2, c3, cf⟩ := four' K.out
    go_wp2_with fail
    refine (entityOf_any x.name _).mono ?_
    rintro e w3 ⟨rfl, q3⟩
    have R3 := hid (R.out.below q3 R.out.lt)
    have b3 := hid (bw.out.trans (q3.mono bw.out.size))
    rw [show (leaf 4 x.name).val = .agg #[.int .u8 4, .string x.name, .slice none 0 0, .slice none 0 0] from rfl]
    clear c0 c1 c2 c3 cf K R bw q3 hev
    have hK := hid (blk_st4 R3.out (.int .u8 4) (.string x.name) (.slice none 0 0) (.slice none 0 0))
    have hBw := hid (below_st4 b3.out (g := w.heap.size + 1) (Nat.le_succ _) (.int .u8 4) (.string x.name) (.slice none 0 0) (.slice none 0 0))
    have hkp := hid (fun b (hb : b ≠ w.heap.size + 1) => heap_st4 w3 (w.heap.size + 1) (.int .u8 4) (.string x.name) (.slice none 0 0) (.slice none 0 0) hb)
    obtain ⟨d0, d1, d2, d3, df⟩ := four' R3.out
    go_wp2_with fail
    obtain ⟨q0, q1, q2, q3, qf⟩ := four' hK.out
    exact bodyPost_ret (v := .agg #[.int .u8 4, .string x.name, .slice none 0 0, .slice none 0 0]) (by unfold st4 at q0 q1 q2 q3; simp [results, Tryz.results16, go_sem, q0, q1, q2, q3]) rfl ⟨⟨leaf 4 x.name, rfl, by rw [er_leaf, hR.out]; rfl, leaf_ok _ _ _ (by decide) hnm.out, leaf_in _ _ _⟩, hBw.out⟩
  · have hR := hid (show RR = PT.set (PT.trim (PT.part (erL x.of))) by
      rw [hres.out, if_neg (by have := hkk.out; omega), if_pos (by have := hkk.out; omega)]
      cases erL x.of with
      | nil => rw [PT.trimO, PT.part, PT.trim0 rfl]
      | cons y l => rw [PT.trimO, PT.part])
    have hk5 := hid (show x.kind = 5 by have := hkk.out; omega)
    have hpc := hid (partOf_any x X1 (h'.out.below bw.out))
    obtain ⟨oo', oc', ao', ac', e1', e2'', _, _⟩ := h'.out.forms
    replace hpc := hid (show Calls Tryz.prog 18 #[.agg #[.int .u8 5, .string x.name, .slice oo x.of.length oc, .slice ao0 n ac]] X1 _ from by
      have hq := hpc.out
      rw [Ty.val_eq e1' e2''] at hq
      have e3 : x.ov = .slice oo x.of.length oc := hov.out
      rw [e1'] at e3
      rw [e2'.out, hn'.out] at e2''
      rw [hn'.out, hkk.out] at hq
      simp only [Value.slice.injEq, true_and] at e3 e2''
      rw [← e3.1, ← e3.2, e2''.1, e2''.2]
      exact hq)
    clear e1' e2''
    obtain ⟨c0, c1, c2, c3, cf⟩ := four' K.out
    go_wp2_with fail
    refine hpc.out.mono ?_
    rintro e w3 ⟨⟨y, rfl, hy⟩, q3⟩
    have hyok : y.ok w3 := by
      rcases hy with ⟨_, rfl⟩ | ⟨l, hl⟩
      · exact leaf_ok _ _ _ (by decide) (by decide)
      · exact (h'.out.parts.2.2.2.2.2.2.1 y (by rw [hl]; simp)).below (bw.out.trans (q3.mono bw.out.size))
    have hrec := hid (show Trim y by
      rcases hy with ⟨_, rfl⟩ | ⟨l, hl⟩
      · exact ih0'.out hk5.out
      · exact ihp'.out hk5.out y l hl)
    have hpt := hid (show PT.part (erL x.of) = er y by
      rcases hy with ⟨hl, rfl⟩ | ⟨l, hl⟩
      · rw [hl, er_leaf]; rfl
      · rw [hl, erL]; rfl)
    have R3 := hid (R.out.below q3 R.out.lt)
    have b3 := hid (bw.out.trans (q3.mono bw.out.size))
    have hs3 := hid (show w.heap.size + 2 ≤ w3.heap.size by have := q3.size; have := hsz.out; omega)
    have hcl := hid (hrec.out w3 (fun b => S b ∧ b ≠ w.heap.size + 1) hyok (fun b hb => ⟨hS'.out b (by have := hs3.out; omega), by have := hs3.out; omega⟩))
    obtain ⟨yo, yc, yp, yq, g1, g2, _, _⟩ := hyok.forms
    rw [Ty.val_eq g1 g2] at hcl ⊢
    clear g1 g2 hyok hy c0 c1 c2 c3 cf K R bw q3 hev hpc hrec
    go_wp2_with fail
    refine hcl.out.mono ?_
    rintro e w4 ⟨⟨z, rfl, hz, hzok, hzin⟩, q3⟩
    have R4 := hid (R3.out.below q3 R3.out.lt)
    have b4 := hid (b3.out.trans (q3.mono b3.out.size))
    have hs4 := hid (show w.heap.size + 2 ≤ w4.heap.size by have := q3.size; have := hs3.out; omega)
    have hsc := hid (setOf_any z w4 hzok)
    have hzok' := hid hzok
    obtain ⟨yo, yc, yp, yq, g1, g2, _, _⟩ := hzok.forms
    rw [Ty.val_eq g1 g2] at hsc ⊢
    clear g1 g2 hzok q3 hcl R3 b3
    go_wp2_with fail
    refine hsc.out.mono ?_
    rintro e w5 ⟨⟨g, hg, rfl, hok5⟩, q3⟩
    have R5 := hid (R4.out.below q3 R4.out.lt)
    have b5 := hid (b4.out.trans (q3.mono b4.out.size))
    have hok5' := hid hok5
    have hin5 := hid (show (setTy z g).inS (fun b => S b ∧ b ≠ w.heap.size + 1) from setTy_in hzin ⟨hS'.out g (by have := hs4.out; omega), by have := hs4.out; omega⟩)
    rw [show (setTy z g).val = .agg #[.int .u8 5, .string ⟨#[]⟩, .slice (some ⟨g, 0, none⟩) 1 1, .slice none 0 0] from rfl]
    have her := hid (show er (setTy z g) = RR by rw [er_setTy, hz, hR.out, hpt.out])
    clear hok5 q3 hsc R4 b4 hz hzin hg hzok'
    have hK := hid (blk_st4 R5.out (.int .u8 5) (.string ⟨#[]⟩) (.slice (some ⟨g, 0, none⟩) 1 1) (.slice none 0 0))
    have hBw := hid (below_st4 b5.out (g := w.heap.size + 1) (Nat.le_succ _) (.int .u8 5) (.string ⟨#[]⟩) (.slice (some ⟨g, 0, none⟩) 1 1) (.slice none 0 0))
    have hkp := hid (fun b (hb : b ≠ w.heap.size + 1) => heap_st4 w5 (w.heap.size + 1) (.int .u8 5) (.string ⟨#[]⟩) (.slice (some ⟨g, 0, none⟩) 1 1) (.slice none 0 0) hb)
    obtain ⟨d0, d1, d2, d3, df⟩ := four' R5.out
    go_wp2_with fail
    obtain ⟨q0, q1, q2, q3, qf⟩ := four' hK.out
    exact bodyPost_ret (v := .agg #[.int .u8 5, .string ⟨#[]⟩, .slice (some ⟨g, 0, none⟩) 1 1, .slice none 0 0]) (by unfold st4 at q0 q1 q2 q3; simp [results, Tryz.results16, go_sem, q0, q1, q2, q3]) rfl ⟨⟨setTy z g, rfl, her.out, hok5'.out.keep (fun b hb => hkp.out b hb.2) hin5.out, hin5.out.mono (fun b hb => hb.1)⟩, hBw.out⟩
  · have hR := hid (show RR = PT.rcd x.an (PT.trimL (erL x.att)) by rw [hres.out, if_neg (by have := hkk.out; omega), if_neg (by have := hkk.out; omega), if_pos (by have := hkk.out; omega)])
    obtain ⟨att, hatt⟩ : ∃ att, x.att = att := ⟨_, rfl⟩
    obtain ⟨an, han⟩ : ∃ an, x.an = an := ⟨_, rfl⟩
    rw [hatt, han] at hev hR
    rw [hatt] at ih'
    rw [hatt, han] at hnn'
    rw [hatt] at hn'
    clear hatt han
    have hB0 := hid (show w.heap.size + 2 ≤ X1.heap.size by have := hsz.out; omega)
    obtain ⟨c0, c1, c2, c3, cf⟩ := four' K.out
    go_wp2_with fail
    clear c0 c1 c2 c3 cf K
    have h' := hev
    go_loopw [3, 24] (fun v i wr => ∃ (k : Nat) (ys : List Ty), k ≤ n ∧ i = .int .i64 k ∧ (∃ ao cap, v = .slice ao k cap ∧ Hid (wr.ownsRow (w.heap.size + 2) 53 5 (.slice ao k cap) k (Ty.encA (an.take k) ys)) ∧ Hid (∀ y ∈ ys, y.ok wr ∧ y.inS (fun b => (S b ∧ b ≠ w.heap.size + 1) ∧ (Value.slice ao k cap).ownBlock ≠ some b))) ∧ Hid (erL ys = PT.trimL (erL (att.take k))) ∧ Hid (w.heap.size + 2 ≤ wr.heap.size) ∧ Hid (Below w.heap.size w wr) ∧ Hid (Blk wr (w.heap.size + 1) [.int .u8 0, .string ⟨#[]⟩, .slice none 0 0, .slice none 0 0] 26)) (fun _ i _ => n - (intOf i).toNat)
    case atStart => exact ⟨0, [], by omega, rfl, ⟨none, 0, rfl, hid (World.ownsRow_nil _ _ _ _), hid (fun y hy => by cases hy)⟩, hid rfl, hB0, bw, R⟩
    case round =>
      clear bw hB0 R
      obtain ⟨k, ys, hk, rfl, ⟨ao, cap, rfl, hown, hys⟩, hlk, hB, bw, R⟩ := hrel
      rename_i wr _
      by_cases hkn : k < n
      · have hki : (k : Int) < (n : Int) := by omega
        have hka : k < att.length := by rw [hn'.out]; exact hkn
        have hkm : k < an.length := by rw [hnn'.out, hn'.out]; exact hkn
        have hlen := hid (show ys.length = k by have := congrArg List.length hlk.out; rw [erL_length, PT.trimL_len, erL_length, List.length_take] at this; omega)
        obtain ⟨xb, xo, hxo, f0, f1, f2, f3, f4⟩ := (h'.out.below bw.out).attr k hka hkm
        subst hxo
        have hzok := hid ((h'.out.2.2.1 _ (List.getElem_mem hka)))
        have hrec := hid (ih'.out _ (List.getElem_mem hka))
        have hst := hid (show att.take (k + 1) = att.take k ++ [att[k]] from List.take_succ_eq_append_getElem hka)
        have hsn := hid (show an.take (k + 1) = an.take k ++ [an[k]] from List.take_succ_eq_append_getElem hkm)
        have hanl := hid (show (an.take k).length = ys.length by rw [List.length_take, hlen.out]; omega)
        generalize att[k] = z at f1 f2 f3 f4 hzok hrec hst
        generalize an[k] = nm at f0 hsn
        obtain ⟨zoo, zoc, zao, zac, e1, e2, _, _⟩ := hzok.out.forms
        rw [e1] at f3
        rw [e2] at f4
        have hzv := hid (Ty.val_eq e1 e2)
        clear e1 e2
        go_upto_region 11 with fail
        have K5 := hid (Blk.new wr [.string nm, .int .u8 (z.kind : Nat), .string z.name, .slice zoo z.of.length zoc, .slice zao z.att.length zac] 53)
        have hbX := (Below.refl wr.heap.size wr).alloc (Nat.le_refl _) (.cells #[.string nm, .int .u8 (z.kind : Nat), .string z.name, .slice zoo z.of.length zoc, .slice zao z.att.length zac] 53)
        have hown3 := hid (ownsRow_below hown.out hbX)
        have hb5n := hid (show (Value.slice ao k cap).ownBlock ≠ some wr.heap.size from fun e => by have := (hown.out.lt _ e).2; omega)
        have hys3 := hid (fun y (hy : y ∈ ys) => (show _ ∧ _ from ⟨(hys.out y hy).1.below hbX, (hys.out y hy).2⟩))
        replace hB := hid (Nat.le_trans hB.out hbX.size)
        replace bw := hid (bt bw.out hbX)
        replace R := hid (R.out.alloc (.cells #[.string nm, .int .u8 (z.kind : Nat), .string z.name, .slice zoo z.of.length zoc, .slice zao z.att.length zac] 53))
        clear f0 f1 f2 f3 f4 hown hys hbX
        generalize wr.alloc (.cells #[.string nm, .int .u8 (z.kind : Nat), .string z.name, .slice zoo z.of.length zoc, .slice zao z.att.length zac] 53) = X5 at K5 hown3 hys3 hB bw R ⊢
        generalize wr.heap.size = b5 at K5 hb5n ⊢
        have hcl := hid (show Calls Tryz.prog 16 #[z.val] X5.drew _ from hrec.out X5.drew (fun b => (S b ∧ b ≠ w.heap.size + 1) ∧ (Value.slice ao k cap).ownBlock ≠ some b) ((hzok.out.below bw.out).below (Below.refl _ X5).drew) (fun b hb => ⟨⟨hS'.out b (by have := hB.out; have h2 : X5.heap.size ≤ b := hb; omega), by have := hB.out; have h2 : X5.heap.size ≤ b := hb; omega⟩, fun e => by have := (hown3.out.lt b e).2; have h2 : X5.heap.size ≤ b := hb; omega⟩))
        rw [hzv.out] at hcl
        refine wp_region_held_drew (S := (fun Y => Y.cell? ⟨b5, 0, none⟩ = some (.string nm) ∧ Y.cell? ⟨b5, 1, none⟩ = some (.int .u8 (z.kind : Nat)) ∧ Y.cell? ⟨b5, 2, none⟩ = some (.string z.name) ∧ Y.cell? ⟨b5, 3, none⟩ = some (.slice zoo z.of.length zoc) ∧ Y.cell? ⟨b5, 4, none⟩ = some (.slice zao z.att.length zac))) (by kernel_rfl) (by obtain ⟨s0, s1, s2, s3, s4, -⟩ := five K5.out; exact ⟨s0, s1, s2, s3, s4⟩) (fun hHeld => ?_)
        replace K5 := hid K5.out.drew
        replace hown3 := hid (ownsRow_below hown3.out ((Below.refl X5.heap.size X5).drew))
        replace hys3 := hid (fun y (hy : y ∈ ys) => (show _ ∧ _ from ⟨(hys3.out y hy).1.below ((Below.refl X5.heap.size X5).drew), (hys3.out y hy).2⟩))
        replace hB := hid (show w.heap.size + 2 ≤ X5.drew.heap.size from hB.out)
        replace bw := hid bw.out.drew
        replace R := hid R.out.drew
        generalize X5.drew = X6 at K5 hown3 hys3 hB bw R hcl hHeld ⊢
        refine wpAnyH_take (i := 0) (v := ?_) rfl (by kernel_rfl) (by kernel_rfl) (by kernel_rfl) (fun _ _ _ h => h) (Or.inl ⟨by rfl, ?_⟩) (by assumption) ?_; rotate_left 1; (intro w hSw; (try dsimp only at hSw); go_simp; try with_reducible rfl); (try simp only [Act.put, List.getElem_toArray, List.getElem_cons_zero, List.getElem_cons_succ, List.setIfInBounds_toArray, List.set_cons_zero, List.set_cons_succ])
        refine wpAnyH_take (i := 1) (v := ?_) rfl (by kernel_rfl) (by kernel_rfl) (by kernel_rfl) (fun _ _ _ h => h) (Or.inl ⟨by rfl, ?_⟩) (by assumption) ?_; rotate_left 1; (intro w hSw; (try dsimp only at hSw); go_simp; try with_reducible rfl); (try simp only [Act.put, List.getElem_toArray, List.getElem_cons_zero, List.getElem_cons_succ, List.setIfInBounds_toArray, List.set_cons_zero, List.set_cons_succ])
        refine wpAnyH_take (i := 2) (v := ?_) rfl (by kernel_rfl) (by kernel_rfl) (by kernel_rfl) (fun _ _ _ h => h) (Or.inl ⟨by rfl, ?_⟩) (by assumption) ?_; rotate_left 1; (intro w hSw; (try dsimp only at hSw); go_simp; try with_reducible rfl); (try simp only [Act.put, List.getElem_toArray, List.getElem_cons_zero, List.getElem_cons_succ, List.setIfInBounds_toArray, List.set_cons_zero, List.set_cons_succ])
        refine wpAnyH_take (i := 3) (v := ?_) rfl (by kernel_rfl) (by kernel_rfl) (by kernel_rfl) (fun _ _ _ h => h) (Or.inl ⟨by rfl, ?_⟩) (by assumption) ?_; rotate_left 1; (intro w hSw; (try dsimp only at hSw); go_simp; try with_reducible rfl); (try simp only [Act.put, List.getElem_toArray, List.getElem_cons_zero, List.getElem_cons_succ, List.setIfInBounds_toArray, List.set_cons_zero, List.set_cons_succ])
        refine wpAnyH_take (i := 4) (v := ?_) rfl (by kernel_rfl) (by kernel_rfl) (by kernel_rfl) (fun _ _ _ h => h) (Or.inl ⟨by rfl, ?_⟩) (by assumption) ?_; rotate_left 1; (intro w hSw; (try dsimp only at hSw); go_simp; try with_reducible rfl); (try simp only [Act.put, List.getElem_toArray, List.getElem_cons_zero, List.getElem_cons_succ, List.setIfInBounds_toArray, List.set_cons_zero, List.set_cons_succ])
        refine wpAnyH_ready (rs := [5]) (by kernel_rfl) (by simp) ?_
        refine AllReadyH.cons rfl (fun K hK => ?_) AllReadyH.nil
        go_simp
        (with_reducible refine (hcl.out).mono ?_)
        rintro e w6 ⟨⟨y, rfl, hyl, hyok, hyin⟩, b6⟩
        obtain ⟨yoo, yoc, yao, yac, ey1, ey2, yl1, yl2⟩ := hyok.forms
        have hye := hid (Ty.enc_eq ey1 ey2)
        rw [Ty.val_eq ey1 ey2]
        replace hown3 := hid (ownsRow_below hown3.out b6)
        have hys6 := hid (fun u (hu : u ∈ ys) => (show _ ∧ _ from ⟨(hys3.out u hu).1.below b6, (hys3.out u hu).2⟩))
        replace K5 := hid (K5.out.below b6 K5.out.lt)
        replace hB := hid (Nat.le_trans hB.out b6.size)
        replace bw := hid (bt bw.out b6)
        replace R := hid (R.out.below b6 R.out.lt)
        replace hyl := hid hyl
        replace hyok := hid hyok
        replace hyin := hid hyin
        clear b6 hcl ey1 ey2 hys3
        refine hK.out _ _ (by obtain ⟨s0, s1, s2, s3, s4, -⟩ := five K5.out; exact ⟨s0, s1, s2, s3, s4⟩) (fun hHeldN => ?_)
        clear hK K hHeld
        have hHeld := hHeldN
        clear hHeldN
        (try simp only [Act.put, List.getElem_toArray, List.getElem_cons_zero, List.getElem_cons_succ, List.setIfInBounds_toArray, List.set_cons_zero, List.set_cons_succ])
        refine wpAnyH_take (i := 6) (v := ?_) rfl (by kernel_rfl) (by kernel_rfl) (by kernel_rfl) (fun _ _ _ h => h) (Or.inl ⟨by rfl, ?_⟩) (by assumption) ?_; rotate_left 1; (intro w hSw; (try dsimp only at hSw); go_simp; try with_reducible rfl); (try simp only [Act.put, List.getElem_toArray, List.getElem_cons_zero, List.getElem_cons_succ, List.setIfInBounds_toArray, List.set_cons_zero, List.set_cons_succ])
        refine wpAnyH_ready (rs := [7]) (by kernel_rfl) (by simp) ?_
        refine AllReadyH.cons rfl (fun K hK => ?_) AllReadyH.nil
        go_simp
        have hb7 := (Below.refl w6.heap.size w6).alloc (Nat.le_refl _) (.cells #[.string nm, .int .u8 (y.kind : Nat), .string y.name, .slice yoo y.of.length yoc, .slice yao y.att.length yac] 53)
        have K9 := Blk.new w6 [.string nm, .int .u8 (y.kind : Nat), .string y.name, .slice yoo y.of.length yoc, .slice yao y.att.length yac] 53
        have hown7 := ownsRow_below hown3.out hb7
        have hys7 := hid (fun u (hu : u ∈ ys ++ [y]) => (show u.ok (w6.alloc (.cells #[.string nm, .int .u8 (y.kind : Nat), .string y.name, .slice yoo y.of.length yoc, .slice yao y.att.length yac] 53)) ∧ u.inS (fun b => (fun b => (S b ∧ b ≠ w.heap.size + 1) ∧ (Value.slice ao k cap).ownBlock ≠ some b) b ∧ b < (w6.alloc (.cells #[.string nm, .int .u8 (y.kind : Nat), .string y.name, .slice yoo y.of.length yoc, .slice yao y.att.length yac] 53)).heap.size) from by
          have key : ∀ u : Ty, u.ok w6 → u.inS (fun b => (S b ∧ b ≠ w.heap.size + 1) ∧ (Value.slice ao k cap).ownBlock ≠ some b) → (u.ok (w6.alloc (.cells #[.string nm, .int .u8 (y.kind : Nat), .string y.name, .slice yoo y.of.length yoc, .slice yao y.att.length yac] 53)) ∧ u.inS (fun b => (fun b => (S b ∧ b ≠ w.heap.size + 1) ∧ (Value.slice ao k cap).ownBlock ≠ some b) b ∧ b < (w6.alloc (.cells #[.string nm, .int .u8 (y.kind : Nat), .string y.name, .slice yoo y.of.length yoc, .slice yao y.att.length yac] 53)).heap.size)) := fun u h1 h2 => ⟨h1.below hb7, Ty.inS_and h2 (h1.below hb7).inS⟩
          rcases List.mem_append.1 hu with hu | hu
          · exact key u (hys6.out u hu).1 (hys6.out u hu).2
          · rw [List.mem_singleton] at hu
            subst hu
            exact key u hyok.out hyin.out))
        replace K5 := hid (K5.out.below hb7 K5.out.lt)
        replace hB := hid (Nat.le_trans hB.out hb7.size)
        replace bw := hid (bt bw.out hb7)
        replace R := hid (R.out.below hb7 R.out.lt)
        replace hown7 := hid hown7
        replace K9 := hid K9
        clear hb7 hown3 hys6 hyok hyin
        generalize w6.alloc (.cells #[.string nm, .int .u8 (y.kind : Nat), .string y.name, .slice yoo y.of.length yoc, .slice yao y.att.length yac] 53) = X7 at K5 K9 hown7 hys7 hB bw R ⊢
        generalize w6.heap.size = b9 at K9 ⊢
        refine hK.out _ _ (by obtain ⟨s0, s1, s2, s3, s4, -⟩ := five K5.out; exact ⟨s0, s1, s2, s3, s4⟩) (fun hHeldN => ?_)
        clear hK K hHeld
        have hHeld := hHeldN
        clear hHeldN
        (try simp only [Act.put, List.getElem_toArray, List.getElem_cons_zero, List.getElem_cons_succ, List.setIfInBounds_toArray, List.set_cons_zero, List.set_cons_succ])
        refine wpAnyH_ready (rs := [8]) (by kernel_rfl) (by simp) ?_
        refine AllReadyH.cons rfl (fun K hK => ?_) AllReadyH.nil
        obtain ⟨v', w8, hrun, ho, hg, hp⟩ := run_append_place (P := Tryz.prog) X7 (w.heap.size + 2) 24 24 53 ic zc 5 88 Tryz.underlying24 hi hz0 hz1 hz2 hz3 (by decide)
          (.slice ao k cap) k (Ty.encA (an.take k) ys) hown7.out ⟨b9, 0, none⟩ 1 1 [.string nm, .int .u8 (y.kind : Nat), .string y.name, .slice yoo y.of.length yoc, .slice yao y.att.length yac] rfl
          (getElem?_cells' (fun j hj => by rw [Mem.add_plain, Nat.zero_add]; exact K9.out.cell j hj)) (by simp [Value.oneCell']) (by unfold maxLen; omega) (by omega) hB.out
        have hrun2 := hrun
        clear hrun
        refine step_append_run rfl (.tmp 28) (.tmp 35) 24 rfl _ _ _ _ rfl rfl hrun2 ?_
        have hgr := hid hg
        have hb8 := hid (bw.out.grown hg (by have := bw.out.size; omega) (fun k hk => by have := (hown7.out.lt k hk).1; omega))
        have K5f := hid (show Blk w8 b5 _ _ from ⟨(hg.block b5 (by have := K5.out.lt; omega) (fun e => hb5n.out e.symm)).trans K5.out.at'⟩)
        have hBf := hid (Nat.le_trans hB.out hg.size)
        have Rf := hid (show Blk w8 (w.heap.size + 1) _ _ from ⟨(hg.block (w.heap.size + 1) (by have := R.out.lt; omega) (fun e => by have := (hown7.out.lt _ e.symm).1; omega)).trans R.out.at'⟩)
        obtain ⟨ao', cap', hv', _, _⟩ := ownsRow_form ho
        subst hv'
        have hrow8 := hid (show w8.ownsRow (w.heap.size + 2) 53 5 (.slice ao' (k + 1) cap') (k + 1) (Ty.encA (an.take (k + 1)) (ys ++ [y])) from by
          rw [hsn.out, Ty.encA_snoc _ _ _ _ hanl.out]
          unfold Ty.encP
          rw [hye.out]
          exact ho)
        have hysf := hid (show ∀ u ∈ ys ++ [y], u.ok w8 ∧ u.inS (fun b => (S b ∧ b ≠ w.heap.size + 1) ∧ (Value.slice ao' (k + 1) cap').ownBlock ≠ some b) from fun u hu => by
          obtain ⟨h1, h2⟩ := hys7.out u hu
          refine ⟨h1.keep (fun b hb => hgr.out.block b hb.2 (fun e => hb.1.2 e.symm)) h2, h2.mono (fun b hb => ⟨hb.1.1, fun e => ?_⟩)⟩
          rcases hp with hp | ⟨g2, hp, hge⟩
          · exact hb.1.2 (hp.symm.trans e)
          · have h3 : g2 = b := Option.some.inj (hp.symm.trans e)
            have := hb.2
            omega)
        have hlkf := hid (show erL (ys ++ [y]) = PT.trimL (erL (att.take (k + 1))) by rw [hst.out, erL_snoc, erL_snoc, trimL_snoc, hlk.out, hyl.out])
        replace K5 := K5f
        replace R := Rf
        clear hg hp ho hown7 hys7 K9 bw hgr hyl hst hlk hye hrun2 hB K5f Rf hsn hanl hlen
        refine hK.out _ _ (by obtain ⟨s0, s1, s2, s3, s4, -⟩ := five K5.out; exact ⟨s0, s1, s2, s3, s4⟩) (fun hHeldN => ?_)
        clear hK K hHeld
        have hHeld := hHeldN
        clear hHeldN
        (try simp only [Act.put, List.getElem_toArray, List.getElem_cons_zero, List.getElem_cons_succ, List.setIfInBounds_toArray, List.set_cons_zero, List.set_cons_succ])
        refine wpAnyH_take (i := 9) (v := ?_) rfl (by kernel_rfl) (by kernel_rfl) (by kernel_rfl) (fun _ _ _ h => h) (Or.inl ⟨by rfl, ?_⟩) (by assumption) ?_; rotate_left 1; (intro w hSw; (try dsimp only at hSw); go_simp; try with_reducible rfl); (try simp only [Act.put, List.getElem_toArray, List.getElem_cons_zero, List.getElem_cons_succ, List.setIfInBounds_toArray, List.set_cons_zero, List.set_cons_succ])
        refine wpAnyH_done (by kernel_rfl) ?_ _
        clear hHeld
        go_wp2_with fail
        go_roundw
        case rel => exact ⟨k + 1, ys ++ [y], by omega, by go_num, ⟨ao', cap', rfl, hrow8, hysf⟩, hlkf, hBf, hb8, R⟩
        case measure => simp [intOf]; omega
      · have hki : ¬ (k : Int) < (n : Int) := by omega
        obtain rfl : k = n := by omega
        have hlk2 := hid (show erL ys = PT.trimL (erL att) by have := hlk.out; rwa [List.take_of_length_le (by rw [hn'.out]; exact Nat.le_refl _)] at this)
        have hlen := hid (show ys.length = k by have := congrArg List.length hlk2.out; rw [erL_length, PT.trimL_len, erL_length, hn'.out] at this; exact this)
        have hav := hid (show AttrsV wr (.slice ao k cap) an ys from ⟨by rw [hnn'.out, hlen.out, hn'.out], by
          have := SlV.own hown.out
          rw [List.take_of_length_le (by rw [hnn'.out, hn'.out]; exact Nat.le_refl _)] at this
          rw [hlen.out]
          exact this, fun y hy => (hys.out y hy).1, h'.out.2.2.2⟩)
        have hain := hid (show SlIn (fun b => S b ∧ b ≠ w.heap.size + 1) (.slice ao k cap) ys.length from by
          rw [hlen.out]
          exact sl_sub (own_in hown.out) (fun b hb => ⟨hS'.out b (by have := hb.1; omega), by have := hb.1; omega⟩))
        have hyin := hid (fun y (hy : y ∈ ys) => (hys.out y hy).2.mono (fun b hb => hb.1))
        clear hown hys hlk
        go_wp2_with fail
        refine (recordOf_any ao k cap wr).mono ?_
        rintro e w5 ⟨rfl, q3⟩
        have R5 := hid (R.out.below q3 R.out.lt)
        have b5 := hid (bw.out.trans (q3.mono bw.out.size))
        have hok5 := hid (show (rcdTy an ys (.slice ao k cap)).ok w5 from rcdTy_ok (hav.out.below q3))
        have hin5 := hid (show (rcdTy an ys (.slice ao k cap)).inS (fun b => S b ∧ b ≠ w.heap.size + 1) from rcdTy_in hain.out hyin.out)
        have her := hid (show er (rcdTy an ys (.slice ao k cap)) = RR by rw [er_rcdTy, hlk2.out, hR.out])
        clear q3 hav hain hyin hlk2 R bw
        have hK := hid (blk_st4 R5.out (.int .u8 6) (.string ⟨#[]⟩) (.slice none 0 0) (.slice ao k cap))
        have hBw := hid (below_st4 b5.out (g := w.heap.size + 1) (Nat.le_succ _) (.int .u8 6) (.string ⟨#[]⟩) (.slice none 0 0) (.slice ao k cap))
        have hkp := hid (fun b (hb : b ≠ w.heap.size + 1) => heap_st4 w5 (w.heap.size + 1) (.int .u8 6) (.string ⟨#[]⟩) (.slice none 0 0) (.slice ao k cap) hb)
        obtain ⟨d0, d1, d2, d3, df⟩ := four' R5.out
        go_wp2_with fail
        obtain ⟨q0, q1, q2, q3, qf⟩ := four' hK.out
        exact bodyPost_ret (v := .agg #[.int .u8 6, .string ⟨#[]⟩, .slice none 0 0, .slice ao k cap]) (by unfold st4 at q0 q1 q2 q3; simp [results, Tryz.results16, go_sem, q0, q1, q2, q3]) rfl ⟨⟨rcdTy an ys (.slice ao k cap), rfl, her.out, hok5.out.keep (fun b hb => hkp.out b hb.2) hin5.out, hin5.out.mono (fun b hb => hb.1)⟩, hBw.out⟩
  · have hR := hid (show RR = PT.bare x.kind by rw [hres.out, if_neg (by have := hkk.out; omega), if_neg (by have := hkk.out; omega), if_neg (by have := hkk.out; omega)])
    obtain ⟨c0, c1, c2, c3, cf⟩ := four' K.out
    clear K hev
    have hK := hid (blk_st4 R.out (.int .u8 kk) (.string ⟨#[]⟩) (.slice none 0 0) (.slice none 0 0))
    have hBw := hid (below_st4 bw.out (g := w.heap.size + 1) (Nat.le_succ _) (.int .u8 kk) (.string ⟨#[]⟩) (.slice none 0 0) (.slice none 0 0))
    have hkp := hid (fun b (hb : b ≠ w.heap.size + 1) => heap_st4 X1 (w.heap.size + 1) (.int .u8 kk) (.string ⟨#[]⟩) (.slice none 0 0) (.slice none 0 0) hb)
    obtain ⟨d0, d1, d2, d3, df⟩ := four' R.out
    go_wp2_with fail
    obtain ⟨q0, q1, q2, q3, qf⟩ := four' hK.out
    exact bodyPost_ret (v := .agg #[.int .u8 kk, .string ⟨#[]⟩, .slice none 0 0, .slice none 0 0]) (by unfold st4 at q0 q1 q2 q3; simp [results, Tryz.results16, go_sem, q0, q1, q2, q3]) rfl ⟨⟨leaf x.kind ⟨#[]⟩, by show _ = Ending.returned (.agg #[.int .u8 ((x.kind : Nat) : Int), .string ⟨#[]⟩, .slice none 0 0, .slice none 0 0]); rw [hkk.out], by rw [er_leaf, hR.out]; rfl, leaf_ok _ _ _ hk256.out (by decide), leaf_in _ _ _⟩, hBw.out⟩
theorem trim_any (x : Ty) (hs : PT.small (er x)) : Trim x := by
  suffices g : ∀ n (x : Ty), x.size ≤ n → PT.small (er x) → Trim x from g x.size x (Nat.le_refl _) hs
  intro n
  induction n with
  | zero => intro x hx; have := x.size_pos; omega
  | succ n ihn =>
    intro x hx hf
    obtain ⟨f2, f3, f4⟩ := PT.small_iff.1 hf
    rw [er_att, erL_length] at f2
    have h0 : Trim (leaf 0 ⟨#[]⟩) := trim_step _ (fun h => by cases h) (fun h => by cases h) (fun z hz => by cases hz) (by show 0 * 88 ≤ _; decide)
    have mem : ∀ (l : List Ty) (z : Ty), z ∈ l → er z ∈ erL l := fun l z hz => by rw [erL_map]; exact List.mem_map_of_mem hz
    exact trim_step x (fun _ y l hl => ihn y (by have := Ty.size_of (x := x) (y := y) (by rw [hl]; simp); omega) (f3 _ (by rw [er_of]; exact mem _ _ (by rw [hl]; simp)))) (fun _ => h0) (fun z hz => ihn z (by have := Ty.size_att hz; omega) (f4 _ (by rw [er_att]; exact mem _ _ hz))) f2
end Go.Proofs.YtklclfolmfhocaaGreatDoor.Tyt
