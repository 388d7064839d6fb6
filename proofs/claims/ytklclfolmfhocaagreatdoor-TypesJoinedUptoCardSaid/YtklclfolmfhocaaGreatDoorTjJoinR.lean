/-
  types.joinRecords: contract. Written by wip/tjgen.py.
-/
import Derived.Test.YtklclfolmfhocaaGreatDoorTjTrim
import Derived.Deep.RegionHeld3
import Derived.Deep.RegionWith
import Derived.BigQuiet
namespace Go.Proofs.YtklclfolmfhocaaGreatDoor.Tyt
open Go.ChangeShapes Go.WideShapes Go.ChangeAt Go.RowKit
open Go.Proofs.YtklclfolmfhocaaGreatDoor.Mem
set_option linter.unusedVariables false
set_option linter.unusedSimpArgs false
set_option maxRecDepth 100000
namespace PT
theorem JL_some (l : List PT) : ∀ (an bn : List ByteArray) (m r : List PT), an = bn → an.length = l.length → m.length = l.length → r.length = l.length →
    (∀ (i : Nat) (x y p : PT), l[i]? = some x → m[i]? = some y → r[i]? = some p → J x y = some p) → JL l an bn m = some r := by
  induction l with
  | nil =>
    intro an bn m r h1 h2 h3 h4 _
    obtain rfl := List.eq_nil_of_length_eq_zero h2
    obtain rfl := List.eq_nil_of_length_eq_zero h3
    obtain rfl := List.eq_nil_of_length_eq_zero h4
    subst h1
    rfl
  | cons x l ih =>
    intro an bn m r h1 h2 h3 h4 h5
    subst h1
    match an, h2, m, h3, r, h4 with
    | s :: an, h2, y :: m, h3, p :: r, h4 =>
      rw [JL, if_pos rfl, h5 0 x y p rfl rfl rfl, ih an an m r rfl (by simpa using h2) (by simpa using h3) (by simpa using h4) (fun i x' y' p' q1 q2 q3 => h5 (i + 1) x' y' p' (by simpa using q1) (by simpa using q2) (by simpa using q3))]
      rfl
theorem JL_inv (l : List PT) : ∀ (an bn : List ByteArray) (m r : List PT), JL l an bn m = some r → m.length = l.length ∧ ∀ (i : Nat) (x y : PT), l[i]? = some x → m[i]? = some y → ∃ p, J x y = some p := by
  induction l with
  | nil =>
    intro an bn m r h
    cases an <;> cases bn <;> cases m <;> simp [JL] at h
    exact ⟨rfl, fun i x y h => by simp at h⟩
  | cons x l ih =>
    intro an bn m r h
    cases an with
    | nil => cases bn <;> cases m <;> simp [JL] at h
    | cons s an =>
      cases bn with
      | nil => cases m <;> simp [JL] at h
      | cons t bn =>
        cases m with
        | nil => simp [JL] at h
        | cons y m =>
          rw [JL] at h
          by_cases hst : s = t
          · rw [if_pos hst] at h
            cases hj : J x y with
            | none => rw [hj] at h; simp at h
            | some p =>
              rw [hj] at h
              cases hl : JL l an bn m with
              | none => rw [hl] at h; simp at h
              | some q =>
                obtain ⟨q1, q2⟩ := ih an bn m q hl
                refine ⟨by simp [q1], fun i x' y' h1 h2 => ?_⟩
                cases i with
                | zero => simp at h1 h2; subst h1 h2; exact ⟨p, hj⟩
                | succ i => exact q2 i x' y' (by simpa using h1) (by simpa using h2)
          · rw [if_neg hst] at h; cases h
theorem JL_none {l m : List PT} {an bn : List ByteArray} (h : ∀ r, JL l an bn m ≠ some r) : JL l an bn m = none := by
  cases hj : JL l an bn m with
  | none => rfl
  | some r => exact absurd hj (h r)
end PT
theorem ownsRow_at' {w w' : World} {base : Nat} {e : TypeId} {size : Nat} {v : Value} {n : Nat} {xs : List Value} (h : w.ownsRow base e size v n xs) (hk : ∀ g, v.ownBlock = some g → w'.heap[g]? = w.heap[g]?) : w'.ownsRow base e size v n xs := by
  refine ⟨h.1, ?_⟩
  rcases h.2 with h2 | ⟨g, cap, cur, hv, hg, hh, r⟩
  · exact .inl h2
  · exact .inr ⟨g, cap, cur, hv, hg, (hk g (by rw [hv]; rfl)).trans hh, r⟩
theorem below_dr (w : World) (n : Nat) : Below w.heap.size w (w.drewN n) := let h := Below.refl w.heap.size w; ⟨h.os, h.tape, h.output, h.size, h.block⟩
/-- what Join answers -/
def JB (S : Nat → Prop) (o : Option PT) (e : Ending) (w' : World) : Prop := ∃ (y : Ty) (z : Int), e = .returned (.tuple #[y.val, .int .i64 z]) ∧ y.ok w' ∧ y.inS S ∧ (o = some (er y) ∧ z = 0 ∨ o = none ∧ z = 7 ∧ y = leaf 0 ⟨#[]⟩)
def Jn (a b : Ty) : Prop := ∀ (w : World) (S : Nat → Prop), a.ok w → b.ok w → (∀ k, w.heap.size ≤ k → S k) → Calls Tryz.prog 7 #[a.val, b.val] w fun e w' => JB S (PT.J (er a) (er b)) e w' ∧ Below w.heap.size w w'
set_option maxHeartbeats 16000000 in
theorem joinrec_step (an bn : List ByteArray) (att btt : List Ty) (ih : ∀ (i : Nat) (h1 : i < att.length) (h2 : i < btt.length), Jn att[i] btt[i]) (hb : att.length * 88 ≤ 140737488355328)
    (w : World) (S : Nat → Prop) (av bv : Value) (h : AttrsV w av an att) (g : AttrsV w bv bn btt) (hS : ∀ b, w.heap.size ≤ b → S b) :
    Calls Tryz.prog 20 #[av, bv] w fun e w' => JB S ((PT.JL (erL att) an bn (erL btt)).map (PT.rcd an)) e w' ∧ Below w.heap.size w w' := by
  obtain ⟨ic, zc, hi, hz0, hz1, hz2, hz3⟩ := info_attr
  obtain ⟨so, sc, rfl, l1⟩ := h.form
  obtain ⟨tp, tc, rfl, l2⟩ := g.form
  have hnn := h.1
  have gnn := g.1
  obtain ⟨n, hn⟩ : ∃ n, att.length = n := ⟨_, rfl⟩
  obtain ⟨m, hm⟩ : ∃ m, btt.length = m := ⟨_, rfl⟩
  rw [hn] at l1 hb h ⊢
  rw [hm] at l2 g ⊢
  have i1 : (n : Int) ≤ 9223372036854775807 := by omega
  have i2 : (m : Int) ≤ 9223372036854775807 := by omega
  have h' := hid h
  have g' := hid g
  have hn' := hid hn
  have hm' := hid hm
  have hnn' := hid hnn
  have gnn' := hid gnn
  have ih' := hid ih
  have hS' := hid hS
  have bw0 := hid (Below.refl w.heap.size w)
  obtain ⟨JJ, hJJ⟩ : ∃ JJ, PT.JL (erL att) an bn (erL btt) = JJ := ⟨_, rfl⟩
  rw [hJJ]
  replace hJJ := hid hJJ
  clear h g hn hm ih hS hnn gnn l1 l2
  go_enter Tryz.func20, Tryz.ntmps20
  go_upto_region 1 with fail
  have R := hid (Blk.new w [.int .u8 0, .string ⟨#[]⟩, .slice none 0 0, .slice none 0 0] 26)
  have bw := hid (bw0.out.alloc (Nat.le_refl _) (.cells #[.int .u8 0, .string ⟨#[]⟩, .slice none 0 0, .slice none 0 0] 26))
  have hB0 := hid (show w.heap.size + 1 ≤ (w.alloc (.cells #[.int .u8 0, .string ⟨#[]⟩, .slice none 0 0, .slice none 0 0] 26)).heap.size by simp)
  clear bw0
  generalize w.alloc (.cells #[.int .u8 0, .string ⟨#[]⟩, .slice none 0 0, .slice none 0 0] 26) = X1 at R bw hB0 ⊢
  obtain ⟨rb, hrb⟩ : ∃ rb, w.heap.size = rb := ⟨_, rfl⟩
  have hrbe := hid hrb
  rw [hrb] at R hB0 ⊢
  clear hrb
  by_cases hnm : n = m
  case neg =>
    have hnmi : ¬ (n : Int) = (m : Int) := by omega
    have hJn := hid (show JJ = none by
      rw [← hJJ.out]
      refine PT.JL_none (fun r hr => hnm ?_)
      have := (PT.JL_inv _ _ _ _ _ hr).1
      rw [erL_length, erL_length, hn'.out, hm'.out] at this
      exact this.symm)
    have hneq : ((n : Int) != (m : Int)) = true := by simpa using hnmi
    clear hnm
    have hK := hid (blk_st4 R.out (.int .u8 0) (.string ⟨#[]⟩) (.slice none 0 0) (.slice none 0 0))
    have hBw := hid (below_st4 bw.out (g := rb) (by have := hrbe.out; omega) (.int .u8 0) (.string ⟨#[]⟩) (.slice none 0 0) (.slice none 0 0))
    have hkp := hid (fun b (hb : b ≠ rb) => heap_st4 X1 (rb) (.int .u8 0) (.string ⟨#[]⟩) (.slice none 0 0) (.slice none 0 0) hb)
    obtain ⟨d0, d1, d2, d3, df⟩ := four' R.out
    go_wp2_with fail
    obtain ⟨q0, q1, q2, q3, qf⟩ := four' hK.out
    exact bodyPost_ret (v := .tuple #[.agg #[.int .u8 0, .string ⟨#[]⟩, .slice none 0 0, .slice none 0 0], .int .i64 7]) (by unfold st4 at q0 q1 q2 q3; simp [results, Tryz.results20, go_sem, q0, q1, q2, q3]) rfl ⟨⟨leaf 0 ⟨#[]⟩, 7, rfl, leaf_ok _ _ _ (by decide) (by decide), leaf_in _ _ _, .inr ⟨by rw [hJn.out]; rfl, rfl, rfl⟩⟩, hBw.out⟩
  subst hnm
  have hB1 := hid (show w.heap.size ≤ rb by have := hrbe.out; omega)
  go_wp2_with fail
  go_loopw [6, 18] (fun v i wr => ∃ (k : Nat) (ys : List Ty), k ≤ n ∧ i = .int .i64 k ∧ (∃ ao cap, v = .slice ao k cap ∧ Hid (wr.ownsRow (rb + 1) 53 5 (.slice ao k cap) k (Ty.encA (an.take k) ys)) ∧ Hid (∀ y ∈ ys, y.ok wr ∧ y.inS (fun b => (S b ∧ b ≠ rb) ∧ (Value.slice ao k cap).ownBlock ≠ some b))) ∧ Hid (ys.length = k ∧ ∀ (i : Nat) (s t : ByteArray) (x y z : Ty), i < k → an[i]? = some s → bn[i]? = some t → att[i]? = some x → btt[i]? = some y → ys[i]? = some z → s = t ∧ PT.J (er x) (er y) = some (er z)) ∧ Hid (rb + 1 ≤ wr.heap.size) ∧ Hid (Below w.heap.size w wr) ∧ Hid (Blk wr rb [.int .u8 0, .string ⟨#[]⟩, .slice none 0 0, .slice none 0 0] 26)) (fun _ i _ => n - (intOf i).toNat)
  case atStart => exact ⟨0, [], by omega, rfl, ⟨none, 0, rfl, hid (World.ownsRow_nil _ _ _ _), hid (fun y hy => by cases hy)⟩, hid ⟨rfl, fun i s t x y z hi => by omega⟩, hB0, bw, R⟩
  case round =>
    clear bw hB0 R
    obtain ⟨k, ys, hk, rfl, ⟨ao, cap, rfl, hown, hys⟩, hlk, hB, bw, R⟩ := hrel
    rename_i wr _
    by_cases hkn : k < n
    · have hki : (k : Int) < (n : Int) := by omega
      have hk0 : (0 : Int) ≤ (k : Int) := by omega
      have hka : k < att.length := by rw [hn'.out]; exact hkn
      have hkb : k < btt.length := by rw [hm'.out]; exact hkn
      have hkm : k < an.length := by rw [hnn'.out, hn'.out]; exact hkn
      have hkq : k < bn.length := by rw [gnn'.out, hm'.out]; exact hkn
      obtain ⟨xb, xo, hxo, _⟩ := h'.out.attr k hka hkm
      obtain ⟨ub, uo, huo, _⟩ := g'.out.attr k hkb hkq
      subst hxo
      subst huo
      have hzok := hid (h'.out.2.2.1 _ (List.getElem_mem hka))
      have huok := hid (g'.out.2.2.1 _ (List.getElem_mem hkb))
      obtain ⟨zoo, zoc, zao, zac, e1, e2, _, _⟩ := hzok.out.forms
      obtain ⟨uoo, uoc, uao, uac, g1, g2, _, _⟩ := huok.out.forms
      have hfa := hid (show ∀ W, Below w.heap.size w W → W.cell? ⟨xb, xo + k * 5, none⟩ = some (.string an[k]) ∧ W.cell? ⟨xb, xo + k * 5 + 1, none⟩ = some (.int .u8 (att[k].kind : Nat)) ∧ W.cell? ⟨xb, xo + k * 5 + 2, none⟩ = some (.string att[k].name) ∧ W.cell? ⟨xb, xo + k * 5 + 3, none⟩ = some (.slice zoo att[k].of.length zoc) ∧ W.cell? ⟨xb, xo + k * 5 + 4, none⟩ = some (.slice zao att[k].att.length zac) from fun W B => by
        obtain ⟨b', o', e, q0, q1, q2, q3, q4⟩ := (h'.out.below B).attr k hka hkm
        simp only [Option.some.injEq, Addr.mk.injEq, and_true] at e
        obtain ⟨rfl, rfl⟩ := e
        rw [e1] at q3
        rw [e2] at q4
        exact ⟨q0, q1, q2, q3, q4⟩)
      have hfb := hid (show ∀ W, Below w.heap.size w W → W.cell? ⟨ub, uo + k * 5, none⟩ = some (.string bn[k]) ∧ W.cell? ⟨ub, uo + k * 5 + 1, none⟩ = some (.int .u8 (btt[k].kind : Nat)) ∧ W.cell? ⟨ub, uo + k * 5 + 2, none⟩ = some (.string btt[k].name) ∧ W.cell? ⟨ub, uo + k * 5 + 3, none⟩ = some (.slice uoo btt[k].of.length uoc) ∧ W.cell? ⟨ub, uo + k * 5 + 4, none⟩ = some (.slice uao btt[k].att.length uac) from fun W B => by
        obtain ⟨b', o', e, q0, q1, q2, q3, q4⟩ := (g'.out.below B).attr k hkb hkq
        simp only [Option.some.injEq, Addr.mk.injEq, and_true] at e
        obtain ⟨rfl, rfl⟩ := e
        rw [g1] at q3
        rw [g2] at q4
        exact ⟨q0, q1, q2, q3, q4⟩)
      have hrec := hid (show ∀ (W : World) (S' : Nat → Prop), Below w.heap.size w W → (∀ b, W.heap.size ≤ b → S' b) → Calls Tryz.prog 7 #[.agg #[.int .u8 (att[k].kind : Nat), .string att[k].name, .slice zoo att[k].of.length zoc, .slice zao att[k].att.length zac], .agg #[.int .u8 (btt[k].kind : Nat), .string btt[k].name, .slice uoo btt[k].of.length uoc, .slice uao btt[k].att.length uac]] W fun e w' => JB S' (PT.J (er att[k]) (er btt[k])) e w' ∧ Below W.heap.size W w' from fun W S' B hS2 => by
        have := ih'.out k hka hkb W S' (hzok.out.below B) (huok.out.below B) hS2
        rw [Ty.val_eq e1 e2, Ty.val_eq g1 g2] at this
        exact this)
      clear e1 e2 g1 g2
      have ea := hid (List.getElem?_eq_getElem hka)
      have eb := hid (List.getElem?_eq_getElem hkb)
      have en := hid (List.getElem?_eq_getElem hkm)
      have em := hid (List.getElem?_eq_getElem hkq)
      have hsn := hid (show an.take (k + 1) = an.take k ++ [an[k]] from List.take_succ_eq_append_getElem hkm)
      have hanl := hid (show (an.take k).length = ys.length by rw [List.length_take, hlk.out.1]; omega)
      generalize att[k] = z at hfa hrec ea hzok
      generalize btt[k] = u at hfb hrec eb huok
      generalize an[k] = nm at hfa en hsn
      generalize bn[k] = nm2 at hfb em
      clear hzok huok
      go_wp2_with fail
      refine wp_region_held_drew (S := (fun Y => Y.cell? ⟨xb, xo + k * 5 + 1, none⟩ = some (.int .u8 (z.kind : Nat)) ∧ Y.cell? ⟨xb, xo + k * 5 + 2, none⟩ = some (.string z.name) ∧ Y.cell? ⟨xb, xo + k * 5 + 3, none⟩ = some (.slice zoo z.of.length zoc) ∧ Y.cell? ⟨xb, xo + k * 5 + 4, none⟩ = some (.slice zao z.att.length zac) ∧ Y.cell? ⟨ub, uo + k * 5 + 1, none⟩ = some (.int .u8 (u.kind : Nat)) ∧ Y.cell? ⟨ub, uo + k * 5 + 2, none⟩ = some (.string u.name) ∧ Y.cell? ⟨ub, uo + k * 5 + 3, none⟩ = some (.slice uoo u.of.length uoc) ∧ Y.cell? ⟨ub, uo + k * 5 + 4, none⟩ = some (.slice uao u.att.length uac))) (by kernel_rfl) (by obtain ⟨-, s1, s2, s3, s4⟩ := hfa.out _ bw.out.drew; obtain ⟨-, u1, u2, u3, u4⟩ := hfb.out _ bw.out.drew; exact ⟨s1, s2, s3, s4, u1, u2, u3, u4⟩) (fun hHeld => ?_)
      replace hown := hid (ownsRow_below hown.out ((Below.refl wr.heap.size wr).drew))
      replace hys := hid (fun y (hy : y ∈ ys) => (show _ ∧ _ from ⟨(hys.out y hy).1.below ((Below.refl wr.heap.size wr).drew), (hys.out y hy).2⟩))
      replace hB := hid (show rb + 1 ≤ wr.drew.heap.size from hB.out)
      replace bw := hid bw.out.drew
      replace R := hid R.out.drew
      generalize wr.drew = Wc at hown hys hB bw R hHeld ⊢
      refine wpAnyH_take (i := 0) (v := ?_) rfl (by kernel_rfl) (by kernel_rfl) (by kernel_rfl) (fun _ _ _ h => h) (Or.inl ⟨by rfl, ?_⟩) (by assumption) ?_; rotate_left 1; (intro w hSw; (try dsimp only at hSw); go_simp; try with_reducible rfl); (try simp only [Act.put, List.getElem_toArray, List.getElem_cons_zero, List.getElem_cons_succ, List.setIfInBounds_toArray, List.set_cons_zero, List.set_cons_succ])
      refine wpAnyH_take (i := 1) (v := ?_) rfl (by kernel_rfl) (by kernel_rfl) (by kernel_rfl) (fun _ _ _ h => h) (Or.inl ⟨by rfl, ?_⟩) (by assumption) ?_; rotate_left 1; (intro w hSw; (try dsimp only at hSw); go_simp; try with_reducible rfl); (try simp only [Act.put, List.getElem_toArray, List.getElem_cons_zero, List.getElem_cons_succ, List.setIfInBounds_toArray, List.set_cons_zero, List.set_cons_succ])
      refine wpAnyH_take (i := 2) (v := ?_) rfl (by kernel_rfl) (by kernel_rfl) (by kernel_rfl) (fun _ _ _ h => h) (Or.inl ⟨by rfl, ?_⟩) (by assumption) ?_; rotate_left 1; (intro w hSw; (try dsimp only at hSw); go_simp; try with_reducible rfl); (try simp only [Act.put, List.getElem_toArray, List.getElem_cons_zero, List.getElem_cons_succ, List.setIfInBounds_toArray, List.set_cons_zero, List.set_cons_succ])
      refine wpAnyH_take (i := 3) (v := ?_) rfl (by kernel_rfl) (by kernel_rfl) (by kernel_rfl) (fun _ _ _ h => h) (Or.inl ⟨by rfl, ?_⟩) (by assumption) ?_; rotate_left 1; (intro w hSw; (try dsimp only at hSw); go_simp; try with_reducible rfl); (try simp only [Act.put, List.getElem_toArray, List.getElem_cons_zero, List.getElem_cons_succ, List.setIfInBounds_toArray, List.set_cons_zero, List.set_cons_succ])
      refine wpAnyH_take (i := 4) (v := ?_) rfl (by kernel_rfl) (by kernel_rfl) (by kernel_rfl) (fun _ _ _ h => h) (Or.inl ⟨by rfl, ?_⟩) (by assumption) ?_; rotate_left 1; (intro w hSw; (try dsimp only at hSw); go_simp; try with_reducible rfl); (try simp only [Act.put, List.getElem_toArray, List.getElem_cons_zero, List.getElem_cons_succ, List.setIfInBounds_toArray, List.set_cons_zero, List.set_cons_succ])
      refine wpAnyH_take (i := 5) (v := ?_) rfl (by kernel_rfl) (by kernel_rfl) (by kernel_rfl) (fun _ _ _ h => h) (Or.inl ⟨by rfl, ?_⟩) (by assumption) ?_; rotate_left 1; (intro w hSw; (try dsimp only at hSw); go_simp; try with_reducible rfl); (try simp only [Act.put, List.getElem_toArray, List.getElem_cons_zero, List.getElem_cons_succ, List.setIfInBounds_toArray, List.set_cons_zero, List.set_cons_succ])
      refine wpAnyH_take (i := 6) (v := ?_) rfl (by kernel_rfl) (by kernel_rfl) (by kernel_rfl) (fun _ _ _ h => h) (Or.inl ⟨by rfl, ?_⟩) (by assumption) ?_; rotate_left 1; (intro w hSw; (try dsimp only at hSw); go_simp; try with_reducible rfl); (try simp only [Act.put, List.getElem_toArray, List.getElem_cons_zero, List.getElem_cons_succ, List.setIfInBounds_toArray, List.set_cons_zero, List.set_cons_succ])
      refine wpAnyH_take (i := 7) (v := ?_) rfl (by kernel_rfl) (by kernel_rfl) (by kernel_rfl) (fun _ _ _ h => h) (Or.inl ⟨by rfl, ?_⟩) (by assumption) ?_; rotate_left 1; (intro w hSw; (try dsimp only at hSw); go_simp; try with_reducible rfl); (try simp only [Act.put, List.getElem_toArray, List.getElem_cons_zero, List.getElem_cons_succ, List.setIfInBounds_toArray, List.set_cons_zero, List.set_cons_succ])
      refine wpAnyH_take (i := 8) (v := ?_) rfl (by kernel_rfl) (by kernel_rfl) (by kernel_rfl) (fun _ _ _ h => h) (Or.inl ⟨by rfl, ?_⟩) (by assumption) ?_; rotate_left 1; (intro w hSw; (try dsimp only at hSw); go_simp; try with_reducible rfl); (try simp only [Act.put, List.getElem_toArray, List.getElem_cons_zero, List.getElem_cons_succ, List.setIfInBounds_toArray, List.set_cons_zero, List.set_cons_succ])
      refine wpAnyH_take (i := 9) (v := ?_) rfl (by kernel_rfl) (by kernel_rfl) (by kernel_rfl) (fun _ _ _ h => h) (Or.inl ⟨by rfl, ?_⟩) (by assumption) ?_; rotate_left 1; (intro w hSw; (try dsimp only at hSw); go_simp; try with_reducible rfl); (try simp only [Act.put, List.getElem_toArray, List.getElem_cons_zero, List.getElem_cons_succ, List.setIfInBounds_toArray, List.set_cons_zero, List.set_cons_succ])
      refine wpAnyH_ready (rs := [10, 14]) (by kernel_rfl) (by simp) ?_
      refine AllReadyH.cons rfl (fun K hK => ?_) ?_
      · skip
        go_simp
        (with_reducible refine (hrec.out _ (fun b => (S b ∧ b ≠ rb) ∧ (Value.slice ao k cap).ownBlock ≠ some b) bw.out (fun b hb => ⟨⟨hS'.out b (by have := hB.out; have := hB1.out; omega), by have := hB.out; omega⟩, fun e => by have := (hown.out.lt b e).2; omega⟩)).mono ?_)
        rintro e Wc ⟨⟨y, zz, rfl, hyok, hyin, hyz⟩, q9⟩
        obtain ⟨yoo, yoc, yao, yac, ey1, ey2, yl1, yl2⟩ := hyok.forms
        have hye := hid (Ty.enc_eq ey1 ey2)
        rw [Ty.val_eq ey1 ey2]
        replace hown := hid (ownsRow_below hown.out q9)
        replace hys := hid (fun v (hv : v ∈ ys) => (show _ ∧ _ from ⟨(hys.out v hv).1.below q9, (hys.out v hv).2⟩))
        replace R := hid (R.out.below q9 R.out.lt)
        replace hB := hid (Nat.le_trans hB.out q9.size)
        replace bw := hid (bt bw.out q9)
        replace hyok := hid hyok
        replace hyin := hid (show y.inS (fun b => (S b ∧ b ≠ rb) ∧ (Value.slice ao k cap).ownBlock ≠ some b) from hyin)
        replace hyz := hid hyz
        clear q9 ey1 ey2
        have bX := bw
        refine hK.out _ _ (by obtain ⟨-, s1, s2, s3, s4⟩ := hfa.out _ bX.out; obtain ⟨-, u1, u2, u3, u4⟩ := hfb.out _ bX.out; exact ⟨s1, s2, s3, s4, u1, u2, u3, u4⟩) (fun hHeldN => ?_)
        clear hK K hHeld
        have hHeld := hHeldN
        clear hHeldN
        (try simp only [Act.put, List.getElem_toArray, List.getElem_cons_zero, List.getElem_cons_succ, List.setIfInBounds_toArray, List.set_cons_zero, List.set_cons_succ])
        refine wpAnyH_take (i := 11) (v := ?_) rfl (by kernel_rfl) (by kernel_rfl) (by kernel_rfl) (fun _ _ _ h => h) (Or.inl ⟨by rfl, ?_⟩) (by assumption) ?_; rotate_left 1; (intro w hSw; (try dsimp only at hSw); go_simp; try with_reducible rfl); (try simp only [Act.put, List.getElem_toArray, List.getElem_cons_zero, List.getElem_cons_succ, List.setIfInBounds_toArray, List.set_cons_zero, List.set_cons_succ])
        refine wpAnyH_take (i := 12) (v := ?_) rfl (by kernel_rfl) (by kernel_rfl) (by kernel_rfl) (fun _ _ _ h => h) (Or.inl ⟨by rfl, ?_⟩) (by assumption) ?_; rotate_left 1; (intro w hSw; (try dsimp only at hSw); go_simp; try with_reducible rfl); (try simp only [Act.put, List.getElem_toArray, List.getElem_cons_zero, List.getElem_cons_succ, List.setIfInBounds_toArray, List.set_cons_zero, List.set_cons_succ])
        refine wpAnyH_take (i := 13) (v := ?_) rfl (by kernel_rfl) (by kernel_rfl) (by kernel_rfl) (fun _ _ _ h => h) (Or.inl ⟨by rfl, ?_⟩) (by assumption) ?_; rotate_left 1; (intro w hSw; (try dsimp only at hSw); go_simp; try with_reducible rfl); (try simp only [Act.put, List.getElem_toArray, List.getElem_cons_zero, List.getElem_cons_succ, List.setIfInBounds_toArray, List.set_cons_zero, List.set_cons_succ])
        refine wpAnyH_ready (rs := [14]) (by kernel_rfl) (by simp) ?_
        refine AllReadyH.cons rfl (fun K hK => ?_) AllReadyH.nil
        go_simp
        have q9 := (Below.refl Wc.heap.size Wc).alloc (Nat.le_refl _) (.cells #[.int .u8 0, .string ⟨#[]⟩, .slice none 0 0, .slice none 0 0] 26)
        have P8 := hid (Blk.new Wc [.int .u8 0, .string ⟨#[]⟩, .slice none 0 0, .slice none 0 0] 26)
        change Hid (Blk (Wc.alloc (.cells #[.int .u8 0, .string ⟨#[]⟩, .slice none 0 0, .slice none 0 0] 26)) _ _ _) at P8
        have hysp := hid (fun v (hv : v ∈ ys) => (show v.inS (fun b => b ≠ Wc.heap.size) from (hys.out v hv).1.inS.mono (fun b hb => by omega)))
        have hp8 := hid (show rb + 1 ≤ Wc.heap.size ∧ (Value.slice ao k cap).ownBlock ≠ some Wc.heap.size from ⟨hB.out, fun e => by have := (hown.out.lt _ e).2; omega⟩)
        have hyin2 := hid (Ty.inS_and hyin.out hyok.out.inS)
        replace hyok := hid (hyok.out.below q9)
        replace hyin := hid (show y.inS (fun b => (S b ∧ b ≠ rb) ∧ (Value.slice ao k cap).ownBlock ≠ some b ∧ b ≠ Wc.heap.size) from hyin2.out.mono (fun b hb => ⟨hb.1.1, hb.1.2, by have := hb.2; omega⟩))
        clear hyin2
        replace hown := hid (ownsRow_below hown.out q9)
        replace hys := hid (fun v (hv : v ∈ ys) => (show _ ∧ _ from ⟨(hys.out v hv).1.below q9, (hys.out v hv).2⟩))
        replace R := hid (R.out.below q9 R.out.lt)
        replace hB := hid (Nat.le_trans hB.out q9.size)
        replace bw := hid (bt bw.out q9)
        clear q9
        generalize Wc.heap.size = p8 at P8 hp8 hysp hyin ⊢
        generalize Wc.alloc (.cells #[.int .u8 0, .string ⟨#[]⟩, .slice none 0 0, .slice none 0 0] 26) = Wc at hown hys R hB bw P8 hyok ⊢
        have bX := bw
        refine hK.out _ _ (by obtain ⟨-, s1, s2, s3, s4⟩ := hfa.out _ bX.out; obtain ⟨-, u1, u2, u3, u4⟩ := hfb.out _ bX.out; exact ⟨s1, s2, s3, s4, u1, u2, u3, u4⟩) (fun hHeldN => ?_)
        clear hK K hHeld
        have hHeld := hHeldN
        clear hHeldN
        (try simp only [Act.put, List.getElem_toArray, List.getElem_cons_zero, List.getElem_cons_succ, List.setIfInBounds_toArray, List.set_cons_zero, List.set_cons_succ])
        refine wpAnyH_ready (rs := [15]) (by kernel_rfl) (by simp) ?_
        refine AllReadyH.cons rfl (fun K hK => ?_) AllReadyH.nil
        obtain ⟨d0, d1, d2, d3, df⟩ := four' P8.out
        go_simp
        have P8b := hid (show Blk ((((Wc.setCell ⟨p8, 0, none⟩ (.int .u8 (y.kind : Nat))).setCell ⟨p8, 1, none⟩ (.string y.name)).setCell ⟨p8, 2, none⟩ (.slice yoo y.of.length yoc)).setCell ⟨p8, 3, none⟩ (.slice yao y.att.length yac)) p8 [.int .u8 (y.kind : Nat), .string y.name, .slice yoo y.of.length yoc, .slice yao y.att.length yac] _ from blk_st4 P8.out (.int .u8 (y.kind : Nat)) (.string y.name) (.slice yoo y.of.length yoc) (.slice yao y.att.length yac))
        have b9 := hid (show Below w.heap.size w ((((Wc.setCell ⟨p8, 0, none⟩ (.int .u8 (y.kind : Nat))).setCell ⟨p8, 1, none⟩ (.string y.name)).setCell ⟨p8, 2, none⟩ (.slice yoo y.of.length yoc)).setCell ⟨p8, 3, none⟩ (.slice yao y.att.length yac)) from below_st4 bw.out (g := p8) (by have := hp8.out.1; have := hB1.out; omega) (.int .u8 (y.kind : Nat)) (.string y.name) (.slice yoo y.of.length yoc) (.slice yao y.att.length yac))
        have hkp := hid (show ∀ b, b ≠ p8 → ((((Wc.setCell ⟨p8, 0, none⟩ (.int .u8 (y.kind : Nat))).setCell ⟨p8, 1, none⟩ (.string y.name)).setCell ⟨p8, 2, none⟩ (.slice yoo y.of.length yoc)).setCell ⟨p8, 3, none⟩ (.slice yao y.att.length yac)).heap[b]? = Wc.heap[b]? from fun b hb => heap_st4 Wc p8 (.int .u8 (y.kind : Nat)) (.string y.name) (.slice yoo y.of.length yoc) (.slice yao y.att.length yac) hb)
        have hsz := hid (show ((((Wc.setCell ⟨p8, 0, none⟩ (.int .u8 (y.kind : Nat))).setCell ⟨p8, 1, none⟩ (.string y.name)).setCell ⟨p8, 2, none⟩ (.slice yoo y.of.length yoc)).setCell ⟨p8, 3, none⟩ (.slice yao y.att.length yac)).heap.size = Wc.heap.size by simp)
        have own9 := hid (show ((((Wc.setCell ⟨p8, 0, none⟩ (.int .u8 (y.kind : Nat))).setCell ⟨p8, 1, none⟩ (.string y.name)).setCell ⟨p8, 2, none⟩ (.slice yoo y.of.length yoc)).setCell ⟨p8, 3, none⟩ (.slice yao y.att.length yac)).ownsRow (rb + 1) 53 5 (.slice ao k cap) k (Ty.encA (an.take k) ys) from ownsRow_at' hown.out (fun b hb => hkp.out b (fun e => hp8.out.2 (by rw [← e]; exact hb))))
        have ys9 := hid (fun v (hv : v ∈ ys) => (show v.ok ((((Wc.setCell ⟨p8, 0, none⟩ (.int .u8 (y.kind : Nat))).setCell ⟨p8, 1, none⟩ (.string y.name)).setCell ⟨p8, 2, none⟩ (.slice yoo y.of.length yoc)).setCell ⟨p8, 3, none⟩ (.slice yao y.att.length yac)) ∧ v.inS (fun b => (S b ∧ b ≠ rb) ∧ (Value.slice ao k cap).ownBlock ≠ some b) from ⟨(hys.out v hv).1.keep (fun b hb => hkp.out b hb) (hysp.out v hv), (hys.out v hv).2⟩))
        have R9 := hid (show Blk ((((Wc.setCell ⟨p8, 0, none⟩ (.int .u8 (y.kind : Nat))).setCell ⟨p8, 1, none⟩ (.string y.name)).setCell ⟨p8, 2, none⟩ (.slice yoo y.of.length yoc)).setCell ⟨p8, 3, none⟩ (.slice yao y.att.length yac)) rb _ _ from ⟨(hkp.out rb (by have := hp8.out.1; omega)).trans R.out.at'⟩)
        have yok9 := hid (show y.ok ((((Wc.setCell ⟨p8, 0, none⟩ (.int .u8 (y.kind : Nat))).setCell ⟨p8, 1, none⟩ (.string y.name)).setCell ⟨p8, 2, none⟩ (.slice yoo y.of.length yoc)).setCell ⟨p8, 3, none⟩ (.slice yao y.att.length yac)) from hyok.out.keep (fun b hb => hkp.out b hb.2.2) hyin.out)
        have bX := b9
        refine hK.out _ _ (by obtain ⟨-, s1, s2, s3, s4⟩ := hfa.out _ bX.out; obtain ⟨-, u1, u2, u3, u4⟩ := hfb.out _ bX.out; exact ⟨s1, s2, s3, s4, u1, u2, u3, u4⟩) (fun hHeldN => ?_)
        clear hK K hHeld
        have hHeld := hHeldN
        clear hHeldN
        (try simp only [Act.put, List.getElem_toArray, List.getElem_cons_zero, List.getElem_cons_succ, List.setIfInBounds_toArray, List.set_cons_zero, List.set_cons_succ])
        refine wpAnyH_take (i := 16) (v := ?_) rfl (by kernel_rfl) (by kernel_rfl) (by kernel_rfl) (fun _ _ _ h => h) (Or.inl ⟨by rfl, ?_⟩) (by assumption) ?_; rotate_left 1; (intro w hSw; (try dsimp only at hSw); go_simp; try with_reducible rfl); (try simp only [Act.put, List.getElem_toArray, List.getElem_cons_zero, List.getElem_cons_succ, List.setIfInBounds_toArray, List.set_cons_zero, List.set_cons_succ])
        refine wpAnyH_done (by kernel_rfl) ?_ _
        clear hHeld bX df d0 d1 d2 d3
        replace hown := own9
        replace hys := ys9
        replace hyok := yok9
        replace hyin := hid (show y.inS (fun b => (S b ∧ b ≠ rb) ∧ (Value.slice ao k cap).ownBlock ≠ some b) from hyin.out.mono (fun b hb => ⟨hb.1, hb.2.1⟩))
        replace R := R9
        replace P8 := P8b
        replace bw := b9
        replace hB := hid (show rb + 1 ≤ ((((Wc.setCell ⟨p8, 0, none⟩ (.int .u8 (y.kind : Nat))).setCell ⟨p8, 1, none⟩ (.string y.name)).setCell ⟨p8, 2, none⟩ (.slice yoo y.of.length yoc)).setCell ⟨p8, 3, none⟩ (.slice yao y.att.length yac)).heap.size by rw [hsz.out]; exact hB.out)
        clear hkp hsz own9 ys9 yok9 R9 P8b b9 hysp
        change _ at hown
        generalize ((((Wc.setCell ⟨p8, 0, none⟩ (.int .u8 (y.kind : Nat))).setCell ⟨p8, 1, none⟩ (.string y.name)).setCell ⟨p8, 2, none⟩ (.slice yoo y.of.length yoc)).setCell ⟨p8, 3, none⟩ (.slice yao y.att.length yac)) = Wc at hown hys hyok R P8 bw hB ⊢
        obtain ⟨s0, -⟩ := hfa.out _ bw.out
        obtain ⟨u0, -⟩ := hfb.out _ bw.out
        have hor : ¬ nm = nm2 ∨ nm = nm2 ∧ zz = 7 ∧ PT.J (er z) (er u) = none ∨ nm = nm2 ∧ zz = 0 ∧ PT.J (er z) (er u) = some (er y) := by
          by_cases e : nm = nm2
          · rcases hyz.out with ⟨q1, q2⟩ | ⟨q1, q2, _⟩
            · exact .inr (.inr ⟨e, q2, q1⟩)
            · exact .inr (.inl ⟨e, q2, q1⟩)
          · exact .inl e
        clear hyz
        have hel := hid (show (erL att)[k]? = some (er z) by rw [erL_map, List.getElem?_map, ea.out]; rfl)
        have hem := hid (show (erL btt)[k]? = some (er u) by rw [erL_map, List.getElem?_map, eb.out]; rfl)
        rcases hor with e | ⟨rfl, rfl, e⟩ | ⟨rfl, rfl, e⟩
        · have hJn := hid (show JJ = none by
            rw [← hJJ.out]
            refine PT.JL_none (fun r hr => e ?_)
            have e1 := PT.JL_names _ _ _ _ _ hr
            have e2 := en.out
            rw [e1, em.out] at e2
            exact (Option.some.inj e2).symm)
          have hneq : (nm.toList == nm2.toList) = false := by
            rw [beq_eq_false_iff_ne, ne_eq, ByteArray.toList_eq, ByteArray.toList_eq]
            intro h3
            exact e (by cases nm; cases nm2; simp only at h3; congr 1; exact Array.toList_inj.1 h3)
          clear e hys hown hyok hyin hlk
          go_wp2_with fail
          go_quiet (fail)
          rename_i nq
          have q9 := below_dr Wc nq
          replace R := hid (R.out.below q9 R.out.lt)
          replace bw := hid (bt bw.out q9)
          clear q9
          generalize Wc.drewN nq = Wd at R bw ⊢
          have hK := hid (blk_st4 R.out (.int .u8 0) (.string ⟨#[]⟩) (.slice none 0 0) (.slice none 0 0))
          have hBw := hid (below_st4 bw.out (g := rb) (hB1.out) (.int .u8 0) (.string ⟨#[]⟩) (.slice none 0 0) (.slice none 0 0))
          have hkp := hid (fun b (hb : b ≠ rb) => heap_st4 Wd (rb) (.int .u8 0) (.string ⟨#[]⟩) (.slice none 0 0) (.slice none 0 0) hb)
          obtain ⟨d0, d1, d2, d3, df⟩ := four' R.out
          go_wp2_with fail
          obtain ⟨q0, q1, q2, q3, qf⟩ := four' hK.out
          exact bodyPost_ret (v := .tuple #[.agg #[.int .u8 0, .string ⟨#[]⟩, .slice none 0 0, .slice none 0 0], .int .i64 7]) (by unfold st4 at q0 q1 q2 q3; simp [results, Tryz.results20, go_sem, q0, q1, q2, q3]) rfl ⟨⟨leaf 0 ⟨#[]⟩, 7, rfl, leaf_ok _ _ _ (by decide) (by decide), leaf_in _ _ _, .inr ⟨by rw [hJn.out]; rfl, rfl, rfl⟩⟩, hBw.out⟩
        · have hJn := hid (show JJ = none by
            rw [← hJJ.out]
            refine PT.JL_none (fun r hr => ?_)
            obtain ⟨_, q⟩ := PT.JL_inv _ _ _ _ _ hr
            obtain ⟨p, q⟩ := q k _ _ hel.out hem.out
            rw [e] at q
            cases q)
          have hneq : (nm.toList == nm.toList) = true := by simp
          clear e hys hown hyok hyin hlk
          go_wp2_with fail
          go_quiet (fail)
          rename_i nq
          have q9 := below_dr Wc nq
          replace R := hid (R.out.below q9 R.out.lt)
          replace bw := hid (bt bw.out q9)
          clear q9
          generalize Wc.drewN nq = Wd at R bw ⊢
          have hK := hid (blk_st4 R.out (.int .u8 0) (.string ⟨#[]⟩) (.slice none 0 0) (.slice none 0 0))
          have hBw := hid (below_st4 bw.out (g := rb) (hB1.out) (.int .u8 0) (.string ⟨#[]⟩) (.slice none 0 0) (.slice none 0 0))
          have hkp := hid (fun b (hb : b ≠ rb) => heap_st4 Wd (rb) (.int .u8 0) (.string ⟨#[]⟩) (.slice none 0 0) (.slice none 0 0) hb)
          obtain ⟨d0, d1, d2, d3, df⟩ := four' R.out
          go_wp2_with fail
          obtain ⟨q0, q1, q2, q3, qf⟩ := four' hK.out
          exact bodyPost_ret (v := .tuple #[.agg #[.int .u8 0, .string ⟨#[]⟩, .slice none 0 0, .slice none 0 0], .int .i64 7]) (by unfold st4 at q0 q1 q2 q3; simp [results, Tryz.results20, go_sem, q0, q1, q2, q3]) rfl ⟨⟨leaf 0 ⟨#[]⟩, 7, rfl, leaf_ok _ _ _ (by decide) (by decide), leaf_in _ _ _, .inr ⟨by rw [hJn.out]; rfl, rfl, rfl⟩⟩, hBw.out⟩
        · have hneq : (nm.toList == nm.toList) = true := by simp
          have hlkf := hid (show (ys ++ [y]).length = k + 1 ∧ ∀ (i : Nat) (s t : ByteArray) (x1 y1 z1 : Ty), i < k + 1 → an[i]? = some s → bn[i]? = some t → att[i]? = some x1 → btt[i]? = some y1 → (ys ++ [y])[i]? = some z1 → s = t ∧ PT.J (er x1) (er y1) = some (er z1) from by
            refine ⟨by rw [List.length_append, hlk.out.1]; rfl, fun i s t x1 y1 z1 hi q1 q2 q3 q4 q5 => ?_⟩
            by_cases hik : i < k
            · rw [List.getElem?_append_left (by rw [hlk.out.1]; exact hik)] at q5
              exact hlk.out.2 i s t x1 y1 z1 hik q1 q2 q3 q4 q5
            · obtain rfl : i = k := by omega
              rw [List.getElem?_append_right (by rw [hlk.out.1]; exact Nat.le_refl _), hlk.out.1, Nat.sub_self] at q5
              rw [en.out] at q1
              rw [em.out] at q2
              rw [ea.out] at q3
              rw [eb.out] at q4
              simp only [Option.some.injEq, List.getElem?_cons_zero] at q1 q2 q3 q4 q5
              subst q1 q2 q3 q4 q5
              exact ⟨rfl, e⟩)
          clear e hlk hel hem
          go_wp2_with fail
          go_quiet (fail)
          rename_i nq
          have q9 := below_dr Wc nq
          replace hown := hid (ownsRow_below hown.out q9)
          replace hys := hid (fun v (hv : v ∈ ys) => (show _ ∧ _ from ⟨(hys.out v hv).1.below q9, (hys.out v hv).2⟩))
          replace R := hid (R.out.below q9 R.out.lt)
          replace hB := hid (Nat.le_trans hB.out q9.size)
          replace bw := hid (bt bw.out q9)
          replace P8 := hid (P8.out.below q9 P8.out.lt)
          replace hyok := hid (hyok.out.below q9)
          clear q9 s0 u0
          generalize Wc.drewN nq = Wc at hown hys R hB bw P8 hyok ⊢
          go_wp2_with fail
          refine wp_region_held_drew (S := (fun Y => Y.cell? ⟨xb, xo + k * 5, none⟩ = some (.string nm) ∧ Y.cell? ⟨p8, 0, none⟩ = some (.int .u8 (y.kind : Nat)) ∧ Y.cell? ⟨p8, 1, none⟩ = some (.string y.name) ∧ Y.cell? ⟨p8, 2, none⟩ = some (.slice yoo y.of.length yoc) ∧ Y.cell? ⟨p8, 3, none⟩ = some (.slice yao y.att.length yac))) (by kernel_rfl) (by obtain ⟨s0, -⟩ := hfa.out _ bw.out.drew; obtain ⟨d0, d1, d2, d3, -⟩ := four' P8.out.drew; exact ⟨s0, d0, d1, d2, d3⟩) (fun hHeld => ?_)
          have q9 := (Below.refl Wc.heap.size Wc).drew
          replace hown := hid (ownsRow_below hown.out q9)
          replace hys := hid (fun v (hv : v ∈ ys) => (show _ ∧ _ from ⟨(hys.out v hv).1.below q9, (hys.out v hv).2⟩))
          replace R := hid (R.out.below q9 R.out.lt)
          replace hB := hid (Nat.le_trans hB.out q9.size)
          replace bw := hid (bt bw.out q9)
          replace P8 := hid (P8.out.below q9 P8.out.lt)
          replace hyok := hid (hyok.out.below q9)
          clear q9
          generalize Wc.drew = Wc at hown hys R hB bw P8 hyok hHeld ⊢
          refine wpAnyH_take (i := 0) (v := ?_) rfl (by kernel_rfl) (by kernel_rfl) (by kernel_rfl) (fun _ _ _ h => h) (Or.inl ⟨by rfl, ?_⟩) (by assumption) ?_; rotate_left 1; (intro w hSw; (try dsimp only at hSw); go_simp; try with_reducible rfl); (try simp only [Act.put, List.getElem_toArray, List.getElem_cons_zero, List.getElem_cons_succ, List.setIfInBounds_toArray, List.set_cons_zero, List.set_cons_succ])
          refine wpAnyH_take (i := 1) (v := ?_) rfl (by kernel_rfl) (by kernel_rfl) (by kernel_rfl) (fun _ _ _ h => h) (Or.inl ⟨by rfl, ?_⟩) (by assumption) ?_; rotate_left 1; (intro w hSw; (try dsimp only at hSw); go_simp; try with_reducible rfl); (try simp only [Act.put, List.getElem_toArray, List.getElem_cons_zero, List.getElem_cons_succ, List.setIfInBounds_toArray, List.set_cons_zero, List.set_cons_succ])
          refine wpAnyH_take (i := 2) (v := ?_) rfl (by kernel_rfl) (by kernel_rfl) (by kernel_rfl) (fun _ _ _ h => h) (Or.inl ⟨by rfl, ?_⟩) (by assumption) ?_; rotate_left 1; (intro w hSw; (try dsimp only at hSw); go_simp; try with_reducible rfl); (try simp only [Act.put, List.getElem_toArray, List.getElem_cons_zero, List.getElem_cons_succ, List.setIfInBounds_toArray, List.set_cons_zero, List.set_cons_succ])
          refine wpAnyH_take (i := 3) (v := ?_) rfl (by kernel_rfl) (by kernel_rfl) (by kernel_rfl) (fun _ _ _ h => h) (Or.inl ⟨by rfl, ?_⟩) (by assumption) ?_; rotate_left 1; (intro w hSw; (try dsimp only at hSw); go_simp; try with_reducible rfl); (try simp only [Act.put, List.getElem_toArray, List.getElem_cons_zero, List.getElem_cons_succ, List.setIfInBounds_toArray, List.set_cons_zero, List.set_cons_succ])
          refine wpAnyH_take (i := 4) (v := ?_) rfl (by kernel_rfl) (by kernel_rfl) (by kernel_rfl) (fun _ _ _ h => h) (Or.inl ⟨by rfl, ?_⟩) (by assumption) ?_; rotate_left 1; (intro w hSw; (try dsimp only at hSw); go_simp; try with_reducible rfl); (try simp only [Act.put, List.getElem_toArray, List.getElem_cons_zero, List.getElem_cons_succ, List.setIfInBounds_toArray, List.set_cons_zero, List.set_cons_succ])
          refine wpAnyH_take (i := 5) (v := ?_) rfl (by kernel_rfl) (by kernel_rfl) (by kernel_rfl) (fun _ _ _ h => h) (Or.inl ⟨by rfl, ?_⟩) (by assumption) ?_; rotate_left 1; (intro w hSw; (try dsimp only at hSw); go_simp; try with_reducible rfl); (try simp only [Act.put, List.getElem_toArray, List.getElem_cons_zero, List.getElem_cons_succ, List.setIfInBounds_toArray, List.set_cons_zero, List.set_cons_succ])
          refine wpAnyH_take (i := 6) (v := ?_) rfl (by kernel_rfl) (by kernel_rfl) (by kernel_rfl) (fun _ _ _ h => h) (Or.inl ⟨by rfl, ?_⟩) (by assumption) ?_; rotate_left 1; (intro w hSw; (try dsimp only at hSw); go_simp; try with_reducible rfl); (try simp only [Act.put, List.getElem_toArray, List.getElem_cons_zero, List.getElem_cons_succ, List.setIfInBounds_toArray, List.set_cons_zero, List.set_cons_succ])
          refine wpAnyH_take (i := 7) (v := ?_) rfl (by kernel_rfl) (by kernel_rfl) (by kernel_rfl) (fun _ _ _ h => h) (Or.inl ⟨by rfl, ?_⟩) (by assumption) ?_; rotate_left 1; (intro w hSw; (try dsimp only at hSw); go_simp; try with_reducible rfl); (try simp only [Act.put, List.getElem_toArray, List.getElem_cons_zero, List.getElem_cons_succ, List.setIfInBounds_toArray, List.set_cons_zero, List.set_cons_succ])
          refine wpAnyH_ready (rs := [8]) (by kernel_rfl) (by simp) ?_
          refine AllReadyH.cons rfl (fun K hK => ?_) AllReadyH.nil
          go_simp
          have q9 := (Below.refl Wc.heap.size Wc).alloc (Nat.le_refl _) (.cells #[.string nm, .int .u8 (y.kind : Nat), .string y.name, .slice yoo y.of.length yoc, .slice yao y.att.length yac] 53)
          have K9 := hid (Blk.new Wc [.string nm, .int .u8 (y.kind : Nat), .string y.name, .slice yoo y.of.length yoc, .slice yao y.att.length yac] 53)
          change Hid (Blk (Wc.alloc (.cells #[.string nm, .int .u8 (y.kind : Nat), .string y.name, .slice yoo y.of.length yoc, .slice yao y.att.length yac] 53)) _ _ _) at K9
          have hysb := hid (fun v (hv : v ∈ ys ++ [y]) => (show v.ok (Wc.alloc (.cells #[.string nm, .int .u8 (y.kind : Nat), .string y.name, .slice yoo y.of.length yoc, .slice yao y.att.length yac] 53)) ∧ v.inS (fun b => (fun b => (S b ∧ b ≠ rb) ∧ (Value.slice ao k cap).ownBlock ≠ some b) b ∧ b < (Wc.alloc (.cells #[.string nm, .int .u8 (y.kind : Nat), .string y.name, .slice yoo y.of.length yoc, .slice yao y.att.length yac] 53)).heap.size) from by
            have key : ∀ v : Ty, v.ok Wc → v.inS (fun b => (S b ∧ b ≠ rb) ∧ (Value.slice ao k cap).ownBlock ≠ some b) → (v.ok (Wc.alloc (.cells #[.string nm, .int .u8 (y.kind : Nat), .string y.name, .slice yoo y.of.length yoc, .slice yao y.att.length yac] 53)) ∧ v.inS (fun b => (fun b => (S b ∧ b ≠ rb) ∧ (Value.slice ao k cap).ownBlock ≠ some b) b ∧ b < (Wc.alloc (.cells #[.string nm, .int .u8 (y.kind : Nat), .string y.name, .slice yoo y.of.length yoc, .slice yao y.att.length yac] 53)).heap.size)) := fun v h1 h2 => ⟨h1.below q9, Ty.inS_and h2 (h1.below q9).inS⟩
            rcases List.mem_append.1 hv with hv | hv
            · exact key v (hys.out v hv).1 (hys.out v hv).2
            · rw [List.mem_singleton.1 hv]
              exact key y hyok.out hyin.out))
          replace hown := hid (ownsRow_below hown.out q9)
          replace hys := hid (fun v (hv : v ∈ ys) => (show _ ∧ _ from ⟨(hys.out v hv).1.below q9, (hys.out v hv).2⟩))
          replace R := hid (R.out.below q9 R.out.lt)
          replace hB := hid (Nat.le_trans hB.out q9.size)
          replace bw := hid (bt bw.out q9)
          replace P8 := hid (P8.out.below q9 P8.out.lt)
          clear q9 hys hyok hyin
          generalize Wc.heap.size = b9 at K9 ⊢
          generalize Wc.alloc (.cells #[.string nm, .int .u8 (y.kind : Nat), .string y.name, .slice yoo y.of.length yoc, .slice yao y.att.length yac] 53) = Wc at hown R hB bw P8 K9 hysb ⊢
          refine hK.out _ _ (by obtain ⟨s0, -⟩ := hfa.out _ bw.out; obtain ⟨d0, d1, d2, d3, -⟩ := four' P8.out; exact ⟨s0, d0, d1, d2, d3⟩) (fun hHeldN => ?_)
          clear hK K hHeld
          have hHeld := hHeldN
          clear hHeldN
          (try simp only [Act.put, List.getElem_toArray, List.getElem_cons_zero, List.getElem_cons_succ, List.setIfInBounds_toArray, List.set_cons_zero, List.set_cons_succ])
          refine wpAnyH_ready (rs := [9]) (by kernel_rfl) (by simp) ?_
          refine AllReadyH.cons rfl (fun K hK => ?_) AllReadyH.nil
          obtain ⟨v', w8, hrun, ho, hg, hp⟩ := run_append_place (P := Tryz.prog) Wc (rb + 1) 24 24 53 ic zc 5 88 Tryz.underlying24 hi hz0 hz1 hz2 hz3 (by decide)
            (.slice ao k cap) k (Ty.encA (an.take k) ys) hown.out ⟨b9, 0, none⟩ 1 1 [.string nm, .int .u8 (y.kind : Nat), .string y.name, .slice yoo y.of.length yoc, .slice yao y.att.length yac] rfl
            (getElem?_cells' (fun j hj => by rw [Mem.add_plain, Nat.zero_add]; exact K9.out.cell j hj)) (by simp [Value.oneCell']) (by unfold maxLen; omega) (by omega) hB.out
          have hrun2 := hrun
          clear hrun
          refine step_append_run rfl (.tmp 51) (.tmp 59) 24 rfl _ _ _ _ rfl rfl hrun2 ?_
          have hgr := hid hg
          have hb8 := hid (bw.out.grown hg (by have := bw.out.size; omega) (fun k hk => by have := (hown.out.lt k hk).1; have := hB1.out; omega))
          have Rf := hid (show Blk w8 rb _ _ from ⟨(hg.block rb (by have := R.out.lt; omega) (fun e => by have := (hown.out.lt _ e.symm).1; omega)).trans R.out.at'⟩)
          have P8f := hid (show Blk w8 p8 _ _ from ⟨(hg.block p8 (by have := P8.out.lt; omega) (fun e => hp8.out.2 e.symm)).trans P8.out.at'⟩)
          have hBf := hid (Nat.le_trans hB.out hg.size)
          obtain ⟨ao', cap', hv', _, _⟩ := ownsRow_form ho
          subst hv'
          have hrow8 := hid (show w8.ownsRow (rb + 1) 53 5 (.slice ao' (k + 1) cap') (k + 1) (Ty.encA (an.take (k + 1)) (ys ++ [y])) from by
            rw [hsn.out, Ty.encA_snoc _ _ _ _ hanl.out]
            unfold Ty.encP
            rw [hye.out]
            exact ho)
          have hysf := hid (show ∀ u ∈ ys ++ [y], u.ok w8 ∧ u.inS (fun b => (S b ∧ b ≠ rb) ∧ (Value.slice ao' (k + 1) cap').ownBlock ≠ some b) from fun u hu => by
            obtain ⟨h1, h2⟩ := hysb.out u hu
            refine ⟨h1.keep (fun b hb => hgr.out.block b hb.2 (fun e => hb.1.2 e.symm)) h2, h2.mono (fun b hb => ⟨hb.1.1, fun e => ?_⟩)⟩
            rcases hp with hp | ⟨g2, hp, hge⟩
            · exact hb.1.2 (hp.symm.trans e)
            · have h3 : g2 = b := Option.some.inj (hp.symm.trans e)
              have := hb.2
              omega)
          replace bw := hb8
          replace R := Rf
          replace P8 := P8f
          clear hg hp ho hown hysb K9 hgr hrun2 hB hb8 Rf P8f
          refine hK.out _ _ (by obtain ⟨s0, -⟩ := hfa.out _ bw.out; obtain ⟨d0, d1, d2, d3, -⟩ := four' P8.out; exact ⟨s0, d0, d1, d2, d3⟩) (fun hHeldN => ?_)
          clear hK K hHeld
          have hHeld := hHeldN
          clear hHeldN
          (try simp only [Act.put, List.getElem_toArray, List.getElem_cons_zero, List.getElem_cons_succ, List.setIfInBounds_toArray, List.set_cons_zero, List.set_cons_succ])
          refine wpAnyH_take (i := 10) (v := ?_) rfl (by kernel_rfl) (by kernel_rfl) (by kernel_rfl) (fun _ _ _ h => h) (Or.inl ⟨by rfl, ?_⟩) (by assumption) ?_; rotate_left 1; (intro w hSw; (try dsimp only at hSw); go_simp; try with_reducible rfl); (try simp only [Act.put, List.getElem_toArray, List.getElem_cons_zero, List.getElem_cons_succ, List.setIfInBounds_toArray, List.set_cons_zero, List.set_cons_succ])
          refine wpAnyH_done (by kernel_rfl) ?_ _
          clear hHeld
          go_wp2_with fail
          go_roundw
          case rel => exact ⟨k + 1, ys ++ [y], by omega, by go_num, ⟨ao', cap', rfl, hrow8, hysf⟩, hlkf, hBf, bw, R⟩
          case measure => simp [intOf]; omega
      refine AllReadyH.cons rfl (fun K hK => ?_) AllReadyH.nil
      go_simp
      have q9 := (Below.refl Wc.heap.size Wc).alloc (Nat.le_refl _) (.cells #[.int .u8 0, .string ⟨#[]⟩, .slice none 0 0, .slice none 0 0] 26)
      have P8 := hid (Blk.new Wc [.int .u8 0, .string ⟨#[]⟩, .slice none 0 0, .slice none 0 0] 26)
      change Hid (Blk (Wc.alloc (.cells #[.int .u8 0, .string ⟨#[]⟩, .slice none 0 0, .slice none 0 0] 26)) _ _ _) at P8
      have hysp := hid (fun v (hv : v ∈ ys) => (show v.inS (fun b => b ≠ Wc.heap.size) from (hys.out v hv).1.inS.mono (fun b hb => by omega)))
      have hp8 := hid (show rb + 1 ≤ Wc.heap.size ∧ (Value.slice ao k cap).ownBlock ≠ some Wc.heap.size from ⟨hB.out, fun e => by have := (hown.out.lt _ e).2; omega⟩)
      skip
      replace hown := hid (ownsRow_below hown.out q9)
      replace hys := hid (fun v (hv : v ∈ ys) => (show _ ∧ _ from ⟨(hys.out v hv).1.below q9, (hys.out v hv).2⟩))
      replace R := hid (R.out.below q9 R.out.lt)
      replace hB := hid (Nat.le_trans hB.out q9.size)
      replace bw := hid (bt bw.out q9)
      clear q9
      generalize Wc.heap.size = p8 at P8 hp8 hysp ⊢
      generalize Wc.alloc (.cells #[.int .u8 0, .string ⟨#[]⟩, .slice none 0 0, .slice none 0 0] 26) = Wc at hown hys R hB bw P8 ⊢
      have bX := bw
      refine hK.out _ _ (by obtain ⟨-, s1, s2, s3, s4⟩ := hfa.out _ bX.out; obtain ⟨-, u1, u2, u3, u4⟩ := hfb.out _ bX.out; exact ⟨s1, s2, s3, s4, u1, u2, u3, u4⟩) (fun hHeldN => ?_)
      clear hK K hHeld
      have hHeld := hHeldN
      clear hHeldN
      (try simp only [Act.put, List.getElem_toArray, List.getElem_cons_zero, List.getElem_cons_succ, List.setIfInBounds_toArray, List.set_cons_zero, List.set_cons_succ])
      refine wpAnyH_ready (rs := [10]) (by kernel_rfl) (by simp) ?_
      refine AllReadyH.cons rfl (fun K hK => ?_) AllReadyH.nil
      go_simp
      (with_reducible refine (hrec.out _ (fun b => (S b ∧ b ≠ rb) ∧ (Value.slice ao k cap).ownBlock ≠ some b ∧ b ≠ p8) bw.out (fun b hb => ⟨⟨hS'.out b (by have := hB.out; have := hB1.out; omega), by have := hB.out; omega⟩, ⟨fun e => by have := (hown.out.lt b e).2; omega, by have := P8.out.lt; omega⟩⟩)).mono ?_)
      rintro e Wc ⟨⟨y, zz, rfl, hyok, hyin, hyz⟩, q9⟩
      obtain ⟨yoo, yoc, yao, yac, ey1, ey2, yl1, yl2⟩ := hyok.forms
      have hye := hid (Ty.enc_eq ey1 ey2)
      rw [Ty.val_eq ey1 ey2]
      replace hown := hid (ownsRow_below hown.out q9)
      replace hys := hid (fun v (hv : v ∈ ys) => (show _ ∧ _ from ⟨(hys.out v hv).1.below q9, (hys.out v hv).2⟩))
      replace R := hid (R.out.below q9 R.out.lt)
      replace hB := hid (Nat.le_trans hB.out q9.size)
      replace bw := hid (bt bw.out q9)
      replace P8 := hid (P8.out.below q9 P8.out.lt)
      replace hyok := hid hyok
      replace hyin := hid (show y.inS (fun b => (S b ∧ b ≠ rb) ∧ (Value.slice ao k cap).ownBlock ≠ some b ∧ b ≠ p8) from hyin)
      replace hyz := hid hyz
      clear q9 ey1 ey2
      have bX := bw
      refine hK.out _ _ (by obtain ⟨-, s1, s2, s3, s4⟩ := hfa.out _ bX.out; obtain ⟨-, u1, u2, u3, u4⟩ := hfb.out _ bX.out; exact ⟨s1, s2, s3, s4, u1, u2, u3, u4⟩) (fun hHeldN => ?_)
      clear hK K hHeld
      have hHeld := hHeldN
      clear hHeldN
      (try simp only [Act.put, List.getElem_toArray, List.getElem_cons_zero, List.getElem_cons_succ, List.setIfInBounds_toArray, List.set_cons_zero, List.set_cons_succ])
      refine wpAnyH_take (i := 11) (v := ?_) rfl (by kernel_rfl) (by kernel_rfl) (by kernel_rfl) (fun _ _ _ h => h) (Or.inl ⟨by rfl, ?_⟩) (by assumption) ?_; rotate_left 1; (intro w hSw; (try dsimp only at hSw); go_simp; try with_reducible rfl); (try simp only [Act.put, List.getElem_toArray, List.getElem_cons_zero, List.getElem_cons_succ, List.setIfInBounds_toArray, List.set_cons_zero, List.set_cons_succ])
      refine wpAnyH_take (i := 12) (v := ?_) rfl (by kernel_rfl) (by kernel_rfl) (by kernel_rfl) (fun _ _ _ h => h) (Or.inl ⟨by rfl, ?_⟩) (by assumption) ?_; rotate_left 1; (intro w hSw; (try dsimp only at hSw); go_simp; try with_reducible rfl); (try simp only [Act.put, List.getElem_toArray, List.getElem_cons_zero, List.getElem_cons_succ, List.setIfInBounds_toArray, List.set_cons_zero, List.set_cons_succ])
      refine wpAnyH_take (i := 13) (v := ?_) rfl (by kernel_rfl) (by kernel_rfl) (by kernel_rfl) (fun _ _ _ h => h) (Or.inl ⟨by rfl, ?_⟩) (by assumption) ?_; rotate_left 1; (intro w hSw; (try dsimp only at hSw); go_simp; try with_reducible rfl); (try simp only [Act.put, List.getElem_toArray, List.getElem_cons_zero, List.getElem_cons_succ, List.setIfInBounds_toArray, List.set_cons_zero, List.set_cons_succ])
      refine wpAnyH_ready (rs := [15]) (by kernel_rfl) (by simp) ?_
      refine AllReadyH.cons rfl (fun K hK => ?_) AllReadyH.nil
      obtain ⟨d0, d1, d2, d3, df⟩ := four' P8.out
      go_simp
      have P8b := hid (show Blk ((((Wc.setCell ⟨p8, 0, none⟩ (.int .u8 (y.kind : Nat))).setCell ⟨p8, 1, none⟩ (.string y.name)).setCell ⟨p8, 2, none⟩ (.slice yoo y.of.length yoc)).setCell ⟨p8, 3, none⟩ (.slice yao y.att.length yac)) p8 [.int .u8 (y.kind : Nat), .string y.name, .slice yoo y.of.length yoc, .slice yao y.att.length yac] _ from blk_st4 P8.out (.int .u8 (y.kind : Nat)) (.string y.name) (.slice yoo y.of.length yoc) (.slice yao y.att.length yac))
      have b9 := hid (show Below w.heap.size w ((((Wc.setCell ⟨p8, 0, none⟩ (.int .u8 (y.kind : Nat))).setCell ⟨p8, 1, none⟩ (.string y.name)).setCell ⟨p8, 2, none⟩ (.slice yoo y.of.length yoc)).setCell ⟨p8, 3, none⟩ (.slice yao y.att.length yac)) from below_st4 bw.out (g := p8) (by have := hp8.out.1; have := hB1.out; omega) (.int .u8 (y.kind : Nat)) (.string y.name) (.slice yoo y.of.length yoc) (.slice yao y.att.length yac))
      have hkp := hid (show ∀ b, b ≠ p8 → ((((Wc.setCell ⟨p8, 0, none⟩ (.int .u8 (y.kind : Nat))).setCell ⟨p8, 1, none⟩ (.string y.name)).setCell ⟨p8, 2, none⟩ (.slice yoo y.of.length yoc)).setCell ⟨p8, 3, none⟩ (.slice yao y.att.length yac)).heap[b]? = Wc.heap[b]? from fun b hb => heap_st4 Wc p8 (.int .u8 (y.kind : Nat)) (.string y.name) (.slice yoo y.of.length yoc) (.slice yao y.att.length yac) hb)
      have hsz := hid (show ((((Wc.setCell ⟨p8, 0, none⟩ (.int .u8 (y.kind : Nat))).setCell ⟨p8, 1, none⟩ (.string y.name)).setCell ⟨p8, 2, none⟩ (.slice yoo y.of.length yoc)).setCell ⟨p8, 3, none⟩ (.slice yao y.att.length yac)).heap.size = Wc.heap.size by simp)
      have own9 := hid (show ((((Wc.setCell ⟨p8, 0, none⟩ (.int .u8 (y.kind : Nat))).setCell ⟨p8, 1, none⟩ (.string y.name)).setCell ⟨p8, 2, none⟩ (.slice yoo y.of.length yoc)).setCell ⟨p8, 3, none⟩ (.slice yao y.att.length yac)).ownsRow (rb + 1) 53 5 (.slice ao k cap) k (Ty.encA (an.take k) ys) from ownsRow_at' hown.out (fun b hb => hkp.out b (fun e => hp8.out.2 (by rw [← e]; exact hb))))
      have ys9 := hid (fun v (hv : v ∈ ys) => (show v.ok ((((Wc.setCell ⟨p8, 0, none⟩ (.int .u8 (y.kind : Nat))).setCell ⟨p8, 1, none⟩ (.string y.name)).setCell ⟨p8, 2, none⟩ (.slice yoo y.of.length yoc)).setCell ⟨p8, 3, none⟩ (.slice yao y.att.length yac)) ∧ v.inS (fun b => (S b ∧ b ≠ rb) ∧ (Value.slice ao k cap).ownBlock ≠ some b) from ⟨(hys.out v hv).1.keep (fun b hb => hkp.out b hb) (hysp.out v hv), (hys.out v hv).2⟩))
      have R9 := hid (show Blk ((((Wc.setCell ⟨p8, 0, none⟩ (.int .u8 (y.kind : Nat))).setCell ⟨p8, 1, none⟩ (.string y.name)).setCell ⟨p8, 2, none⟩ (.slice yoo y.of.length yoc)).setCell ⟨p8, 3, none⟩ (.slice yao y.att.length yac)) rb _ _ from ⟨(hkp.out rb (by have := hp8.out.1; omega)).trans R.out.at'⟩)
      have yok9 := hid (show y.ok ((((Wc.setCell ⟨p8, 0, none⟩ (.int .u8 (y.kind : Nat))).setCell ⟨p8, 1, none⟩ (.string y.name)).setCell ⟨p8, 2, none⟩ (.slice yoo y.of.length yoc)).setCell ⟨p8, 3, none⟩ (.slice yao y.att.length yac)) from hyok.out.keep (fun b hb => hkp.out b hb.2.2) hyin.out)
      have bX := b9
      refine hK.out _ _ (by obtain ⟨-, s1, s2, s3, s4⟩ := hfa.out _ bX.out; obtain ⟨-, u1, u2, u3, u4⟩ := hfb.out _ bX.out; exact ⟨s1, s2, s3, s4, u1, u2, u3, u4⟩) (fun hHeldN => ?_)
      clear hK K hHeld
      have hHeld := hHeldN
      clear hHeldN
      (try simp only [Act.put, List.getElem_toArray, List.getElem_cons_zero, List.getElem_cons_succ, List.setIfInBounds_toArray, List.set_cons_zero, List.set_cons_succ])
      refine wpAnyH_take (i := 16) (v := ?_) rfl (by kernel_rfl) (by kernel_rfl) (by kernel_rfl) (fun _ _ _ h => h) (Or.inl ⟨by rfl, ?_⟩) (by assumption) ?_; rotate_left 1; (intro w hSw; (try dsimp only at hSw); go_simp; try with_reducible rfl); (try simp only [Act.put, List.getElem_toArray, List.getElem_cons_zero, List.getElem_cons_succ, List.setIfInBounds_toArray, List.set_cons_zero, List.set_cons_succ])
      refine wpAnyH_done (by kernel_rfl) ?_ _
      clear hHeld bX df d0 d1 d2 d3
      replace hown := own9
      replace hys := ys9
      replace hyok := yok9
      replace hyin := hid (show y.inS (fun b => (S b ∧ b ≠ rb) ∧ (Value.slice ao k cap).ownBlock ≠ some b) from hyin.out.mono (fun b hb => ⟨hb.1, hb.2.1⟩))
      replace R := R9
      replace P8 := P8b
      replace bw := b9
      replace hB := hid (show rb + 1 ≤ ((((Wc.setCell ⟨p8, 0, none⟩ (.int .u8 (y.kind : Nat))).setCell ⟨p8, 1, none⟩ (.string y.name)).setCell ⟨p8, 2, none⟩ (.slice yoo y.of.length yoc)).setCell ⟨p8, 3, none⟩ (.slice yao y.att.length yac)).heap.size by rw [hsz.out]; exact hB.out)
      clear hkp hsz own9 ys9 yok9 R9 P8b b9 hysp
      change _ at hown
      generalize ((((Wc.setCell ⟨p8, 0, none⟩ (.int .u8 (y.kind : Nat))).setCell ⟨p8, 1, none⟩ (.string y.name)).setCell ⟨p8, 2, none⟩ (.slice yoo y.of.length yoc)).setCell ⟨p8, 3, none⟩ (.slice yao y.att.length yac)) = Wc at hown hys hyok R P8 bw hB ⊢
      obtain ⟨s0, -⟩ := hfa.out _ bw.out
      obtain ⟨u0, -⟩ := hfb.out _ bw.out
      have hor : ¬ nm = nm2 ∨ nm = nm2 ∧ zz = 7 ∧ PT.J (er z) (er u) = none ∨ nm = nm2 ∧ zz = 0 ∧ PT.J (er z) (er u) = some (er y) := by
        by_cases e : nm = nm2
        · rcases hyz.out with ⟨q1, q2⟩ | ⟨q1, q2, _⟩
          · exact .inr (.inr ⟨e, q2, q1⟩)
          · exact .inr (.inl ⟨e, q2, q1⟩)
        · exact .inl e
      clear hyz
      have hel := hid (show (erL att)[k]? = some (er z) by rw [erL_map, List.getElem?_map, ea.out]; rfl)
      have hem := hid (show (erL btt)[k]? = some (er u) by rw [erL_map, List.getElem?_map, eb.out]; rfl)
      rcases hor with e | ⟨rfl, rfl, e⟩ | ⟨rfl, rfl, e⟩
      · have hJn := hid (show JJ = none by
          rw [← hJJ.out]
          refine PT.JL_none (fun r hr => e ?_)
          have e1 := PT.JL_names _ _ _ _ _ hr
          have e2 := en.out
          rw [e1, em.out] at e2
          exact (Option.some.inj e2).symm)
        have hneq : (nm.toList == nm2.toList) = false := by
          rw [beq_eq_false_iff_ne, ne_eq, ByteArray.toList_eq, ByteArray.toList_eq]
          intro h3
          exact e (by cases nm; cases nm2; simp only at h3; congr 1; exact Array.toList_inj.1 h3)
        clear e hys hown hyok hyin hlk
        go_wp2_with fail
        go_quiet (fail)
        rename_i nq
        have q9 := below_dr Wc nq
        replace R := hid (R.out.below q9 R.out.lt)
        replace bw := hid (bt bw.out q9)
        clear q9
        generalize Wc.drewN nq = Wd at R bw ⊢
        have hK := hid (blk_st4 R.out (.int .u8 0) (.string ⟨#[]⟩) (.slice none 0 0) (.slice none 0 0))
        have hBw := hid (below_st4 bw.out (g := rb) (hB1.out) (.int .u8 0) (.string ⟨#[]⟩) (.slice none 0 0) (.slice none 0 0))
        have hkp := hid (fun b (hb : b ≠ rb) => heap_st4 Wd (rb) (.int .u8 0) (.string ⟨#[]⟩) (.slice none 0 0) (.slice none 0 0) hb)
        obtain ⟨d0, d1, d2, d3, df⟩ := four' R.out
        go_wp2_with fail
        obtain ⟨q0, q1, q2, q3, qf⟩ := four' hK.out
        exact bodyPost_ret (v := .tuple #[.agg #[.int .u8 0, .string ⟨#[]⟩, .slice none 0 0, .slice none 0 0], .int .i64 7]) (by unfold st4 at q0 q1 q2 q3; simp [results, Tryz.results20, go_sem, q0, q1, q2, q3]) rfl ⟨⟨leaf 0 ⟨#[]⟩, 7, rfl, leaf_ok _ _ _ (by decide) (by decide), leaf_in _ _ _, .inr ⟨by rw [hJn.out]; rfl, rfl, rfl⟩⟩, hBw.out⟩
      · have hJn := hid (show JJ = none by
          rw [← hJJ.out]
          refine PT.JL_none (fun r hr => ?_)
          obtain ⟨_, q⟩ := PT.JL_inv _ _ _ _ _ hr
          obtain ⟨p, q⟩ := q k _ _ hel.out hem.out
          rw [e] at q
          cases q)
        have hneq : (nm.toList == nm.toList) = true := by simp
        clear e hys hown hyok hyin hlk
        go_wp2_with fail
        go_quiet (fail)
        rename_i nq
        have q9 := below_dr Wc nq
        replace R := hid (R.out.below q9 R.out.lt)
        replace bw := hid (bt bw.out q9)
        clear q9
        generalize Wc.drewN nq = Wd at R bw ⊢
        have hK := hid (blk_st4 R.out (.int .u8 0) (.string ⟨#[]⟩) (.slice none 0 0) (.slice none 0 0))
        have hBw := hid (below_st4 bw.out (g := rb) (hB1.out) (.int .u8 0) (.string ⟨#[]⟩) (.slice none 0 0) (.slice none 0 0))
        have hkp := hid (fun b (hb : b ≠ rb) => heap_st4 Wd (rb) (.int .u8 0) (.string ⟨#[]⟩) (.slice none 0 0) (.slice none 0 0) hb)
        obtain ⟨d0, d1, d2, d3, df⟩ := four' R.out
        go_wp2_with fail
        obtain ⟨q0, q1, q2, q3, qf⟩ := four' hK.out
        exact bodyPost_ret (v := .tuple #[.agg #[.int .u8 0, .string ⟨#[]⟩, .slice none 0 0, .slice none 0 0], .int .i64 7]) (by unfold st4 at q0 q1 q2 q3; simp [results, Tryz.results20, go_sem, q0, q1, q2, q3]) rfl ⟨⟨leaf 0 ⟨#[]⟩, 7, rfl, leaf_ok _ _ _ (by decide) (by decide), leaf_in _ _ _, .inr ⟨by rw [hJn.out]; rfl, rfl, rfl⟩⟩, hBw.out⟩
      · have hneq : (nm.toList == nm.toList) = true := by simp
        have hlkf := hid (show (ys ++ [y]).length = k + 1 ∧ ∀ (i : Nat) (s t : ByteArray) (x1 y1 z1 : Ty), i < k + 1 → an[i]? = some s → bn[i]? = some t → att[i]? = some x1 → btt[i]? = some y1 → (ys ++ [y])[i]? = some z1 → s = t ∧ PT.J (er x1) (er y1) = some (er z1) from by
          refine ⟨by rw [List.length_append, hlk.out.1]; rfl, fun i s t x1 y1 z1 hi q1 q2 q3 q4 q5 => ?_⟩
          by_cases hik : i < k
          · rw [List.getElem?_append_left (by rw [hlk.out.1]; exact hik)] at q5
            exact hlk.out.2 i s t x1 y1 z1 hik q1 q2 q3 q4 q5
          · obtain rfl : i = k := by omega
            rw [List.getElem?_append_right (by rw [hlk.out.1]; exact Nat.le_refl _), hlk.out.1, Nat.sub_self] at q5
            rw [en.out] at q1
            rw [em.out] at q2
            rw [ea.out] at q3
            rw [eb.out] at q4
            simp only [Option.some.injEq, List.getElem?_cons_zero] at q1 q2 q3 q4 q5
            subst q1 q2 q3 q4 q5
            exact ⟨rfl, e⟩)
        clear e hlk hel hem
        go_wp2_with fail
        go_quiet (fail)
        rename_i nq
        have q9 := below_dr Wc nq
        replace hown := hid (ownsRow_below hown.out q9)
        replace hys := hid (fun v (hv : v ∈ ys) => (show _ ∧ _ from ⟨(hys.out v hv).1.below q9, (hys.out v hv).2⟩))
        replace R := hid (R.out.below q9 R.out.lt)
        replace hB := hid (Nat.le_trans hB.out q9.size)
        replace bw := hid (bt bw.out q9)
        replace P8 := hid (P8.out.below q9 P8.out.lt)
        replace hyok := hid (hyok.out.below q9)
        clear q9 s0 u0
        generalize Wc.drewN nq = Wc at hown hys R hB bw P8 hyok ⊢
        go_wp2_with fail
        refine wp_region_held_drew (S := (fun Y => Y.cell? ⟨xb, xo + k * 5, none⟩ = some (.string nm) ∧ Y.cell? ⟨p8, 0, none⟩ = some (.int .u8 (y.kind : Nat)) ∧ Y.cell? ⟨p8, 1, none⟩ = some (.string y.name) ∧ Y.cell? ⟨p8, 2, none⟩ = some (.slice yoo y.of.length yoc) ∧ Y.cell? ⟨p8, 3, none⟩ = some (.slice yao y.att.length yac))) (by kernel_rfl) (by obtain ⟨s0, -⟩ := hfa.out _ bw.out.drew; obtain ⟨d0, d1, d2, d3, -⟩ := four' P8.out.drew; exact ⟨s0, d0, d1, d2, d3⟩) (fun hHeld => ?_)
        have q9 := (Below.refl Wc.heap.size Wc).drew
        replace hown := hid (ownsRow_below hown.out q9)
        replace hys := hid (fun v (hv : v ∈ ys) => (show _ ∧ _ from ⟨(hys.out v hv).1.below q9, (hys.out v hv).2⟩))
        replace R := hid (R.out.below q9 R.out.lt)
        replace hB := hid (Nat.le_trans hB.out q9.size)
        replace bw := hid (bt bw.out q9)
        replace P8 := hid (P8.out.below q9 P8.out.lt)
        replace hyok := hid (hyok.out.below q9)
        clear q9
        generalize Wc.drew = Wc at hown hys R hB bw P8 hyok hHeld ⊢
        refine wpAnyH_take (i := 0) (v := ?_) rfl (by kernel_rfl) (by kernel_rfl) (by kernel_rfl) (fun _ _ _ h => h) (Or.inl ⟨by rfl, ?_⟩) (by assumption) ?_; rotate_left 1; (intro w hSw; (try dsimp only at hSw); go_simp; try with_reducible rfl); (try simp only [Act.put, List.getElem_toArray, List.getElem_cons_zero, List.getElem_cons_succ, List.setIfInBounds_toArray, List.set_cons_zero, List.set_cons_succ])
        refine wpAnyH_take (i := 1) (v := ?_) rfl (by kernel_rfl) (by kernel_rfl) (by kernel_rfl) (fun _ _ _ h => h) (Or.inl ⟨by rfl, ?_⟩) (by assumption) ?_; rotate_left 1; (intro w hSw; (try dsimp only at hSw); go_simp; try with_reducible rfl); (try simp only [Act.put, List.getElem_toArray, List.getElem_cons_zero, List.getElem_cons_succ, List.setIfInBounds_toArray, List.set_cons_zero, List.set_cons_succ])
        refine wpAnyH_take (i := 2) (v := ?_) rfl (by kernel_rfl) (by kernel_rfl) (by kernel_rfl) (fun _ _ _ h => h) (Or.inl ⟨by rfl, ?_⟩) (by assumption) ?_; rotate_left 1; (intro w hSw; (try dsimp only at hSw); go_simp; try with_reducible rfl); (try simp only [Act.put, List.getElem_toArray, List.getElem_cons_zero, List.getElem_cons_succ, List.setIfInBounds_toArray, List.set_cons_zero, List.set_cons_succ])
        refine wpAnyH_take (i := 3) (v := ?_) rfl (by kernel_rfl) (by kernel_rfl) (by kernel_rfl) (fun _ _ _ h => h) (Or.inl ⟨by rfl, ?_⟩) (by assumption) ?_; rotate_left 1; (intro w hSw; (try dsimp only at hSw); go_simp; try with_reducible rfl); (try simp only [Act.put, List.getElem_toArray, List.getElem_cons_zero, List.getElem_cons_succ, List.setIfInBounds_toArray, List.set_cons_zero, List.set_cons_succ])
        refine wpAnyH_take (i := 4) (v := ?_) rfl (by kernel_rfl) (by kernel_rfl) (by kernel_rfl) (fun _ _ _ h => h) (Or.inl ⟨by rfl, ?_⟩) (by assumption) ?_; rotate_left 1; (intro w hSw; (try dsimp only at hSw); go_simp; try with_reducible rfl); (try simp only [Act.put, List.getElem_toArray, List.getElem_cons_zero, List.getElem_cons_succ, List.setIfInBounds_toArray, List.set_cons_zero, List.set_cons_succ])
        refine wpAnyH_take (i := 5) (v := ?_) rfl (by kernel_rfl) (by kernel_rfl) (by kernel_rfl) (fun _ _ _ h => h) (Or.inl ⟨by rfl, ?_⟩) (by assumption) ?_; rotate_left 1; (intro w hSw; (try dsimp only at hSw); go_simp; try with_reducible rfl); (try simp only [Act.put, List.getElem_toArray, List.getElem_cons_zero, List.getElem_cons_succ, List.setIfInBounds_toArray, List.set_cons_zero, List.set_cons_succ])
        refine wpAnyH_take (i := 6) (v := ?_) rfl (by kernel_rfl) (by kernel_rfl) (by kernel_rfl) (fun _ _ _ h => h) (Or.inl ⟨by rfl, ?_⟩) (by assumption) ?_; rotate_left 1; (intro w hSw; (try dsimp only at hSw); go_simp; try with_reducible rfl); (try simp only [Act.put, List.getElem_toArray, List.getElem_cons_zero, List.getElem_cons_succ, List.setIfInBounds_toArray, List.set_cons_zero, List.set_cons_succ])
        refine wpAnyH_take (i := 7) (v := ?_) rfl (by kernel_rfl) (by kernel_rfl) (by kernel_rfl) (fun _ _ _ h => h) (Or.inl ⟨by rfl, ?_⟩) (by assumption) ?_; rotate_left 1; (intro w hSw; (try dsimp only at hSw); go_simp; try with_reducible rfl); (try simp only [Act.put, List.getElem_toArray, List.getElem_cons_zero, List.getElem_cons_succ, List.setIfInBounds_toArray, List.set_cons_zero, List.set_cons_succ])
        refine wpAnyH_ready (rs := [8]) (by kernel_rfl) (by simp) ?_
        refine AllReadyH.cons rfl (fun K hK => ?_) AllReadyH.nil
        go_simp
        have q9 := (Below.refl Wc.heap.size Wc).alloc (Nat.le_refl _) (.cells #[.string nm, .int .u8 (y.kind : Nat), .string y.name, .slice yoo y.of.length yoc, .slice yao y.att.length yac] 53)
        have K9 := hid (Blk.new Wc [.string nm, .int .u8 (y.kind : Nat), .string y.name, .slice yoo y.of.length yoc, .slice yao y.att.length yac] 53)
        change Hid (Blk (Wc.alloc (.cells #[.string nm, .int .u8 (y.kind : Nat), .string y.name, .slice yoo y.of.length yoc, .slice yao y.att.length yac] 53)) _ _ _) at K9
        have hysb := hid (fun v (hv : v ∈ ys ++ [y]) => (show v.ok (Wc.alloc (.cells #[.string nm, .int .u8 (y.kind : Nat), .string y.name, .slice yoo y.of.length yoc, .slice yao y.att.length yac] 53)) ∧ v.inS (fun b => (fun b => (S b ∧ b ≠ rb) ∧ (Value.slice ao k cap).ownBlock ≠ some b) b ∧ b < (Wc.alloc (.cells #[.string nm, .int .u8 (y.kind : Nat), .string y.name, .slice yoo y.of.length yoc, .slice yao y.att.length yac] 53)).heap.size) from by
          have key : ∀ v : Ty, v.ok Wc → v.inS (fun b => (S b ∧ b ≠ rb) ∧ (Value.slice ao k cap).ownBlock ≠ some b) → (v.ok (Wc.alloc (.cells #[.string nm, .int .u8 (y.kind : Nat), .string y.name, .slice yoo y.of.length yoc, .slice yao y.att.length yac] 53)) ∧ v.inS (fun b => (fun b => (S b ∧ b ≠ rb) ∧ (Value.slice ao k cap).ownBlock ≠ some b) b ∧ b < (Wc.alloc (.cells #[.string nm, .int .u8 (y.kind : Nat), .string y.name, .slice yoo y.of.length yoc, .slice yao y.att.length yac] 53)).heap.size)) := fun v h1 h2 => ⟨h1.below q9, Ty.inS_and h2 (h1.below q9).inS⟩
          rcases List.mem_append.1 hv with hv | hv
          · exact key v (hys.out v hv).1 (hys.out v hv).2
          · rw [List.mem_singleton.1 hv]
            exact key y hyok.out hyin.out))
        replace hown := hid (ownsRow_below hown.out q9)
        replace hys := hid (fun v (hv : v ∈ ys) => (show _ ∧ _ from ⟨(hys.out v hv).1.below q9, (hys.out v hv).2⟩))
        replace R := hid (R.out.below q9 R.out.lt)
        replace hB := hid (Nat.le_trans hB.out q9.size)
        replace bw := hid (bt bw.out q9)
        replace P8 := hid (P8.out.below q9 P8.out.lt)
        clear q9 hys hyok hyin
        generalize Wc.heap.size = b9 at K9 ⊢
        generalize Wc.alloc (.cells #[.string nm, .int .u8 (y.kind : Nat), .string y.name, .slice yoo y.of.length yoc, .slice yao y.att.length yac] 53) = Wc at hown R hB bw P8 K9 hysb ⊢
        refine hK.out _ _ (by obtain ⟨s0, -⟩ := hfa.out _ bw.out; obtain ⟨d0, d1, d2, d3, -⟩ := four' P8.out; exact ⟨s0, d0, d1, d2, d3⟩) (fun hHeldN => ?_)
        clear hK K hHeld
        have hHeld := hHeldN
        clear hHeldN
        (try simp only [Act.put, List.getElem_toArray, List.getElem_cons_zero, List.getElem_cons_succ, List.setIfInBounds_toArray, List.set_cons_zero, List.set_cons_succ])
        refine wpAnyH_ready (rs := [9]) (by kernel_rfl) (by simp) ?_
        refine AllReadyH.cons rfl (fun K hK => ?_) AllReadyH.nil
        obtain ⟨v', w8, hrun, ho, hg, hp⟩ := run_append_place (P := Tryz.prog) Wc (rb + 1) 24 24 53 ic zc 5 88 Tryz.underlying24 hi hz0 hz1 hz2 hz3 (by decide)
          (.slice ao k cap) k (Ty.encA (an.take k) ys) hown.out ⟨b9, 0, none⟩ 1 1 [.string nm, .int .u8 (y.kind : Nat), .string y.name, .slice yoo y.of.length yoc, .slice yao y.att.length yac] rfl
          (getElem?_cells' (fun j hj => by rw [Mem.add_plain, Nat.zero_add]; exact K9.out.cell j hj)) (by simp [Value.oneCell']) (by unfold maxLen; omega) (by omega) hB.out
        have hrun2 := hrun
        clear hrun
        refine step_append_run rfl (.tmp 51) (.tmp 59) 24 rfl _ _ _ _ rfl rfl hrun2 ?_
        have hgr := hid hg
        have hb8 := hid (bw.out.grown hg (by have := bw.out.size; omega) (fun k hk => by have := (hown.out.lt k hk).1; have := hB1.out; omega))
        have Rf := hid (show Blk w8 rb _ _ from ⟨(hg.block rb (by have := R.out.lt; omega) (fun e => by have := (hown.out.lt _ e.symm).1; omega)).trans R.out.at'⟩)
        have P8f := hid (show Blk w8 p8 _ _ from ⟨(hg.block p8 (by have := P8.out.lt; omega) (fun e => hp8.out.2 e.symm)).trans P8.out.at'⟩)
        have hBf := hid (Nat.le_trans hB.out hg.size)
        obtain ⟨ao', cap', hv', _, _⟩ := ownsRow_form ho
        subst hv'
        have hrow8 := hid (show w8.ownsRow (rb + 1) 53 5 (.slice ao' (k + 1) cap') (k + 1) (Ty.encA (an.take (k + 1)) (ys ++ [y])) from by
          rw [hsn.out, Ty.encA_snoc _ _ _ _ hanl.out]
          unfold Ty.encP
          rw [hye.out]
          exact ho)
        have hysf := hid (show ∀ u ∈ ys ++ [y], u.ok w8 ∧ u.inS (fun b => (S b ∧ b ≠ rb) ∧ (Value.slice ao' (k + 1) cap').ownBlock ≠ some b) from fun u hu => by
          obtain ⟨h1, h2⟩ := hysb.out u hu
          refine ⟨h1.keep (fun b hb => hgr.out.block b hb.2 (fun e => hb.1.2 e.symm)) h2, h2.mono (fun b hb => ⟨hb.1.1, fun e => ?_⟩)⟩
          rcases hp with hp | ⟨g2, hp, hge⟩
          · exact hb.1.2 (hp.symm.trans e)
          · have h3 : g2 = b := Option.some.inj (hp.symm.trans e)
            have := hb.2
            omega)
        replace bw := hb8
        replace R := Rf
        replace P8 := P8f
        clear hg hp ho hown hysb K9 hgr hrun2 hB hb8 Rf P8f
        refine hK.out _ _ (by obtain ⟨s0, -⟩ := hfa.out _ bw.out; obtain ⟨d0, d1, d2, d3, -⟩ := four' P8.out; exact ⟨s0, d0, d1, d2, d3⟩) (fun hHeldN => ?_)
        clear hK K hHeld
        have hHeld := hHeldN
        clear hHeldN
        (try simp only [Act.put, List.getElem_toArray, List.getElem_cons_zero, List.getElem_cons_succ, List.setIfInBounds_toArray, List.set_cons_zero, List.set_cons_succ])
        refine wpAnyH_take (i := 10) (v := ?_) rfl (by kernel_rfl) (by kernel_rfl) (by kernel_rfl) (fun _ _ _ h => h) (Or.inl ⟨by rfl, ?_⟩) (by assumption) ?_; rotate_left 1; (intro w hSw; (try dsimp only at hSw); go_simp; try with_reducible rfl); (try simp only [Act.put, List.getElem_toArray, List.getElem_cons_zero, List.getElem_cons_succ, List.setIfInBounds_toArray, List.set_cons_zero, List.set_cons_succ])
        refine wpAnyH_done (by kernel_rfl) ?_ _
        clear hHeld
        go_wp2_with fail
        go_roundw
        case rel => exact ⟨k + 1, ys ++ [y], by omega, by go_num, ⟨ao', cap', rfl, hrow8, hysf⟩, hlkf, hBf, bw, R⟩
        case measure => simp [intOf]; omega
    · have hki : ¬ (k : Int) < (n : Int) := by omega
      obtain rfl : k = n := by omega
      have hJs := hid (show JJ = some (erL ys) by
        rw [← hJJ.out]
        have hnames : an = bn := by
          refine List.ext_getElem? (fun i => ?_)
          by_cases hi : i < k
          · have h1 : i < an.length := by rw [hnn'.out, hn'.out]; exact hi
            have h2 : i < bn.length := by rw [gnn'.out, hm'.out]; exact hi
            have h3 : i < att.length := by rw [hn'.out]; exact hi
            have h4 : i < btt.length := by rw [hm'.out]; exact hi
            have h5 : i < ys.length := by rw [hlk.out.1]; exact hi
            have := (hlk.out.2 i _ _ _ _ _ hi (List.getElem?_eq_getElem h1) (List.getElem?_eq_getElem h2) (List.getElem?_eq_getElem h3) (List.getElem?_eq_getElem h4) (List.getElem?_eq_getElem h5)).1
            rw [List.getElem?_eq_getElem h1, List.getElem?_eq_getElem h2, this]
          · rw [List.getElem?_eq_none (by rw [hnn'.out, hn'.out]; omega), List.getElem?_eq_none (by rw [gnn'.out, hm'.out]; omega)]
        refine PT.JL_some _ _ _ _ _ hnames (by rw [erL_length]; exact hnn'.out) (by rw [erL_length, erL_length, hm'.out, hn'.out]) (by rw [erL_length, erL_length, hlk.out.1, hn'.out]) (fun i x1 y1 p1 q1 q2 q3 => ?_)
        rw [erL_map, List.getElem?_map, Option.map_eq_some_iff] at q1 q2 q3
        obtain ⟨x2, q1, rfl⟩ := q1
        obtain ⟨y2, q2, rfl⟩ := q2
        obtain ⟨z2, q3, rfl⟩ := q3
        have hi : i < k := by have := (List.getElem?_eq_some_iff.1 q1).1; rw [hn'.out] at this; exact this
        have h1 : i < an.length := by rw [hnn'.out, hn'.out]; exact hi
        have h2 : i < bn.length := by rw [gnn'.out, hm'.out]; exact hi
        exact (hlk.out.2 i _ _ _ _ _ hi (List.getElem?_eq_getElem h1) (List.getElem?_eq_getElem h2) q1 q2 q3).2)
      have hlen := hid hlk.out.1
      have hav := hid (show AttrsV wr (.slice ao k cap) an ys from ⟨by rw [hnn'.out, hlen.out, hn'.out], by
        have := SlV.own hown.out
        rw [List.take_of_length_le (by rw [hnn'.out, hn'.out]; exact Nat.le_refl _)] at this
        rw [hlen.out]
        exact this, fun y hy => (hys.out y hy).1, h'.out.2.2.2⟩)
      have hain := hid (show SlIn (fun b => S b ∧ b ≠ rb) (.slice ao k cap) ys.length from by
        rw [hlen.out]
        exact sl_sub (own_in hown.out) (fun b hb => ⟨hS'.out b (by have := hb.1; have := hB1.out; omega), by have := hb.1; omega⟩))
      have hyin := hid (fun y (hy : y ∈ ys) => (hys.out y hy).2.mono (fun b hb => hb.1))
      clear hown hys hlk hJJ
      go_wp2_with fail
      refine (recordOf_any ao k cap wr).mono ?_
      rintro e w5 ⟨rfl, q3⟩
      have R5 := hid (R.out.below q3 R.out.lt)
      have b5 := hid (bw.out.trans (q3.mono bw.out.size))
      have hok5 := hid (show (rcdTy an ys (.slice ao k cap)).ok w5 from rcdTy_ok (hav.out.below q3))
      have hin5 := hid (show (rcdTy an ys (.slice ao k cap)).inS (fun b => S b ∧ b ≠ rb) from rcdTy_in hain.out hyin.out)
      have her := hid (show JJ.map (PT.rcd an) = some (er (rcdTy an ys (.slice ao k cap))) by rw [er_rcdTy, hJs.out]; rfl)
      clear q3 hav hain hyin hJs R bw
      have hK := hid (blk_st4 R5.out (.int .u8 6) (.string ⟨#[]⟩) (.slice none 0 0) (.slice ao k cap))
      have hBw := hid (below_st4 b5.out (g := rb) (hB1.out) (.int .u8 6) (.string ⟨#[]⟩) (.slice none 0 0) (.slice ao k cap))
      have hkp := hid (fun b (hb : b ≠ rb) => heap_st4 w5 (rb) (.int .u8 6) (.string ⟨#[]⟩) (.slice none 0 0) (.slice ao k cap) hb)
      obtain ⟨d0, d1, d2, d3, df⟩ := four' R5.out
      go_wp2_with fail
      obtain ⟨q0, q1, q2, q3, qf⟩ := four' hK.out
      exact bodyPost_ret (v := .tuple #[.agg #[.int .u8 6, .string ⟨#[]⟩, .slice none 0 0, .slice ao k cap], .int .i64 0]) (by unfold st4 at q0 q1 q2 q3; simp [results, Tryz.results20, go_sem, q0, q1, q2, q3]) rfl ⟨⟨rcdTy an ys (.slice ao k cap), 0, rfl, hok5.out.keep (fun b hb => hkp.out b hb.2) hin5.out, hin5.out.mono (fun b hb => hb.1), .inl ⟨her.out, rfl⟩⟩, hBw.out⟩
end Go.Proofs.YtklclfolmfhocaaGreatDoor.Tyt
