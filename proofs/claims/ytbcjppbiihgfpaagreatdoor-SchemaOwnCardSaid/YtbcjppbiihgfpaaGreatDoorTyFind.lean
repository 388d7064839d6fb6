/-
  schema.find, slices.IndexFunc at entity types and actions, schema.copiedNames. Written by wip/tyfindgen.py.
-/
import Derived.Test.YtbcjppbiihgfpaaGreatDoorTySch
import Derived.Deep.RegionHeld3
namespace Go.Proofs.YtbcjppbiihgfpaaGreatDoor.Tyt
open Go.ChangeShapes Go.WideShapes Go.ChangeAt Go.RowKit
open Go.Proofs.YtbcjppbiihgfpaaGreatDoor.Mem
set_option linter.unusedVariables false
set_option linter.unusedSimpArgs false
set_option maxRecDepth 100000
theorem info_str : ∃ i z, Tryz.prog.info? 9 = some i ∧ i.zero = some z ∧ i.size = 1 ∧ i.bytes = 16 ∧ z.cells.size = 1 := ⟨_, _, rfl, rfl, rfl, rfl, rfl⟩
/-- a row of names of the call's own, and nothing below turned -/
def NOwn (w : World) (n : Nat) (e : Ending) (w' : World) : Prop := (∃ (so : Option Addr) (sc : Nat) (xs : List Value), e = .returned (.slice so n sc) ∧ w'.ownsRow w.heap.size 9 1 (.slice so n sc) n xs) ∧ Below w.heap.size w w'
set_option maxHeartbeats 4000000 in
theorem copiednames_any (l : List ByteArray) (v : Value) (w : World) (h : NamesV w v l) : Calls Tryz.prog 50 #[v] w fun e w' => NOwn w l.length e w' := by
  obtain ⟨ic, zc, hi, hz0, hz1, hz2, hz3⟩ := info_str
  obtain ⟨ao, ac, rfl, _⟩ := SlV.form h.1
  have hone : ∀ u ∈ strC l, u.oneCell' = true := fun u hu => by simp [strC] at hu; obtain ⟨a, _, rfl⟩ := hu; rfl
  obtain ⟨v1, X1, hrun, ho, hg, _⟩ := app_own (P := Tryz.prog) w w.heap.size 23 23 9 ic zc 1 16 Tryz.underlying23 hi hz0 hz1 hz2 hz3 (by decide) (.slice none 0 0) 0 [] (World.ownsRow_nil _ _ _ _) (.slice ao l.length ac) l.length (strC l) h.1 (by rw [strC_len, Nat.mul_one]) hone (by have := SlV.len h.1; omega) (by have := h.2; omega) (Nat.le_refl _)
  rw [Nat.zero_add, List.nil_append] at ho
  obtain ⟨so, sc, rfl, _, _⟩ := ownsRow_form ho
  have bw := hid (show Below w.heap.size w X1 from ⟨hg.os, hg.tape, hg.output, hg.size, fun b hb => hg.block b hb (by simp [Value.ownBlock])⟩)
  replace ho := hid ho
  replace hrun := hid hrun
  clear hone hg hi hz0 hz1 hz2 hz3 h
  go_enter Tryz.func50, Tryz.ntmps50
  go_wp2_with (at_builtin; refine wpList_app3 rfl (.const (.slice none 0 0)) (.tmp 3) _ _ rfl _ _ _ _ rfl rfl hrun.out ?_)
  go_ret
  exact ⟨⟨_, _, _, rfl, ho.out⟩, bw.out⟩
theorem copiedatts_any (an : List ByteArray) (att : List Ty) (v : Value) (w : World) (h : AttsV w v an att) : Calls Tryz.prog 51 #[v] w fun e w' => AOwn w att.length e w' := copiedattrs_any an att h.2.1 h.2.2 w v h.1
theorem three' {w : World} {b : Nat} {v0 v1 v2 : Value} {t : TypeId} (h : Blk w b [v0, v1, v2] t) :
    w.cell? ⟨b, 0, none⟩ = some v0 ∧ w.cell? ⟨b, 1, none⟩ = some v1 ∧ w.cell? ⟨b, 2, none⟩ = some v2 ∧ ∀ o, w.frozen? ⟨b, o, none⟩ = false := ⟨h.cell 0 (by simp), h.cell 1 (by simp), h.cell 2 (by simp), h.free⟩
set_option maxHeartbeats 4000000 in
theorem name_et (nm : ByteArray) (po : Option Addr) (pn pc : Nat) (ao : Option Addr) (an ac : Nat) (w : World) : Calls Tryz.prog 49 #[.agg #[.string nm, .slice po pn pc, .slice ao an ac]] w fun e w' => e = .returned (.string nm) ∧ Below w.heap.size w w' := by
  go_enter Tryz.func49, Tryz.ntmps49
  go_wp2_with fail
  go_ret
  exact ⟨rfl, (Below.refl _ w).alloc (Nat.le_refl _) _⟩
set_option maxHeartbeats 4000000 in
theorem find1_et (nm : ByteArray) (po : Option Addr) (pn pc : Nat) (ao : Option Addr) (an ac : Nat) (p q : Addr) (s : ByteArray) (w : World) (hp : Hid (w.cell? p = some (.func (Fn.func 49) #[] #[]))) (hq : Hid (w.cell? q = some (.string s))) :
    Calls Tryz.prog 97 #[.agg #[.string nm, .slice po pn pc, .slice ao an ac], .pointer (some p), .pointer (some q)] w fun e w' => ∃ b : Bool, e = .returned (.bool b) ∧ Below w.heap.size w w' := by
  go_enter Tryz.func97, Tryz.ntmps97
  go_upto_region 1 with fail
  have K3 := hid (Blk.new w [.string nm, .slice po pn pc, .slice ao an ac] 53)
  have bw := hid ((Below.refl w.heap.size w).alloc (Nat.le_refl _) (.cells #[.string nm, .slice po pn pc, .slice ao an ac] 53))
  replace hp := hid (cell_below bw.out _ _ hp.out)
  replace hq := hid (cell_below bw.out _ _ hq.out)
  obtain ⟨b3, hb3⟩ : ∃ b3, w.heap.size = b3 := ⟨_, rfl⟩
  generalize w.alloc (.cells #[.string nm, .slice po pn pc, .slice ao an ac] 53) = X1 at K3 bw hp hq ⊢
  rw [hb3] at K3 ⊢
  refine wp_region_held_drew (S := (fun W => W.cell? p = some (.func (Fn.func 49) #[] #[]) ∧ W.cell? q = some (.string s) ∧ W.cell? ⟨b3, 0, none⟩ = some (.string nm) ∧ W.cell? ⟨b3, 1, none⟩ = some (.slice po pn pc) ∧ W.cell? ⟨b3, 2, none⟩ = some (.slice ao an ac))) (by kernel_rfl) (by obtain ⟨s0, s1, s2, -⟩ := three' K3.out; exact ⟨hp.out, hq.out, s0, s1, s2⟩) (fun hHeld => ?_)
  replace K3 := hid K3.out.drew
  replace bw := hid bw.out.drew
  replace hp := hid (show X1.drew.cell? p = _ from hp.out)
  replace hq := hid (show X1.drew.cell? q = _ from hq.out)
  generalize X1.drew = w5 at K3 bw hp hq hHeld ⊢
  refine wpAnyH_take (i := 0) (v := ?_) rfl (by kernel_rfl) (by kernel_rfl) (by kernel_rfl) (fun _ _ _ h => h) (Or.inl ⟨by rfl, ?_⟩) (by assumption) ?_; rotate_left 1; (intro w hSw; (try dsimp only at hSw); go_simp; try with_reducible rfl); (try simp only [Act.put, List.getElem_toArray, List.getElem_cons_zero, List.getElem_cons_succ, List.setIfInBounds_toArray, List.set_cons_zero, List.set_cons_succ])
  refine wpAnyH_take (i := 1) (v := ?_) rfl (by kernel_rfl) (by kernel_rfl) (by kernel_rfl) (fun _ _ _ h => h) (Or.inl ⟨by rfl, ?_⟩) (by assumption) ?_; rotate_left 1; (intro w hSw; (try dsimp only at hSw); go_simp; try with_reducible rfl); (try simp only [Act.put, List.getElem_toArray, List.getElem_cons_zero, List.getElem_cons_succ, List.setIfInBounds_toArray, List.set_cons_zero, List.set_cons_succ])
  refine wpAnyH_take (i := 3) (v := ?_) rfl (by kernel_rfl) (by kernel_rfl) (by kernel_rfl) (fun _ _ _ h => h) (Or.inl ⟨by rfl, ?_⟩) (by assumption) ?_; rotate_left 1; (intro w hSw; (try dsimp only at hSw); go_simp; try with_reducible rfl); (try simp only [Act.put, List.getElem_toArray, List.getElem_cons_zero, List.getElem_cons_succ, List.setIfInBounds_toArray, List.set_cons_zero, List.set_cons_succ])
  refine wpAnyH_ready (rs := [2]) (by kernel_rfl) (by simp) ?_
  refine AllReadyH.cons rfl (fun K hK => ?_) AllReadyH.nil
  go_simp
  (with_reducible refine (name_et nm po pn pc ao an ac _).mono ?_)
  rintro e w6 ⟨rfl, b6⟩
  replace K3 := hid (K3.out.below b6 K3.out.lt)
  replace hp := hid (cell_below b6 _ _ hp.out)
  replace hq := hid (cell_below b6 _ _ hq.out)
  replace bw := hid (bt bw.out b6)
  clear b6
  refine hK.out _ _ (by obtain ⟨s0, s1, s2, -⟩ := three' K3.out; exact ⟨hp.out, hq.out, s0, s1, s2⟩) (fun hHeldN => ?_)
  clear hK K hHeld
  have hHeld := hHeldN
  clear hHeldN
  (try simp only [Act.put, List.getElem_toArray, List.getElem_cons_zero, List.getElem_cons_succ, List.setIfInBounds_toArray, List.set_cons_zero, List.set_cons_succ])
  refine wpAnyH_ready (rs := [4]) (by kernel_rfl) (by simp) ?_
  refine AllReadyH.cons rfl (fun K hK => ?_) AllReadyH.nil
  go_simp
  refine hK.out _ _ (by obtain ⟨s0, s1, s2, -⟩ := three' K3.out; exact ⟨hp.out, hq.out, s0, s1, s2⟩) (fun hHeldN => ?_)
  clear hK K hHeld
  have hHeld := hHeldN
  clear hHeldN
  (try simp only [Act.put, List.getElem_toArray, List.getElem_cons_zero, List.getElem_cons_succ, List.setIfInBounds_toArray, List.set_cons_zero, List.set_cons_succ])
  refine wpAnyH_take (i := 5) (v := ?_) rfl (by kernel_rfl) (by kernel_rfl) (by kernel_rfl) (fun _ _ _ h => h) (Or.inl ⟨by rfl, ?_⟩) (by assumption) ?_; rotate_left 1; (intro w hSw; (try dsimp only at hSw); go_simp; try with_reducible rfl); (try simp only [Act.put, List.getElem_toArray, List.getElem_cons_zero, List.getElem_cons_succ, List.setIfInBounds_toArray, List.set_cons_zero, List.set_cons_succ])
  refine wpAnyH_done (by kernel_rfl) ?_ _
  clear hHeld
  go_wp2_with fail
  go_ret
  exact ⟨_, rfl, bw.out⟩
set_option maxHeartbeats 8000000 in
theorem index_et (l : List Et) (v : Value) (p q : Addr) (s : ByteArray) (w : World) (h : EtsV w v l) (hp : Hid (w.cell? p = some (.func (Fn.func 49) #[] #[]))) (hq : Hid (w.cell? q = some (.string s))) :
    Calls Tryz.prog 96 #[v, .func (Fn.func 97) #[] #[.pointer (some p), .pointer (some q)]] w fun e w' => ∃ n : Int, e = .returned (.int .i64 n) ∧ (n = -1 ∨ ∃ i, i < l.length ∧ n = (i : Nat)) ∧ Below w.heap.size w w' := by
  obtain ⟨xo, xc, rfl, h2, h3⟩ := SlV.form h.1
  unfold maxLen at h3
  by_cases h0 : l.length = 0
  · have hl : l = [] := List.eq_nil_of_length_eq_zero h0
    subst hl
    clear h h0
    go_enter Tryz.func96, Tryz.ntmps96
    go_wp2_with fail
    go_rounds 1
    go_ret
    exact ⟨-1, rfl, .inl rfl, Below.refl _ _⟩
  · obtain ⟨b, off, cap', hv, hb, hc⟩ := h.open (by omega)
    simp only [Value.slice.injEq] at hv
    obtain ⟨rfl, _, rfl⟩ := hv
    have hc2 := hid hc
    have h' := hid h
    have hb' := hid hb
    clear hc h hb
    go_enter Tryz.func96, Tryz.ntmps96
    go_wp2_with fail
    go_loopw [8] (fun i wr => ∃ j : Nat, j ≤ l.length ∧ i = .int .i64 j ∧ Hid (Below w.heap.size w wr)) (fun i _ => l.length - (intOf i).toNat)
    case atStart => exact ⟨0, by omega, rfl, hid (Below.refl _ _)⟩
    case round =>
      obtain ⟨j, hj, rfl, bw⟩ := hrel
      rename_i wr _
      by_cases hlt : j < l.length
      · have hji : (j : Int) < (l.length : Int) := by omega
        obtain ⟨f0, f1, f2⟩ := hc2.out j hlt
        have hok := hid (h'.out.2 _ (List.getElem_mem hlt))
        generalize l[j] = z at f0 f1 f2 hok
        obtain ⟨po, pc, ao, ac, e1, e2⟩ := hok.out.forms
        rw [e1] at f1
        rw [e2] at f2
        replace f0 := cell_below bw.out _ _ f0
        replace f1 := cell_below bw.out _ _ f1
        replace f2 := cell_below bw.out _ _ f2
        have cQ := hid (find1_et z.name po z.ps.length pc ao z.att.length ac p q s wr (hid (cell_below bw.out _ _ hp.out)) (hid (cell_below bw.out _ _ hq.out)))
        clear e1 e2 hok
        go_wp2_with fail
        refine cQ.out.mono ?_
        rintro e w1 ⟨bb, rfl, b1⟩
        replace bw := hid (bt bw.out b1)
        clear b1 cQ
        cases bb with
        | true =>
          go_wp2_with fail
          go_ret
          exact ⟨j, rfl, .inr ⟨j, hlt, rfl⟩, bw.out⟩
        | false =>
          go_wp2_with fail
          go_roundw
          case rel => exact ⟨j + 1, by omega, by go_num, bw⟩
          case measure => simp [intOf]; omega
      · have hji : ¬ (j : Int) < (l.length : Int) := by omega
        go_wp2_with fail
        go_ret
        exact ⟨-1, rfl, .inl rfl, bw.out⟩
set_option maxHeartbeats 8000000 in
theorem find_et (l : List Et) (v : Value) (s : ByteArray) (w : World) (h : EtsV w v l) :
    Calls Tryz.prog 48 #[v, .func (Fn.func 49) #[] #[], .string s] w fun e w' => ((∃ x ∈ l, e = .returned (.tuple #[x.val, .bool true])) ∨ e = .returned (.tuple #[.agg #[.string ⟨#[]⟩, .slice none 0 0, .slice none 0 0], .bool false])) ∧ Below w.heap.size w w' := by
  obtain ⟨xo, xc, rfl, h2, h3⟩ := SlV.form h.1
  unfold maxLen at h3
  have h' := hid h
  have bw0 := hid (Below.refl w.heap.size w)
  clear h
  go_enter Tryz.func48, Tryz.ntmps48
  go_upto_region 1 with fail
  have KA := hid (Blk.new w [.func (Fn.func 49) #[] #[]] 97)
  have bw1 := hid (bw0.out.alloc (Nat.le_refl _) (.cells #[.func (Fn.func 49) #[] #[]] 97))
  have hs : w.heap.size + 1 = (w.alloc (.cells #[.func (Fn.func 49) #[] #[]] 97)).heap.size := by simp
  generalize w.alloc (.cells #[.func (Fn.func 49) #[] #[]] 97) = X0 at KA bw1 hs ⊢
  have KB := hid (Blk.new' X0 [.string s] 9 (w.heap.size + 1) hs)
  replace KA := hid (KA.out.alloc (.cells #[.string s] 9))
  have bw2 := hid (bw1.out.alloc (by omega) (.cells #[.string s] 9))
  have hs2 : w.heap.size + 1 + 1 = (X0.alloc (.cells #[.string s] 9)).heap.size := by simp; omega
  generalize X0.alloc (.cells #[.string s] 9) = X1 at KA KB bw2 hs2 ⊢
  have KC := hid (Blk.new' X1 [.string ⟨#[]⟩, .slice none 0 0, .slice none 0 0] 53 (w.heap.size + 1 + 1) hs2)
  replace KA := hid (KA.out.alloc (.cells #[.string ⟨#[]⟩, .slice none 0 0, .slice none 0 0] 53))
  replace KB := hid (KB.out.alloc (.cells #[.string ⟨#[]⟩, .slice none 0 0, .slice none 0 0] 53))
  have bw := hid (bw2.out.alloc (by omega) (.cells #[.string ⟨#[]⟩, .slice none 0 0, .slice none 0 0] 53))
  clear bw0 bw1 bw2 hs hs2
  generalize X1.alloc (.cells #[.string ⟨#[]⟩, .slice none 0 0, .slice none 0 0] 53) = X2 at KA KB KC bw ⊢
  have cQ := hid (index_et l (.slice xo l.length xc) ⟨w.heap.size, 0, none⟩ ⟨w.heap.size + 1, 0, none⟩ s X2 (h'.out.below bw.out) (hid (KA.out.cell 0 (by simp))) (hid (KB.out.cell 0 (by simp))))
  go_wp2_with fail
  refine cQ.out.mono ?_
  rintro e w3 ⟨n, rfl, hn, b3⟩
  replace KC := hid (KC.out.below b3 KC.out.lt)
  replace bw := hid (bt bw.out b3)
  clear b3 cQ KA KB
  rcases hn with rfl | ⟨i, hi, rfl⟩
  · go_upto_region 4 with fail
    have hlt := KC.out.lt
    have KN := hid (Blk.new w3 [.string ⟨#[]⟩, .slice none 0 0, .slice none 0 0] 53)
    replace KC := hid (KC.out.alloc (.cells #[.string ⟨#[]⟩, .slice none 0 0, .slice none 0 0] 53))
    replace bw := hid (bw.out.alloc (by have := bw.out.size; omega) (.cells #[.string ⟨#[]⟩, .slice none 0 0, .slice none 0 0] 53))
    have hne := hid (show w.heap.size + 1 + 1 ≠ w3.heap.size by omega)
    generalize w3.alloc (.cells #[.string ⟨#[]⟩, .slice none 0 0, .slice none 0 0] 53) = X4 at KN KC bw ⊢
    generalize w3.heap.size = b4 at KN hne ⊢
    obtain ⟨c0, c1, c2, cf⟩ := three' KC.out
    obtain ⟨d0, d1, d2, df⟩ := three' KN.out
    have hK := hid (show Blk ((((X4.setCell ⟨w.heap.size + 1 + 1, 0, none⟩ (.string ⟨#[]⟩)).setCell ⟨w.heap.size + 1 + 1, 1, none⟩ (.slice none 0 0)).setCell ⟨w.heap.size + 1 + 1, 2, none⟩ (.slice none 0 0))) (w.heap.size + 1 + 1) [.string ⟨#[]⟩, .slice none 0 0, .slice none 0 0] 53 from (((KC.out.set 0 (.string ⟨#[]⟩)).set 1 (.slice none 0 0)).set 2 (.slice none 0 0)))
    have hBw := hid ((((bw.out.setCell (p := ⟨w.heap.size + 1 + 1, 0, none⟩) (by show w.heap.size ≤ w.heap.size + 1 + 1; omega) (.string ⟨#[]⟩)).setCell (p := ⟨w.heap.size + 1 + 1, 1, none⟩) (by show w.heap.size ≤ w.heap.size + 1 + 1; omega) (.slice none 0 0)).setCell (p := ⟨w.heap.size + 1 + 1, 2, none⟩) (by show w.heap.size ≤ w.heap.size + 1 + 1; omega) (.slice none 0 0)))
    clear bw KC KN
    go_wp2_with fail
    obtain ⟨q0, q1, q2, qf⟩ := three' hK.out
    exact bodyPost_ret (v := .tuple #[.agg #[.string ⟨#[]⟩, .slice none 0 0, .slice none 0 0], .bool false]) (by simp [results, Tryz.results48, go_sem, q0, q1, q2]) rfl ⟨.inr rfl, hBw.out⟩
  · have hneg : ¬ (i : Int) < 0 := by omega
    have hji : (i : Int) < (l.length : Int) := by omega
    obtain ⟨b, off, cap', hv, hb, hc⟩ := h'.out.open (by omega)
    simp only [Value.slice.injEq] at hv
    obtain ⟨rfl, _, rfl⟩ := hv
    obtain ⟨f0, f1, f2⟩ := hc i hi
    have hok := hid (h'.out.2 _ (List.getElem_mem hi))
    have hmem := hid (List.getElem_mem hi)
    generalize l[i] = z at f0 f1 f2 hok hmem
    obtain ⟨po, pc, ao, ac, e1, e2⟩ := hok.out.forms
    rw [e1] at f1
    rw [e2] at f2
    replace f0 := cell_below bw.out _ _ f0
    replace f1 := cell_below bw.out _ _ f1
    replace f2 := cell_below bw.out _ _ f2
    have hval := hid (show z.val = .agg #[.string z.name, .slice po z.ps.length pc, .slice ao z.att.length ac] by unfold Et.val; rw [e1, e2])
    obtain ⟨c0, c1, c2, cf⟩ := three' KC.out
    have hK := hid (show Blk ((((w3.setCell ⟨w.heap.size + 1 + 1, 0, none⟩ (.string z.name)).setCell ⟨w.heap.size + 1 + 1, 1, none⟩ (.slice po z.ps.length pc)).setCell ⟨w.heap.size + 1 + 1, 2, none⟩ (.slice ao z.att.length ac))) (w.heap.size + 1 + 1) [.string z.name, .slice po z.ps.length pc, .slice ao z.att.length ac] 53 from (((KC.out.set 0 (.string z.name)).set 1 (.slice po z.ps.length pc)).set 2 (.slice ao z.att.length ac)))
    have hBw := hid ((((bw.out.setCell (p := ⟨w.heap.size + 1 + 1, 0, none⟩) (by show w.heap.size ≤ w.heap.size + 1 + 1; omega) (.string z.name)).setCell (p := ⟨w.heap.size + 1 + 1, 1, none⟩) (by show w.heap.size ≤ w.heap.size + 1 + 1; omega) (.slice po z.ps.length pc)).setCell (p := ⟨w.heap.size + 1 + 1, 2, none⟩) (by show w.heap.size ≤ w.heap.size + 1 + 1; omega) (.slice ao z.att.length ac)))
    clear e1 e2 hok hc hb bw KC h'
    go_wp2_with fail
    obtain ⟨q0, q1, q2, qf⟩ := three' hK.out
    exact bodyPost_ret (v := .tuple #[.agg #[.string z.name, .slice po z.ps.length pc, .slice ao z.att.length ac], .bool true]) (by simp [results, Tryz.results48, go_sem, q0, q1, q2]) rfl ⟨.inl ⟨z, hmem.out, by rw [hval.out]⟩, hBw.out⟩
set_option maxHeartbeats 4000000 in
theorem name_ac (nm : ByteArray) (po : Option Addr) (pn pc : Nat) (ro : Option Addr) (rn rc : Nat) (ao : Option Addr) (an ac : Nat) (w : World) : Calls Tryz.prog 53 #[.agg #[.string nm, .slice po pn pc, .slice ro rn rc, .slice ao an ac]] w fun e w' => e = .returned (.string nm) ∧ Below w.heap.size w w' := by
  go_enter Tryz.func53, Tryz.ntmps53
  go_wp2_with fail
  go_ret
  exact ⟨rfl, (Below.refl _ w).alloc (Nat.le_refl _) _⟩
set_option maxHeartbeats 4000000 in
theorem find1_ac (nm : ByteArray) (po : Option Addr) (pn pc : Nat) (ro : Option Addr) (rn rc : Nat) (ao : Option Addr) (an ac : Nat) (p q : Addr) (s : ByteArray) (w : World) (hp : Hid (w.cell? p = some (.func (Fn.func 53) #[] #[]))) (hq : Hid (w.cell? q = some (.string s))) :
    Calls Tryz.prog 100 #[.agg #[.string nm, .slice po pn pc, .slice ro rn rc, .slice ao an ac], .pointer (some p), .pointer (some q)] w fun e w' => ∃ b : Bool, e = .returned (.bool b) ∧ Below w.heap.size w w' := by
  go_enter Tryz.func100, Tryz.ntmps100
  go_upto_region 1 with fail
  have K3 := hid (Blk.new w [.string nm, .slice po pn pc, .slice ro rn rc, .slice ao an ac] 57)
  have bw := hid ((Below.refl w.heap.size w).alloc (Nat.le_refl _) (.cells #[.string nm, .slice po pn pc, .slice ro rn rc, .slice ao an ac] 57))
  replace hp := hid (cell_below bw.out _ _ hp.out)
  replace hq := hid (cell_below bw.out _ _ hq.out)
  obtain ⟨b3, hb3⟩ : ∃ b3, w.heap.size = b3 := ⟨_, rfl⟩
  generalize w.alloc (.cells #[.string nm, .slice po pn pc, .slice ro rn rc, .slice ao an ac] 57) = X1 at K3 bw hp hq ⊢
  rw [hb3] at K3 ⊢
  refine wp_region_held_drew (S := (fun W => W.cell? p = some (.func (Fn.func 53) #[] #[]) ∧ W.cell? q = some (.string s) ∧ W.cell? ⟨b3, 0, none⟩ = some (.string nm) ∧ W.cell? ⟨b3, 1, none⟩ = some (.slice po pn pc) ∧ W.cell? ⟨b3, 2, none⟩ = some (.slice ro rn rc) ∧ W.cell? ⟨b3, 3, none⟩ = some (.slice ao an ac))) (by kernel_rfl) (by obtain ⟨s0, s1, s2, s3, -⟩ := four' K3.out; exact ⟨hp.out, hq.out, s0, s1, s2, s3⟩) (fun hHeld => ?_)
  replace K3 := hid K3.out.drew
  replace bw := hid bw.out.drew
  replace hp := hid (show X1.drew.cell? p = _ from hp.out)
  replace hq := hid (show X1.drew.cell? q = _ from hq.out)
  generalize X1.drew = w5 at K3 bw hp hq hHeld ⊢
  refine wpAnyH_take (i := 0) (v := ?_) rfl (by kernel_rfl) (by kernel_rfl) (by kernel_rfl) (fun _ _ _ h => h) (Or.inl ⟨by rfl, ?_⟩) (by assumption) ?_; rotate_left 1; (intro w hSw; (try dsimp only at hSw); go_simp; try with_reducible rfl); (try simp only [Act.put, List.getElem_toArray, List.getElem_cons_zero, List.getElem_cons_succ, List.setIfInBounds_toArray, List.set_cons_zero, List.set_cons_succ])
  refine wpAnyH_take (i := 1) (v := ?_) rfl (by kernel_rfl) (by kernel_rfl) (by kernel_rfl) (fun _ _ _ h => h) (Or.inl ⟨by rfl, ?_⟩) (by assumption) ?_; rotate_left 1; (intro w hSw; (try dsimp only at hSw); go_simp; try with_reducible rfl); (try simp only [Act.put, List.getElem_toArray, List.getElem_cons_zero, List.getElem_cons_succ, List.setIfInBounds_toArray, List.set_cons_zero, List.set_cons_succ])
  refine wpAnyH_take (i := 3) (v := ?_) rfl (by kernel_rfl) (by kernel_rfl) (by kernel_rfl) (fun _ _ _ h => h) (Or.inl ⟨by rfl, ?_⟩) (by assumption) ?_; rotate_left 1; (intro w hSw; (try dsimp only at hSw); go_simp; try with_reducible rfl); (try simp only [Act.put, List.getElem_toArray, List.getElem_cons_zero, List.getElem_cons_succ, List.setIfInBounds_toArray, List.set_cons_zero, List.set_cons_succ])
  refine wpAnyH_ready (rs := [2]) (by kernel_rfl) (by simp) ?_
  refine AllReadyH.cons rfl (fun K hK => ?_) AllReadyH.nil
  go_simp
  (with_reducible refine (name_ac nm po pn pc ro rn rc ao an ac _).mono ?_)
  rintro e w6 ⟨rfl, b6⟩
  replace K3 := hid (K3.out.below b6 K3.out.lt)
  replace hp := hid (cell_below b6 _ _ hp.out)
  replace hq := hid (cell_below b6 _ _ hq.out)
  replace bw := hid (bt bw.out b6)
  clear b6
  refine hK.out _ _ (by obtain ⟨s0, s1, s2, s3, -⟩ := four' K3.out; exact ⟨hp.out, hq.out, s0, s1, s2, s3⟩) (fun hHeldN => ?_)
  clear hK K hHeld
  have hHeld := hHeldN
  clear hHeldN
  (try simp only [Act.put, List.getElem_toArray, List.getElem_cons_zero, List.getElem_cons_succ, List.setIfInBounds_toArray, List.set_cons_zero, List.set_cons_succ])
  refine wpAnyH_ready (rs := [4]) (by kernel_rfl) (by simp) ?_
  refine AllReadyH.cons rfl (fun K hK => ?_) AllReadyH.nil
  go_simp
  refine hK.out _ _ (by obtain ⟨s0, s1, s2, s3, -⟩ := four' K3.out; exact ⟨hp.out, hq.out, s0, s1, s2, s3⟩) (fun hHeldN => ?_)
  clear hK K hHeld
  have hHeld := hHeldN
  clear hHeldN
  (try simp only [Act.put, List.getElem_toArray, List.getElem_cons_zero, List.getElem_cons_succ, List.setIfInBounds_toArray, List.set_cons_zero, List.set_cons_succ])
  refine wpAnyH_take (i := 5) (v := ?_) rfl (by kernel_rfl) (by kernel_rfl) (by kernel_rfl) (fun _ _ _ h => h) (Or.inl ⟨by rfl, ?_⟩) (by assumption) ?_; rotate_left 1; (intro w hSw; (try dsimp only at hSw); go_simp; try with_reducible rfl); (try simp only [Act.put, List.getElem_toArray, List.getElem_cons_zero, List.getElem_cons_succ, List.setIfInBounds_toArray, List.set_cons_zero, List.set_cons_succ])
  refine wpAnyH_done (by kernel_rfl) ?_ _
  clear hHeld
  go_wp2_with fail
  go_ret
  exact ⟨_, rfl, bw.out⟩
set_option maxHeartbeats 8000000 in
theorem index_ac (l : List Ac) (v : Value) (p q : Addr) (s : ByteArray) (w : World) (h : AcsV w v l) (hp : Hid (w.cell? p = some (.func (Fn.func 53) #[] #[]))) (hq : Hid (w.cell? q = some (.string s))) :
    Calls Tryz.prog 99 #[v, .func (Fn.func 100) #[] #[.pointer (some p), .pointer (some q)]] w fun e w' => ∃ n : Int, e = .returned (.int .i64 n) ∧ (n = -1 ∨ ∃ i, i < l.length ∧ n = (i : Nat)) ∧ Below w.heap.size w w' := by
  obtain ⟨xo, xc, rfl, h2, h3⟩ := SlV.form h.1
  unfold maxLen at h3
  by_cases h0 : l.length = 0
  · have hl : l = [] := List.eq_nil_of_length_eq_zero h0
    subst hl
    clear h h0
    go_enter Tryz.func99, Tryz.ntmps99
    go_wp2_with fail
    go_rounds 1
    go_ret
    exact ⟨-1, rfl, .inl rfl, Below.refl _ _⟩
  · obtain ⟨b, off, cap', hv, hb, hc⟩ := h.open (by omega)
    simp only [Value.slice.injEq] at hv
    obtain ⟨rfl, _, rfl⟩ := hv
    have hc2 := hid hc
    have h' := hid h
    have hb' := hid hb
    clear hc h hb
    go_enter Tryz.func99, Tryz.ntmps99
    go_wp2_with fail
    go_loopw [8] (fun i wr => ∃ j : Nat, j ≤ l.length ∧ i = .int .i64 j ∧ Hid (Below w.heap.size w wr)) (fun i _ => l.length - (intOf i).toNat)
    case atStart => exact ⟨0, by omega, rfl, hid (Below.refl _ _)⟩
    case round =>
      obtain ⟨j, hj, rfl, bw⟩ := hrel
      rename_i wr _
      by_cases hlt : j < l.length
      · have hji : (j : Int) < (l.length : Int) := by omega
        obtain ⟨f0, f1, f2, f3⟩ := hc2.out j hlt
        have hok := hid (h'.out.2 _ (List.getElem_mem hlt))
        generalize l[j] = z at f0 f1 f2 f3 hok
        obtain ⟨po, pc, ro, rc, ao, ac, e1, e2, e3⟩ := hok.out.forms
        rw [e1] at f1
        rw [e2] at f2
        rw [e3] at f3
        replace f0 := cell_below bw.out _ _ f0
        replace f1 := cell_below bw.out _ _ f1
        replace f2 := cell_below bw.out _ _ f2
        replace f3 := cell_below bw.out _ _ f3
        have cQ := hid (find1_ac z.name po z.ps.length pc ro z.rs.length rc ao z.att.length ac p q s wr (hid (cell_below bw.out _ _ hp.out)) (hid (cell_below bw.out _ _ hq.out)))
        clear e1 e2 e3 hok
        go_wp2_with fail
        refine cQ.out.mono ?_
        rintro e w1 ⟨bb, rfl, b1⟩
        replace bw := hid (bt bw.out b1)
        clear b1 cQ
        cases bb with
        | true =>
          go_wp2_with fail
          go_ret
          exact ⟨j, rfl, .inr ⟨j, hlt, rfl⟩, bw.out⟩
        | false =>
          go_wp2_with fail
          go_roundw
          case rel => exact ⟨j + 1, by omega, by go_num, bw⟩
          case measure => simp [intOf]; omega
      · have hji : ¬ (j : Int) < (l.length : Int) := by omega
        go_wp2_with fail
        go_ret
        exact ⟨-1, rfl, .inl rfl, bw.out⟩
set_option maxHeartbeats 8000000 in
theorem find_ac (l : List Ac) (v : Value) (s : ByteArray) (w : World) (h : AcsV w v l) :
    Calls Tryz.prog 52 #[v, .func (Fn.func 53) #[] #[], .string s] w fun e w' => ((∃ x ∈ l, e = .returned (.tuple #[x.val, .bool true])) ∨ e = .returned (.tuple #[.agg #[.string ⟨#[]⟩, .slice none 0 0, .slice none 0 0, .slice none 0 0], .bool false])) ∧ Below w.heap.size w w' := by
  obtain ⟨xo, xc, rfl, h2, h3⟩ := SlV.form h.1
  unfold maxLen at h3
  have h' := hid h
  have bw0 := hid (Below.refl w.heap.size w)
  clear h
  go_enter Tryz.func52, Tryz.ntmps52
  go_upto_region 1 with fail
  have KA := hid (Blk.new w [.func (Fn.func 53) #[] #[]] 102)
  have bw1 := hid (bw0.out.alloc (Nat.le_refl _) (.cells #[.func (Fn.func 53) #[] #[]] 102))
  have hs : w.heap.size + 1 = (w.alloc (.cells #[.func (Fn.func 53) #[] #[]] 102)).heap.size := by simp
  generalize w.alloc (.cells #[.func (Fn.func 53) #[] #[]] 102) = X0 at KA bw1 hs ⊢
  have KB := hid (Blk.new' X0 [.string s] 9 (w.heap.size + 1) hs)
  replace KA := hid (KA.out.alloc (.cells #[.string s] 9))
  have bw2 := hid (bw1.out.alloc (by omega) (.cells #[.string s] 9))
  have hs2 : w.heap.size + 1 + 1 = (X0.alloc (.cells #[.string s] 9)).heap.size := by simp; omega
  generalize X0.alloc (.cells #[.string s] 9) = X1 at KA KB bw2 hs2 ⊢
  have KC := hid (Blk.new' X1 [.string ⟨#[]⟩, .slice none 0 0, .slice none 0 0, .slice none 0 0] 57 (w.heap.size + 1 + 1) hs2)
  replace KA := hid (KA.out.alloc (.cells #[.string ⟨#[]⟩, .slice none 0 0, .slice none 0 0, .slice none 0 0] 57))
  replace KB := hid (KB.out.alloc (.cells #[.string ⟨#[]⟩, .slice none 0 0, .slice none 0 0, .slice none 0 0] 57))
  have bw := hid (bw2.out.alloc (by omega) (.cells #[.string ⟨#[]⟩, .slice none 0 0, .slice none 0 0, .slice none 0 0] 57))
  clear bw0 bw1 bw2 hs hs2
  generalize X1.alloc (.cells #[.string ⟨#[]⟩, .slice none 0 0, .slice none 0 0, .slice none 0 0] 57) = X2 at KA KB KC bw ⊢
  have cQ := hid (index_ac l (.slice xo l.length xc) ⟨w.heap.size, 0, none⟩ ⟨w.heap.size + 1, 0, none⟩ s X2 (h'.out.below bw.out) (hid (KA.out.cell 0 (by simp))) (hid (KB.out.cell 0 (by simp))))
  go_wp2_with fail
  refine cQ.out.mono ?_
  rintro e w3 ⟨n, rfl, hn, b3⟩
  replace KC := hid (KC.out.below b3 KC.out.lt)
  replace bw := hid (bt bw.out b3)
  clear b3 cQ KA KB
  rcases hn with rfl | ⟨i, hi, rfl⟩
  · go_upto_region 4 with fail
    have hlt := KC.out.lt
    have KN := hid (Blk.new w3 [.string ⟨#[]⟩, .slice none 0 0, .slice none 0 0, .slice none 0 0] 57)
    replace KC := hid (KC.out.alloc (.cells #[.string ⟨#[]⟩, .slice none 0 0, .slice none 0 0, .slice none 0 0] 57))
    replace bw := hid (bw.out.alloc (by have := bw.out.size; omega) (.cells #[.string ⟨#[]⟩, .slice none 0 0, .slice none 0 0, .slice none 0 0] 57))
    have hne := hid (show w.heap.size + 1 + 1 ≠ w3.heap.size by omega)
    generalize w3.alloc (.cells #[.string ⟨#[]⟩, .slice none 0 0, .slice none 0 0, .slice none 0 0] 57) = X4 at KN KC bw ⊢
    generalize w3.heap.size = b4 at KN hne ⊢
    obtain ⟨c0, c1, c2, c3, cf⟩ := four' KC.out
    obtain ⟨d0, d1, d2, d3, df⟩ := four' KN.out
    have hK := hid (show Blk (((((X4.setCell ⟨w.heap.size + 1 + 1, 0, none⟩ (.string ⟨#[]⟩)).setCell ⟨w.heap.size + 1 + 1, 1, none⟩ (.slice none 0 0)).setCell ⟨w.heap.size + 1 + 1, 2, none⟩ (.slice none 0 0)).setCell ⟨w.heap.size + 1 + 1, 3, none⟩ (.slice none 0 0))) (w.heap.size + 1 + 1) [.string ⟨#[]⟩, .slice none 0 0, .slice none 0 0, .slice none 0 0] 57 from ((((KC.out.set 0 (.string ⟨#[]⟩)).set 1 (.slice none 0 0)).set 2 (.slice none 0 0)).set 3 (.slice none 0 0)))
    have hBw := hid (((((bw.out.setCell (p := ⟨w.heap.size + 1 + 1, 0, none⟩) (by show w.heap.size ≤ w.heap.size + 1 + 1; omega) (.string ⟨#[]⟩)).setCell (p := ⟨w.heap.size + 1 + 1, 1, none⟩) (by show w.heap.size ≤ w.heap.size + 1 + 1; omega) (.slice none 0 0)).setCell (p := ⟨w.heap.size + 1 + 1, 2, none⟩) (by show w.heap.size ≤ w.heap.size + 1 + 1; omega) (.slice none 0 0)).setCell (p := ⟨w.heap.size + 1 + 1, 3, none⟩) (by show w.heap.size ≤ w.heap.size + 1 + 1; omega) (.slice none 0 0)))
    clear bw KC KN
    go_wp2_with fail
    obtain ⟨q0, q1, q2, q3, qf⟩ := four' hK.out
    exact bodyPost_ret (v := .tuple #[.agg #[.string ⟨#[]⟩, .slice none 0 0, .slice none 0 0, .slice none 0 0], .bool false]) (by simp [results, Tryz.results52, go_sem, q0, q1, q2, q3]) rfl ⟨.inr rfl, hBw.out⟩
  · have hneg : ¬ (i : Int) < 0 := by omega
    have hji : (i : Int) < (l.length : Int) := by omega
    obtain ⟨b, off, cap', hv, hb, hc⟩ := h'.out.open (by omega)
    simp only [Value.slice.injEq] at hv
    obtain ⟨rfl, _, rfl⟩ := hv
    obtain ⟨f0, f1, f2, f3⟩ := hc i hi
    have hok := hid (h'.out.2 _ (List.getElem_mem hi))
    have hmem := hid (List.getElem_mem hi)
    generalize l[i] = z at f0 f1 f2 f3 hok hmem
    obtain ⟨po, pc, ro, rc, ao, ac, e1, e2, e3⟩ := hok.out.forms
    rw [e1] at f1
    rw [e2] at f2
    rw [e3] at f3
    replace f0 := cell_below bw.out _ _ f0
    replace f1 := cell_below bw.out _ _ f1
    replace f2 := cell_below bw.out _ _ f2
    replace f3 := cell_below bw.out _ _ f3
    have hval := hid (show z.val = .agg #[.string z.name, .slice po z.ps.length pc, .slice ro z.rs.length rc, .slice ao z.att.length ac] by unfold Ac.val; rw [e1, e2, e3])
    obtain ⟨c0, c1, c2, c3, cf⟩ := four' KC.out
    have hK := hid (show Blk (((((w3.setCell ⟨w.heap.size + 1 + 1, 0, none⟩ (.string z.name)).setCell ⟨w.heap.size + 1 + 1, 1, none⟩ (.slice po z.ps.length pc)).setCell ⟨w.heap.size + 1 + 1, 2, none⟩ (.slice ro z.rs.length rc)).setCell ⟨w.heap.size + 1 + 1, 3, none⟩ (.slice ao z.att.length ac))) (w.heap.size + 1 + 1) [.string z.name, .slice po z.ps.length pc, .slice ro z.rs.length rc, .slice ao z.att.length ac] 57 from ((((KC.out.set 0 (.string z.name)).set 1 (.slice po z.ps.length pc)).set 2 (.slice ro z.rs.length rc)).set 3 (.slice ao z.att.length ac)))
    have hBw := hid (((((bw.out.setCell (p := ⟨w.heap.size + 1 + 1, 0, none⟩) (by show w.heap.size ≤ w.heap.size + 1 + 1; omega) (.string z.name)).setCell (p := ⟨w.heap.size + 1 + 1, 1, none⟩) (by show w.heap.size ≤ w.heap.size + 1 + 1; omega) (.slice po z.ps.length pc)).setCell (p := ⟨w.heap.size + 1 + 1, 2, none⟩) (by show w.heap.size ≤ w.heap.size + 1 + 1; omega) (.slice ro z.rs.length rc)).setCell (p := ⟨w.heap.size + 1 + 1, 3, none⟩) (by show w.heap.size ≤ w.heap.size + 1 + 1; omega) (.slice ao z.att.length ac)))
    clear e1 e2 e3 hok hc hb bw KC h'
    go_wp2_with fail
    obtain ⟨q0, q1, q2, q3, qf⟩ := four' hK.out
    exact bodyPost_ret (v := .tuple #[.agg #[.string z.name, .slice po z.ps.length pc, .slice ro z.rs.length rc, .slice ao z.att.length ac], .bool true]) (by simp [results, Tryz.results52, go_sem, q0, q1, q2, q3]) rfl ⟨.inl ⟨z, hmem.out, by rw [hval.out]⟩, hBw.out⟩
end Go.Proofs.YtbcjppbiihgfpaaGreatDoor.Tyt
