/-
  schema.Type, schema.Action: what they answer lies in rows of the call's own. Written by wip/tytypegen.py.
-/
import Derived.Test.YtbcjppbiihgfpaaGreatDoorTyFind
namespace Go.Proofs.YtbcjppbiihgfpaaGreatDoor.Tyt
open Go.ChangeShapes Go.WideShapes Go.ChangeAt Go.RowKit
open Go.Proofs.YtbcjppbiihgfpaaGreatDoor.Mem
set_option linter.unusedVariables false
set_option linter.unusedSimpArgs false
set_option maxRecDepth 100000
/-- a row that lies at B or above and may be written -/
def RowW (W : World) (B : Nat) (so : Option Addr) (n size : Nat) (t : TypeId) : Prop := n ≤ 9223372036854775807 ∧ (n = 0 ∨ ∃ g cs, so = some ⟨g, 0, none⟩ ∧ B ≤ g ∧ Blk W g cs t ∧ n * size ≤ cs.length)
theorem RowW.nil (W : World) (B size : Nat) (t : TypeId) : RowW W B none 0 size t := ⟨by omega, .inl rfl⟩
theorem RowW.of {W : World} {B size n sc : Nat} {so : Option Addr} {t : TypeId} {xs : List Value} (h : W.ownsRow B t size (.slice so n sc) n xs) : RowW W B so n size t := by
  have hl := SlV.len (SlV.own h)
  unfold maxLen at hl
  refine ⟨by omega, ?_⟩
  rcases h.2 with ⟨h2, _⟩ | ⟨g, cap, cur, hv, hg, hh, hnc, hcm, hcs, htake⟩
  · simp only [Value.slice.injEq] at h2
    exact .inl h2.2.1
  · simp only [Value.slice.injEq] at hv
    refine .inr ⟨g, cur.toList, hv.1, hg, ⟨by rw [hh]⟩, ?_⟩
    rw [Array.length_toList, hcs]
    exact Nat.mul_le_mul_right _ hnc
theorem RowW.below {W W' : World} {B size n : Nat} {so : Option Addr} {t : TypeId} (h : RowW W B so n size t) (b : Below W.heap.size W W') : RowW W' B so n size t := by
  refine ⟨h.1, ?_⟩
  rcases h.2 with h | ⟨g, cs, h1, h2, h3, h4⟩
  · exact .inl h
  · exact .inr ⟨g, cs, h1, h2, h3.below b h3.lt, h4⟩
theorem RowW.mono {W : World} {B B' size n : Nat} {so : Option Addr} {t : TypeId} (h : RowW W B so n size t) (hb : B' ≤ B) : RowW W B' so n size t := by
  refine ⟨h.1, ?_⟩
  rcases h.2 with h | ⟨g, cs, h1, h2, h3, h4⟩
  · exact .inl h
  · exact .inr ⟨g, cs, h1, by omega, h3, h4⟩
theorem RowW.set {W : World} {B size n : Nat} {so : Option Addr} {t : TypeId} (h : RowW W B so n size t) (a o : Nat) (v : Value) : RowW (W.setCell ⟨a, o, none⟩ v) B so n size t := by
  refine ⟨h.1, ?_⟩
  rcases h.2 with h | ⟨g, cs, h1, h2, h3, h4⟩
  · exact .inl h
  · by_cases e : a = g
    · subst e
      exact .inr ⟨a, cs.set o v, h1, h2, h3.set o v, by rw [List.length_set]; exact h4⟩
    · exact .inr ⟨g, cs, h1, h2, h3.other (p := ⟨a, o, none⟩) (by show a ≠ g; exact e) v, h4⟩
/-- Type's answer -/
def GiveEt (B : Nat) (e : Ending) (w' : World) : Prop := ∃ (nm : ByteArray) (u0 : Option Addr) (n0 d0 : Nat) (u1 : Option Addr) (n1 d1 : Nat) (c : Int), e = .returned (.tuple #[.agg #[.string nm, .slice u0 n0 d0, .slice u1 n1 d1], .int .i64 c]) ∧ RowW w' B u0 n0 1 9 ∧ RowW w' B u1 n1 5 65
set_option maxHeartbeats 8000000 in
theorem give_et (x : Sch) (s : ByteArray) (w : World) (h : x.ok w) : Calls Tryz.prog 21 #[x.val, .string s] w fun e w' => GiveEt w.heap.size e w' ∧ Below w.heap.size w w' := by
  obtain ⟨to, tc, et, _⟩ := SlV.form h.1.1
  obtain ⟨co, cc, ec, _⟩ := SlV.form h.2.1
  rw [show x.val = .agg #[.slice to x.ts.length tc, .slice co x.acts.length cc] by unfold Sch.val; rw [et, ec]]
  have h' := hid h
  have hl := hid (show ∀ W, Below w.heap.size w W → EtsV W (.slice to x.ts.length tc) x.ts from fun W B => et ▸ (h.below B).1)
  have bw0 := hid (Below.refl w.heap.size w)
  clear h et ec
  go_enter Tryz.func21, Tryz.ntmps21
  go_upto_region 1 with fail
  have KX := hid (Blk.new w [.slice to x.ts.length tc, .slice co x.acts.length cc] 49)
  have bw1 := hid (bw0.out.alloc (Nat.le_refl _) (.cells #[.slice to x.ts.length tc, .slice co x.acts.length cc] 49))
  have hs : w.heap.size + 1 = (w.alloc (.cells #[.slice to x.ts.length tc, .slice co x.acts.length cc] 49)).heap.size := by simp
  generalize w.alloc (.cells #[.slice to x.ts.length tc, .slice co x.acts.length cc] 49) = X0 at KX bw1 hs ⊢
  have KR := hid (Blk.new' X0 [.string ⟨#[]⟩, .slice none 0 0, .slice none 0 0] 53 (w.heap.size + 1) hs)
  replace KX := hid (KX.out.alloc (.cells #[.string ⟨#[]⟩, .slice none 0 0, .slice none 0 0] 53))
  have bw := hid (bw1.out.alloc (by omega) (.cells #[.string ⟨#[]⟩, .slice none 0 0, .slice none 0 0] 53))
  have hsz := hid (show (X0.alloc (.cells #[.string ⟨#[]⟩, .slice none 0 0, .slice none 0 0] 53)).heap.size = w.heap.size + 1 + 1 by simp; omega)
  clear bw0 bw1 hs
  generalize X0.alloc (.cells #[.string ⟨#[]⟩, .slice none 0 0, .slice none 0 0] 53) = X1 at KX KR bw hsz ⊢
  obtain ⟨c0, c1, cf⟩ := (show X1.cell? ⟨w.heap.size, 0, none⟩ = some (.slice to x.ts.length tc) ∧ X1.cell? ⟨w.heap.size, 1, none⟩ = some (.slice co x.acts.length cc) ∧ ∀ o, X1.frozen? ⟨w.heap.size, o, none⟩ = false from ⟨KX.out.cell 0 (by simp), KX.out.cell 1 (by simp), KX.out.free⟩)
  have cQ := hid (find_et x.ts _ s X1 (hl.out X1 bw.out))
  go_wp2_with fail
  refine cQ.out.mono ?_
  rintro e w3 ⟨hr, b3⟩
  replace KR := hid (KR.out.below b3 KR.out.lt)
  replace bw := hid (bt bw.out b3)
  have hbf : w.heap.size + 1 + 1 ≤ w3.heap.size := by have := b3.size; have := hsz.out; omega
  clear b3 cQ KX c0 c1 cf hsz
  rcases hr with ⟨z, hz, rfl⟩ | rfl
  · have hzk := hid ((hl.out w3 bw.out).2 z hz)
    obtain ⟨po, pc, ao, ac, e0, e1⟩ := hzk.out.forms
    rw [show z.val = .agg #[.string z.name, .slice po z.ps.length pc, .slice ao z.att.length ac] by unfold Et.val; rw [e0, e1]]
    replace e0 := hid e0
    replace e1 := hid e1
    clear hz hl h'
    go_upto_region 4 with fail
    have KF := hid (Blk.new w3 [.string z.name, .slice po z.ps.length pc, .slice ao z.att.length ac] 53)
    replace KR := hid (KR.out.alloc (.cells #[.string z.name, .slice po z.ps.length pc, .slice ao z.att.length ac] 53))
    replace hzk := hid (hzk.out.below ((Below.refl w3.heap.size w3).alloc (Nat.le_refl _) (.cells #[.string z.name, .slice po z.ps.length pc, .slice ao z.att.length ac] 53)))
    replace bw := hid (bw.out.alloc (by omega) (.cells #[.string z.name, .slice po z.ps.length pc, .slice ao z.att.length ac] 53))
    generalize w3.alloc (.cells #[.string z.name, .slice po z.ps.length pc, .slice ao z.att.length ac] 53) = X4 at KF KR hzk bw ⊢
    generalize w3.heap.size = bf at KF hbf ⊢
    refine wp_region_held_drew (S := (fun W => W.cell? ⟨bf, 0, none⟩ = some (.string z.name) ∧ W.cell? ⟨bf, 1, none⟩ = some (.slice po z.ps.length pc) ∧ W.cell? ⟨bf, 2, none⟩ = some (.slice ao z.att.length ac))) (by kernel_rfl) (by obtain ⟨s0, s1, s2, -⟩ := three' KF.out; exact ⟨s0, s1, s2⟩) (fun hHeld => ?_)
    replace KF := hid KF.out.drew
    replace KR := hid KR.out.drew
    replace hzk := hid (hzk.out.below (Below.refl _ X4).drew)
    replace bw := hid bw.out.drew
    generalize X4.drew = w5 at KF KR hzk bw hHeld ⊢
    refine wpAnyH_take (i := 0) (v := ?_) rfl (by kernel_rfl) (by kernel_rfl) (by kernel_rfl) (fun _ _ _ h => h) (Or.inl ⟨by rfl, ?_⟩) (by assumption) ?_; rotate_left 1; (intro w hSw; (try dsimp only at hSw); go_simp; try with_reducible rfl); (try simp only [Act.put, List.getElem_toArray, List.getElem_cons_zero, List.getElem_cons_succ, List.setIfInBounds_toArray, List.set_cons_zero, List.set_cons_succ])
    refine wpAnyH_take (i := 1) (v := ?_) rfl (by kernel_rfl) (by kernel_rfl) (by kernel_rfl) (fun _ _ _ h => h) (Or.inl ⟨by rfl, ?_⟩) (by assumption) ?_; rotate_left 1; (intro w hSw; (try dsimp only at hSw); go_simp; try with_reducible rfl); (try simp only [Act.put, List.getElem_toArray, List.getElem_cons_zero, List.getElem_cons_succ, List.setIfInBounds_toArray, List.set_cons_zero, List.set_cons_succ])
    refine wpAnyH_take (i := 2) (v := ?_) rfl (by kernel_rfl) (by kernel_rfl) (by kernel_rfl) (fun _ _ _ h => h) (Or.inl ⟨by rfl, ?_⟩) (by assumption) ?_; rotate_left 1; (intro w hSw; (try dsimp only at hSw); go_simp; try with_reducible rfl); (try simp only [Act.put, List.getElem_toArray, List.getElem_cons_zero, List.getElem_cons_succ, List.setIfInBounds_toArray, List.set_cons_zero, List.set_cons_succ])
    refine wpAnyH_take (i := 3) (v := ?_) rfl (by kernel_rfl) (by kernel_rfl) (by kernel_rfl) (fun _ _ _ h => h) (Or.inl ⟨by rfl, ?_⟩) (by assumption) ?_; rotate_left 1; (intro w hSw; (try dsimp only at hSw); go_simp; try with_reducible rfl); (try simp only [Act.put, List.getElem_toArray, List.getElem_cons_zero, List.getElem_cons_succ, List.setIfInBounds_toArray, List.set_cons_zero, List.set_cons_succ])
    refine wpAnyH_take (i := 5) (v := ?_) rfl (by kernel_rfl) (by kernel_rfl) (by kernel_rfl) (fun _ _ _ h => h) (Or.inl ⟨by rfl, ?_⟩) (by assumption) ?_; rotate_left 1; (intro w hSw; (try dsimp only at hSw); go_simp; try with_reducible rfl); (try simp only [Act.put, List.getElem_toArray, List.getElem_cons_zero, List.getElem_cons_succ, List.setIfInBounds_toArray, List.set_cons_zero, List.set_cons_succ])
    refine wpAnyH_take (i := 6) (v := ?_) rfl (by kernel_rfl) (by kernel_rfl) (by kernel_rfl) (fun _ _ _ h => h) (Or.inl ⟨by rfl, ?_⟩) (by assumption) ?_; rotate_left 1; (intro w hSw; (try dsimp only at hSw); go_simp; try with_reducible rfl); (try simp only [Act.put, List.getElem_toArray, List.getElem_cons_zero, List.getElem_cons_succ, List.setIfInBounds_toArray, List.set_cons_zero, List.set_cons_succ])
    refine wpAnyH_ready (rs := [4]) (by kernel_rfl) (by simp) ?_
    refine AllReadyH.cons rfl (fun K hK => ?_) AllReadyH.nil
    go_simp
    (with_reducible refine (copiednames_any z.ps (.slice po z.ps.length pc) _ (e0.out ▸ hzk.out.parts.2.1)).mono ?_)
    rintro e w6 ⟨⟨u0, d0, xs0, rfl, hown⟩, b6⟩
    have hr0 := hid ((RowW.of hown).mono (by have := bw.out.size; omega : w.heap.size ≤ _))
    clear hown
    replace KR := hid (KR.out.below b6 KR.out.lt)
    replace KF := hid (KF.out.below b6 KF.out.lt)
    replace hzk := hid (hzk.out.below b6)
    replace bw := hid (bt bw.out b6)
    clear b6
    refine hK.out _ _ (by obtain ⟨s0, s1, s2, -⟩ := three' KF.out; exact ⟨s0, s1, s2⟩) (fun hHeldN => ?_)
    clear hK K hHeld
    have hHeld := hHeldN
    clear hHeldN
    (try simp only [Act.put, List.getElem_toArray, List.getElem_cons_zero, List.getElem_cons_succ, List.setIfInBounds_toArray, List.set_cons_zero, List.set_cons_succ])
    refine wpAnyH_ready (rs := [7]) (by kernel_rfl) (by simp) ?_
    refine AllReadyH.cons rfl (fun K hK => ?_) AllReadyH.nil
    go_simp
    (with_reducible refine (copiedatts_any z.an z.att (.slice ao z.att.length ac) _ (e1.out ▸ hzk.out.parts.2.2)).mono ?_)
    rintro e w7 ⟨⟨u1, d1, xs1, rfl, hown⟩, b6⟩
    have hr1 := hid ((RowW.of hown).mono (by have := bw.out.size; omega : w.heap.size ≤ _))
    clear hown
    replace hr0 := hid (RowW.below hr0.out b6)
    replace KR := hid (KR.out.below b6 KR.out.lt)
    replace KF := hid (KF.out.below b6 KF.out.lt)
    replace hzk := hid (hzk.out.below b6)
    replace bw := hid (bt bw.out b6)
    clear b6
    refine hK.out _ _ (by obtain ⟨s0, s1, s2, -⟩ := three' KF.out; exact ⟨s0, s1, s2⟩) (fun hHeldN => ?_)
    clear hK K hHeld
    have hHeld := hHeldN
    clear hHeldN
    (try simp only [Act.put, List.getElem_toArray, List.getElem_cons_zero, List.getElem_cons_succ, List.setIfInBounds_toArray, List.set_cons_zero, List.set_cons_succ])
    refine wpAnyH_ready (rs := [8]) (by kernel_rfl) (by simp) ?_
    refine AllReadyH.cons rfl (fun K hK => ?_) AllReadyH.nil
    go_simp
    refine hK.out _ _ (by obtain ⟨s0, s1, s2, -⟩ := three' KF.out; exact ⟨s0, s1, s2⟩) (fun hHeldN => ?_)
    clear hK K hHeld
    have hHeld := hHeldN
    clear hHeldN
    (try simp only [Act.put, List.getElem_toArray, List.getElem_cons_zero, List.getElem_cons_succ, List.setIfInBounds_toArray, List.set_cons_zero, List.set_cons_succ])
    refine wpAnyH_ready (rs := [9]) (by kernel_rfl) (by simp) ?_
    refine AllReadyH.cons rfl (fun K hK => ?_) AllReadyH.nil
    obtain ⟨q0, q1, q2, qf⟩ := three' KR.out
    go_simp
    clear q0 q1 q2 qf
    have hKK := hid (show Blk ((((w7.setCell ⟨w.heap.size + 1, 0, none⟩ (.string z.name)).setCell ⟨w.heap.size + 1, 1, none⟩ (.slice u0 z.ps.length d0)).setCell ⟨w.heap.size + 1, 2, none⟩ (.slice u1 z.att.length d1))) (w.heap.size + 1) [.string z.name, .slice u0 z.ps.length d0, .slice u1 z.att.length d1] 53 from (((KR.out.set 0 (.string z.name)).set 1 (.slice u0 z.ps.length d0)).set 2 (.slice u1 z.att.length d1)))
    have hBw := hid ((((bw.out.setCell (p := ⟨w.heap.size + 1, 0, none⟩) (by show w.heap.size ≤ w.heap.size + 1; omega) (.string z.name)).setCell (p := ⟨w.heap.size + 1, 1, none⟩) (by show w.heap.size ≤ w.heap.size + 1; omega) (.slice u0 z.ps.length d0)).setCell (p := ⟨w.heap.size + 1, 2, none⟩) (by show w.heap.size ≤ w.heap.size + 1; omega) (.slice u1 z.att.length d1)))
    replace KF := hid (show Blk ((((w7.setCell ⟨w.heap.size + 1, 0, none⟩ (.string z.name)).setCell ⟨w.heap.size + 1, 1, none⟩ (.slice u0 z.ps.length d0)).setCell ⟨w.heap.size + 1, 2, none⟩ (.slice u1 z.att.length d1))) bf [.string z.name, .slice po z.ps.length pc, .slice ao z.att.length ac] 53 from (((KF.out.other (p := ⟨w.heap.size + 1, 0, none⟩) (by show w.heap.size + 1 ≠ bf; omega) (.string z.name)).other (p := ⟨w.heap.size + 1, 1, none⟩) (by show w.heap.size + 1 ≠ bf; omega) (.slice u0 z.ps.length d0)).other (p := ⟨w.heap.size + 1, 2, none⟩) (by show w.heap.size + 1 ≠ bf; omega) (.slice u1 z.att.length d1)))
    have hs0 := hid (((hr0.out.set (w.heap.size + 1) 0 (.string z.name)).set (w.heap.size + 1) 1 (.slice u0 z.ps.length d0)).set (w.heap.size + 1) 2 (.slice u1 z.att.length d1))
    have hs1 := hid (((hr1.out.set (w.heap.size + 1) 0 (.string z.name)).set (w.heap.size + 1) 1 (.slice u0 z.ps.length d0)).set (w.heap.size + 1) 2 (.slice u1 z.att.length d1))
    clear hr0 hr1 KR bw hzk
    refine hK.out _ _ (by obtain ⟨s0, s1, s2, -⟩ := three' KF.out; exact ⟨s0, s1, s2⟩) (fun hHeldN => ?_)
    clear hK K hHeld
    have hHeld := hHeldN
    clear hHeldN
    (try simp only [Act.put, List.getElem_toArray, List.getElem_cons_zero, List.getElem_cons_succ, List.setIfInBounds_toArray, List.set_cons_zero, List.set_cons_succ])
    refine wpAnyH_take (i := 10) (v := ?_) rfl (by kernel_rfl) (by kernel_rfl) (by kernel_rfl) (fun _ _ _ h => h) (Or.inl ⟨by rfl, ?_⟩) (by assumption) ?_; rotate_left 1; (intro w hSw; (try dsimp only at hSw); go_simp; try with_reducible rfl); (try simp only [Act.put, List.getElem_toArray, List.getElem_cons_zero, List.getElem_cons_succ, List.setIfInBounds_toArray, List.set_cons_zero, List.set_cons_succ])
    refine wpAnyH_done (by kernel_rfl) ?_ _
    clear hHeld
    go_wp2_with fail
    obtain ⟨q0, q1, q2, qf⟩ := three' hKK.out
    exact bodyPost_ret (v := .tuple #[.agg #[.string z.name, .slice u0 z.ps.length d0, .slice u1 z.att.length d1], .int .i64 0]) (by simp [results, Tryz.results21, go_sem, q0, q1, q2]) rfl ⟨⟨_, _, _, _, _, _, _, _, rfl, hs0.out, hs1.out⟩, hBw.out⟩
  · go_upto_region 3 with fail
    replace KR := hid (KR.out.alloc (.cells #[.string ⟨#[]⟩, .slice none 0 0, .slice none 0 0] 53))
    replace bw := hid (bw.out.alloc (by omega) (.cells #[.string ⟨#[]⟩, .slice none 0 0, .slice none 0 0] 53))
    generalize w3.alloc (.cells #[.string ⟨#[]⟩, .slice none 0 0, .slice none 0 0] 53) = X4 at KR bw ⊢
    have hK := hid (show Blk ((((X4.setCell ⟨w.heap.size + 1, 0, none⟩ (.string ⟨#[]⟩)).setCell ⟨w.heap.size + 1, 1, none⟩ (.slice none 0 0)).setCell ⟨w.heap.size + 1, 2, none⟩ (.slice none 0 0))) (w.heap.size + 1) [.string ⟨#[]⟩, .slice none 0 0, .slice none 0 0] 53 from (((KR.out.set 0 (.string ⟨#[]⟩)).set 1 (.slice none 0 0)).set 2 (.slice none 0 0)))
    have hBw := hid ((((bw.out.setCell (p := ⟨w.heap.size + 1, 0, none⟩) (by show w.heap.size ≤ w.heap.size + 1; omega) (.string ⟨#[]⟩)).setCell (p := ⟨w.heap.size + 1, 1, none⟩) (by show w.heap.size ≤ w.heap.size + 1; omega) (.slice none 0 0)).setCell (p := ⟨w.heap.size + 1, 2, none⟩) (by show w.heap.size ≤ w.heap.size + 1; omega) (.slice none 0 0)))
    obtain ⟨c0, c1, c2, cf⟩ := three' KR.out
    clear bw KR hl h'
    go_wp2_with fail
    obtain ⟨q0, q1, q2, qf⟩ := three' hK.out
    exact bodyPost_ret (v := .tuple #[.agg #[.string ⟨#[]⟩, .slice none 0 0, .slice none 0 0], .int .i64 9]) (by simp [results, Tryz.results21, go_sem, q0, q1, q2]) rfl ⟨⟨_, _, _, _, _, _, _, _, rfl, RowW.nil _ _ _ _, RowW.nil _ _ _ _⟩, hBw.out⟩
/-- Action's answer -/
def GiveAc (B : Nat) (e : Ending) (w' : World) : Prop := ∃ (nm : ByteArray) (u0 : Option Addr) (n0 d0 : Nat) (u1 : Option Addr) (n1 d1 : Nat) (u2 : Option Addr) (n2 d2 : Nat) (c : Int), e = .returned (.tuple #[.agg #[.string nm, .slice u0 n0 d0, .slice u1 n1 d1, .slice u2 n2 d2], .int .i64 c]) ∧ RowW w' B u0 n0 1 9 ∧ RowW w' B u1 n1 1 9 ∧ RowW w' B u2 n2 5 65
set_option maxHeartbeats 8000000 in
theorem give_ac (x : Sch) (s : ByteArray) (w : World) (h : x.ok w) : Calls Tryz.prog 22 #[x.val, .string s] w fun e w' => GiveAc w.heap.size e w' ∧ Below w.heap.size w w' := by
  obtain ⟨to, tc, et, _⟩ := SlV.form h.1.1
  obtain ⟨co, cc, ec, _⟩ := SlV.form h.2.1
  rw [show x.val = .agg #[.slice to x.ts.length tc, .slice co x.acts.length cc] by unfold Sch.val; rw [et, ec]]
  have h' := hid h
  have hl := hid (show ∀ W, Below w.heap.size w W → AcsV W (.slice co x.acts.length cc) x.acts from fun W B => ec ▸ (h.below B).2)
  have bw0 := hid (Below.refl w.heap.size w)
  clear h et ec
  go_enter Tryz.func22, Tryz.ntmps22
  go_upto_region 1 with fail
  have KX := hid (Blk.new w [.slice to x.ts.length tc, .slice co x.acts.length cc] 49)
  have bw1 := hid (bw0.out.alloc (Nat.le_refl _) (.cells #[.slice to x.ts.length tc, .slice co x.acts.length cc] 49))
  have hs : w.heap.size + 1 = (w.alloc (.cells #[.slice to x.ts.length tc, .slice co x.acts.length cc] 49)).heap.size := by simp
  generalize w.alloc (.cells #[.slice to x.ts.length tc, .slice co x.acts.length cc] 49) = X0 at KX bw1 hs ⊢
  have KR := hid (Blk.new' X0 [.string ⟨#[]⟩, .slice none 0 0, .slice none 0 0, .slice none 0 0] 57 (w.heap.size + 1) hs)
  replace KX := hid (KX.out.alloc (.cells #[.string ⟨#[]⟩, .slice none 0 0, .slice none 0 0, .slice none 0 0] 57))
  have bw := hid (bw1.out.alloc (by omega) (.cells #[.string ⟨#[]⟩, .slice none 0 0, .slice none 0 0, .slice none 0 0] 57))
  have hsz := hid (show (X0.alloc (.cells #[.string ⟨#[]⟩, .slice none 0 0, .slice none 0 0, .slice none 0 0] 57)).heap.size = w.heap.size + 1 + 1 by simp; omega)
  clear bw0 bw1 hs
  generalize X0.alloc (.cells #[.string ⟨#[]⟩, .slice none 0 0, .slice none 0 0, .slice none 0 0] 57) = X1 at KX KR bw hsz ⊢
  obtain ⟨c0, c1, cf⟩ := (show X1.cell? ⟨w.heap.size, 0, none⟩ = some (.slice to x.ts.length tc) ∧ X1.cell? ⟨w.heap.size, 1, none⟩ = some (.slice co x.acts.length cc) ∧ ∀ o, X1.frozen? ⟨w.heap.size, o, none⟩ = false from ⟨KX.out.cell 0 (by simp), KX.out.cell 1 (by simp), KX.out.free⟩)
  have cQ := hid (find_ac x.acts _ s X1 (hl.out X1 bw.out))
  go_wp2_with fail
  refine cQ.out.mono ?_
  rintro e w3 ⟨hr, b3⟩
  replace KR := hid (KR.out.below b3 KR.out.lt)
  replace bw := hid (bt bw.out b3)
  have hbf : w.heap.size + 1 + 1 ≤ w3.heap.size := by have := b3.size; have := hsz.out; omega
  clear b3 cQ KX c0 c1 cf hsz
  rcases hr with ⟨z, hz, rfl⟩ | rfl
  · have hzk := hid ((hl.out w3 bw.out).2 z hz)
    obtain ⟨po, pc, ro, rc, ao, ac, e0, e1, e2⟩ := hzk.out.forms
    rw [show z.val = .agg #[.string z.name, .slice po z.ps.length pc, .slice ro z.rs.length rc, .slice ao z.att.length ac] by unfold Ac.val; rw [e0, e1, e2]]
    replace e0 := hid e0
    replace e1 := hid e1
    replace e2 := hid e2
    clear hz hl h'
    go_upto_region 4 with fail
    have KF := hid (Blk.new w3 [.string z.name, .slice po z.ps.length pc, .slice ro z.rs.length rc, .slice ao z.att.length ac] 57)
    replace KR := hid (KR.out.alloc (.cells #[.string z.name, .slice po z.ps.length pc, .slice ro z.rs.length rc, .slice ao z.att.length ac] 57))
    replace hzk := hid (hzk.out.below ((Below.refl w3.heap.size w3).alloc (Nat.le_refl _) (.cells #[.string z.name, .slice po z.ps.length pc, .slice ro z.rs.length rc, .slice ao z.att.length ac] 57)))
    replace bw := hid (bw.out.alloc (by omega) (.cells #[.string z.name, .slice po z.ps.length pc, .slice ro z.rs.length rc, .slice ao z.att.length ac] 57))
    generalize w3.alloc (.cells #[.string z.name, .slice po z.ps.length pc, .slice ro z.rs.length rc, .slice ao z.att.length ac] 57) = X4 at KF KR hzk bw ⊢
    generalize w3.heap.size = bf at KF hbf ⊢
    refine wp_region_held_drew (S := (fun W => W.cell? ⟨bf, 0, none⟩ = some (.string z.name) ∧ W.cell? ⟨bf, 1, none⟩ = some (.slice po z.ps.length pc) ∧ W.cell? ⟨bf, 2, none⟩ = some (.slice ro z.rs.length rc) ∧ W.cell? ⟨bf, 3, none⟩ = some (.slice ao z.att.length ac))) (by kernel_rfl) (by obtain ⟨s0, s1, s2, s3, -⟩ := four' KF.out; exact ⟨s0, s1, s2, s3⟩) (fun hHeld => ?_)
    replace KF := hid KF.out.drew
    replace KR := hid KR.out.drew
    replace hzk := hid (hzk.out.below (Below.refl _ X4).drew)
    replace bw := hid bw.out.drew
    generalize X4.drew = w5 at KF KR hzk bw hHeld ⊢
    refine wpAnyH_take (i := 0) (v := ?_) rfl (by kernel_rfl) (by kernel_rfl) (by kernel_rfl) (fun _ _ _ h => h) (Or.inl ⟨by rfl, ?_⟩) (by assumption) ?_; rotate_left 1; (intro w hSw; (try dsimp only at hSw); go_simp; try with_reducible rfl); (try simp only [Act.put, List.getElem_toArray, List.getElem_cons_zero, List.getElem_cons_succ, List.setIfInBounds_toArray, List.set_cons_zero, List.set_cons_succ])
    refine wpAnyH_take (i := 1) (v := ?_) rfl (by kernel_rfl) (by kernel_rfl) (by kernel_rfl) (fun _ _ _ h => h) (Or.inl ⟨by rfl, ?_⟩) (by assumption) ?_; rotate_left 1; (intro w hSw; (try dsimp only at hSw); go_simp; try with_reducible rfl); (try simp only [Act.put, List.getElem_toArray, List.getElem_cons_zero, List.getElem_cons_succ, List.setIfInBounds_toArray, List.set_cons_zero, List.set_cons_succ])
    refine wpAnyH_take (i := 2) (v := ?_) rfl (by kernel_rfl) (by kernel_rfl) (by kernel_rfl) (fun _ _ _ h => h) (Or.inl ⟨by rfl, ?_⟩) (by assumption) ?_; rotate_left 1; (intro w hSw; (try dsimp only at hSw); go_simp; try with_reducible rfl); (try simp only [Act.put, List.getElem_toArray, List.getElem_cons_zero, List.getElem_cons_succ, List.setIfInBounds_toArray, List.set_cons_zero, List.set_cons_succ])
    refine wpAnyH_take (i := 3) (v := ?_) rfl (by kernel_rfl) (by kernel_rfl) (by kernel_rfl) (fun _ _ _ h => h) (Or.inl ⟨by rfl, ?_⟩) (by assumption) ?_; rotate_left 1; (intro w hSw; (try dsimp only at hSw); go_simp; try with_reducible rfl); (try simp only [Act.put, List.getElem_toArray, List.getElem_cons_zero, List.getElem_cons_succ, List.setIfInBounds_toArray, List.set_cons_zero, List.set_cons_succ])
    refine wpAnyH_take (i := 5) (v := ?_) rfl (by kernel_rfl) (by kernel_rfl) (by kernel_rfl) (fun _ _ _ h => h) (Or.inl ⟨by rfl, ?_⟩) (by assumption) ?_; rotate_left 1; (intro w hSw; (try dsimp only at hSw); go_simp; try with_reducible rfl); (try simp only [Act.put, List.getElem_toArray, List.getElem_cons_zero, List.getElem_cons_succ, List.setIfInBounds_toArray, List.set_cons_zero, List.set_cons_succ])
    refine wpAnyH_take (i := 6) (v := ?_) rfl (by kernel_rfl) (by kernel_rfl) (by kernel_rfl) (fun _ _ _ h => h) (Or.inl ⟨by rfl, ?_⟩) (by assumption) ?_; rotate_left 1; (intro w hSw; (try dsimp only at hSw); go_simp; try with_reducible rfl); (try simp only [Act.put, List.getElem_toArray, List.getElem_cons_zero, List.getElem_cons_succ, List.setIfInBounds_toArray, List.set_cons_zero, List.set_cons_succ])
    refine wpAnyH_take (i := 8) (v := ?_) rfl (by kernel_rfl) (by kernel_rfl) (by kernel_rfl) (fun _ _ _ h => h) (Or.inl ⟨by rfl, ?_⟩) (by assumption) ?_; rotate_left 1; (intro w hSw; (try dsimp only at hSw); go_simp; try with_reducible rfl); (try simp only [Act.put, List.getElem_toArray, List.getElem_cons_zero, List.getElem_cons_succ, List.setIfInBounds_toArray, List.set_cons_zero, List.set_cons_succ])
    refine wpAnyH_take (i := 9) (v := ?_) rfl (by kernel_rfl) (by kernel_rfl) (by kernel_rfl) (fun _ _ _ h => h) (Or.inl ⟨by rfl, ?_⟩) (by assumption) ?_; rotate_left 1; (intro w hSw; (try dsimp only at hSw); go_simp; try with_reducible rfl); (try simp only [Act.put, List.getElem_toArray, List.getElem_cons_zero, List.getElem_cons_succ, List.setIfInBounds_toArray, List.set_cons_zero, List.set_cons_succ])
    refine wpAnyH_ready (rs := [4]) (by kernel_rfl) (by simp) ?_
    refine AllReadyH.cons rfl (fun K hK => ?_) AllReadyH.nil
    go_simp
    (with_reducible refine (copiednames_any z.ps (.slice po z.ps.length pc) _ (e0.out ▸ hzk.out.parts.2.1)).mono ?_)
    rintro e w6 ⟨⟨u0, d0, xs0, rfl, hown⟩, b6⟩
    have hr0 := hid ((RowW.of hown).mono (by have := bw.out.size; omega : w.heap.size ≤ _))
    clear hown
    replace KR := hid (KR.out.below b6 KR.out.lt)
    replace KF := hid (KF.out.below b6 KF.out.lt)
    replace hzk := hid (hzk.out.below b6)
    replace bw := hid (bt bw.out b6)
    clear b6
    refine hK.out _ _ (by obtain ⟨s0, s1, s2, s3, -⟩ := four' KF.out; exact ⟨s0, s1, s2, s3⟩) (fun hHeldN => ?_)
    clear hK K hHeld
    have hHeld := hHeldN
    clear hHeldN
    (try simp only [Act.put, List.getElem_toArray, List.getElem_cons_zero, List.getElem_cons_succ, List.setIfInBounds_toArray, List.set_cons_zero, List.set_cons_succ])
    refine wpAnyH_ready (rs := [7]) (by kernel_rfl) (by simp) ?_
    refine AllReadyH.cons rfl (fun K hK => ?_) AllReadyH.nil
    go_simp
    (with_reducible refine (copiednames_any z.rs (.slice ro z.rs.length rc) _ (e1.out ▸ hzk.out.parts.2.2.1)).mono ?_)
    rintro e w7 ⟨⟨u1, d1, xs1, rfl, hown⟩, b6⟩
    have hr1 := hid ((RowW.of hown).mono (by have := bw.out.size; omega : w.heap.size ≤ _))
    clear hown
    replace hr0 := hid (RowW.below hr0.out b6)
    replace KR := hid (KR.out.below b6 KR.out.lt)
    replace KF := hid (KF.out.below b6 KF.out.lt)
    replace hzk := hid (hzk.out.below b6)
    replace bw := hid (bt bw.out b6)
    clear b6
    refine hK.out _ _ (by obtain ⟨s0, s1, s2, s3, -⟩ := four' KF.out; exact ⟨s0, s1, s2, s3⟩) (fun hHeldN => ?_)
    clear hK K hHeld
    have hHeld := hHeldN
    clear hHeldN
    (try simp only [Act.put, List.getElem_toArray, List.getElem_cons_zero, List.getElem_cons_succ, List.setIfInBounds_toArray, List.set_cons_zero, List.set_cons_succ])
    refine wpAnyH_ready (rs := [10]) (by kernel_rfl) (by simp) ?_
    refine AllReadyH.cons rfl (fun K hK => ?_) AllReadyH.nil
    go_simp
    (with_reducible refine (copiedatts_any z.an z.att (.slice ao z.att.length ac) _ (e2.out ▸ hzk.out.parts.2.2.2)).mono ?_)
    rintro e w8 ⟨⟨u2, d2, xs2, rfl, hown⟩, b6⟩
    have hr2 := hid ((RowW.of hown).mono (by have := bw.out.size; omega : w.heap.size ≤ _))
    clear hown
    replace hr0 := hid (RowW.below hr0.out b6)
    replace hr1 := hid (RowW.below hr1.out b6)
    replace KR := hid (KR.out.below b6 KR.out.lt)
    replace KF := hid (KF.out.below b6 KF.out.lt)
    replace hzk := hid (hzk.out.below b6)
    replace bw := hid (bt bw.out b6)
    clear b6
    refine hK.out _ _ (by obtain ⟨s0, s1, s2, s3, -⟩ := four' KF.out; exact ⟨s0, s1, s2, s3⟩) (fun hHeldN => ?_)
    clear hK K hHeld
    have hHeld := hHeldN
    clear hHeldN
    (try simp only [Act.put, List.getElem_toArray, List.getElem_cons_zero, List.getElem_cons_succ, List.setIfInBounds_toArray, List.set_cons_zero, List.set_cons_succ])
    refine wpAnyH_ready (rs := [11]) (by kernel_rfl) (by simp) ?_
    refine AllReadyH.cons rfl (fun K hK => ?_) AllReadyH.nil
    go_simp
    refine hK.out _ _ (by obtain ⟨s0, s1, s2, s3, -⟩ := four' KF.out; exact ⟨s0, s1, s2, s3⟩) (fun hHeldN => ?_)
    clear hK K hHeld
    have hHeld := hHeldN
    clear hHeldN
    (try simp only [Act.put, List.getElem_toArray, List.getElem_cons_zero, List.getElem_cons_succ, List.setIfInBounds_toArray, List.set_cons_zero, List.set_cons_succ])
    refine wpAnyH_ready (rs := [12]) (by kernel_rfl) (by simp) ?_
    refine AllReadyH.cons rfl (fun K hK => ?_) AllReadyH.nil
    obtain ⟨q0, q1, q2, q3, qf⟩ := four' KR.out
    go_simp
    clear q0 q1 q2 q3 qf
    have hKK := hid (show Blk (((((w8.setCell ⟨w.heap.size + 1, 0, none⟩ (.string z.name)).setCell ⟨w.heap.size + 1, 1, none⟩ (.slice u0 z.ps.length d0)).setCell ⟨w.heap.size + 1, 2, none⟩ (.slice u1 z.rs.length d1)).setCell ⟨w.heap.size + 1, 3, none⟩ (.slice u2 z.att.length d2))) (w.heap.size + 1) [.string z.name, .slice u0 z.ps.length d0, .slice u1 z.rs.length d1, .slice u2 z.att.length d2] 57 from ((((KR.out.set 0 (.string z.name)).set 1 (.slice u0 z.ps.length d0)).set 2 (.slice u1 z.rs.length d1)).set 3 (.slice u2 z.att.length d2)))
    have hBw := hid (((((bw.out.setCell (p := ⟨w.heap.size + 1, 0, none⟩) (by show w.heap.size ≤ w.heap.size + 1; omega) (.string z.name)).setCell (p := ⟨w.heap.size + 1, 1, none⟩) (by show w.heap.size ≤ w.heap.size + 1; omega) (.slice u0 z.ps.length d0)).setCell (p := ⟨w.heap.size + 1, 2, none⟩) (by show w.heap.size ≤ w.heap.size + 1; omega) (.slice u1 z.rs.length d1)).setCell (p := ⟨w.heap.size + 1, 3, none⟩) (by show w.heap.size ≤ w.heap.size + 1; omega) (.slice u2 z.att.length d2)))
    replace KF := hid (show Blk (((((w8.setCell ⟨w.heap.size + 1, 0, none⟩ (.string z.name)).setCell ⟨w.heap.size + 1, 1, none⟩ (.slice u0 z.ps.length d0)).setCell ⟨w.heap.size + 1, 2, none⟩ (.slice u1 z.rs.length d1)).setCell ⟨w.heap.size + 1, 3, none⟩ (.slice u2 z.att.length d2))) bf [.string z.name, .slice po z.ps.length pc, .slice ro z.rs.length rc, .slice ao z.att.length ac] 57 from ((((KF.out.other (p := ⟨w.heap.size + 1, 0, none⟩) (by show w.heap.size + 1 ≠ bf; omega) (.string z.name)).other (p := ⟨w.heap.size + 1, 1, none⟩) (by show w.heap.size + 1 ≠ bf; omega) (.slice u0 z.ps.length d0)).other (p := ⟨w.heap.size + 1, 2, none⟩) (by show w.heap.size + 1 ≠ bf; omega) (.slice u1 z.rs.length d1)).other (p := ⟨w.heap.size + 1, 3, none⟩) (by show w.heap.size + 1 ≠ bf; omega) (.slice u2 z.att.length d2)))
    have hs0 := hid ((((hr0.out.set (w.heap.size + 1) 0 (.string z.name)).set (w.heap.size + 1) 1 (.slice u0 z.ps.length d0)).set (w.heap.size + 1) 2 (.slice u1 z.rs.length d1)).set (w.heap.size + 1) 3 (.slice u2 z.att.length d2))
    have hs1 := hid ((((hr1.out.set (w.heap.size + 1) 0 (.string z.name)).set (w.heap.size + 1) 1 (.slice u0 z.ps.length d0)).set (w.heap.size + 1) 2 (.slice u1 z.rs.length d1)).set (w.heap.size + 1) 3 (.slice u2 z.att.length d2))
    have hs2 := hid ((((hr2.out.set (w.heap.size + 1) 0 (.string z.name)).set (w.heap.size + 1) 1 (.slice u0 z.ps.length d0)).set (w.heap.size + 1) 2 (.slice u1 z.rs.length d1)).set (w.heap.size + 1) 3 (.slice u2 z.att.length d2))
    clear hr0 hr1 hr2 KR bw hzk
    refine hK.out _ _ (by obtain ⟨s0, s1, s2, s3, -⟩ := four' KF.out; exact ⟨s0, s1, s2, s3⟩) (fun hHeldN => ?_)
    clear hK K hHeld
    have hHeld := hHeldN
    clear hHeldN
    (try simp only [Act.put, List.getElem_toArray, List.getElem_cons_zero, List.getElem_cons_succ, List.setIfInBounds_toArray, List.set_cons_zero, List.set_cons_succ])
    refine wpAnyH_take (i := 13) (v := ?_) rfl (by kernel_rfl) (by kernel_rfl) (by kernel_rfl) (fun _ _ _ h => h) (Or.inl ⟨by rfl, ?_⟩) (by assumption) ?_; rotate_left 1; (intro w hSw; (try dsimp only at hSw); go_simp; try with_reducible rfl); (try simp only [Act.put, List.getElem_toArray, List.getElem_cons_zero, List.getElem_cons_succ, List.setIfInBounds_toArray, List.set_cons_zero, List.set_cons_succ])
    refine wpAnyH_done (by kernel_rfl) ?_ _
    clear hHeld
    go_wp2_with fail
    obtain ⟨q0, q1, q2, q3, qf⟩ := four' hKK.out
    exact bodyPost_ret (v := .tuple #[.agg #[.string z.name, .slice u0 z.ps.length d0, .slice u1 z.rs.length d1, .slice u2 z.att.length d2], .int .i64 0]) (by simp [results, Tryz.results22, go_sem, q0, q1, q2, q3]) rfl ⟨⟨_, _, _, _, _, _, _, _, _, _, _, rfl, hs0.out, hs1.out, hs2.out⟩, hBw.out⟩
  · go_upto_region 3 with fail
    replace KR := hid (KR.out.alloc (.cells #[.string ⟨#[]⟩, .slice none 0 0, .slice none 0 0, .slice none 0 0] 57))
    replace bw := hid (bw.out.alloc (by omega) (.cells #[.string ⟨#[]⟩, .slice none 0 0, .slice none 0 0, .slice none 0 0] 57))
    generalize w3.alloc (.cells #[.string ⟨#[]⟩, .slice none 0 0, .slice none 0 0, .slice none 0 0] 57) = X4 at KR bw ⊢
    have hK := hid (show Blk (((((X4.setCell ⟨w.heap.size + 1, 0, none⟩ (.string ⟨#[]⟩)).setCell ⟨w.heap.size + 1, 1, none⟩ (.slice none 0 0)).setCell ⟨w.heap.size + 1, 2, none⟩ (.slice none 0 0)).setCell ⟨w.heap.size + 1, 3, none⟩ (.slice none 0 0))) (w.heap.size + 1) [.string ⟨#[]⟩, .slice none 0 0, .slice none 0 0, .slice none 0 0] 57 from ((((KR.out.set 0 (.string ⟨#[]⟩)).set 1 (.slice none 0 0)).set 2 (.slice none 0 0)).set 3 (.slice none 0 0)))
    have hBw := hid (((((bw.out.setCell (p := ⟨w.heap.size + 1, 0, none⟩) (by show w.heap.size ≤ w.heap.size + 1; omega) (.string ⟨#[]⟩)).setCell (p := ⟨w.heap.size + 1, 1, none⟩) (by show w.heap.size ≤ w.heap.size + 1; omega) (.slice none 0 0)).setCell (p := ⟨w.heap.size + 1, 2, none⟩) (by show w.heap.size ≤ w.heap.size + 1; omega) (.slice none 0 0)).setCell (p := ⟨w.heap.size + 1, 3, none⟩) (by show w.heap.size ≤ w.heap.size + 1; omega) (.slice none 0 0)))
    obtain ⟨c0, c1, c2, c3, cf⟩ := four' KR.out
    clear bw KR hl h'
    go_wp2_with fail
    obtain ⟨q0, q1, q2, q3, qf⟩ := four' hK.out
    exact bodyPost_ret (v := .tuple #[.agg #[.string ⟨#[]⟩, .slice none 0 0, .slice none 0 0, .slice none 0 0], .int .i64 9]) (by simp [results, Tryz.results22, go_sem, q0, q1, q2, q3]) rfl ⟨⟨_, _, _, _, _, _, _, _, _, _, _, rfl, RowW.nil _ _ _ _, RowW.nil _ _ _ _, RowW.nil _ _ _ _⟩, hBw.out⟩
end Go.Proofs.YtbcjppbiihgfpaaGreatDoor.Tyt
