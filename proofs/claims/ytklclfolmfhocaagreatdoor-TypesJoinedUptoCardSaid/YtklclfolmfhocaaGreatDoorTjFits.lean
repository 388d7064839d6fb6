/-
  types.Fits: contract. Written by wip/tjgen.py.
-/
import Derived.Test.YtklclfolmfhocaaGreatDoorTjFitsA
import Derived.Test.YtklclfolmfhocaaGreatDoorTjJoin
import Derived.Deep.RegionHeld3
import Derived.Deep.RegionWith
import Derived.BigQuiet
namespace Go.Proofs.YtklclfolmfhocaaGreatDoor.Tyt
open Go.ChangeShapes Go.WideShapes Go.ChangeAt Go.RowKit
open Go.Proofs.YtklclfolmfhocaaGreatDoor.Mem
set_option linter.unusedVariables false
set_option linter.unusedSimpArgs false
set_option maxRecDepth 100000
theorem size_beq' (s : ByteArray) : (s.toList == []) = decide (s = ⟨#[]⟩) := by
  rw [size_beq]
  exact decide_eq_decide.2 ⟨size0, fun h => by rw [h]; rfl⟩
set_option maxHeartbeats 16000000 in
theorem fits_step (x : Val.T) (t : Ty) (ihp : t.kind = 5 → ∀ y, IsPart t y → ∀ z, FitC z y) (ih6 : t.kind = 6 → ∀ z u, u ∈ t.att → FitC z u) : FitC x t := by
  intro w hx ht
  obtain ⟨no, nc, lo, lc, e1, e2, hv, l1, l2⟩ := vval hx
  obtain ⟨oo, oc, ao, ac, g1, g2, _, _⟩ := ht.forms
  have htv := Ty.val_eq g1 g2
  obtain ⟨kv, hkv⟩ : ∃ kv : Int, ((x.kind : Nat) : Int) = kv := ⟨_, rfl⟩
  obtain ⟨kt, hkt⟩ : ∃ kt : Int, ((t.kind : Nat) : Int) = kt := ⟨_, rfl⟩
  rw [hkv] at hv
  rw [hkt] at htv
  have cP := hid (show ∀ (W : World), Below w.heap.size w W → Calls Tryz.prog 18 #[.agg #[.int .u8 kt, .string t.name, .slice oo t.of.length oc, .slice ao t.att.length ac]] W fun e w' => (∃ y : Ty, e = .returned y.val ∧ IsPart t y) ∧ Below W.heap.size W w' from fun W B => by
    have := partOf_any t W (ht.below B)
    rwa [htv] at this)
  have hlv := hid (show ∀ W, Below w.heap.size w W → SlV W (.slice lo x.list.length lc) x.list.length (Val.T.encL x.list) from fun W B => by have := (hx.below B).parts.2.2.2.2.2.2.1; rwa [e2] at this)
  have cA := hid (show t.kind = 6 → ∀ (W : World), Below w.heap.size w W → Calls Tryz.prog 25 #[.agg #[.int .u8 kv, .bool x.bool, .int .i64 x.num, .string x.str, .string x.typ, .slice no x.names.length nc, .slice lo x.list.length lc], .slice ao t.att.length ac] W fun e w' => e = .returned (.bool (decide (x.names = t.an) && PT.FL (erL t.att) x.list)) ∧ Below W.heap.size W w' from fun h6 W B => by
    have := attrsFit_any x t.an t.att ao ac W (hx.below B) (by have := (ht.below B).attrs; rwa [g2] at this) (fun i h1 h2 => ih6 h6 _ _ (List.getElem_mem h2))
    rwa [hv] at this)
  rw [hv, htv]
  have hx' := hid hx
  have ht' := hid ht
  have ihp' := hid ihp
  have hres := hid (PT.F_eq (er t) x)
  rw [er_k, er_nm, er_of, er_an, er_att] at hres
  generalize PT.F (er t) x = RR at hres ⊢
  have hb : ∀ c : Nat, ((kv == (c : Int)) = decide (x.kind = c)) := fun c => by
    rw [← hkv]
    by_cases h : x.kind = c
    · rw [decide_eq_true h, h]; simp
    · rw [decide_eq_false h, beq_eq_false_iff_ne]; omega
  have hb' := hid hb
  have hn0 := hid (size_beq' t.name)
  have hnt := hid (beq_bytes x.typ t.name)
  have bw0 := hid (Below.refl w.heap.size w)
  replace hkv := hid hkv
  replace hkt := hid hkt
  clear hx ht ihp ih6 e1 e2 g1 g2 hv htv hb
  go_enter Tryz.func10, Tryz.ntmps10
  go_upto_region 1 with fail
  have KV := hid (Blk.new w [.int .u8 kv, .bool x.bool, .int .i64 x.num, .string x.str, .string x.typ, .slice no x.names.length nc, .slice lo x.list.length lc] 31)
  have bw1 := hid (bw0.out.alloc (Nat.le_refl _) (.cells #[.int .u8 kv, .bool x.bool, .int .i64 x.num, .string x.str, .string x.typ, .slice no x.names.length nc, .slice lo x.list.length lc] 31))
  have hs1 : w.heap.size + 1 = (w.alloc (.cells #[.int .u8 kv, .bool x.bool, .int .i64 x.num, .string x.str, .string x.typ, .slice no x.names.length nc, .slice lo x.list.length lc] 31)).heap.size := by simp
  clear bw0
  generalize w.alloc (.cells #[.int .u8 kv, .bool x.bool, .int .i64 x.num, .string x.str, .string x.typ, .slice no x.names.length nc, .slice lo x.list.length lc] 31) = X0 at KV bw1 hs1 ⊢
  have KT := hid (Blk.new' X0 [.int .u8 kt, .string t.name, .slice oo t.of.length oc, .slice ao t.att.length ac] 26 (w.heap.size + 1) hs1)
  replace KV := hid (KV.out.alloc (.cells #[.int .u8 kt, .string t.name, .slice oo t.of.length oc, .slice ao t.att.length ac] 26))
  have bw := hid (bw1.out.alloc (by omega) (.cells #[.int .u8 kt, .string t.name, .slice oo t.of.length oc, .slice ao t.att.length ac] 26))
  clear bw1 hs1
  generalize X0.alloc (.cells #[.int .u8 kt, .string t.name, .slice oo t.of.length oc, .slice ao t.att.length ac] 26) = X1 at KV KT bw ⊢
  have hcase : kt = 1 ∨ kt = 2 ∨ kt = 3 ∨ kt = 4 ∨ kt = 5 ∨ kt = 6 ∨ (¬ kt = 1 ∧ ¬ kt = 2 ∧ ¬ kt = 3 ∧ ¬ kt = 4 ∧ ¬ kt = 5 ∧ ¬ kt = 6) := by omega
  rcases hcase with rfl | rfl | rfl | rfl | rfl | rfl | ⟨m1, m2, m3, m4, m5, m6⟩
  · have hR := hid (show RR = (kv == (0 : Int)) by rw [hres.out, if_pos (by have := hkt.out; omega)]; exact (hb'.out 0).symm)
    obtain ⟨k0, k1, k2, k3, k4, k5, k6, kf⟩ := Val.seven KV.out
    obtain ⟨c0, c1, c2, c3, cf⟩ := four' KT.out
    go_wp2_with fail
    go_ret
    exact ⟨by rw [hR.out]; rfl, bw.out⟩
  · have hR := hid (show RR = (kv == (1 : Int)) by rw [hres.out, if_neg (by have := hkt.out; omega), if_pos (by have := hkt.out; omega)]; exact (hb'.out 1).symm)
    obtain ⟨k0, k1, k2, k3, k4, k5, k6, kf⟩ := Val.seven KV.out
    obtain ⟨c0, c1, c2, c3, cf⟩ := four' KT.out
    go_wp2_with fail
    go_ret
    exact ⟨by rw [hR.out]; rfl, bw.out⟩
  · have hR := hid (show RR = (kv == (2 : Int)) by rw [hres.out, if_neg (by have := hkt.out; omega), if_neg (by have := hkt.out; omega), if_pos (by have := hkt.out; omega)]; exact (hb'.out 2).symm)
    obtain ⟨k0, k1, k2, k3, k4, k5, k6, kf⟩ := Val.seven KV.out
    obtain ⟨c0, c1, c2, c3, cf⟩ := four' KT.out
    go_wp2_with fail
    go_ret
    exact ⟨by rw [hR.out]; rfl, bw.out⟩
  · have hR := hid (show RR = ((kv == (3 : Int)) && ((t.name.toList == []) || (x.typ.toList == t.name.toList))) by rw [hres.out, if_neg (by have := hkt.out; omega), if_neg (by have := hkt.out; omega), if_neg (by have := hkt.out; omega), if_pos (by have := hkt.out; omega), hn0.out, hnt.out]; congr 1; exact (hb'.out 3).symm)
    obtain ⟨q1, hq1⟩ : ∃ q, (kv == (3 : Int)) = q := ⟨_, rfl⟩
    obtain ⟨q2, hq2⟩ : ∃ q, (t.name.toList == []) = q := ⟨_, rfl⟩
    rw [hq1, hq2] at hR
    cases q1 with
    | false =>
      obtain ⟨k0, k1, k2, k3, k4, k5, k6, kf⟩ := Val.seven KV.out
      obtain ⟨c0, c1, c2, c3, cf⟩ := four' KT.out
      go_wp2_with fail
      go_ret
      exact ⟨by rw [hR.out]; rfl, bw.out⟩
    | true =>
      obtain rfl : kv = 3 := by simpa using hq1
      cases q2 with
      | true =>
        obtain ⟨k0, k1, k2, k3, k4, k5, k6, kf⟩ := Val.seven KV.out
        obtain ⟨c0, c1, c2, c3, cf⟩ := four' KT.out
        go_wp2_with fail
        go_ret
        exact ⟨by rw [hR.out]; rfl, bw.out⟩
      | false =>
        obtain ⟨k0, k1, k2, k3, k4, k5, k6, kf⟩ := Val.seven KV.out
        obtain ⟨c0, c1, c2, c3, cf⟩ := four' KT.out
        go_wp2_with fail
        go_ret
        exact ⟨by rw [hR.out]; rfl, bw.out⟩
  · have hR := hid (show RR = ((kv == (4 : Int)) && x.list.all (PT.F (PT.part (erL t.of)))) by
      rw [hres.out, if_neg (by have := hkt.out; omega), if_neg (by have := hkt.out; omega), if_neg (by have := hkt.out; omega), if_neg (by have := hkt.out; omega), if_pos (by have := hkt.out; omega), show PT.FO (erL t.of) = PT.F (PT.part (erL t.of)) from funext fun v => PT.FO_part _ v]
      congr 1
      exact (hb'.out 4).symm)
    by_cases h4 : kv = 4
    · subst h4
      replace hR := hid (show RR = x.list.all (PT.F (PT.part (erL t.of))) by rw [hR.out]; rfl)
      obtain ⟨k0, k1, k2, k3, k4, k5, k6, kf⟩ := Val.seven KV.out
      obtain ⟨c0, c1, c2, c3, cf⟩ := four' KT.out
      go_wp2_with fail
      refine wp_region_held_drew (S := (fun Y => Y.cell? ⟨w.heap.size, 0, none⟩ = some (.int .u8 4) ∧ Y.cell? ⟨w.heap.size, 1, none⟩ = some (.bool x.bool) ∧ Y.cell? ⟨w.heap.size, 2, none⟩ = some (.int .i64 x.num) ∧ Y.cell? ⟨w.heap.size, 3, none⟩ = some (.string x.str) ∧ Y.cell? ⟨w.heap.size, 4, none⟩ = some (.string x.typ) ∧ Y.cell? ⟨w.heap.size, 5, none⟩ = some (.slice no x.names.length nc) ∧ Y.cell? ⟨w.heap.size, 6, none⟩ = some (.slice lo x.list.length lc) ∧ Y.cell? ⟨w.heap.size + 1, 0, none⟩ = some (.int .u8 5) ∧ Y.cell? ⟨w.heap.size + 1, 1, none⟩ = some (.string t.name) ∧ Y.cell? ⟨w.heap.size + 1, 2, none⟩ = some (.slice oo t.of.length oc) ∧ Y.cell? ⟨w.heap.size + 1, 3, none⟩ = some (.slice ao t.att.length ac))) (by kernel_rfl) (by obtain ⟨k0, k1, k2, k3, k4, k5, k6, -⟩ := Val.seven KV.out.drew; obtain ⟨c0, c1, c2, c3, -⟩ := four' KT.out.drew; exact ⟨k0, k1, k2, k3, k4, k5, k6, c0, c1, c2, c3⟩) (fun hHeld => ?_)
      clear k0 k1 k2 k3 k4 k5 k6 kf c0 c1 c2 c3 cf
      have q9 := (Below.refl X1.heap.size X1).drew
      replace KV := hid (KV.out.below q9 KV.out.lt)
      replace KT := hid (KT.out.below q9 KT.out.lt)
      replace bw := hid (bt bw.out q9)
      clear q9
      generalize X1.drew = Wc at KV KT bw hHeld ⊢
      refine wpAnyH_take (i := 0) (v := ?_) rfl (by kernel_rfl) (by kernel_rfl) (by kernel_rfl) (fun _ _ _ h => h) (Or.inl ⟨by rfl, ?_⟩) (by assumption) ?_; rotate_left 1; (intro w hSw; (try dsimp only at hSw); go_simp; try with_reducible rfl); (try simp only [Act.put, List.getElem_toArray, List.getElem_cons_zero, List.getElem_cons_succ, List.setIfInBounds_toArray, List.set_cons_zero, List.set_cons_succ])
      refine wpAnyH_take (i := 1) (v := ?_) rfl (by kernel_rfl) (by kernel_rfl) (by kernel_rfl) (fun _ _ _ h => h) (Or.inl ⟨by rfl, ?_⟩) (by assumption) ?_; rotate_left 1; (intro w hSw; (try dsimp only at hSw); go_simp; try with_reducible rfl); (try simp only [Act.put, List.getElem_toArray, List.getElem_cons_zero, List.getElem_cons_succ, List.setIfInBounds_toArray, List.set_cons_zero, List.set_cons_succ])
      refine wpAnyH_take (i := 2) (v := ?_) rfl (by kernel_rfl) (by kernel_rfl) (by kernel_rfl) (fun _ _ _ h => h) (Or.inl ⟨by rfl, ?_⟩) (by assumption) ?_; rotate_left 1; (intro w hSw; (try dsimp only at hSw); go_simp; try with_reducible rfl); (try simp only [Act.put, List.getElem_toArray, List.getElem_cons_zero, List.getElem_cons_succ, List.setIfInBounds_toArray, List.set_cons_zero, List.set_cons_succ])
      refine wpAnyH_take (i := 3) (v := ?_) rfl (by kernel_rfl) (by kernel_rfl) (by kernel_rfl) (fun _ _ _ h => h) (Or.inl ⟨by rfl, ?_⟩) (by assumption) ?_; rotate_left 1; (intro w hSw; (try dsimp only at hSw); go_simp; try with_reducible rfl); (try simp only [Act.put, List.getElem_toArray, List.getElem_cons_zero, List.getElem_cons_succ, List.setIfInBounds_toArray, List.set_cons_zero, List.set_cons_succ])
      refine wpAnyH_take (i := 4) (v := ?_) rfl (by kernel_rfl) (by kernel_rfl) (by kernel_rfl) (fun _ _ _ h => h) (Or.inl ⟨by rfl, ?_⟩) (by assumption) ?_; rotate_left 1; (intro w hSw; (try dsimp only at hSw); go_simp; try with_reducible rfl); (try simp only [Act.put, List.getElem_toArray, List.getElem_cons_zero, List.getElem_cons_succ, List.setIfInBounds_toArray, List.set_cons_zero, List.set_cons_succ])
      refine wpAnyH_take (i := 5) (v := ?_) rfl (by kernel_rfl) (by kernel_rfl) (by kernel_rfl) (fun _ _ _ h => h) (Or.inl ⟨by rfl, ?_⟩) (by assumption) ?_; rotate_left 1; (intro w hSw; (try dsimp only at hSw); go_simp; try with_reducible rfl); (try simp only [Act.put, List.getElem_toArray, List.getElem_cons_zero, List.getElem_cons_succ, List.setIfInBounds_toArray, List.set_cons_zero, List.set_cons_succ])
      refine wpAnyH_take (i := 6) (v := ?_) rfl (by kernel_rfl) (by kernel_rfl) (by kernel_rfl) (fun _ _ _ h => h) (Or.inl ⟨by rfl, ?_⟩) (by assumption) ?_; rotate_left 1; (intro w hSw; (try dsimp only at hSw); go_simp; try with_reducible rfl); (try simp only [Act.put, List.getElem_toArray, List.getElem_cons_zero, List.getElem_cons_succ, List.setIfInBounds_toArray, List.set_cons_zero, List.set_cons_succ])
      refine wpAnyH_ready (rs := [7]) (by kernel_rfl) (by simp) ?_
      refine AllReadyH.cons rfl (fun K hK => ?_) AllReadyH.nil
      go_simp
      (with_reducible refine (cP.out _ bw.out).mono ?_)
      rintro e Wc ⟨⟨y, rfl, hy⟩, q9⟩
      replace KV := hid (KV.out.below q9 KV.out.lt)
      replace KT := hid (KT.out.below q9 KT.out.lt)
      replace bw := hid (bt bw.out q9)
      have hcl := hid (partsFit_any x.list lo lc y Wc (hlv.out Wc bw.out) (fun z hz => (hx'.out.parts.2.2.2.2.2.2.2 z hz).below bw.out) (hy.ok' (ht'.out.below bw.out)) (fun z _ => ihp'.out (by have := hkt.out; omega) y hy z))
      have hpt := hid hy.er'
      clear q9 hy
      refine hK.out _ _ (by obtain ⟨k0, k1, k2, k3, k4, k5, k6, -⟩ := Val.seven KV.out; obtain ⟨c0, c1, c2, c3, -⟩ := four' KT.out; exact ⟨k0, k1, k2, k3, k4, k5, k6, c0, c1, c2, c3⟩) (fun hHeldN => ?_)
      clear hK K hHeld
      have hHeld := hHeldN
      clear hHeldN
      (try simp only [Act.put, List.getElem_toArray, List.getElem_cons_zero, List.getElem_cons_succ, List.setIfInBounds_toArray, List.set_cons_zero, List.set_cons_succ])
      refine wpAnyH_ready (rs := [8]) (by kernel_rfl) (by simp) ?_
      refine AllReadyH.cons rfl (fun K hK => ?_) AllReadyH.nil
      go_simp
      (with_reducible refine hcl.out.mono ?_)
      rintro e Wc ⟨rfl, q9⟩
      replace KV := hid (KV.out.below q9 KV.out.lt)
      replace KT := hid (KT.out.below q9 KT.out.lt)
      replace bw := hid (bt bw.out q9)
      clear q9 hcl
      refine hK.out _ _ (by obtain ⟨k0, k1, k2, k3, k4, k5, k6, -⟩ := Val.seven KV.out; obtain ⟨c0, c1, c2, c3, -⟩ := four' KT.out; exact ⟨k0, k1, k2, k3, k4, k5, k6, c0, c1, c2, c3⟩) (fun hHeldN => ?_)
      clear hK K hHeld
      have hHeld := hHeldN
      clear hHeldN
      (try simp only [Act.put, List.getElem_toArray, List.getElem_cons_zero, List.getElem_cons_succ, List.setIfInBounds_toArray, List.set_cons_zero, List.set_cons_succ])
      refine wpAnyH_take (i := 9) (v := ?_) rfl (by kernel_rfl) (by kernel_rfl) (by kernel_rfl) (fun _ _ _ h => h) (Or.inl ⟨by rfl, ?_⟩) (by assumption) ?_; rotate_left 1; (intro w hSw; (try dsimp only at hSw); go_simp; try with_reducible rfl); (try simp only [Act.put, List.getElem_toArray, List.getElem_cons_zero, List.getElem_cons_succ, List.setIfInBounds_toArray, List.set_cons_zero, List.set_cons_succ])
      refine wpAnyH_take (i := 10) (v := ?_) rfl (by kernel_rfl) (by kernel_rfl) (by kernel_rfl) (fun _ _ _ h => h) (Or.inl ⟨by rfl, ?_⟩) (by assumption) ?_; rotate_left 1; (intro w hSw; (try dsimp only at hSw); go_simp; try with_reducible rfl); (try simp only [Act.put, List.getElem_toArray, List.getElem_cons_zero, List.getElem_cons_succ, List.setIfInBounds_toArray, List.set_cons_zero, List.set_cons_succ])
      refine wpAnyH_done (by kernel_rfl) ?_ _
      clear hHeld
      have hfin := hid (show RR = x.list.all (PT.F (er y)) by rw [hR.out, ← hpt.out, er_of])
      clear hR
      go_wp2_with fail
      go_ret
      exact ⟨by rw [hfin.out]; rfl, bw.out⟩
    · have h4b : (kv == 4) = false := by simpa using h4
      have hR2 := hid (show RR = false by rw [hR.out, h4b]; rfl)
      clear hR
      obtain ⟨k0, k1, k2, k3, k4, k5, k6, kf⟩ := Val.seven KV.out
      obtain ⟨c0, c1, c2, c3, cf⟩ := four' KT.out
      go_wp2_with fail
      go_quiet (fail)
      rename_i nq
      have q9 := below_dr X1 nq
      replace bw := hid (bt bw.out q9)
      clear q9
      go_wp2_with fail
      go_ret
      exact ⟨by rw [hR2.out]; rfl, bw.out⟩
  · have hR := hid (show RR = ((kv == (5 : Int)) && (decide (x.names = t.an) && PT.FL (erL t.att) x.list)) by rw [hres.out, if_neg (by have := hkt.out; omega), if_neg (by have := hkt.out; omega), if_neg (by have := hkt.out; omega), if_neg (by have := hkt.out; omega), if_neg (by have := hkt.out; omega), if_pos (by have := hkt.out; omega)]; congr 1; exact (hb'.out 5).symm)
    by_cases h5 : kv = 5
    · subst h5
      replace hR := hid (show RR = (decide (x.names = t.an) && PT.FL (erL t.att) x.list) by rw [hR.out]; rfl)
      have hc := hid (cA.out (by have := hkt.out; omega) X1 bw.out)
      generalize (decide (x.names = t.an) && PT.FL (erL t.att) x.list) = fb at hR hc
      obtain ⟨k0, k1, k2, k3, k4, k5, k6, kf⟩ := Val.seven KV.out
      obtain ⟨c0, c1, c2, c3, cf⟩ := four' KT.out
      go_wp2_with fail
      refine hc.out.mono ?_
      rintro e w3 ⟨rfl, q9⟩
      replace bw := hid (bt bw.out q9)
      clear q9 KV KT k0 k1 k2 k3 k4 k5 k6 kf c0 c1 c2 c3 cf hc
      go_wp2_with fail
      go_ret
      exact ⟨by rw [hR.out]; rfl, bw.out⟩
    · have h5b : (kv == 5) = false := by simpa using h5
      have hR2 := hid (show RR = false by rw [hR.out, h5b]; rfl)
      clear hR
      obtain ⟨k0, k1, k2, k3, k4, k5, k6, kf⟩ := Val.seven KV.out
      obtain ⟨c0, c1, c2, c3, cf⟩ := four' KT.out
      go_wp2_with fail
      go_ret
      exact ⟨by rw [hR2.out]; rfl, bw.out⟩
  · have hR2 := hid (show RR = false by rw [hres.out, if_neg (by have := hkt.out; omega), if_neg (by have := hkt.out; omega), if_neg (by have := hkt.out; omega), if_neg (by have := hkt.out; omega), if_neg (by have := hkt.out; omega), if_neg (by have := hkt.out; omega)])
    obtain ⟨k0, k1, k2, k3, k4, k5, k6, kf⟩ := Val.seven KV.out
    obtain ⟨c0, c1, c2, c3, cf⟩ := four' KT.out
    go_wp2_with fail
    go_ret
    exact ⟨by rw [hR2.out]; rfl, bw.out⟩
theorem fits_any (t : Ty) : ∀ x, FitC x t := by
  suffices g : ∀ n (t : Ty), t.size ≤ n → ∀ x, FitC x t from g t.size t (Nat.le_refl _)
  have h0 : ∀ z, FitC z (leaf 0 ⟨#[]⟩) := fun z => fits_step z _ (fun h => by cases h) (fun h => by cases h)
  intro n
  induction n with
  | zero => intro t hx; have := t.size_pos; omega
  | succ n ihn =>
    intro t hn x
    refine fits_step x t (fun _ y hy z => ?_) (fun _ z u hu => ihn u (by have := Ty.size_att hu; omega) z)
    rcases hy with ⟨_, rfl⟩ | ⟨l, hl⟩
    · exact h0 z
    · exact ihn y (by have := Ty.size_of (x := t) (y := y) (by rw [hl]; simp); omega) z
end Go.Proofs.YtklclfolmfhocaaGreatDoor.Tyt
