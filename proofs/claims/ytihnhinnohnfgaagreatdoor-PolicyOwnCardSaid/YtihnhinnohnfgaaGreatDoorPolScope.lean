/-
  policy.uidsRight, scopeRight, actionRight, checkFrame: contracts. Written by wip/polscopegen.py.
-/
import Derived.Test.YtihnhinnohnfgaaGreatDoorPolMath
import Derived.Test.YtihnhinnohnfgaaGreatDoorExCheck
import Derived.Deep.RegionHeld3
namespace Go.Proofs.YtihnhinnohnfgaaGreatDoor.Pol
open Go.ChangeShapes Go.WideShapes Go.ChangeAt Go.RowKit
open Go.Proofs.YtihnhinnohnfgaaGreatDoor.Mem
set_option linter.unusedVariables false
set_option linter.unusedSimpArgs false
set_option maxRecDepth 100000
set_option maxHeartbeats 4000000 in
theorem uids_any (l : List Ud) (v : Value) (w : World) (h : SlV w v l.length (encU l)) (hz : ∀ u ∈ l, u.1.size ≤ 140737488355328 ∧ u.2.size ≤ 140737488355328) (hw : Ex.Sta w) :
    Calls Tryz.prog 132 #[v] w fun e w' => e = .returned (.bool (uidsB l)) ∧ Below w.heap.size w w' := by
  have hl : l.length ≤ 9223372036854775807 := by have := SlV.len h; unfold maxLen at this; omega
  obtain ⟨uo, uc, rfl, _, _⟩ := h.form
  have i2 : (l.length : Int) ≤ 9223372036854775807 := by omega
  obtain ⟨R, hR⟩ : ∃ R, uidsB l = R := ⟨_, rfl⟩
  rw [hR]
  replace hR := hid (show R = uidsB (l.drop 0) from hR.symm)
  have h' := hid h
  have hz' := hid hz
  have hw' := hid hw
  obtain ⟨n, hn⟩ : ∃ n, l.length = n := ⟨_, rfl⟩
  rw [hn] at i2 hl ⊢
  replace hn := hid hn
  clear h hz hw
  go_enter Tryz.func132, Tryz.ntmps132
  go_wp2_with fail
  go_loopw [7] (fun i wr => ∃ k : Nat, k ≤ n ∧ i = .int .i64 k ∧ Hid (R = uidsB (l.drop k)) ∧ Hid (Below w.heap.size w wr)) (fun i _ => n - (intOf i).toNat)
  case atStart => exact ⟨0, by omega, rfl, hR, hid (Below.refl _ _)⟩
  case round =>
    obtain ⟨k, hk, rfl, hr, bw⟩ := hrel
    rename_i wr _
    by_cases hkn : k < n
    · have hki : (k : Int) < (n : Int) := by omega
      have hkl : k < l.length := by have := hn.out; omega
      have hst := hid (hr.out.trans (uidsB_step l k hkl))
      clear hr
      obtain ⟨b, off, cap, e, -, -, -, hc⟩ := uid_open (h'.out.below bw.out) (by omega)
      rw [hn.out] at e
      simp only [Value.slice.injEq] at e
      obtain ⟨rfl, -, -⟩ := e
      obtain ⟨x0, x1⟩ := hc k hkl
      have hcl := hid (show ∀ W : World, Below w.heap.size w W → Calls Tryz.prog 111 #[.agg #[.string l[k].1, .string l[k].2]] W fun e w' => ∃ c : Int, e = .returned (.int .i64 c) ∧ (c == 0) = Ex.uidB l[k].1 l[k].2 ∧ Below W.heap.size W w' from
        fun W b => (Nam.uid_any Nam.split_told Nam.valid_told l[k].1 l[k].2 W (hz'.out _ (List.getElem_mem hkl)).1 (hz'.out _ (List.getElem_mem hkl)).2 (hw'.out.below b).ml (hw'.out.below b).laid.tabs).mono fun e w' he => ⟨_, he.1, Ex.uid_ud _ _, he.2⟩)
      generalize Ex.uidB l[k].1 l[k].2 = ub at hst hcl
      generalize l[k].1 = sa at x0 hcl
      generalize l[k].2 = sb at x1 hcl
      clear hc hkl
      go_upto_region 4 with fail
      obtain ⟨z0, z1, zf⟩ := (Blk.new wr [.string sa, .string sb] 137).two
      replace bw := hid (bw.out.alloc bw.out.size (.cells #[.string sa, .string sb] 137))
      clear x0 x1
      generalize wr.alloc (.cells #[.string sa, .string sb] 137) = X3 at z0 z1 zf bw ⊢
      generalize wr.heap.size = n9 at z0 z1 zf ⊢
      go_wp2_with fail
      refine (hcl.out _ bw.out).mono ?_
      rintro e w1 ⟨c, rfl, hcc, b1⟩
      replace bw := hid (bt bw.out b1)
      clear b1 hcl z0 z1 zf
      cases ub with
      | false =>
        have hc2 : (c != 0) = true := by unfold bne; rw [hcc]; rfl
        have hf := hid (show R = false by rw [hst.out]; rfl)
        clear hst
        go_wp2_with fail
        go_ret
        exact ⟨by rw [hf.out]; rfl, bw.out⟩
      | true =>
        obtain rfl : c = 0 := beq_iff_eq.1 hcc
        clear hcc
        replace hst := hid (hst.out.trans (Bool.true_and _))
        go_wp2_with fail
        go_roundw
        case rel => exact ⟨k + 1, by omega, by go_num, hst, bw⟩
        case measure => simp [intOf]; omega
    · have hki : ¬ (k : Int) < (n : Int) := by omega
      have hf := hid (show R = true by rw [hr.out, List.drop_eq_nil_of_le (by have := hn.out; omega)]; rfl)
      clear hr
      go_wp2_with fail
      go_ret
      exact ⟨by rw [hf.out]; rfl, bw.out⟩
set_option maxHeartbeats 8000000 in
theorem scope_any (k : Nat) (us : List Ud) (uv : Value) (t : ByteArray) (w : World) (ht : t.size ≤ 140737488355328) (hu : ∀ u ∈ us, u.1.size ≤ 140737488355328 ∧ u.2.size ≤ 140737488355328) (hv : SlV w uv us.length (encU us)) (hw : Ex.Sta w) :
    Calls Tryz.prog 77 #[.agg #[.int .u8 (k : Nat), uv, .string t]] w fun e w' => e = .returned (.bool (scopeF k us t)) ∧ Below w.heap.size w w' := by
  obtain ⟨R, hR⟩ : ∃ R, scopeF k us t = R := ⟨_, rfl⟩
  rw [hR]
  replace hR := hR.symm
  unfold scopeF at hR
  have hl : us.length ≤ 9223372036854775807 := by have := SlV.len hv; unfold maxLen at this; omega
  obtain ⟨uo, uc, rfl, _, _⟩ := hv.form
  have i2 : (us.length : Int) ≤ 9223372036854775807 := by omega
  have cU := hid (fun W (b : Below w.heap.size w W) => uids_any us _ W (hv.below b) hu (hw.below b))
  have cT := hid (fun W (b : Below w.heap.size w W) => Nam.type_any Nam.split_told t W ht (hw.below b).ml)
  clear hv hu hw ht
  generalize Nam.typeB t = tb at hR cT
  generalize uidsB us = ub at hR cU
  obtain ⟨t0, q0⟩ : ∃ b, ((us.length : Int) == 0) = b := ⟨_, rfl⟩
  obtain ⟨t1, q1⟩ : ∃ b, ((us.length : Int) == 1) = b := ⟨_, rfl⟩
  obtain ⟨te, qe⟩ : ∃ b, (t.toList == []) = b := ⟨_, rfl⟩
  rw [q0, q1, qe] at hR
  replace hR := hid hR
  go_enter Tryz.func77, Tryz.ntmps77
  go_upto_region 1 with fail
  have K1 := hid (Blk.new w [.int .u8 (k : Nat), .slice uo us.length uc, .string t] 36)
  have bw := hid ((Below.refl w.heap.size w).alloc (Nat.le_refl _) (.cells #[.int .u8 (k : Nat), .slice uo us.length uc, .string t] 36))
  generalize w.alloc (.cells #[.int .u8 (k : Nat), .slice uo us.length uc, .string t] 36) = X0 at K1 bw ⊢
  obtain ⟨c0, c1, c2, cf⟩ := K1.out.three
  by_cases h0 : k = 0
  · subst h0
    replace hR := hid (hR.out.trans (if_pos rfl))
    cases t0 with
    | false =>
      go_wp2_with fail
      go_ret
      exact ⟨by rw [hR.out] <;> rfl, bw.out⟩
    | true =>
      cases te with
      | false =>
        go_wp2_with fail
        go_ret
        exact ⟨by rw [hR.out] <;> rfl, bw.out⟩
      | true =>
        go_wp2_with fail
        go_ret
        exact ⟨by rw [hR.out] <;> rfl, bw.out⟩
  have g0 : ((k : Int) == 0) = false := by rw [beq_eq_false_iff_ne]; omega
  replace hR := hid (hR.out.trans (if_neg h0))
  clear h0
  by_cases h1 : k = 1
  · subst h1
    replace hR := hid (hR.out.trans (if_pos rfl))
    cases t1 with
    | false =>
      go_wp2_with fail
      go_ret
      exact ⟨by rw [hR.out] <;> rfl, bw.out⟩
    | true =>
      go_wp2_with fail
      refine (cU.out _ bw.out).mono ?_
      rintro e w1 ⟨rfl, b1⟩
      replace K1 := hid (K1.out.below b1 K1.out.lt)
      replace bw := hid (bt bw.out b1)
      clear b1 cU c0 c1 c2 cf
      obtain ⟨c0, c1, c2, cf⟩ := K1.out.three
      cases ub with
      | false =>
        go_wp2_with fail
        go_ret
        exact ⟨by rw [hR.out] <;> rfl, bw.out⟩
      | true =>
        cases te with
        | false =>
          go_wp2_with fail
          go_ret
          exact ⟨by rw [hR.out] <;> rfl, bw.out⟩
        | true =>
          go_wp2_with fail
          go_ret
          exact ⟨by rw [hR.out] <;> rfl, bw.out⟩
  have g1 : ((k : Int) == 1) = false := by rw [beq_eq_false_iff_ne]; omega
  replace hR := hid (hR.out.trans (if_neg h1))
  clear h1
  by_cases h2 : k = 2
  · subst h2
    replace hR := hid (hR.out.trans (if_pos rfl))
    cases t1 with
    | false =>
      go_wp2_with fail
      go_ret
      exact ⟨by rw [hR.out] <;> rfl, bw.out⟩
    | true =>
      go_wp2_with fail
      refine (cU.out _ bw.out).mono ?_
      rintro e w1 ⟨rfl, b1⟩
      replace K1 := hid (K1.out.below b1 K1.out.lt)
      replace bw := hid (bt bw.out b1)
      clear b1 cU c0 c1 c2 cf
      obtain ⟨c0, c1, c2, cf⟩ := K1.out.three
      cases ub with
      | false =>
        go_wp2_with fail
        go_ret
        exact ⟨by rw [hR.out] <;> rfl, bw.out⟩
      | true =>
        cases te with
        | false =>
          go_wp2_with fail
          go_ret
          exact ⟨by rw [hR.out] <;> rfl, bw.out⟩
        | true =>
          go_wp2_with fail
          go_ret
          exact ⟨by rw [hR.out] <;> rfl, bw.out⟩
  have g2 : ((k : Int) == 2) = false := by rw [beq_eq_false_iff_ne]; omega
  replace hR := hid (hR.out.trans (if_neg h2))
  clear h2
  by_cases h3 : k = 3
  · subst h3
    replace hR := hid (hR.out.trans (if_pos rfl))
    cases t0 with
    | false =>
      go_wp2_with fail
      go_ret
      exact ⟨by rw [hR.out] <;> rfl, bw.out⟩
    | true =>
      go_wp2_with fail
      refine (cT.out _ bw.out).mono ?_
      rintro e w1 ⟨rfl, b1⟩
      replace K1 := hid (K1.out.below b1 K1.out.lt)
      replace bw := hid (bt bw.out b1)
      clear b1 cT c0 c1 c2 cf
      obtain ⟨c0, c1, c2, cf⟩ := K1.out.three
      cases tb with
      | false =>
        go_wp2_with fail
        go_ret
        exact ⟨by rw [hR.out] <;> rfl, bw.out⟩
      | true =>
        go_wp2_with fail
        go_ret
        exact ⟨by rw [hR.out] <;> rfl, bw.out⟩
  have g3 : ((k : Int) == 3) = false := by rw [beq_eq_false_iff_ne]; omega
  replace hR := hid (hR.out.trans (if_neg h3))
  clear h3
  go_wp2_with fail
  go_ret
  exact ⟨by rw [hR.out] <;> rfl, bw.out⟩
set_option maxHeartbeats 8000000 in
theorem action_any (k : Nat) (us : List Ud) (uv : Value) (t : ByteArray) (w : World) (ht : t.size ≤ 140737488355328) (hu : ∀ u ∈ us, u.1.size ≤ 140737488355328 ∧ u.2.size ≤ 140737488355328) (hv : SlV w uv us.length (encU us)) (hw : Ex.Sta w) :
    Calls Tryz.prog 78 #[.agg #[.int .u8 (k : Nat), uv, .string t]] w fun e w' => e = .returned (.bool (actionF k us t)) ∧ Below w.heap.size w w' := by
  obtain ⟨R, hR⟩ : ∃ R, actionF k us t = R := ⟨_, rfl⟩
  rw [hR]
  replace hR := hR.symm
  unfold actionF at hR
  have hl : us.length ≤ 9223372036854775807 := by have := SlV.len hv; unfold maxLen at this; omega
  obtain ⟨uo, uc, rfl, _, _⟩ := hv.form
  have i2 : (us.length : Int) ≤ 9223372036854775807 := by omega
  have cU := hid (fun W (b : Below w.heap.size w W) => uids_any us _ W (hv.below b) hu (hw.below b))
  have cS := hid (fun W (b : Below w.heap.size w W) => scope_any k us _ t W ht hu (hv.below b) (hw.below b))
  clear hv hu hw ht
  generalize scopeF k us t = sb at hR cS
  generalize uidsB us = ub at hR cU
  obtain ⟨te, qe⟩ : ∃ b, (t.toList == []) = b := ⟨_, rfl⟩
  rw [qe] at hR
  replace hR := hid hR
  go_enter Tryz.func78, Tryz.ntmps78
  go_upto_region 1 with fail
  have K1 := hid (Blk.new w [.int .u8 (k : Nat), .slice uo us.length uc, .string t] 36)
  have bw := hid ((Below.refl w.heap.size w).alloc (Nat.le_refl _) (.cells #[.int .u8 (k : Nat), .slice uo us.length uc, .string t] 36))
  generalize w.alloc (.cells #[.int .u8 (k : Nat), .slice uo us.length uc, .string t] 36) = X0 at K1 bw ⊢
  obtain ⟨c0, c1, c2, cf⟩ := K1.out.three
  by_cases h2 : k = 2
  · subst h2
    replace hR := hid (hR.out.trans (if_pos rfl))
    by_cases j1 : (1 : Int) ≤ (us.length : Int)
    · replace hR := hid (hR.out.trans (by rw [decide_eq_true j1, Bool.true_and]))
      by_cases j2 : (us.length : Int) ≤ 16
      · replace hR := hid (hR.out.trans (by rw [decide_eq_true j2, Bool.true_and]))
        go_wp2_with fail
        refine (cU.out _ bw.out).mono ?_
        rintro e w1 ⟨rfl, b1⟩
        replace K1 := hid (K1.out.below b1 K1.out.lt)
        replace bw := hid (bt bw.out b1)
        clear b1 cU c0 c1 c2 cf
        obtain ⟨c0, c1, c2, cf⟩ := K1.out.three
        cases ub with
        | false =>
          go_wp2_with fail
          go_ret
          exact ⟨by rw [hR.out] <;> rfl, bw.out⟩
        | true =>
          cases te with
          | false =>
            go_wp2_with fail
            go_ret
            exact ⟨by rw [hR.out] <;> rfl, bw.out⟩
          | true =>
            go_wp2_with fail
            go_ret
            exact ⟨by rw [hR.out] <;> rfl, bw.out⟩
      · replace hR := hid (hR.out.trans (by rw [decide_eq_false j2, Bool.false_and]))
        go_wp2_with fail
        go_ret
        exact ⟨by rw [hR.out] <;> rfl, bw.out⟩
    · replace hR := hid (hR.out.trans (by rw [decide_eq_false j1, Bool.false_and]))
      go_wp2_with fail
      go_ret
      exact ⟨by rw [hR.out] <;> rfl, bw.out⟩
  have g2 : ((k : Int) == 2) = false := by rw [beq_eq_false_iff_ne]; omega
  replace hR := hid (hR.out.trans (if_neg h2))
  clear h2
  by_cases h3 : k = 3
  · subst h3
    replace hR := hid (hR.out.trans (if_pos rfl))
    go_wp2_with fail
    go_ret
    exact ⟨by rw [hR.out] <;> rfl, bw.out⟩
  have g3 : ((k : Int) == 3) = false := by rw [beq_eq_false_iff_ne]; omega
  replace hR := hid (hR.out.trans (if_neg h3))
  clear h3
  go_wp2_with fail
  refine (cS.out _ bw.out).mono ?_
  rintro e w1 ⟨rfl, b1⟩
  replace bw := hid (bt bw.out b1)
  clear b1 cS c0 c1 c2 cf K1
  go_wp2_with fail
  go_ret
  exact ⟨by rw [hR.out] <;> rfl, bw.out⟩
/-- the eleven cells -/
theorem eleven {w : World} {b : Nat} {v0 v1 v2 v3 v4 v5 v6 v7 v8 v9 v10 : Value} {t : TypeId} (h : Blk w b [v0, v1, v2, v3, v4, v5, v6, v7, v8, v9, v10] t) :
    w.cell? ⟨b, 0, none⟩ = some v0 ∧ w.cell? ⟨b, 1, none⟩ = some v1 ∧ w.cell? ⟨b, 2, none⟩ = some v2 ∧ w.cell? ⟨b, 3, none⟩ = some v3 ∧ w.cell? ⟨b, 4, none⟩ = some v4 ∧ w.cell? ⟨b, 5, none⟩ = some v5 ∧ w.cell? ⟨b, 6, none⟩ = some v6 ∧ w.cell? ⟨b, 7, none⟩ = some v7 ∧
      w.cell? ⟨b, 8, none⟩ = some v8 ∧ w.cell? ⟨b, 9, none⟩ = some v9 ∧ w.cell? ⟨b, 10, none⟩ = some v10 ∧ ∀ o, w.frozen? ⟨b, o, none⟩ = false :=
  ⟨h.cell 0 (by simp), h.cell 1 (by simp), h.cell 2 (by simp), h.cell 3 (by simp), h.cell 4 (by simp), h.cell 5 (by simp), h.cell 6 (by simp), h.cell 7 (by simp), h.cell 8 (by simp), h.cell 9 (by simp), h.cell 10 (by simp), fun o => by simp [World.frozen?, h.at']⟩
theorem Po.val_eq {x : Po} {ao bo co lo : Option Addr} {ac bc cc lc : Nat} (e1 : x.a.uv = .slice ao x.a.us.length ac) (e2 : x.b.uv = .slice bo x.b.us.length bc) (e3 : x.c.uv = .slice co x.c.us.length cc) (e4 : x.lv = .slice lo x.l.length lc) :
    x.val = .agg #[.bool x.p, .int .u8 (x.a.k : Nat), .slice ao x.a.us.length ac, .string x.a.t, .int .u8 (x.b.k : Nat), .slice bo x.b.us.length bc, .string x.b.t, .int .u8 (x.c.k : Nat), .slice co x.c.us.length cc, .string x.c.t, .slice lo x.l.length lc] := by
  show Value.agg _ = _
  unfold Po.enc Sc.enc
  rw [e1, e2, e3, e4]
  rfl
theorem scope_ok (s : Sc) (w : World) (h : s.ok w) (hw : Ex.Sta w) {uo : Option Addr} {uc : Nat} (e : s.uv = .slice uo s.us.length uc) :
    Calls Tryz.prog 77 #[.agg #[.int .u8 (s.k : Nat), .slice uo s.us.length uc, .string s.t]] w fun e w' => e = .returned (.bool (scopeB s)) ∧ Below w.heap.size w w' :=
  e ▸ scope_any s.k s.us s.uv s.t w h.2.1 h.2.2.1 h.2.2.2 hw
theorem action_ok (s : Sc) (w : World) (h : s.ok w) (hw : Ex.Sta w) {uo : Option Addr} {uc : Nat} (e : s.uv = .slice uo s.us.length uc) :
    Calls Tryz.prog 78 #[.agg #[.int .u8 (s.k : Nat), .slice uo s.us.length uc, .string s.t]] w fun e w' => e = .returned (.bool (actionB s)) ∧ Below w.heap.size w w' :=
  e ▸ action_any s.k s.us s.uv s.t w h.2.1 h.2.2.1 h.2.2.2 hw
set_option maxHeartbeats 8000000 in
theorem frame_any (x : Po) (w : World) (h : x.ok w) (hw : Ex.Sta w) :
    Calls Tryz.prog 41 #[x.val] w fun e w' => e = .returned (.int .i64 (frameN x)) ∧ Below w.heap.size w w' := by
  obtain ⟨ao, ac, e1, _⟩ := h.1.1.form
  obtain ⟨bo, bc, e2, _⟩ := h.1.2.1.form
  obtain ⟨co, cc, e3, _⟩ := h.1.2.2.form
  obtain ⟨lo, lc, e4, hl⟩ := h.form
  rw [Po.val_eq e1 e2 e3 e4]
  have cA := hid (fun W (b : Below w.heap.size w W) => scope_ok x.a W (h.below b).1.1 (hw.below b) e1)
  have cB := hid (fun W (b : Below w.heap.size w W) => action_ok x.b W (h.below b).1.2.1 (hw.below b) e2)
  have cC := hid (fun W (b : Below w.heap.size w W) => scope_ok x.c W (h.below b).1.2.2 (hw.below b) e3)
  obtain ⟨R, hR⟩ : ∃ R, frameN x = R := ⟨_, rfl⟩
  rw [hR]
  replace hR := hR.symm
  unfold frameN at hR
  clear h hw e1 e2 e3 e4
  generalize scopeB x.a = ra at hR cA
  generalize actionB x.b = rb at hR cB
  generalize scopeB x.c = rc at hR cC
  replace hR := hid hR
  have i2 : (x.l.length : Int) ≤ 9223372036854775807 := by omega
  go_enter Tryz.func41, Tryz.ntmps41
  go_upto_region 1 with fail
  have K1 := hid (Blk.new w [.bool x.p, .int .u8 (x.a.k : Nat), .slice ao x.a.us.length ac, .string x.a.t, .int .u8 (x.b.k : Nat), .slice bo x.b.us.length bc, .string x.b.t, .int .u8 (x.c.k : Nat), .slice co x.c.us.length cc, .string x.c.t, .slice lo x.l.length lc] 39)
  have bw := hid ((Below.refl w.heap.size w).alloc (Nat.le_refl _) (.cells #[.bool x.p, .int .u8 (x.a.k : Nat), .slice ao x.a.us.length ac, .string x.a.t, .int .u8 (x.b.k : Nat), .slice bo x.b.us.length bc, .string x.b.t, .int .u8 (x.c.k : Nat), .slice co x.c.us.length cc, .string x.c.t, .slice lo x.l.length lc] 39))
  generalize w.alloc (.cells #[.bool x.p, .int .u8 (x.a.k : Nat), .slice ao x.a.us.length ac, .string x.a.t, .int .u8 (x.b.k : Nat), .slice bo x.b.us.length bc, .string x.b.t, .int .u8 (x.c.k : Nat), .slice co x.c.us.length cc, .string x.c.t, .slice lo x.l.length lc] 39) = X0 at K1 bw ⊢
  obtain ⟨c0, c1, c2, c3, c4, c5, c6, c7, c8, c9, c10, cf⟩ := eleven K1.out
  go_wp2_with fail
  refine (cA.out _ bw.out).mono ?_
  rintro e w1 ⟨rfl, b1⟩
  replace K1 := hid (K1.out.below b1 K1.out.lt)
  replace bw := hid (bt bw.out b1)
  clear b1 cA c0 c1 c2 c3 c4 c5 c6 c7 c8 c9 c10 cf
  obtain ⟨c0, c1, c2, c3, c4, c5, c6, c7, c8, c9, c10, cf⟩ := eleven K1.out
  cases ra with
  | false =>
    go_wp2_with fail
    go_ret
    exact ⟨by rw [hR.out] <;> rfl, bw.out⟩
  | true =>
    go_wp2_with fail
    refine (cB.out _ bw.out).mono ?_
    rintro e w1 ⟨rfl, b1⟩
    replace K1 := hid (K1.out.below b1 K1.out.lt)
    replace bw := hid (bt bw.out b1)
    clear b1 cB c0 c1 c2 c3 c4 c5 c6 c7 c8 c9 c10 cf
    obtain ⟨c0, c1, c2, c3, c4, c5, c6, c7, c8, c9, c10, cf⟩ := eleven K1.out
    cases rb with
    | false =>
      go_wp2_with fail
      go_ret
      exact ⟨by rw [hR.out] <;> rfl, bw.out⟩
    | true =>
      go_wp2_with fail
      refine (cC.out _ bw.out).mono ?_
      rintro e w1 ⟨rfl, b1⟩
      replace K1 := hid (K1.out.below b1 K1.out.lt)
      replace bw := hid (bt bw.out b1)
      clear b1 cC c0 c1 c2 c3 c4 c5 c6 c7 c8 c9 c10 cf
      obtain ⟨c0, c1, c2, c3, c4, c5, c6, c7, c8, c9, c10, cf⟩ := eleven K1.out
      cases rc with
      | false =>
        go_wp2_with fail
        go_ret
        exact ⟨by rw [hR.out] <;> rfl, bw.out⟩
      | true =>
        replace hR := hid (hR.out.trans (if_neg (by decide)))
        by_cases hm : 16 < x.l.length
        · have hmi : (16 : Int) < (x.l.length : Int) := by omega
          replace hR := hid (hR.out.trans (if_pos hm))
          clear hm
          go_wp2_with fail
          go_ret
          exact ⟨by rw [hR.out] <;> rfl, bw.out⟩
        · have hmi : ¬ (16 : Int) < (x.l.length : Int) := by omega
          replace hR := hid (hR.out.trans (if_neg hm))
          clear hm
          go_wp2_with fail
          go_ret
          exact ⟨by rw [hR.out] <;> rfl, bw.out⟩
end Go.Proofs.YtihnhinnohnfgaaGreatDoor.Pol
