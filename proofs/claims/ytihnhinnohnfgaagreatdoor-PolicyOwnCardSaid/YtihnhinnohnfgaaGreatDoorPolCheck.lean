/-
  policy.Check, Body: contracts. Written by wip/polcheckgen.py.
-/
import Derived.Test.YtihnhinnohnfgaaGreatDoorPolBody3
import Derived.Test.YtihnhinnohnfgaaGreatDoorPolOpen
namespace Go.Proofs.YtihnhinnohnfgaaGreatDoor.Pol
open Go.ChangeShapes Go.WideShapes Go.ChangeAt Go.RowKit
open Go.Proofs.YtihnhinnohnfgaaGreatDoor.Mem
open Go.Proofs.YtihnhinnohnfgaaGreatDoor.Ex (T chkW)
set_option linter.unusedVariables false
set_option linter.unusedSimpArgs false
set_option maxRecDepth 100000
theorem wrapT_size (k : Nat) (t : ByteArray) (l : List T) : (wrapT k t l).size = T.sizeL l + 1 := T.size_list _
theorem leaf_size (k : Nat) (n : Int) (s t : ByteArray) : (leaf k n s t).size = 1 := T.size_list _
theorem andL_size (w : T) (l : List T) : (andL w l).size = w.size + T.sizeL l + l.length := by
  induction l generalizing w with
  | nil => show w.size = w.size + 0 + 0; omega
  | cons x l ih =>
    rw [andL, ih, wrapT_size, T.sizeL, T.sizeL, T.sizeL, T.sizeL, List.length_cons]
    omega
theorem ents_size (l : List Ud) : T.sizeL (l.map entT) = l.length := by
  induction l with
  | nil => rfl
  | cons u l ih => rw [List.map_cons, T.sizeL, ih, List.length_cons]; have : (entT u).size = 1 := leaf_size _ _ _ _; omega
theorem named_size (act : Bool) (s : Sc) (h : s.us.length ≤ 16) : (namedT act s).size ≤ 17 := by
  unfold namedT
  split
  · rw [wrapT_size, ents_size]; omega
  · have : ∀ u : Ud, (entT u).size = 1 := fun u => leaf_size _ _ _ _
    rw [this]; omega
theorem scT_size (nm : ByteArray) (act : Bool) (s : Sc) (h : s.fit) : (scT nm act s).size ≤ 19 := by
  unfold scT
  by_cases h1 : s.k = 1
  · rw [if_pos h1, wrapT_size, T.sizeL, T.sizeL, T.sizeL, leaf_size]
    have := named_size act s (h (.inl h1)).2
    omega
  · rw [if_neg h1]
    by_cases h2 : s.k = 2
    · rw [if_pos h2, wrapT_size, T.sizeL, T.sizeL, T.sizeL, leaf_size]
      have := named_size act s (h (.inr h2)).2
      omega
    · rw [if_neg h2]
      split
      · rw [wrapT_size, T.sizeL, T.sizeL, leaf_size]; omega
      · rw [leaf_size]; omega
theorem conds_size (l : List Cd) : T.sizeL (l.map condT) ≤ (l.map fun c => c.e.size).sum + l.length := by
  induction l with
  | nil => simp [T.sizeL]
  | cons c l ih =>
    rw [List.map_cons, T.sizeL, List.map_cons, List.sum_cons, List.length_cons]
    have : (condT c).size ≤ c.e.size + 1 := by
      unfold condT
      split
      · rw [wrapT_size, T.sizeL, T.sizeL]; omega
      · omega
    omega
theorem body_size (x : Po) (ha : x.a.fit) (hb : x.b.fit) (hc : x.c.fit) (h16 : x.l.length ≤ 16) (hz : bulkP x ≤ 4194304) : (bodyT x).size ≤ 8388608 := by
  have h1 := scT_size prB false x.a ha
  have h2 := scT_size acB true x.b hb
  have h3 := scT_size reB false x.c hc
  have h4 := conds_size x.l
  unfold bulkP at hz
  show (andL (scT prB false x.a) ([scT acB true x.b, scT reB false x.c] ++ x.l.map condT)).size ≤ _
  rw [andL_size, Ex.sizeL_append, T.sizeL, T.sizeL, T.sizeL, List.length_append, List.length_map]
  show _ + _ + (2 + _) ≤ _
  omega
theorem cond_le {x : Po} {c : Cd} (h : c ∈ x.l) : c.e.size ≤ bulkP x := by
  unfold bulkP
  generalize x.l = l at h
  induction l with
  | nil => cases h
  | cons y l ih =>
    rw [List.map_cons, List.sum_cons]
    rcases List.mem_cons.1 h with rfl | h
    · omega
    · have := ih h; omega
theorem frame_zero {x : Po} (h : frameN x = 0) : x.a.fit ∧ x.b.fit ∧ x.c.fit ∧ x.l.length ≤ 16 := by
  unfold frameN at h
  by_cases g : (scopeB x.a && (actionB x.b && scopeB x.c)) = false
  · rw [if_pos g] at h; exact absurd h (by decide)
  · rw [if_neg g] at h
    have g := Bool.not_eq_false _ ▸ g
    obtain ⟨g1, g2⟩ := Bool.and_eq_true_iff.1 g
    obtain ⟨g2, g3⟩ := Bool.and_eq_true_iff.1 g2
    refine ⟨scope_fit g1, action_fit g2, scope_fit g3, ?_⟩
    split at h
    · exact absurd h (by decide)
    · omega
theorem polN_zero {x : Po} (h : polN x = 0) : frameN x = 0 ∧ condsN x.l = 0 ∧ chkW (bodyT x) = 0 := by
  unfold polN at h
  by_cases g : frameN x = 0
  · rw [if_pos g] at h
    by_cases g2 : condsN x.l = 0
    · rw [if_pos g2] at h; exact ⟨g, g2, h⟩
    · rw [if_neg g2] at h; exact absurd h g2
  · rw [if_neg g] at h; exact absurd h g
set_option maxHeartbeats 8000000 in
theorem check_any (x : Po) (w : World) (h : x.ok w) (hw : Ex.Sta w) :
    Calls Tryz.prog 18 #[x.val] w fun e w' => e = .returned (.int .i64 (polN x)) ∧ Below w.heap.size w w' := by
  have cF := hid (fun W (b : Below w.heap.size w W) => frame_any x W (h.below b) (hw.below b))
  have cB := hid (fun (hf : frameN x = 0) W (b : Below w.heap.size w W) => body_any x W (h.below b) (frame_zero hf).1 (frame_zero hf).2.1 (frame_zero hf).2.2.1 (frame_zero hf).2.2.2 (fun _ => True) (fun c hc => Ex.T.all_in c.e) (fun _ _ => trivial))
  have cE := hid (fun (y : T) W (b : Below w.heap.size w W) (hy : y.ok W) => Ex.checkw_any y W hy (hw.below b))
  have hcd := hid (fun (c : Cd) (hc : c ∈ x.l) => (show c.e.ok w ∧ True from ⟨h.2.2.1 c hc, trivial⟩))
  obtain ⟨ao, ac, e1, _⟩ := h.1.1.form
  obtain ⟨bo, bc, e2, _⟩ := h.1.2.1.form
  obtain ⟨co, cc, e3, _⟩ := h.1.2.2.form
  obtain ⟨lo, lc, e4, hl⟩ := h.form
  have hcells := hid (fun W (B : Below w.heap.size w W) k (hk : k < x.l.length) => (h.below B).cond e4 k hk)
  rw [Po.val_eq e1 e2 e3 e4] at cF cB ⊢
  obtain ⟨m, hm⟩ : ∃ m, x.l.length = m := ⟨_, rfl⟩
  rw [hm] at hl cF cB ⊢
  replace hm := hid hm
  have i2 : (m : Int) ≤ 9223372036854775807 := by omega
  obtain ⟨R, hR⟩ : ∃ R, polN x = R := ⟨_, rfl⟩
  rw [hR]
  replace hR := hid (hR.symm.trans (show polN x = if frameN x = 0 then (if condsN x.l = 0 then chkW (bodyT x) else condsN x.l) else frameN x from rfl))
  obtain ⟨F, hF⟩ : ∃ F, frameN x = F := ⟨_, rfl⟩
  rw [hF] at cF cB hR
  clear hF h hw e1 e2 e3 e4
  go_enter Tryz.func18, Tryz.ntmps18
  go_upto_region 1 with fail
  have K1 := hid (Blk.new w [.bool x.p, .int .u8 (x.a.k : Nat), .slice ao x.a.us.length ac, .string x.a.t, .int .u8 (x.b.k : Nat), .slice bo x.b.us.length bc, .string x.b.t, .int .u8 (x.c.k : Nat), .slice co x.c.us.length cc, .string x.c.t, .slice lo m lc] 39)
  have bw := hid ((Below.refl w.heap.size w).alloc (Nat.le_refl _) (.cells #[.bool x.p, .int .u8 (x.a.k : Nat), .slice ao x.a.us.length ac, .string x.a.t, .int .u8 (x.b.k : Nat), .slice bo x.b.us.length bc, .string x.b.t, .int .u8 (x.c.k : Nat), .slice co x.c.us.length cc, .string x.c.t, .slice lo m lc] 39))
  generalize w.alloc (.cells #[.bool x.p, .int .u8 (x.a.k : Nat), .slice ao x.a.us.length ac, .string x.a.t, .int .u8 (x.b.k : Nat), .slice bo x.b.us.length bc, .string x.b.t, .int .u8 (x.c.k : Nat), .slice co x.c.us.length cc, .string x.c.t, .slice lo m lc] 39) = X0 at K1 bw ⊢
  obtain ⟨c0, c1, c2, c3, c4, c5, c6, c7, c8, c9, c10, cf⟩ := eleven K1.out
  go_wp2_with fail
  refine (cF.out _ bw.out).mono ?_
  rintro e w1 ⟨rfl, b1⟩
  replace K1 := hid (K1.out.below b1 K1.out.lt)
  replace bw := hid (bt bw.out b1)
  clear b1 cF c0 c1 c2 c3 c4 c5 c6 c7 c8 c9 c10 cf
  obtain ⟨c0, c1, c2, c3, c4, c5, c6, c7, c8, c9, c10, cf⟩ := eleven K1.out
  by_cases hF : F = 0
  · subst hF
    replace hR := hid (hR.out.trans (if_pos rfl))
    replace cB := hid (cB.out rfl)
    go_wp2_with fail
    go_loopw [15] (fun i wr => ∃ k : Nat, k ≤ m ∧ i = .int .i64 k ∧ Hid (condsN x.l = condsN (x.l.drop k)) ∧ Hid (Blk wr w.heap.size [.bool x.p, .int .u8 (x.a.k : Nat), .slice ao x.a.us.length ac, .string x.a.t, .int .u8 (x.b.k : Nat), .slice bo x.b.us.length bc, .string x.b.t, .int .u8 (x.c.k : Nat), .slice co x.c.us.length cc, .string x.c.t, .slice lo m lc] 39) ∧ Hid (Below w.heap.size w wr)) (fun i _ => m - (intOf i).toNat)
    case atStart => exact ⟨0, by omega, rfl, hid rfl, K1, bw⟩
    case round =>
      clear c0 c1 c2 c3 c4 c5 c6 c7 c8 c9 c10 cf K1 bw
      obtain ⟨k, hk, rfl, hcs, K1, bw⟩ := hrel
      rename_i wr _
      obtain ⟨c0, c1, c2, c3, c4, c5, c6, c7, c8, c9, c10, cf⟩ := eleven K1.out
      by_cases hkm : k < m
      · have hki : (k : Int) < (m : Int) := by omega
        have hkl : k < x.l.length := by have := hm.out; omega
        obtain ⟨b, off, hlo, z0, z1, z2, z3, z4, z5, z6⟩ := hcells.out wr bw.out k hkl
        subst hlo
        have hst := hid (hcs.out.trans (condsN_step x.l k hkl))
        obtain ⟨c, hc⟩ : ∃ c, x.l[k] = c := ⟨_, rfl⟩
        have hcm := hid (hcd.out c (hc ▸ List.getElem_mem hkl))
        rw [hc] at z0 z1 z2 z3 z4 z5 z6 hst
        obtain ⟨no, nc, l9, lc9, ec1, ec2, cl1, cl2⟩ := hcm.out.1.forms
        rw [ec1] at z5
        rw [ec2] at z6
        have hcl := hid (fun W (b : Below w.heap.size w W) => cE.out c.e W b (hcm.out.1.below b))
        rw [Ex.T.val_eq ec1 ec2] at hcl
        clear ec1 ec2 hc hkl c0 c1 c2 c3 c4 c5 c6 c7 c8 c9 c10 cf
        go_upto_region 7 with fail
        have K5 := hid (Blk.new wr [.bool c.u, .int .u8 (c.e.kind : Nat), .int .i64 c.e.num, .string c.e.str, .string c.e.typ, .slice no c.e.names.length nc, .slice l9 c.e.list.length lc9] 48)
        replace K1 := hid (K1.out.alloc (.cells #[.bool c.u, .int .u8 (c.e.kind : Nat), .int .i64 c.e.num, .string c.e.str, .string c.e.typ, .slice no c.e.names.length nc, .slice l9 c.e.list.length lc9] 48))
        replace bw := hid (bw.out.alloc bw.out.size (.cells #[.bool c.u, .int .u8 (c.e.kind : Nat), .int .i64 c.e.num, .string c.e.str, .string c.e.typ, .slice no c.e.names.length nc, .slice l9 c.e.list.length lc9] 48))
        clear z0 z1 z2 z3 z4 z5 z6 hcs
        generalize wr.alloc (.cells #[.bool c.u, .int .u8 (c.e.kind : Nat), .int .i64 c.e.num, .string c.e.str, .string c.e.typ, .slice no c.e.names.length nc, .slice l9 c.e.list.length lc9] 48) = X3 at K1 K5 bw ⊢
        generalize wr.heap.size = b5 at K5 ⊢
        obtain ⟨f0, f1, f2, f3, f4, f5, f6, ff⟩ := seven K5.out
        generalize chkW c.e = q at hcl hst
        go_wp2_with fail
        refine (hcl.out _ bw.out).mono ?_
        rintro e w6 ⟨rfl, b6⟩
        replace K1 := hid (K1.out.below b6 K1.out.lt)
        replace bw := hid (bt bw.out b6)
        clear b6 f0 f1 f2 f3 f4 f5 f6 ff K5 hcl hcm
        by_cases hq : q = 0
        · subst hq
          replace hst := hid (hst.out.trans (if_pos rfl))
          go_wp2_with fail
          go_roundw
          case rel => exact ⟨k + 1, by omega, by go_num, hst, K1, bw⟩
          case measure => simp [intOf]; omega
        · have hq2 : (q != 0) = true := by simp [hq]
          have hf := hid (show R = q by rw [hR.out, hst.out, if_neg hq, if_neg hq])
          clear hst hR hq
          go_wp2_with fail
          go_ret
          exact ⟨by rw [hf.out] <;> rfl, bw.out⟩
      · have hki : ¬ (k : Int) < (m : Int) := by omega
        obtain rfl : k = m := by omega
        have h0 : condsN x.l = 0 := by rw [hcs.out, List.drop_eq_nil_of_le (by have := hm.out; omega)]; rfl
        replace hR := hid (show R = chkW (bodyT x) by rw [hR.out, if_pos h0])
        clear h0 hcs
        go_wp2_with fail
        refine (cB.out _ bw.out).mono ?_
        rintro e w7 ⟨⟨y, rfl, hyl, hyok, _⟩, b7⟩
        replace bw := hid (bt bw.out b7)
        obtain ⟨yno, ync, ylo, ylc, ey1, ey2, yl1, yl2⟩ := hyok.forms
        have hcl := hid (cE.out y w7 bw.out hyok)
        rw [Ex.T.val_eq ey1 ey2] at hcl ⊢
        rw [← Ex.like_chkW hyl] at hcl
        clear b7 cB cE c0 c1 c2 c3 c4 c5 c6 c7 c8 c9 c10 cf K1 ey1 ey2 hyok hyl
        go_wp2_with fail
        refine hcl.out.mono ?_
        rintro e w8 ⟨rfl, b8⟩
        replace bw := hid (bt bw.out b8)
        clear b8 hcl
        go_wp2_with fail
        go_ret
        exact ⟨by rw [hR.out] <;> rfl, bw.out⟩
  · have hF2 : (F != 0) = true := by simp [hF]
    have hf := hid (show R = F by rw [hR.out, if_neg hF])
    clear hF hR
    go_wp2_with fail
    go_ret
    exact ⟨by rw [hf.out] <;> rfl, bw.out⟩
/-- what Body answers -/
def BodyOf (B : Nat) (x : Po) (e : Ending) (w' : World) : Prop := ∃ y : T, e = .returned (.tuple #[y.val, .int .i64 (polN x)]) ∧ (polN x = 0 → (bodyT x).like y) ∧ (polN x ≠ 0 → y = leaf 0 0 ⟨#[]⟩ ⟨#[]⟩) ∧ y.ok w' ∧ y.inS (B ≤ ·) ∧ y.soft w'
theorem leaf_soft {k : Nat} {n : Int} {s t : ByteArray} {W : World} : (leaf k n s t).soft W := T.soft_iff.2 ⟨⟨sl_none, fun h => absurd h (Nat.lt_irrefl 0)⟩, fun y hy => by cases hy⟩
set_option maxHeartbeats 8000000 in
theorem body_of (x : Po) (w : World) (h : x.ok w) (hw : Ex.Sta w) :
    Calls Tryz.prog 14 #[x.val] w fun e w' => BodyOf w.heap.size x e w' ∧ Below w.heap.size w w' := by
  have cF := hid (fun W (b : Below w.heap.size w W) => check_any x W (h.below b) (hw.below b))
  have cB := hid (fun (hf : frameN x = 0) W (b : Below w.heap.size w W) => body_any x W (h.below b) (frame_zero hf).1 (frame_zero hf).2.1 (frame_zero hf).2.2.1 (frame_zero hf).2.2.2 (fun _ => True) (fun c hc => Ex.T.all_in c.e) (fun _ _ => trivial))
  obtain ⟨ao, ac, e1, _⟩ := h.1.1.form
  obtain ⟨bo, bc, e2, _⟩ := h.1.2.1.form
  obtain ⟨co, cc, e3, _⟩ := h.1.2.2.form
  obtain ⟨lo, lc, e4, hl⟩ := h.form
  rw [Po.val_eq e1 e2 e3 e4] at cF cB ⊢
  obtain ⟨m, hm⟩ : ∃ m, x.l.length = m := ⟨_, rfl⟩
  rw [hm] at hl cF cB ⊢
  have hp0 := hid (fun (h : polN x = 0) => (polN_zero h).1)
  have hRx := hid (show ∀ e w', (∃ y : T, e = .returned (.tuple #[y.val, .int .i64 (polN x)]) ∧ (polN x = 0 → (bodyT x).like y) ∧ (polN x ≠ 0 → y = leaf 0 0 ⟨#[]⟩ ⟨#[]⟩) ∧ y.ok w' ∧ y.inS (w.heap.size ≤ ·) ∧ y.soft w') → BodyOf w.heap.size x e w' from fun e w' h => h)
  obtain ⟨R, hR⟩ : ∃ R, polN x = R := ⟨_, rfl⟩
  rw [hR] at cF hp0 hRx
  clear hR hm h hw e1 e2 e3 e4
  go_enter Tryz.func14, Tryz.ntmps14
  go_upto_region 1 with fail
  have K1 := hid (Blk.new w [.bool x.p, .int .u8 (x.a.k : Nat), .slice ao x.a.us.length ac, .string x.a.t, .int .u8 (x.b.k : Nat), .slice bo x.b.us.length bc, .string x.b.t, .int .u8 (x.c.k : Nat), .slice co x.c.us.length cc, .string x.c.t, .slice lo m lc] 39)
  have bw := hid ((Below.refl w.heap.size w).alloc (Nat.le_refl _) (.cells #[.bool x.p, .int .u8 (x.a.k : Nat), .slice ao x.a.us.length ac, .string x.a.t, .int .u8 (x.b.k : Nat), .slice bo x.b.us.length bc, .string x.b.t, .int .u8 (x.c.k : Nat), .slice co x.c.us.length cc, .string x.c.t, .slice lo m lc] 39))
  have hs : w.heap.size + 1 = (w.alloc (.cells #[.bool x.p, .int .u8 (x.a.k : Nat), .slice ao x.a.us.length ac, .string x.a.t, .int .u8 (x.b.k : Nat), .slice bo x.b.us.length bc, .string x.b.t, .int .u8 (x.c.k : Nat), .slice co x.c.us.length cc, .string x.c.t, .slice lo m lc] 39)).heap.size := by simp
  generalize w.alloc (.cells #[.bool x.p, .int .u8 (x.a.k : Nat), .slice ao x.a.us.length ac, .string x.a.t, .int .u8 (x.b.k : Nat), .slice bo x.b.us.length bc, .string x.b.t, .int .u8 (x.c.k : Nat), .slice co x.c.us.length cc, .string x.c.t, .slice lo m lc] 39) = X0 at K1 bw hs ⊢
  have K2 := hid (Blk.new' X0 [.int .u8 0, .int .i64 0, .string ⟨#[]⟩, .string ⟨#[]⟩, .slice none 0 0, .slice none 0 0] 26 (w.heap.size + 1) hs)
  replace K1 := hid (K1.out.alloc (.cells #[.int .u8 0, .int .i64 0, .string ⟨#[]⟩, .string ⟨#[]⟩, .slice none 0 0, .slice none 0 0] 26))
  replace bw := hid (bw.out.alloc (by omega) (.cells #[.int .u8 0, .int .i64 0, .string ⟨#[]⟩, .string ⟨#[]⟩, .slice none 0 0, .slice none 0 0] 26))
  clear hs
  generalize X0.alloc (.cells #[.int .u8 0, .int .i64 0, .string ⟨#[]⟩, .string ⟨#[]⟩, .slice none 0 0, .slice none 0 0] 26) = X1 at K1 K2 bw ⊢
  obtain ⟨c0, c1, c2, c3, c4, c5, c6, c7, c8, c9, c10, cf⟩ := eleven K1.out
  go_wp2_with fail
  refine (cF.out _ bw.out).mono ?_
  rintro e w1 ⟨rfl, b1⟩
  replace K1 := hid (K1.out.below b1 K1.out.lt)
  replace K2 := hid (K2.out.below b1 K2.out.lt)
  replace bw := hid (bt bw.out b1)
  clear b1 cF c0 c1 c2 c3 c4 c5 c6 c7 c8 c9 c10 cf
  obtain ⟨c0, c1, c2, c3, c4, c5, c6, c7, c8, c9, c10, cf⟩ := eleven K1.out
  by_cases hF : R = 0
  · subst hF
    replace cB := hid (cB.out (hp0.out rfl))
    go_wp2_with fail
    refine (cB.out _ bw.out).mono ?_
    rintro e w7 ⟨⟨y, rfl, hyl, hyok, _⟩, b7⟩
    replace K2 := hid (K2.out.below b7 K2.out.lt)
    replace bw := hid (bt bw.out b7)
    obtain ⟨yno, ync, ylo, ylc, ey1, ey2, yl1, yl2⟩ := hyok.forms
    have hcl := hid (Ex.copied_own y w7 hyok)
    rw [Ex.T.val_eq ey1 ey2] at hcl ⊢
    clear b7 cB c0 c1 c2 c3 c4 c5 c6 c7 c8 c9 c10 cf K1 ey1 ey2 hyok
    go_wp2_with fail
    refine hcl.out.mono ?_
    rintro e w8 ⟨⟨z, rfl, hzl, hzok, hzin, hzso⟩, b8⟩
    obtain ⟨zno, znc, zlo, zlc, ez1, ez2, zl1, zl2⟩ := hzok.forms
    have hzv := hid (Ex.T.val_eq ez1 ez2)
    rw [hzv.out]
    have hge := hid (show w.heap.size + 2 ≤ w7.heap.size from Nat.succ_le_of_lt K2.out.lt)
    replace K2 := hid (K2.out.below b8 K2.out.lt)
    replace bw := hid (bt bw.out b8)
    clear b8 hcl ez1 ez2
    have hB := hid (Ex.below_st6 bw.out (g := w.heap.size + 1) (Nat.le_succ _) 0 (.int .u8 (z.kind : Nat)) (.int .i64 z.num) (.string z.str) (.string z.typ) (.slice zno z.names.length znc) (.slice zlo z.list.length zlc))
    have hokf := hid (hzok.keep (w' := Ex.st6 w8 (w.heap.size + 1) 0 (.int .u8 (z.kind : Nat)) (.int .i64 z.num) (.string z.str) (.string z.typ) (.slice zno z.names.length znc) (.slice zlo z.list.length zlc)) (fun k hk => Ex.heap_st6 _ _ _ _ _ _ _ _ _ (by have := hge.out; omega)) hzin)
    have hsof := hid (hzso.keep (w' := Ex.st6 w8 (w.heap.size + 1) 0 (.int .u8 (z.kind : Nat)) (.int .i64 z.num) (.string z.str) (.string z.typ) (.slice zno z.names.length znc) (.slice zlo z.list.length zlc)) (fun k hk => Ex.heap_st6 _ _ _ _ _ _ _ _ _ (by have := hge.out; omega)) hzin)
    have hinf := hid (hzin.mono (R := (w.heap.size ≤ ·)) (fun k hk => by have := hge.out; omega))
    have hlkz := hid (Ex.T.like_trans hyl hzl)
    clear hzok hzin hzso hzl hyl
    obtain ⟨d0, d1, d2, d3, d4, d5, df⟩ := Ex.six K2.out
    have hK := hid (show Blk _ (w.heap.size + 1) [.int .u8 (z.kind : Nat), .int .i64 z.num, .string z.str, .string z.typ, .slice zno z.names.length znc, .slice zlo z.list.length zlc] 26 from Ex.blk_st6 (A := []) (C := []) (o := 0) K2.out rfl (.int .u8 (z.kind : Nat)) (.int .i64 z.num) (.string z.str) (.string z.typ) (.slice zno z.names.length znc) (.slice zlo z.list.length zlc))
    go_wp2_with fail
    obtain ⟨q0, q1, q2, q3, q4, q5, qf⟩ := Ex.six hK.out
    exact bodyPost_ret (v := .tuple #[.agg #[.int .u8 (z.kind : Nat), .int .i64 z.num, .string z.str, .string z.typ, .slice zno z.names.length znc, .slice zlo z.list.length zlc], .int .i64 0]) (by unfold Ex.st6 at q0 q1 q2 q3 q4 q5; simp [results, Tryz.results14, go_sem, q0, q1, q2, q3, q4, q5]) rfl ⟨hRx.out _ _ ⟨z, by rw [hzv.out], fun _ => hlkz.out, fun h => absurd rfl h, hokf.out, hinf.out, hsof.out⟩, hB.out⟩
  · have hF2 : (R != 0) = true := by simp [hF]
    obtain ⟨d0, d1, d2, d3, d4, d5, df⟩ := Ex.six K2.out
    have hB := hid (Ex.below_st6 bw.out (g := w.heap.size + 1) (Nat.le_succ _) 0 (.int .u8 0) (.int .i64 0) (.string ⟨#[]⟩) (.string ⟨#[]⟩) (.slice none 0 0) (.slice none 0 0))
    have hF3 := hid hF
    clear hF c0 c1 c2 c3 c4 c5 c6 c7 c8 c9 c10 cf K1 cB
    have hK := hid (show Blk _ (w.heap.size + 1) [.int .u8 0, .int .i64 0, .string ⟨#[]⟩, .string ⟨#[]⟩, .slice none 0 0, .slice none 0 0] 26 from Ex.blk_st6 (A := []) (C := []) (o := 0) K2.out rfl (.int .u8 0) (.int .i64 0) (.string ⟨#[]⟩) (.string ⟨#[]⟩) (.slice none 0 0) (.slice none 0 0))
    go_wp2_with fail
    obtain ⟨q0, q1, q2, q3, q4, q5, qf⟩ := Ex.six hK.out
    exact bodyPost_ret (v := .tuple #[.agg #[.int .u8 0, .int .i64 0, .string ⟨#[]⟩, .string ⟨#[]⟩, .slice none 0 0, .slice none 0 0], .int .i64 R]) (by unfold Ex.st6 at q0 q1 q2 q3 q4 q5; simp [results, Tryz.results14, go_sem, q0, q1, q2, q3, q4, q5]) rfl ⟨hRx.out _ _ ⟨leaf 0 0 ⟨#[]⟩ ⟨#[]⟩, rfl, fun h => absurd h hF3.out, fun _ => rfl, leaf_ok (by decide) ⟨by decide, by decide⟩ (Nat.zero_le _) (Nat.zero_le _), leaf_in, leaf_soft⟩, hB.out⟩
end Go.Proofs.YtihnhinnohnfgaaGreatDoor.Pol
