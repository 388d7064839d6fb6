/-
  lictorlaw09.PolicyBody: the walk. Written by wip/polbwalkgen.py.
-/
import Derived.Test.YtihnhinnohnfgaaGreatDoorPolCheck
import Derived.Test.YtihnhinnohnfgaaGreatDoorExSame
import Derived.Test.YtihnhinnohnfgaaGreatDoorEvLives9
namespace Go.Proofs.YtihnhinnohnfgaaGreatDoor.Pol
open Go.ChangeShapes Go.WideShapes Go.ChangeAt Go.RowKit
open Go.Proofs.YtihnhinnohnfgaaGreatDoor.Mem
open Go.Proofs.YtihnhinnohnfgaaGreatDoor.Ex (T chkW sameT)
set_option linter.unusedVariables false
set_option linter.unusedSimpArgs false
set_option maxRecDepth 100000
/-- the three scopes -/
def hdT (x : Po) : T := wrapT 15 ⟨#[]⟩ [wrapT 15 ⟨#[]⟩ [scT prB false x.a, scT acB true x.b], scT reB false x.c]
theorem body_and (x : Po) : bodyT x = andL (hdT x) (x.l.map condT) := rfl
theorem and_back (x : Po) (j : Nat) (h : j < x.l.length) : andL (hdT x) ((x.l.map condT).take (j + 1)) = wrapT 15 ⟨#[]⟩ [andL (hdT x) ((x.l.map condT).take j), condT x.l[j]] := by
  rw [andL_step _ _ j (by rw [List.length_map]; exact h), List.getElem_map]
theorem like_two {a b y : T} {t : ByteArray} {k : Nat} (h : (wrapT k t [a, b]).like y) : y.kind = k ∧ y.list.length = 2 ∧ ∀ (h0 : 0 < y.list.length) (h1 : 1 < y.list.length), a.like y.list[0] ∧ b.like y.list[1] := by
  obtain ⟨h1, h2, h3, h4, h5, h6⟩ := T.like_iff.1 h
  have hl := T.likeL_length h6
  exact ⟨h1.symm, hl.symm, fun h0 h1 => ⟨T.likeL_get h6 0 (by show 0 < 2; decide) h0, T.likeL_get h6 1 (by show 1 < 2; decide) h1⟩⟩
theorem same_leaf : sameT (leaf 0 0 ⟨#[]⟩ ⟨#[]⟩) (leaf 0 0 ⟨#[]⟩ ⟨#[]⟩) = true := Ex.like_same (Ex.T.like_refl _)
set_option maxHeartbeats 8000000 in
theorem body_walk (x : Po) (w : World) (h : x.ok w) (hw : Ex.Sta w) :
    Calls Tryz.prog 4 #[x.val] w fun e w' => e = .returned (.bool true) ∧ Below w.heap.size w w' := by
  have cL := hid (fun W (b : Below w.heap.size w W) => Ev.lives9_any (hw.below b).laid)
  have cB := hid (fun W (b : Below w.heap.size w W) => body_of x W (h.below b) (hw.below b))
  have cQ := hid (fun W (b : Below w.heap.size w W) => body_of { x with p := !x.p } W (show Po.ok W { x with p := !x.p } from h.below b) (hw.below b))
  have cS := hid (fun (y z : T) W (hy : y.ok W) (hz : z.ok W) => Ex.same_any y z W hy hz)
  have cE := hid (fun (y : T) W (b : Below w.heap.size w W) (hy : y.ok W) => Ex.checkw_any y W hy (hw.below b))
  have hp0 := hid (fun (h : polN x = 0) => polN_zero h)
  have hfl := hid (polN_flip x (!x.p))
  obtain ⟨ao, ac, e1, _⟩ := h.1.1.form
  obtain ⟨bo, bc, e2, _⟩ := h.1.2.1.form
  obtain ⟨co, cc, e3, _⟩ := h.1.2.2.form
  obtain ⟨lo, lc, e4, hl⟩ := h.form
  have hq := Po.val_eq (x := { x with p := !x.p }) e1 e2 e3 e4
  rw [hq] at cQ
  rw [Po.val_eq e1 e2 e3 e4] at cB ⊢
  clear hq
  obtain ⟨m, hm⟩ : ∃ m, x.l.length = m := ⟨_, rfl⟩
  replace cQ := hid (show ∀ W, Below w.heap.size w W → Calls Tryz.prog 14 #[.agg #[.bool (!x.p), .int .u8 (x.a.k : Nat), .slice ao x.a.us.length ac, .string x.a.t, .int .u8 (x.b.k : Nat), .slice bo x.b.us.length bc, .string x.b.t, .int .u8 (x.c.k : Nat), .slice co x.c.us.length cc, .string x.c.t, .slice lo m lc]] W fun e w' => BodyOf W.heap.size { x with p := !x.p } e w' ∧ Below W.heap.size W w' from by rw [← hm]; exact cQ.out)
  rw [hm] at hl cB ⊢
  replace hm := hid hm
  have i2 : (m : Int) ≤ 9223372036854775807 := by omega
  clear h hw e1 e2 e3 e4
  go_enter Tryz.func4, Tryz.ntmps4
  go_upto_region 1 with fail
  have K1 := hid (Blk.new w [.bool x.p, .int .u8 (x.a.k : Nat), .slice ao x.a.us.length ac, .string x.a.t, .int .u8 (x.b.k : Nat), .slice bo x.b.us.length bc, .string x.b.t, .int .u8 (x.c.k : Nat), .slice co x.c.us.length cc, .string x.c.t, .slice lo m lc] 39)
  have bw := hid ((Below.refl w.heap.size w).alloc (Nat.le_refl _) (.cells #[.bool x.p, .int .u8 (x.a.k : Nat), .slice ao x.a.us.length ac, .string x.a.t, .int .u8 (x.b.k : Nat), .slice bo x.b.us.length bc, .string x.b.t, .int .u8 (x.c.k : Nat), .slice co x.c.us.length cc, .string x.c.t, .slice lo m lc] 39))
  generalize w.alloc (.cells #[.bool x.p, .int .u8 (x.a.k : Nat), .slice ao x.a.us.length ac, .string x.a.t, .int .u8 (x.b.k : Nat), .slice bo x.b.us.length bc, .string x.b.t, .int .u8 (x.c.k : Nat), .slice co x.c.us.length cc, .string x.c.t, .slice lo m lc] 39) = X0 at K1 bw ⊢
  go_wp2_with fail
  refine (cL.out _ bw.out).mono ?_
  rintro e w1 ⟨rfl, b1⟩
  replace K1 := hid (K1.out.below b1 K1.out.lt)
  replace bw := hid (bt bw.out b1)
  clear b1 cL
  obtain ⟨c0, c1, c2, c3, c4, c5, c6, c7, c8, c9, c10, cf⟩ := eleven K1.out
  go_wp2_with fail
  refine (cB.out _ bw.out).mono ?_
  rintro e w2 ⟨⟨y, rfl, hy1, hy2, hyok, hyin, _⟩, b2⟩
  replace K1 := hid (K1.out.below b2 K1.out.lt)
  replace bw := hid (bt bw.out b2)
  clear b2 cB c0 c1 c2 c3 c4 c5 c6 c7 c8 c9 c10 cf
  obtain ⟨R, hR⟩ : ∃ R, polN x = R := ⟨_, rfl⟩
  rw [hR] at hy1 hy2 hp0 hfl ⊢
  replace hR := hid hR
  by_cases hF : R = 0
  · subst hF
    replace hp0 := hid (hp0.out rfl)
    replace hy1 := hid (hy1 rfl)
    clear hy2
    obtain ⟨yno, ync, ylo, ylc, ey1, ey2, yl1, yl2⟩ := hyok.forms
    have hye := hid (enc_eq ey1 ey2)
    have hyv := hid (Ex.T.val_eq ey1 ey2)
    rw [hyv.out]
    clear ey1 ey2
    have hybl := hid hyok.inS
    have hlt3 := hid K1.out.lt
    go_upto_region 4 with fail
    have K3 := hid (Blk.new w2 [.int .u8 (y.kind : Nat), .int .i64 y.num, .string y.str, .string y.typ, .slice yno y.names.length ync, .slice ylo y.list.length ylc] 26)
    have hbX := (Below.refl w2.heap.size w2).alloc (Nat.le_refl _) (.cells #[.int .u8 (y.kind : Nat), .int .i64 y.num, .string y.str, .string y.typ, .slice yno y.names.length ync, .slice ylo y.list.length ylc] 26)
    replace K1 := hid (K1.out.below hbX K1.out.lt)
    replace bw := hid (bt bw.out hbX)
    replace hyok := hid (hyok.below hbX)
    clear hbX hyin
    generalize w2.alloc (.cells #[.int .u8 (y.kind : Nat), .int .i64 y.num, .string y.str, .string y.typ, .slice yno y.names.length ync, .slice ylo y.list.length ylc] 26) = X3 at K1 K3 bw hyok ⊢
    generalize w2.heap.size = b3 at K3 hlt3 hybl ⊢
    obtain ⟨c0, c1, c2, c3, c4, c5, c6, c7, c8, c9, c10, cf⟩ := eleven K1.out
    go_upto_region 7 with fail
    have K5 := hid (Blk.new X3 [.bool x.p, .int .u8 (x.a.k : Nat), .slice ao x.a.us.length ac, .string x.a.t, .int .u8 (x.b.k : Nat), .slice bo x.b.us.length bc, .string x.b.t, .int .u8 (x.c.k : Nat), .slice co x.c.us.length cc, .string x.c.t, .slice lo m lc] 39)
    have hlt5 := hid K3.out.lt
    have hbX := (Below.refl X3.heap.size X3).alloc (Nat.le_refl _) (.cells #[.bool x.p, .int .u8 (x.a.k : Nat), .slice ao x.a.us.length ac, .string x.a.t, .int .u8 (x.b.k : Nat), .slice bo x.b.us.length bc, .string x.b.t, .int .u8 (x.c.k : Nat), .slice co x.c.us.length cc, .string x.c.t, .slice lo m lc] 39)
    replace K1 := hid (K1.out.below hbX K1.out.lt)
    replace K3 := hid (K3.out.below hbX K3.out.lt)
    replace bw := hid (bt bw.out hbX)
    replace hyok := hid (hyok.out.below hbX)
    clear hbX c0 c1 c2 c3 c4 c5 c6 c7 c8 c9 c10 cf
    generalize X3.alloc (.cells #[.bool x.p, .int .u8 (x.a.k : Nat), .slice ao x.a.us.length ac, .string x.a.t, .int .u8 (x.b.k : Nat), .slice bo x.b.us.length bc, .string x.b.t, .int .u8 (x.c.k : Nat), .slice co x.c.us.length cc, .string x.c.t, .slice lo m lc] 39) = X4 at K1 K3 K5 bw hyok ⊢
    generalize X3.heap.size = b5 at K5 hlt5 ⊢
    obtain ⟨c0, c1, c2, c3, c4, c5, c6, c7, c8, c9, c10, cf⟩ := eleven K1.out
    obtain ⟨g0, g1, g2, g3, g4, g5, g6, g7, g8, g9, g10, gf⟩ := eleven K5.out
    go_upto_region 8 with fail
    clear c0 c1 c2 c3 c4 c5 c6 c7 c8 c9 c10 cf g0 g1 g2 g3 g4 g5 g6 g7 g8 g9 g10 gf
    have K5q := hid (show Blk (X4.setCell ⟨b5, 0, none⟩ (.bool (!x.p))) b5 [.bool (!x.p), .int .u8 (x.a.k : Nat), .slice ao x.a.us.length ac, .string x.a.t, .int .u8 (x.b.k : Nat), .slice bo x.b.us.length bc, .string x.b.t, .int .u8 (x.c.k : Nat), .slice co x.c.us.length cc, .string x.c.t, .slice lo m lc] 39 from K5.out.set 0 (.bool (!x.p)))
    replace K1 := hid (K1.out.other (p := ⟨b5, 0, none⟩) (by have := hlt5.out; have := hlt3.out; show b5 ≠ w.heap.size; omega) (.bool (!x.p)))
    replace K3 := hid (K3.out.other (p := ⟨b5, 0, none⟩) (by have := hlt5.out; show b5 ≠ b3; omega) (.bool (!x.p)))
    replace bw := hid (bw.out.setCell (p := ⟨b5, 0, none⟩) (by have := hlt5.out; have := hlt3.out; show w.heap.size ≤ b5; omega) (.bool (!x.p)))
    replace hyok := hid (hyok.out.keep (w' := X4.setCell ⟨b5, 0, none⟩ (.bool (!x.p))) (fun k hk => Below.heap_setCell _ _ _ _ (by have := hlt5.out; show k ≠ b5; omega)) hybl.out)
    clear K5
    generalize X4.setCell ⟨b5, 0, none⟩ (.bool (!x.p)) = X5 at K1 K3 K5q bw hyok ⊢
    have K5 := K5q
    clear K5q
    obtain ⟨g0, g1, g2, g3, g4, g5, g6, g7, g8, g9, g10, gf⟩ := eleven K5.out
    go_wp2_with fail
    refine (cQ.out _ bw.out).mono ?_
    rintro e w6 ⟨⟨z, rfl, hz1, _, hzok, _, _⟩, b6⟩
    have hlk := hid (show sameT y z = true from Ex.like_same (Ex.T.like_trans (Ex.T.like_symm hy1.out) (show (bodyT x).like z from hz1 hfl.out)))
    rw [hfl.out]
    replace K1 := hid (K1.out.below b6 K1.out.lt)
    replace K3 := hid (K3.out.below b6 K3.out.lt)
    replace bw := hid (bt bw.out b6)
    replace hyok := hid (hyok.out.below b6)
    obtain ⟨zno, znc, zlo, zlc, ez1, ez2, zl1, zl2⟩ := hzok.forms
    have hzv := hid (Ex.T.val_eq ez1 ez2)
    rw [hzv.out]
    clear g0 g1 g2 g3 g4 g5 g6 g7 g8 g9 g10 gf b6 cQ hz1 K5 ez1 ez2
    go_upto_region 9 with fail
    have K6 := hid (Blk.new w6 [.int .u8 (z.kind : Nat), .int .i64 z.num, .string z.str, .string z.typ, .slice zno z.names.length znc, .slice zlo z.list.length zlc] 26)
    have hlt6 := hid K3.out.lt
    have hbX := (Below.refl w6.heap.size w6).alloc (Nat.le_refl _) (.cells #[.int .u8 (z.kind : Nat), .int .i64 z.num, .string z.str, .string z.typ, .slice zno z.names.length znc, .slice zlo z.list.length zlc] 26)
    replace K1 := hid (K1.out.below hbX K1.out.lt)
    replace K3 := hid (K3.out.below hbX K3.out.lt)
    replace bw := hid (bt bw.out hbX)
    replace hyok := hid (hyok.out.below hbX)
    replace hzok := hid (hzok.below hbX)
    clear hbX
    generalize w6.alloc (.cells #[.int .u8 (z.kind : Nat), .int .i64 z.num, .string z.str, .string z.typ, .slice zno z.names.length znc, .slice zlo z.list.length zlc] 26) = X7 at K1 K3 K6 bw hyok hzok ⊢
    generalize w6.heap.size = b6 at K6 hlt6 ⊢
    obtain ⟨d0, d1, d2, d3, d4, d5, df⟩ := Ex.six K3.out
    obtain ⟨f0, f1, f2, f3, f4, f5, ff⟩ := Ex.six K6.out
    have hS := hid (cS.out y z X7 hyok.out hzok.out)
    rw [hyv.out, hzv.out, hlk.out] at hS
    go_wp2_with fail
    refine hS.out.mono ?_
    rintro e w7 ⟨rfl, b7⟩
    replace K1 := hid (K1.out.below b7 K1.out.lt)
    replace K3 := hid (K3.out.below b7 K3.out.lt)
    replace bw := hid (bt bw.out b7)
    replace hyok := hid (hyok.out.below b7)
    clear b7 hS d0 d1 d2 d3 d4 d5 df f0 f1 f2 f3 f4 f5 ff K6 hlt6 hzok hlk hzv
    obtain ⟨d0, d1, d2, d3, d4, d5, df⟩ := Ex.six K3.out
    have hC := hid (cE.out y w7 bw.out hyok.out)
    rw [hyv.out, ← Ex.like_chkW hy1.out, hp0.out.2.2] at hC
    go_wp2_with fail
    refine hC.out.mono ?_
    rintro e w8 ⟨rfl, b8⟩
    replace K1 := hid (K1.out.below b8 K1.out.lt)
    replace K3 := hid (K3.out.below b8 K3.out.lt)
    replace bw := hid (bt bw.out b8)
    replace hyok := hid (hyok.out.below b8)
    clear b8 hC d0 d1 d2 d3 d4 d5 df cE cS hp0
    obtain ⟨c0, c1, c2, c3, c4, c5, c6, c7, c8, c9, c10, cf⟩ := eleven K1.out
    go_wp2_with fail
    clear c0 c1 c2 c3 c4 c5 c6 c7 c8 c9 c10 cf K1
    go_loopw [46] (fun i wr => ∃ (k : Nat) (u : T), k ≤ m ∧ i = .int .i64 k ∧ Hid ((andL (hdT x) ((x.l.map condT).take (m - k))).like u) ∧ Hid (u.ok wr) ∧ Hid (u.inS (· < b3)) ∧ Hid (Blk wr b3 u.enc 26) ∧ Hid (Below w.heap.size w wr)) (fun i _ => m - (intOf i).toNat)
    case atStart => exact ⟨0, y, by omega, rfl, hid (by rw [Nat.sub_zero, List.take_of_length_le (by rw [List.length_map, hm.out]; omega), ← body_and]; exact hy1.out), hyok, hybl, hid (by rw [hye.out]; exact K3.out), bw⟩
    case round =>
      clear K3 bw hyok hybl hye hyv hy1
      obtain ⟨k, u, hk, rfl, hlk, huok, hubl, K3, bw⟩ := hrel
      rename_i wr _
      obtain ⟨uno, unc, ulo, ulc, eu1, eu2, ul1, ul2⟩ := huok.out.forms
      rw [enc_eq eu1 eu2] at K3
      have hkl2 : ∃ a b, (wrapT 15 ⟨#[]⟩ [a, b]).like u ∧ (k < m → a = andL (hdT x) ((x.l.map condT).take (m - (k + 1)))) ∧ (¬ k < m → a = wrapT 15 ⟨#[]⟩ [scT prB false x.a, scT acB true x.b]) := by
        by_cases hkm : k < m
        · have := hlk.out
          rw [show m - k = (m - (k + 1)) + 1 by omega, and_back x (m - (k + 1)) (by have := hm.out; omega)] at this
          exact ⟨_, _, this, fun _ => rfl, fun h => absurd hkm h⟩
        · have := hlk.out
          rw [show m - k = 0 by omega] at this
          exact ⟨_, _, this, fun h => absurd h hkm, fun _ => rfl⟩
      obtain ⟨ta, tb, htw, hta1, hta2⟩ := hkl2
      obtain ⟨t1, t2, t3⟩ := like_two htw
      have hl0 : 0 < u.list.length := by omega
      obtain ⟨v, hv⟩ : ∃ v, u.list[0] = v := ⟨_, rfl⟩
      have hva := hid (show ta.like v from hv ▸ (t3 hl0 (by omega)).1)
      have hvok := hid (show v.ok wr from hv ▸ huok.out.parts.2.2.2.2.2.2.2 _ (List.getElem_mem hl0))
      have hvbl := hid (show v.inS (· < b3) from hv ▸ (T.inS_iff.1 hubl.out).2.2 _ (List.getElem_mem hl0))
      obtain ⟨vb, vo, hvo, z0, z1, z2, z3, z4, z5⟩ := huok.out.part6 eu2 0 hl0
      rw [hv] at z0 z1 z2 z3 z4 z5
      obtain ⟨vno, vnc, vlo, vlc, ev1, ev2, vl1, vl2⟩ := hvok.out.forms
      rw [ev1] at z4
      rw [ev2] at z5
      have hve := hid (enc_eq ev1 ev2)
      simp only [Nat.zero_mul, Nat.add_zero] at z0 z1 z2 z3 z4 z5
      subst hvo
      have g1 : ((u.kind : Int) != 15) = false := by rw [t1]; rfl
      have g2 : ((u.kind : Int) == 15) = true := by rw [t1]; rfl
      have g3 : ((u.list.length : Int) != 2) = false := by rw [t2]; rfl
      have g4 : ((u.list.length : Int) == 2) = true := by rw [t2]; rfl
      have g5 : (0 : Int) < (u.list.length : Int) := by omega
      clear htw t3 hv hlk huok hubl ev1 ev2 eu1 eu2 t1 t2 hl0
      obtain ⟨d0, d1, d2, d3, d4, d5, df⟩ := Ex.six K3.out
      by_cases hkm : k < m
      · have hki : (k : Int) < (m : Int) := by omega
        have hta := hid (hta1 hkm)
        clear hta1 hta2
        have hB := hid (Ex.below_st6 bw.out (g := b3) (Nat.le_of_lt hlt3.out) 0 (.int .u8 (v.kind : Nat)) (.int .i64 v.num) (.string v.str) (.string v.typ) (.slice vno v.names.length vnc) (.slice vlo v.list.length vlc))
        have hokf := hid (hvok.out.keep (w' := Ex.st6 wr b3 0 (.int .u8 (v.kind : Nat)) (.int .i64 v.num) (.string v.str) (.string v.typ) (.slice vno v.names.length vnc) (.slice vlo v.list.length vlc)) (fun k hk => Ex.heap_st6 _ _ _ _ _ _ _ _ _ (Nat.ne_of_lt hk)) hvbl.out)
        have K3f := hid (show Blk (Ex.st6 wr b3 0 (.int .u8 (v.kind : Nat)) (.int .i64 v.num) (.string v.str) (.string v.typ) (.slice vno v.names.length vnc) (.slice vlo v.list.length vlc)) b3 [.int .u8 (v.kind : Nat), .int .i64 v.num, .string v.str, .string v.typ, .slice vno v.names.length vnc, .slice vlo v.list.length vlc] 26 from Ex.blk_st6 (A := []) (C := []) (o := 0) K3.out rfl (.int .u8 (v.kind : Nat)) (.int .i64 v.num) (.string v.str) (.string v.typ) (.slice vno v.names.length vnc) (.slice vlo v.list.length vlc))
        replace K3f := hid (show Blk (Ex.st6 wr b3 0 (.int .u8 (v.kind : Nat)) (.int .i64 v.num) (.string v.str) (.string v.typ) (.slice vno v.names.length vnc) (.slice vlo v.list.length vlc)) b3 v.enc 26 from by rw [hve.out]; exact K3f.out)
        have hlkf := hid (show (andL (hdT x) ((x.l.map condT).take (m - (k + 1)))).like v from hta.out ▸ hva.out)
        clear hva hta hvok hve K3
        go_wp2_with fail
        go_roundw
        case rel => exact ⟨k + 1, v, by omega, by go_num, hlkf, hokf, hvbl, K3f, hB⟩
        case measure => simp [intOf]; omega
      · have hki : ¬ (k : Int) < (m : Int) := by omega
        have hvk : v.kind = 15 := by
          have := hva.out
          rw [hta2 hkm] at this
          exact (like_two this).1
        have g6 : ((v.kind : Int) == 15) = true := by rw [hvk]; rfl
        clear hvk hta1 hta2 hva hvok hvbl hve
        go_wp2_with fail
        go_ret
        exact ⟨rfl, bw.out⟩
  · have hF2 : (R != 0) = true := by simp [hF]
    rw [hy2 hF, show (leaf 0 0 ⟨#[]⟩ ⟨#[]⟩).val = .agg #[.int .u8 0, .int .i64 0, .string ⟨#[]⟩, .string ⟨#[]⟩, .slice none 0 0, .slice none 0 0] from rfl]
    have hS := hid (show ∀ W, Calls Tryz.prog 15 #[.agg #[.int .u8 0, .int .i64 0, .string ⟨#[]⟩, .string ⟨#[]⟩, .slice none 0 0, .slice none 0 0], .agg #[.int .u8 0, .int .i64 0, .string ⟨#[]⟩, .string ⟨#[]⟩, .slice none 0 0, .slice none 0 0]] W fun e w' => e = .returned (.bool true) ∧ Below W.heap.size W w' from fun W => by
      have := cS.out (leaf 0 0 ⟨#[]⟩ ⟨#[]⟩) (leaf 0 0 ⟨#[]⟩ ⟨#[]⟩) W (leaf_ok (by decide) ⟨by decide, by decide⟩ (Nat.zero_le _) (Nat.zero_le _)) (leaf_ok (by decide) ⟨by decide, by decide⟩ (Nat.zero_le _) (Nat.zero_le _))
      rw [same_leaf] at this
      exact this)
    clear hF hy1 hy2 hyok hyin cS cE hp0 hfl cQ K1
    go_upto_region 4 with fail
    have K3 := hid (Blk.new w2 [.int .u8 0, .int .i64 0, .string ⟨#[]⟩, .string ⟨#[]⟩, .slice none 0 0, .slice none 0 0] 26)
    replace bw := hid (bw.out.alloc bw.out.size (.cells #[.int .u8 0, .int .i64 0, .string ⟨#[]⟩, .string ⟨#[]⟩, .slice none 0 0, .slice none 0 0] 26))
    generalize w2.alloc (.cells #[.int .u8 0, .int .i64 0, .string ⟨#[]⟩, .string ⟨#[]⟩, .slice none 0 0, .slice none 0 0] 26) = X3 at K3 bw ⊢
    generalize w2.heap.size = b3 at K3 ⊢
    obtain ⟨d0, d1, d2, d3, d4, d5, df⟩ := Ex.six K3.out
    go_wp2_with fail
    refine (hS.out _).mono ?_
    rintro e w7 ⟨rfl, b7⟩
    replace bw := hid (bt bw.out b7)
    clear b7 hS d0 d1 d2 d3 d4 d5 df K3
    go_wp2_with fail
    go_ret
    exact ⟨rfl, bw.out⟩
end Go.Proofs.YtihnhinnohnfgaaGreatDoor.Pol
