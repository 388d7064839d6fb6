/-
  lictorlaw09.PolicyOwn: the walk. Written by wip/polowngen.py.
-/
import Derived.Test.YtihnhinnohnfgaaGreatDoorPolRefAll
import Derived.Test.YtihnhinnohnfgaaGreatDoorPolCheck
import Derived.Test.YtihnhinnohnfgaaGreatDoorEvLives9
namespace Go.Proofs.YtihnhinnohnfgaaGreatDoor.Pol
open Go.ChangeShapes Go.WideShapes Go.ChangeAt Go.RowKit
open Go.Proofs.YtihnhinnohnfgaaGreatDoor.Mem
open Go.Proofs.YtihnhinnohnfgaaGreatDoor.Ex (T sameT)
set_option linter.unusedVariables false
set_option linter.unusedSimpArgs false
set_option maxRecDepth 100000
/-- what may be written in an expression's parts' parts; it lies in G -/
def Sp (G : Nat → Prop) (zb : Nat) (z : T) (W : World) : Prop := ∀ i (hi : i < z.list.length), W.cell? ⟨zb, i * 6 + 5, none⟩ = some z.list[i].lv ∧
  ∀ k (hk : k < z.list[i].list.length), ∃ g c s, z.list[i].lv = .slice (some ⟨g, 0, none⟩) z.list[i].list.length c ∧ W.cell? ⟨g, k * 6 + 2, none⟩ = some (.string s) ∧ (∀ o, W.frozen? ⟨g, o, none⟩ = false) ∧ G g
theorem Sp.below {G : Nat → Prop} {zb : Nat} {z : T} {W W' : World} (h : Sp G zb z W) (b : Below W.heap.size W W') : Sp G zb z W' := by
  intro i hi
  obtain ⟨h1, h2⟩ := h i hi
  refine ⟨cell_below b _ _ h1, fun k hk => ?_⟩
  obtain ⟨g, c, s, e1, e2, e3, e4⟩ := h2 k hk
  have hlt : g < W.heap.size := World.block_lt_of_cell? _ _ e2
  exact ⟨g, c, s, e1, cell_below b _ _ e2, fun o => (b.frozen (p := ⟨g, o, none⟩) hlt).trans (e3 o), e4⟩
theorem Sp.store {G : Nat → Prop} {zb : Nat} {z : T} {W : World} (h : Sp G zb z W) {g0 k0 : Nat} {s0 : ByteArray} (hc : W.cell? ⟨g0, k0 * 6 + 2, none⟩ = some (.string s0)) (x : ByteArray) : Sp G zb z (W.setCell ⟨g0, k0 * 6 + 2, none⟩ (.string x)) := by
  intro i hi
  obtain ⟨h1, h2⟩ := h i hi
  refine ⟨?_, fun k hk => ?_⟩
  · rw [World.cell?_setCell_other _ _ _ _ (fun e => by have h9 : k0 * 6 + 2 = i * 6 + 5 := congrArg Addr.off e; omega)]
    exact h1
  · obtain ⟨g, c, s, e1, e2, e3, e4⟩ := h2 k hk
    by_cases e : (⟨g0, k0 * 6 + 2, none⟩ : Addr) = ⟨g, k * 6 + 2, none⟩
    · exact ⟨g, c, x, e1, by rw [← e]; exact World.cell?_setCell_same _ _ _ hc, fun o => by rw [World.frozen?_setCell]; exact e3 o, e4⟩
    · exact ⟨g, c, s, e1, by rw [World.cell?_setCell_other _ _ _ _ e]; exact e2, fun o => by rw [World.frozen?_setCell]; exact e3 o, e4⟩
theorem soft_at {z : T} {W : World} (h : z.ok W) (hs : z.soft W) (h0 : 0 < z.list.length) : ∃ b c, z.lv = .slice (some ⟨b, 0, none⟩) z.list.length c ∧ (∀ o, W.frozen? ⟨b, o, none⟩ = false) := by
  obtain ⟨b, off, cap, e, _, _, _, _⟩ := h.open h0
  obtain ⟨⟨q1, q2⟩, _⟩ := T.soft_iff.1 hs
  have h1 := q2 h0 _ _ _ e _ rfl
  have h2 := q1 h0 _ _ _ e _ rfl
  have h3 : off = 0 := congrArg Addr.off h1
  subst h3
  exact ⟨b, cap, e, h2.2⟩
theorem Sp.of {G : Nat → Prop} {z : T} {W : World} (h : z.ok W) (hs : z.soft W) (hG : z.inS G) {zb zc : Nat} (e : 0 < z.list.length → z.lv = .slice (some ⟨zb, 0, none⟩) z.list.length zc) : Sp G zb z W := by
  intro i hi
  have e := e (by omega)
  obtain ⟨b, off, e1, _, _, _, _, _, c5⟩ := h.part6 e i hi
  have e1 : zb = b ∧ 0 = off := by
    have := Option.some.inj e1
    simp only [Addr.mk.injEq] at this
    exact ⟨this.1, this.2.1⟩
  obtain ⟨rfl, rfl⟩ := e1
  rw [Nat.zero_add] at c5
  refine ⟨c5, fun k hk => ?_⟩
  have hu := h.parts.2.2.2.2.2.2.2 _ (List.getElem_mem hi)
  have hus := (T.soft_iff.1 hs).2 _ (List.getElem_mem hi)
  obtain ⟨g, c, e2, hf⟩ := soft_at hu hus (by omega)
  obtain ⟨b, off, e3, _, _, c2, _, _, _⟩ := hu.part6 e2 k hk
  have e3 : g = b ∧ 0 = off := by
    have := Option.some.inj e3
    simp only [Addr.mk.injEq] at this
    exact ⟨this.1, this.2.1⟩
  obtain ⟨rfl, rfl⟩ := e3
  rw [Nat.zero_add] at c2
  exact ⟨g, c, _, e2, c2, hf, (T.inS_iff.1 ((T.inS_iff.1 hG).2.2 _ (List.getElem_mem hi))).2.1 (by omega) _ _ _ e2 _ rfl⟩
set_option maxHeartbeats 16000000 in
theorem own_walk (x : Po) (w : World) (h : x.ok w) (hw : Ex.Sta w) :
    Calls Tryz.prog 5 #[x.val] w fun e w' => e = .returned (.bool true) ∧ Below w.heap.size w w' := by
  have cL := hid (fun W (b : Below w.heap.size w W) => Ev.lives9_any (hw.below b).laid)
  have cP := hid (fun W (b : Below w.heap.size w W) => pcopy_any x W (h.below b))
  have cB := hid (fun W (b : Below w.heap.size w W) => body_of x W (h.below b) (hw.below b))
  have cC := hid (fun W (b : Below w.heap.size w W) => check_any x W (h.below b) (hw.below b))
  have cS := hid (fun va vb vc l lv W (b : Below w.heap.size w W) (h2 : Po.ok W ⟨x.p, ⟨x.a.k, x.a.us, va, x.a.t⟩, ⟨x.b.k, x.b.us, vb, x.b.t⟩, ⟨x.c.k, x.c.us, vc, x.c.t⟩, l, lv⟩) (hl : likeC x.l l) => psame_any x va vb vc l lv W (h.below b) h2 hl)
  obtain ⟨ao, ac, e1, _⟩ := h.1.1.form
  obtain ⟨bo, bc, e2, _⟩ := h.1.2.1.form
  obtain ⟨co, cc, e3, _⟩ := h.1.2.2.form
  obtain ⟨lo, lc, e4, hl⟩ := h.form
  obtain ⟨m, hm⟩ : ∃ m, x.l.length = m := ⟨_, rfl⟩
  have hxv := hid (show x.val = .agg #[.bool x.p, .int .u8 (x.a.k : Nat), .slice ao x.a.us.length ac, .string x.a.t, .int .u8 (x.b.k : Nat), .slice bo x.b.us.length bc, .string x.b.t, .int .u8 (x.c.k : Nat), .slice co x.c.us.length cc, .string x.c.t, .slice lo m lc] from by rw [Po.val_eq e1 e2 e3 e4, hm])
  rw [hxv.out] at cP cB cC cS ⊢
  obtain ⟨R, hR⟩ : ∃ R, polN x = R := ⟨_, rfl⟩
  have cB2 := hid (show ∀ W, Below w.heap.size w W → Calls Tryz.prog 14 #[.agg #[.bool x.p, .int .u8 (x.a.k : Nat), .slice ao x.a.us.length ac, .string x.a.t, .int .u8 (x.b.k : Nat), .slice bo x.b.us.length bc, .string x.b.t, .int .u8 (x.c.k : Nat), .slice co x.c.us.length cc, .string x.c.t, .slice lo m lc]] W fun e w' => (∃ z : T, e = .returned (.tuple #[z.val, .int .i64 R]) ∧ z.ok w' ∧ z.inS (W.heap.size ≤ ·) ∧ z.soft w') ∧ Below W.heap.size W w' from fun W b => (cB.out W b).mono fun e w' h => by
    obtain ⟨⟨z, h1, _, _, h3, h4, h5⟩, h6⟩ := h
    rw [hR] at h1
    exact ⟨⟨z, h1, h3, h4, h5⟩, h6⟩)
  rw [hR] at cC
  replace hm := hid hm
  clear h hw e1 e2 e3 e4 cB hR
  go_enter Tryz.func5, Tryz.ntmps5
  go_upto_region 1 with fail
  have K1 := hid (Blk.new w [.bool x.p, .int .u8 (x.a.k : Nat), .slice ao x.a.us.length ac, .string x.a.t, .int .u8 (x.b.k : Nat), .slice bo x.b.us.length bc, .string x.b.t, .int .u8 (x.c.k : Nat), .slice co x.c.us.length cc, .string x.c.t, .slice lo m lc] 39)
  have bw := hid ((Below.refl w.heap.size w).alloc (Nat.le_refl _) (.cells #[.bool x.p, .int .u8 (x.a.k : Nat), .slice ao x.a.us.length ac, .string x.a.t, .int .u8 (x.b.k : Nat), .slice bo x.b.us.length bc, .string x.b.t, .int .u8 (x.c.k : Nat), .slice co x.c.us.length cc, .string x.c.t, .slice lo m lc] 39))
  generalize w.alloc (.cells #[.bool x.p, .int .u8 (x.a.k : Nat), .slice ao x.a.us.length ac, .string x.a.t, .int .u8 (x.b.k : Nat), .slice bo x.b.us.length bc, .string x.b.t, .int .u8 (x.c.k : Nat), .slice co x.c.us.length cc, .string x.c.t, .slice lo m lc] 39) = X0 at K1 bw ⊢
  go_wp2_with fail
  refine (cL.out _ bw.out).mono ?_
  rintro e w1 ⟨rfl, b1⟩
  replace K1 := hid (K1.out.below b1 K1.out.lt)
  replace bw := hid (bt bw.out b1)
  clear b1 cL
  obtain ⟨c0, c1, c2, c3, c4, c5, c6, c7, c8, c9, c10, cf⟩ := eleven K1.out
  go_wp2_with fail
  refine (cP.out _ bw.out).mono ?_
  rintro e w2 ⟨⟨va, vb, vc, l, lv, rfl, hlk, hkok⟩, b2⟩
  replace K1 := hid (K1.out.below b2 K1.out.lt)
  replace bw := hid (bt bw.out b2)
  clear b2 cP c0 c1 c2 c3 c4 c5 c6 c7 c8 c9 c10 cf
  obtain ⟨ao2, ac2, f1', _⟩ := hkok.1.1.form
  obtain ⟨bo2, bc2, f2', _⟩ := hkok.1.2.1.form
  obtain ⟨co2, cc2, f3', _⟩ := hkok.1.2.2.form
  obtain ⟨lo2, lc2, f4', _⟩ := hkok.form
  have f1 : va = .slice ao2 x.a.us.length ac2 := f1'
  have f2 : vb = .slice bo2 x.b.us.length bc2 := f2'
  have f3 : vc = .slice co2 x.c.us.length cc2 := f3'
  have f4 : lv = .slice lo2 l.length lc2 := f4'
  clear f1' f2' f3' f4'
  subst f1 f2 f3 f4
  have hlen := likeC_len hlk
  have hkv := hid (show Po.val ⟨x.p, ⟨x.a.k, x.a.us, .slice ao2 x.a.us.length ac2, x.a.t⟩, ⟨x.b.k, x.b.us, .slice bo2 x.b.us.length bc2, x.b.t⟩, ⟨x.c.k, x.c.us, .slice co2 x.c.us.length cc2, x.c.t⟩, l, .slice lo2 l.length lc2⟩ = .agg #[.bool x.p, .int .u8 (x.a.k : Nat), .slice ao2 x.a.us.length ac2, .string x.a.t, .int .u8 (x.b.k : Nat), .slice bo2 x.b.us.length bc2, .string x.b.t, .int .u8 (x.c.k : Nat), .slice co2 x.c.us.length cc2, .string x.c.t, .slice lo2 m lc2] from by rw [show m = l.length from by have := hm.out; omega]; rfl)
  rw [hkv.out]
  have cS2 := hid (show ∀ W, Below w.heap.size w W → Below w2.heap.size w2 W → Calls Tryz.prog 17 #[.agg #[.bool x.p, .int .u8 (x.a.k : Nat), .slice ao x.a.us.length ac, .string x.a.t, .int .u8 (x.b.k : Nat), .slice bo x.b.us.length bc, .string x.b.t, .int .u8 (x.c.k : Nat), .slice co x.c.us.length cc, .string x.c.t, .slice lo m lc], .agg #[.bool x.p, .int .u8 (x.a.k : Nat), .slice ao2 x.a.us.length ac2, .string x.a.t, .int .u8 (x.b.k : Nat), .slice bo2 x.b.us.length bc2, .string x.b.t, .int .u8 (x.c.k : Nat), .slice co2 x.c.us.length cc2, .string x.c.t, .slice lo2 m lc2]] W fun e w' => e = .returned (.bool true) ∧ Below W.heap.size W w' from fun W b b2 => by
    have := cS.out (.slice ao2 x.a.us.length ac2) (.slice bo2 x.b.us.length bc2) (.slice co2 x.c.us.length cc2) l (.slice lo2 l.length lc2) W b (hkok.below b2) hlk
    rw [hkv.out] at this
    exact this)
  clear cS hlk hlen hkok hkv
  have hlt3 := hid K1.out.lt
  have bc2' := hid (Below.refl w2.heap.size w2)
  go_upto_region 4 with fail
  have K3 := hid (Blk.new w2 [.bool x.p, .int .u8 (x.a.k : Nat), .slice ao2 x.a.us.length ac2, .string x.a.t, .int .u8 (x.b.k : Nat), .slice bo2 x.b.us.length bc2, .string x.b.t, .int .u8 (x.c.k : Nat), .slice co2 x.c.us.length cc2, .string x.c.t, .slice lo2 m lc2] 39)
  have hbX := (Below.refl w2.heap.size w2).alloc (Nat.le_refl _) (.cells #[.bool x.p, .int .u8 (x.a.k : Nat), .slice ao2 x.a.us.length ac2, .string x.a.t, .int .u8 (x.b.k : Nat), .slice bo2 x.b.us.length bc2, .string x.b.t, .int .u8 (x.c.k : Nat), .slice co2 x.c.us.length cc2, .string x.c.t, .slice lo2 m lc2] 39)
  replace K1 := hid (K1.out.below hbX K1.out.lt)
  replace bw := hid (bt bw.out hbX)
  replace bc2' := hid (bt bc2'.out hbX)
  clear hbX
  generalize w2.alloc (.cells #[.bool x.p, .int .u8 (x.a.k : Nat), .slice ao2 x.a.us.length ac2, .string x.a.t, .int .u8 (x.b.k : Nat), .slice bo2 x.b.us.length bc2, .string x.b.t, .int .u8 (x.c.k : Nat), .slice co2 x.c.us.length cc2, .string x.c.t, .slice lo2 m lc2] 39) = X3 at K1 K3 bw bc2' ⊢
  obtain ⟨B2, hB2⟩ : ∃ B, w2.heap.size = B := ⟨_, rfl⟩
  rw [hB2] at K3 hlt3 ⊢
  have hlt4 := hid K3.out.lt
  obtain ⟨c0, c1, c2, c3, c4, c5, c6, c7, c8, c9, c10, cf⟩ := eleven K1.out
  go_wp2_with fail
  refine (cB2.out _ bw.out).mono ?_
  rintro e w5 ⟨⟨z, rfl, hzok, hzin, hzso⟩, b5⟩
  replace K1 := hid (K1.out.below b5 K1.out.lt)
  replace K3 := hid (K3.out.below b5 K3.out.lt)
  replace bw := hid (bt bw.out b5)
  replace bc2' := hid (bt bc2'.out b5)
  clear b5 cB2 c0 c1 c2 c3 c4 c5 c6 c7 c8 c9 c10 cf
  obtain ⟨zno, znc, zlo, zlc, ez1, ez2, zl1, zl2⟩ := hzok.forms
  obtain ⟨zb, hzb⟩ : ∃ zb, 0 < z.list.length → z.lv = .slice (some ⟨zb, 0, none⟩) z.list.length zlc := by
    by_cases h0 : 0 < z.list.length
    · obtain ⟨b, c, e, _⟩ := soft_at hzok hzso h0
      have := ez2.symm.trans e
      simp only [Value.slice.injEq] at this
      exact ⟨b, fun _ => by rw [e, this.2.2]⟩
    · exact ⟨0, fun h => absurd h h0⟩
  have hzlo := hid (show 0 < z.list.length → zlo = some ⟨zb, 0, none⟩ from fun h => by
    have := ez2.symm.trans (hzb h)
    simp only [Value.slice.injEq] at this
    exact this.1)
  have hsp := Sp.of (G := fun g => X3.heap.size ≤ g ∧ g < w5.heap.size) hzok hzso (inS_and hzin hzok.inS) hzb
  rw [Ex.T.val_eq ez1 ez2]
  obtain ⟨n1, hn1⟩ : ∃ n, z.list.length = n := ⟨_, rfl⟩
  rw [hn1] at zl2 hzlo ⊢
  have i3 : (n1 : Int) ≤ 9223372036854775807 := by omega
  replace hn1 := hid hn1
  have hfm := hid (fun k (hk : k < z.list.length) => (hzok.parts.2.2.2.2.2.2.2 _ (List.getElem_mem hk)).forms)
  clear ez1 ez2 hzb hzok hzin hzso
  go_upto_region 5 with fail
  have K4 := hid (Blk.new w5 [.int .u8 (z.kind : Nat), .int .i64 z.num, .string z.str, .string z.typ, .slice zno z.names.length znc, .slice zlo n1 zlc] 26)
  have hbX := (Below.refl w5.heap.size w5).alloc (Nat.le_refl _) (.cells #[.int .u8 (z.kind : Nat), .int .i64 z.num, .string z.str, .string z.typ, .slice zno z.names.length znc, .slice zlo n1 zlc] 26)
  have hlt5 := hid K3.out.lt
  replace K1 := hid (K1.out.below hbX K1.out.lt)
  replace K3 := hid (K3.out.below hbX K3.out.lt)
  replace bw := hid (bt bw.out hbX)
  replace bc2' := hid (bt bc2'.out hbX)
  replace hsp := hid (hsp.below hbX)
  clear hbX
  generalize w5.alloc (.cells #[.int .u8 (z.kind : Nat), .int .i64 z.num, .string z.str, .string z.typ, .slice zno z.names.length znc, .slice zlo n1 zlc] 26) = X5 at K1 K3 K4 bw bc2' hsp ⊢
  generalize w5.heap.size = b4 at K4 hsp hlt5 ⊢
  generalize X3.heap.size = B4 at hsp hlt4 ⊢
  obtain ⟨d0, d1, d2, d3, d4, d5, df⟩ := Ex.six K4.out
  go_wp2_with fail
  clear d0 d1 d2 d3 d4 d5 df
  go_loopw [20] (fun i wr => ∃ k : Nat, k ≤ n1 ∧ i = .int .i64 k ∧ Hid (Sp (fun g => B4 ≤ g ∧ g < b4) zb z wr) ∧ Hid (Blk wr w.heap.size [.bool x.p, .int .u8 (x.a.k : Nat), .slice ao x.a.us.length ac, .string x.a.t, .int .u8 (x.b.k : Nat), .slice bo x.b.us.length bc, .string x.b.t, .int .u8 (x.c.k : Nat), .slice co x.c.us.length cc, .string x.c.t, .slice lo m lc] 39) ∧ Hid (Blk wr B2 [.bool x.p, .int .u8 (x.a.k : Nat), .slice ao2 x.a.us.length ac2, .string x.a.t, .int .u8 (x.b.k : Nat), .slice bo2 x.b.us.length bc2, .string x.b.t, .int .u8 (x.c.k : Nat), .slice co2 x.c.us.length cc2, .string x.c.t, .slice lo2 m lc2] 39) ∧ Hid (Blk wr b4 [.int .u8 (z.kind : Nat), .int .i64 z.num, .string z.str, .string z.typ, .slice zno z.names.length znc, .slice zlo n1 zlc] 26) ∧ Hid (Below w2.heap.size w2 wr) ∧ Hid (Below w.heap.size w wr)) (fun i _ => n1 - (intOf i).toNat)
  case atStart => exact ⟨0, by omega, rfl, hsp, K1, K3, K4, bc2', bw⟩
  case round =>
    clear K1 K3 K4 bw bc2' hsp
    obtain ⟨k, hk, rfl, hsp, K1, K3, K4, bc2', bw⟩ := hrel
    rename_i wr _
    by_cases hkn : k < n1
    · have hki : (k : Int) < (n1 : Int) := by omega
      have hk0 : (0 : Int) ≤ (k : Int) := by omega
      have hkl : k < z.list.length := by have := hn1.out; omega
      have hz0 := hzlo.out (by omega)
      subst hz0
      obtain ⟨d0, d1, d2, d3, d4, d5, df⟩ := Ex.six K4.out
      obtain ⟨uv, huv⟩ : ∃ v, z.list[k].lv = v := ⟨_, rfl⟩
      obtain ⟨n2, hn2⟩ : ∃ n, z.list[k].list.length = n := ⟨_, rfl⟩
      have hspk := hid (fun W (hs : Sp (fun g => B4 ≤ g ∧ g < b4) zb z W) => (show W.cell? ⟨zb, k * 6 + 5, none⟩ = some uv ∧ ∀ j, j < n2 → ∃ g c s, uv = .slice (some ⟨g, 0, none⟩) n2 c ∧ W.cell? ⟨g, j * 6 + 2, none⟩ = some (.string s) ∧ (∀ o, W.frozen? ⟨g, o, none⟩ = false) ∧ B4 ≤ g ∧ g < b4 from by
        obtain ⟨h1, h2⟩ := hs k hkl
        rw [huv] at h1 h2
        refine ⟨h1, fun j hj => ?_⟩
        obtain ⟨g, c, s, e1, e2, e3, e4, e5⟩ := h2 j (by rw [hn2]; exact hj)
        rw [hn2] at e1
        exact ⟨g, c, s, e1, e2, e3, e4, e5⟩))
      obtain ⟨uo, uc, euv0, hl2⟩ : ∃ uo uc, z.list[k].lv = .slice uo z.list[k].list.length uc ∧ z.list[k].list.length ≤ 9223372036854775807 := by
        obtain ⟨_, _, uo, uc, _, e, _, h⟩ := hfm.out k hkl
        exact ⟨uo, uc, e, h⟩
      have euv : uv = .slice uo n2 uc := by rw [← huv, euv0, hn2]
      rw [hn2] at hl2
      subst euv
      have i4 : (n2 : Int) ≤ 9223372036854775807 := by omega
      have p5 := (hspk.out wr hsp.out).1
      clear euv0 huv hn2 hkl
      go_wp2_with fail
      clear d0 d1 d2 d3 d4 d5 df p5
      go_loopw [30] (fun i wr => ∃ j : Nat, j ≤ n2 ∧ i = .int .i64 j ∧ Hid (Sp (fun g => B4 ≤ g ∧ g < b4) zb z wr) ∧ Hid (Blk wr w.heap.size [.bool x.p, .int .u8 (x.a.k : Nat), .slice ao x.a.us.length ac, .string x.a.t, .int .u8 (x.b.k : Nat), .slice bo x.b.us.length bc, .string x.b.t, .int .u8 (x.c.k : Nat), .slice co x.c.us.length cc, .string x.c.t, .slice lo m lc] 39) ∧ Hid (Blk wr B2 [.bool x.p, .int .u8 (x.a.k : Nat), .slice ao2 x.a.us.length ac2, .string x.a.t, .int .u8 (x.b.k : Nat), .slice bo2 x.b.us.length bc2, .string x.b.t, .int .u8 (x.c.k : Nat), .slice co2 x.c.us.length cc2, .string x.c.t, .slice lo2 m lc2] 39) ∧ Hid (Blk wr b4 [.int .u8 (z.kind : Nat), .int .i64 z.num, .string z.str, .string z.typ, .slice zno z.names.length znc, .slice (some ⟨zb, 0, none⟩) n1 zlc] 26) ∧ Hid (Below w2.heap.size w2 wr) ∧ Hid (Below w.heap.size w wr)) (fun i _ => n2 - (intOf i).toNat)
      case atStart => exact ⟨0, by omega, rfl, hsp, K1, K3, K4, bc2', bw⟩
      case round =>
        clear K1 K3 K4 bw bc2' hsp
        obtain ⟨j, hj, rfl, hsp, K1, K3, K4, bc2', bw⟩ := hrel
        skip
        obtain ⟨d0, d1, d2, d3, d4, d5, df⟩ := Ex.six K4.out
        have p5 := (hspk.out _ hsp.out).1
        by_cases hjn : j < n2
        · have hji : (j : Int) < (n2 : Int) := by omega
          have hj0 : (0 : Int) ≤ (j : Int) := by omega
          obtain ⟨g, c, s, ev, ec, ef, hg1, hg2⟩ := (hspk.out _ hsp.out).2 j hjn
          simp only [Value.slice.injEq] at ev
          obtain ⟨rfl, _, rfl⟩ := ev
          have ef2 := ef (j * 6 + 2)
          go_upto_region 12 with fail
          have K1f := hid (K1.out.other (p := ⟨g, j * 6 + 2, none⟩) (by have := hlt3.out; have := hlt4.out; show g ≠ w.heap.size; omega) (.string ⟨#[115, 112, 111, 105, 108, 116]⟩))
          have K3f := hid (K3.out.other (p := ⟨g, j * 6 + 2, none⟩) (by have := hlt4.out; show g ≠ B2; omega) (.string ⟨#[115, 112, 111, 105, 108, 116]⟩))
          have K4f := hid (K4.out.other (p := ⟨g, j * 6 + 2, none⟩) (by show g ≠ b4; omega) (.string ⟨#[115, 112, 111, 105, 108, 116]⟩))
          have bwf := hid (bw.out.setCell (p := ⟨g, j * 6 + 2, none⟩) (by have := hlt3.out; have := hlt4.out; show w.heap.size ≤ g; omega) (.string ⟨#[115, 112, 111, 105, 108, 116]⟩))
          have bcf := hid (bc2'.out.setCell (p := ⟨g, j * 6 + 2, none⟩) (by have := hlt4.out; show w2.heap.size ≤ g; omega) (.string ⟨#[115, 112, 111, 105, 108, 116]⟩))
          have hspf := hid (Sp.store hsp.out ec ⟨#[115, 112, 111, 105, 108, 116]⟩)
          clear d0 d1 d2 d3 d4 d5 df p5 ec ef ef2 hsp K1 K3 K4 bw bc2'
          generalize wr.setCell ⟨g, j * 6 + 2, none⟩ (.string ⟨#[115, 112, 111, 105, 108, 116]⟩) = X8 at K1f K3f K4f bwf bcf hspf ⊢
          go_wp2_with fail
          go_roundw
          case rel => exact ⟨j + 1, by omega, by go_num, hspf, K1f, K3f, K4f, bcf, bwf⟩
          case measure => simp [intOf]; omega
        · have hji : ¬ (j : Int) < (n2 : Int) := by omega
          clear d0 d1 d2 d3 d4 d5 df p5
          go_wp2_with fail
          go_roundw
          case rel => exact ⟨k + 1, by omega, by go_num, hsp, K1, K3, K4, bc2', bw⟩
          case measure => simp [intOf]; omega
    · have hki : ¬ (k : Int) < (n1 : Int) := by omega
      obtain ⟨c0, c1, c2, c3, c4, c5, c6, c7, c8, c9, c10, cf⟩ := eleven K1.out
      obtain ⟨g0, g1, g2, g3, g4, g5, g6, g7, g8, g9, g10, gf⟩ := eleven K3.out
      clear hsp K4 hfm hzlo
      go_wp2_with fail
      refine (cS2.out _ bw.out bc2'.out).mono ?_
      rintro e w8 ⟨rfl, b8⟩
      replace K1 := hid (K1.out.below b8 K1.out.lt)
      replace bw := hid (bt bw.out b8)
      clear b8 cS2 c0 c1 c2 c3 c4 c5 c6 c7 c8 c9 c10 cf g0 g1 g2 g3 g4 g5 g6 g7 g8 g9 g10 gf K3 bc2'
      obtain ⟨c0, c1, c2, c3, c4, c5, c6, c7, c8, c9, c10, cf⟩ := eleven K1.out
      go_wp2_with fail
      refine (cC.out _ bw.out).mono ?_
      rintro e w9 ⟨rfl, b9⟩
      replace bw := hid (bt bw.out b9)
      clear b9 cC c0 c1 c2 c3 c4 c5 c6 c7 c8 c9 c10 cf K1
      go_wp2_with fail
      go_ret
      exact ⟨rfl, bw.out⟩
end Go.Proofs.YtihnhinnohnfgaaGreatDoor.Pol
