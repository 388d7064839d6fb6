/-
  lictorlaw10.SchemaOwn: the walk. Written by wip/tyownwalkgen.py.
-/
import Derived.Test.YtbcjppbiihgfpaaGreatDoorTySameS
import Derived.Test.YtbcjppbiihgfpaaGreatDoorTyGive
namespace Go.Proofs.YtbcjppbiihgfpaaGreatDoor.Tyt
open Go.ChangeShapes Go.WideShapes Go.ChangeAt Go.RowKit
open Go.Proofs.YtbcjppbiihgfpaaGreatDoor.Mem
set_option linter.unusedVariables false
set_option linter.unusedSimpArgs false
set_option maxRecDepth 100000
theorem Sch.ok.rd {w : World} {x : Sch} (h : x.ok w) : x.rd w := ⟨h.1.r, h.2.r⟩
theorem Sch.rd.below' {w w' : World} {x : Sch} (h : x.rd w) (b : Below w.heap.size w w') : x.rd w' := h.below b
def rowOf (u0 u1 v2 : Option Addr) : Nat → Option Addr
  | 0 => u0
  | 1 => u1
  | _ => v2
set_option maxHeartbeats 32000000 in
theorem own_walk0 (x : Sch) (s : ByteArray) (w : World) (h : x.ok w) (hf : x.fit) (hlv : ∀ W, Below w.heap.size w W → Calls Tryz.prog 19 #[] W fun e W' => e = .returned (.bool true) ∧ Below W.heap.size W W') :
    Calls Tryz.prog 5 #[x.val, .string s] w fun e w' => e = .returned (.bool true) ∧ Below w.heap.size w w' := by
  obtain ⟨xt, xtc, e0, _, _⟩ := SlV.form h.1.1
  obtain ⟨xa, xac, e1, _, _⟩ := SlV.form h.2.1
  have hxv := hid (show x.val = .agg #[.slice xt x.ts.length xtc, .slice xa x.acts.length xac] by unfold Sch.val; rw [e0, e1])
  have cC := hid (fun W (b : Below w.heap.size w W) => hxv.out ▸ copy_any x W (h.below b) hf)
  have cT := hid (fun W (b : Below w.heap.size w W) => hxv.out ▸ give_et x s W (h.below b))
  have cA := hid (fun W (b : Below w.heap.size w W) => hxv.out ▸ give_ac x s W (h.below b))
  have cL := hid hlv
  rw [hxv.out]
  have h' := hid h
  have bw0 := hid (Below.refl w.heap.size w)
  clear h hf hlv e0 e1
  go_enter Tryz.func5, Tryz.ntmps5
  go_upto_region 1 with fail
  have KX := hid (Blk.new w [.slice xt x.ts.length xtc, .slice xa x.acts.length xac] 49)
  have bw := hid (bw0.out.alloc (Nat.le_refl _) (.cells #[.slice xt x.ts.length xtc, .slice xa x.acts.length xac] 49))
  generalize w.alloc (.cells #[.slice xt x.ts.length xtc, .slice xa x.acts.length xac] 49) = X1 at KX bw ⊢
  have cc := hid (cL.out X1 bw.out)
  go_wp2_with fail
  refine cc.out.mono ?_
  rintro e w2 ⟨rfl, b2⟩
  replace KX := hid (KX.out.below b2 KX.out.lt)
  replace bw := hid (bt bw.out b2)
  clear b2 cc bw0 cL
  obtain ⟨f0, f1, ff⟩ := two' KX.out
  have cc := hid (cC.out w2 bw.out)
  go_wp2_with fail
  refine cc.out.mono ?_
  rintro e w3 ⟨⟨y, rfl, hlk, hyrd⟩, b3⟩
  obtain ⟨yt, ytc, d0, _, _⟩ := SlV.form hyrd.1.1
  obtain ⟨ya, yac, d1, _, _⟩ := SlV.form hyrd.2.1
  have hyv := hid (show y.val = .agg #[.slice yt y.ts.length ytc, .slice ya y.acts.length yac] by unfold Sch.val; rw [d0, d1])
  rw [hyv.out]
  replace KX := hid (KX.out.below b3 KX.out.lt)
  replace bw := hid (bt bw.out b3)
  replace hlk := hid hlk
  replace hyrd := hid hyrd
  clear b3 cc f0 f1 ff d0 d1 cC
  go_upto_region 4 with fail
  have KY := hid (Blk.new w3 [.slice yt y.ts.length ytc, .slice ya y.acts.length yac] 49)
  have b4 := (Below.refl w3.heap.size w3).alloc (Nat.le_refl _) (.cells #[.slice yt y.ts.length ytc, .slice ya y.acts.length yac] 49)
  replace KX := hid (KX.out.below b4 KX.out.lt)
  replace bw := hid (bt bw.out b4)
  replace hyrd := hid (hyrd.out.below b4)
  clear b4
  generalize w3.alloc (.cells #[.slice yt y.ts.length ytc, .slice ya y.acts.length yac] 49) = W4 at KX KY bw hyrd ⊢
  generalize w3.heap.size = bY at KY ⊢
  obtain ⟨G, hG⟩ : ∃ G, Hid (W4.heap.size = G) := ⟨_, hid rfl⟩
  have hlo := hid (show w.heap.size < G ∧ bY < G from ⟨by have := KX.out.lt; have := hG.out; omega, by have := KY.out.lt; have := hG.out; omega⟩)
  obtain ⟨f0, f1, ff⟩ := two' KX.out
  have cc := hid (cT.out W4 bw.out)
  go_wp2_with fail
  refine cc.out.mono ?_
  rintro e w5 ⟨⟨nm, u0, n0, d0, u1, n1, d1, c, rfl, r0, r1⟩, b5⟩
  rw [hG.out] at r0 r1
  replace KX := hid (KX.out.below b5 KX.out.lt)
  replace KY := hid (KY.out.below b5 KY.out.lt)
  replace bw := hid (bt bw.out b5)
  have bG := hid (show Below G W4 w5 from hG.out ▸ b5)
  clear b5 cc f0 f1 ff cT
  go_upto_region 5 with fail
  have KT := hid (Blk.new w5 [.string nm, .slice u0 n0 d0, .slice u1 n1 d1] 53)
  have b6 := (Below.refl w5.heap.size w5).alloc (Nat.le_refl _) (.cells #[.string nm, .slice u0 n0 d0, .slice u1 n1 d1] 53)
  have s0 := hid (show ∀ g, g < w5.heap.size → g ≠ w5.heap.size from fun g h => by omega)
  have z0 := hid (show ∀ g, (u0 = some ⟨g, 0, none⟩ ∧ 0 < n0) ∨ (u1 = some ⟨g, 0, none⟩ ∧ 0 < n1) → g < w5.heap.size from fun g hg => by
    rcases hg with ⟨hg, hn⟩ | ⟨hg, hn⟩
    · obtain ⟨g2, cs, hu, _, hB, _⟩ := r0.2.resolve_left (by omega)
      rw [hg] at hu
      cases hu
      exact hB.lt
    · obtain ⟨g2, cs, hu, _, hB, _⟩ := r1.2.resolve_left (by omega)
      rw [hg] at hu
      cases hu
      exact hB.lt)
  replace KX := hid (KX.out.below b6 KX.out.lt)
  replace KY := hid (KY.out.below b6 KY.out.lt)
  replace bw := hid (bt bw.out b6)
  replace bG := hid (bG.out.alloc (by have := bG.out.size; have := hG.out; omega) (.cells #[.string nm, .slice u0 n0 d0, .slice u1 n1 d1] 53))
  replace r0 := hid (r0.below b6)
  replace r1 := hid (r1.below b6)
  clear b6 s0
  have hb65 := hid (show w5.heap.size < (w5.alloc (.cells #[.string nm, .slice u0 n0 d0, .slice u1 n1 d1] 53)).heap.size by simp)
  generalize w5.alloc (.cells #[.string nm, .slice u0 n0 d0, .slice u1 n1 d1] 53) = W6 at KX KY KT bw bG r0 r1 hb65 ⊢
  generalize w5.heap.size = bT at KT z0 hb65 ⊢
  obtain ⟨f0, f1, ff⟩ := two' KX.out
  have cc := hid (cA.out W6 bw.out)
  go_wp2_with fail
  refine cc.out.mono ?_
  rintro e w7 ⟨⟨am, v0, m0, c0, v1, m1, c1, v2, m2, c2, ca, rfl, q0, q1, q2⟩, b7⟩
  have z2 := hid (show ∀ g, v2 = some ⟨g, 0, none⟩ → 0 < m2 → bT < g ∧ g < w7.heap.size from fun g hg hn => by
    obtain ⟨g2, cs, hu, hge, hB, _⟩ := q2.2.resolve_left (by omega)
    rw [hg] at hu
    cases hu
    exact ⟨by have := hb65.out; omega, hB.lt⟩)
  have r2 := q2.mono (show G ≤ W6.heap.size from by have := bG.out.size; have := hG.out; omega)
  replace KX := hid (KX.out.below b7 KX.out.lt)
  replace KY := hid (KY.out.below b7 KY.out.lt)
  replace KT := hid (KT.out.below b7 KT.out.lt)
  replace bw := hid (bt bw.out b7)
  replace bG := hid (show Below G W4 w7 from hG.out ▸ bt (hG.out.symm ▸ bG.out : Below W4.heap.size W4 W6) b7)
  replace r0 := hid (r0.out.below b7)
  replace r1 := hid (r1.out.below b7)
  have hb77 := hid (show bT < w7.heap.size from by have := hb65.out; have := b7.size; omega)
  clear b7 cc f0 f1 ff cA q0 q1 q2 hb65
  go_upto_region 6 with fail
  have KA := hid (Blk.new w7 [.string am, .slice v0 m0 c0, .slice v1 m1 c1, .slice v2 m2 c2] 57)
  have b8 := (Below.refl w7.heap.size w7).alloc (Nat.le_refl _) (.cells #[.string am, .slice v0 m0 c0, .slice v1 m1 c1, .slice v2 m2 c2] 57)
  replace KX := hid (KX.out.below b8 KX.out.lt)
  replace KY := hid (KY.out.below b8 KY.out.lt)
  replace KT := hid (KT.out.below b8 KT.out.lt)
  replace bw := hid (bt bw.out b8)
  replace bG := hid (bG.out.alloc (by have := bG.out.size; have := hG.out; omega) (.cells #[.string am, .slice v0 m0 c0, .slice v1 m1 c1, .slice v2 m2 c2] 57))
  replace r0 := hid (r0.out.below b8)
  replace r1 := hid (r1.out.below b8)
  replace r2 := hid (r2.below b8)
  clear b8
  generalize w7.alloc (.cells #[.string am, .slice v0 m0 c0, .slice v1 m1 c1, .slice v2 m2 c2] 57) = W8 at KX KY KT KA bw bG r0 r1 r2 ⊢
  generalize w7.heap.size = bA at KA z2 hb77 ⊢
  have hs0 := hid (show ∀ g, u0 = some ⟨g, 0, none⟩ → 0 < n0 → g ≠ bT ∧ g ≠ bA from fun g h1 h2 => by have := z0.out g (.inl ⟨h1, h2⟩); have := hb77.out; omega)
  have hs1 := hid (show ∀ g, u1 = some ⟨g, 0, none⟩ → 0 < n1 → g ≠ bT ∧ g ≠ bA from fun g h1 h2 => by have := z0.out g (.inr ⟨h1, h2⟩); have := hb77.out; omega)
  have hs2 := hid (show ∀ g, v2 = some ⟨g, 0, none⟩ → 0 < m2 → g ≠ bT ∧ g ≠ bA from fun g h1 h2 => by have := z2.out g h1 h2; omega)
  clear z0 z2 hb77
  have i0 : (n0 : Int) ≤ 9223372036854775807 := by have := r0.out.1; omega
  obtain ⟨f0, f1, f2, ff⟩ := three' KT.out
  go_wp2_with fail
  clear f0 f1 f2 ff
  go_loopw [32] (fun i wr => ∃ k : Nat, k ≤ n0 ∧ i = .int .i64 k ∧ Hid (Blk wr (w.heap.size) [.slice xt x.ts.length xtc, .slice xa x.acts.length xac] 49) ∧ Hid (Blk wr (bY) [.slice yt y.ts.length ytc, .slice ya y.acts.length yac] 49) ∧ Hid (Blk wr (bT) [.string nm, .slice u0 n0 d0, .slice u1 n1 d1] 53) ∧ Hid (Blk wr (bA) [.string am, .slice v0 m0 c0, .slice v1 m1 c1, .slice v2 m2 c2] 57) ∧ Hid (RowW wr G u0 n0 1 9) ∧ Hid (RowW wr G u1 n1 5 65) ∧ Hid (RowW wr G v2 m2 5 65) ∧ Hid (Below G W4 wr) ∧ Hid (Below w.heap.size w wr)) (fun i _ => n0 - (intOf i).toNat)
  case atStart => exact ⟨0, by omega, rfl, KX, KY, KT, KA, r0, r1, r2, bG, bw⟩
  case round =>
    clear KX KY KT KA r0 r1 r2 bG bw
    obtain ⟨k, hk, rfl, KX, KY, KT, KA, r0, r1, r2, bG, bw⟩ := hrel
    by_cases hkl : k < n0
    · have hki : (k : Int) < (n0 : Int) := by omega
      obtain ⟨g, cs, hu, hG, hB, hl⟩ := r0.out.2.resolve_left (by omega)
      have hs := hs0.out g hu (by omega)
      subst hu
      have ht1 := hid hs.1
      have ht2 := hid hs.2
      have hGw := hid (Nat.lt_of_lt_of_le hlo.out.1 hG)
      have hGy := hid (Nat.lt_of_lt_of_le hlo.out.2 hG)
      obtain ⟨f0, f1, f2, ff⟩ := three' KT.out
      have p0 := hB.cell (k) (by omega)
      have pf := hB.free
      generalize cs[k]'_ = cv at p0
      have KXn := hid (KX.out.other (p := ⟨g, k, none⟩) (by show g ≠ w.heap.size; have := hGw.out; omega) (.string ⟨#[115, 112, 111, 105, 108, 116]⟩))
      have KYn := hid (KY.out.other (p := ⟨g, k, none⟩) (by show g ≠ bY; have := hGy.out; omega) (.string ⟨#[115, 112, 111, 105, 108, 116]⟩))
      have KTn := hid (KT.out.other (p := ⟨g, k, none⟩) ht1.out (.string ⟨#[115, 112, 111, 105, 108, 116]⟩))
      have KAn := hid (KA.out.other (p := ⟨g, k, none⟩) ht2.out (.string ⟨#[115, 112, 111, 105, 108, 116]⟩))
      have r0n := hid (r0.out.set g (k) (.string ⟨#[115, 112, 111, 105, 108, 116]⟩))
      have r1n := hid (r1.out.set g (k) (.string ⟨#[115, 112, 111, 105, 108, 116]⟩))
      have r2n := hid (r2.out.set g (k) (.string ⟨#[115, 112, 111, 105, 108, 116]⟩))
      have bGn := hid (bG.out.setCell (p := ⟨g, k, none⟩) hG (.string ⟨#[115, 112, 111, 105, 108, 116]⟩))
      have bwn := hid (bw.out.setCell (p := ⟨g, k, none⟩) (by show w.heap.size ≤ g; have := hGw.out; omega) (.string ⟨#[115, 112, 111, 105, 108, 116]⟩))
      clear hs hB hl KX KY KT KA r0 r1 r2 bG bw hG
      go_wp2_with fail
      go_roundw
      case rel => exact ⟨k + 1, by omega, by go_num, KXn, KYn, KTn, KAn, r0n, r1n, r2n, bGn, bwn⟩
      case measure => simp [intOf]; omega
    · have hki : ¬ (k : Int) < (n0 : Int) := by omega
      have i1 : (n1 : Int) ≤ 9223372036854775807 := by have := r1.out.1; omega
      obtain ⟨f0, f1, f2, ff⟩ := three' KT.out
      go_wp2_with fail
      clear f0 f1 f2 ff
      go_loopw [43] (fun i wr => ∃ k : Nat, k ≤ n1 ∧ i = .int .i64 k ∧ Hid (Blk wr (w.heap.size) [.slice xt x.ts.length xtc, .slice xa x.acts.length xac] 49) ∧ Hid (Blk wr (bY) [.slice yt y.ts.length ytc, .slice ya y.acts.length yac] 49) ∧ Hid (Blk wr (bT) [.string nm, .slice u0 n0 d0, .slice u1 n1 d1] 53) ∧ Hid (Blk wr (bA) [.string am, .slice v0 m0 c0, .slice v1 m1 c1, .slice v2 m2 c2] 57) ∧ Hid (RowW wr G u0 n0 1 9) ∧ Hid (RowW wr G u1 n1 5 65) ∧ Hid (RowW wr G v2 m2 5 65) ∧ Hid (Below G W4 wr) ∧ Hid (Below w.heap.size w wr)) (fun i _ => n1 - (intOf i).toNat)
      case atStart => exact ⟨0, by omega, rfl, KX, KY, KT, KA, r0, r1, r2, bG, bw⟩
      case round =>
        clear KX KY KT KA r0 r1 r2 bG bw
        obtain ⟨k, hk, rfl, KX, KY, KT, KA, r0, r1, r2, bG, bw⟩ := hrel
        by_cases hkl : k < n1
        · have hki : (k : Int) < (n1 : Int) := by omega
          obtain ⟨g, cs, hu, hG, hB, hl⟩ := r1.out.2.resolve_left (by omega)
          have hs := hs1.out g hu (by omega)
          subst hu
          have ht1 := hid hs.1
          have ht2 := hid hs.2
          have hGw := hid (Nat.lt_of_lt_of_le hlo.out.1 hG)
          have hGy := hid (Nat.lt_of_lt_of_le hlo.out.2 hG)
          obtain ⟨f0, f1, f2, ff⟩ := three' KT.out
          have p0 := hB.cell (k * 5) (by omega)
          have pf := hB.free
          generalize cs[k * 5]'_ = cv at p0
          have KXn := hid (KX.out.other (p := ⟨g, k * 5, none⟩) (by show g ≠ w.heap.size; have := hGw.out; omega) (.string ⟨#[115, 112, 111, 105, 108, 116]⟩))
          have KYn := hid (KY.out.other (p := ⟨g, k * 5, none⟩) (by show g ≠ bY; have := hGy.out; omega) (.string ⟨#[115, 112, 111, 105, 108, 116]⟩))
          have KTn := hid (KT.out.other (p := ⟨g, k * 5, none⟩) ht1.out (.string ⟨#[115, 112, 111, 105, 108, 116]⟩))
          have KAn := hid (KA.out.other (p := ⟨g, k * 5, none⟩) ht2.out (.string ⟨#[115, 112, 111, 105, 108, 116]⟩))
          have r0n := hid (r0.out.set g (k * 5) (.string ⟨#[115, 112, 111, 105, 108, 116]⟩))
          have r1n := hid (r1.out.set g (k * 5) (.string ⟨#[115, 112, 111, 105, 108, 116]⟩))
          have r2n := hid (r2.out.set g (k * 5) (.string ⟨#[115, 112, 111, 105, 108, 116]⟩))
          have bGn := hid (bG.out.setCell (p := ⟨g, k * 5, none⟩) hG (.string ⟨#[115, 112, 111, 105, 108, 116]⟩))
          have bwn := hid (bw.out.setCell (p := ⟨g, k * 5, none⟩) (by show w.heap.size ≤ g; have := hGw.out; omega) (.string ⟨#[115, 112, 111, 105, 108, 116]⟩))
          clear hs hB hl KX KY KT KA r0 r1 r2 bG bw hG
          go_wp2_with fail
          go_roundw
          case rel => exact ⟨k + 1, by omega, by go_num, KXn, KYn, KTn, KAn, r0n, r1n, r2n, bGn, bwn⟩
          case measure => simp [intOf]; omega
        · have hki : ¬ (k : Int) < (n1 : Int) := by omega
          have i2 : (m2 : Int) ≤ 9223372036854775807 := by have := r2.out.1; omega
          obtain ⟨f0, f1, f2, f3, ff⟩ := four' KA.out
          go_wp2_with fail
          clear f0 f1 f2 f3 ff
          go_loopw [55] (fun i wr => ∃ k : Nat, k ≤ m2 ∧ i = .int .i64 k ∧ Hid (Blk wr (w.heap.size) [.slice xt x.ts.length xtc, .slice xa x.acts.length xac] 49) ∧ Hid (Blk wr (bY) [.slice yt y.ts.length ytc, .slice ya y.acts.length yac] 49) ∧ Hid (Blk wr (bT) [.string nm, .slice u0 n0 d0, .slice u1 n1 d1] 53) ∧ Hid (Blk wr (bA) [.string am, .slice v0 m0 c0, .slice v1 m1 c1, .slice v2 m2 c2] 57) ∧ Hid (RowW wr G u0 n0 1 9) ∧ Hid (RowW wr G u1 n1 5 65) ∧ Hid (RowW wr G v2 m2 5 65) ∧ Hid (Below G W4 wr) ∧ Hid (Below w.heap.size w wr)) (fun i _ => m2 - (intOf i).toNat)
          case atStart => exact ⟨0, by omega, rfl, KX, KY, KT, KA, r0, r1, r2, bG, bw⟩
          case round =>
            clear KX KY KT KA r0 r1 r2 bG bw
            obtain ⟨k, hk, rfl, KX, KY, KT, KA, r0, r1, r2, bG, bw⟩ := hrel
            by_cases hkl : k < m2
            · have hki : (k : Int) < (m2 : Int) := by omega
              obtain ⟨g, cs, hu, hG, hB, hl⟩ := r2.out.2.resolve_left (by omega)
              have hs := hs2.out g hu (by omega)
              subst hu
              have ht1 := hid hs.1
              have ht2 := hid hs.2
              have hGw := hid (Nat.lt_of_lt_of_le hlo.out.1 hG)
              have hGy := hid (Nat.lt_of_lt_of_le hlo.out.2 hG)
              obtain ⟨f0, f1, f2, f3, ff⟩ := four' KA.out
              have p0 := hB.cell (k * 5) (by omega)
              have pf := hB.free
              generalize cs[k * 5]'_ = cv at p0
              have KXn := hid (KX.out.other (p := ⟨g, k * 5, none⟩) (by show g ≠ w.heap.size; have := hGw.out; omega) (.string ⟨#[115, 112, 111, 105, 108, 116]⟩))
              have KYn := hid (KY.out.other (p := ⟨g, k * 5, none⟩) (by show g ≠ bY; have := hGy.out; omega) (.string ⟨#[115, 112, 111, 105, 108, 116]⟩))
              have KTn := hid (KT.out.other (p := ⟨g, k * 5, none⟩) ht1.out (.string ⟨#[115, 112, 111, 105, 108, 116]⟩))
              have KAn := hid (KA.out.other (p := ⟨g, k * 5, none⟩) ht2.out (.string ⟨#[115, 112, 111, 105, 108, 116]⟩))
              have r0n := hid (r0.out.set g (k * 5) (.string ⟨#[115, 112, 111, 105, 108, 116]⟩))
              have r1n := hid (r1.out.set g (k * 5) (.string ⟨#[115, 112, 111, 105, 108, 116]⟩))
              have r2n := hid (r2.out.set g (k * 5) (.string ⟨#[115, 112, 111, 105, 108, 116]⟩))
              have bGn := hid (bG.out.setCell (p := ⟨g, k * 5, none⟩) hG (.string ⟨#[115, 112, 111, 105, 108, 116]⟩))
              have bwn := hid (bw.out.setCell (p := ⟨g, k * 5, none⟩) (by show w.heap.size ≤ g; have := hGw.out; omega) (.string ⟨#[115, 112, 111, 105, 108, 116]⟩))
              clear hs hB hl KX KY KT KA r0 r1 r2 bG bw hG
              go_wp2_with fail
              go_roundw
              case rel => exact ⟨k + 1, by omega, by go_num, KXn, KYn, KTn, KAn, r0n, r1n, r2n, bGn, bwn⟩
              case measure => simp [intOf]; omega
            · have hki : ¬ (k : Int) < (m2 : Int) := by omega
              obtain ⟨f0, f1, ff⟩ := two' KX.out
              obtain ⟨g0, g1, gf⟩ := two' KY.out
              have cS := hid (same_any x y hlk.out wr (h'.out.rd.below bw.out) (hyrd.out.below (hG.out.symm ▸ bG.out : Below W4.heap.size W4 wr)))
              rw [hxv.out, hyv.out] at cS
              go_wp2_with fail
              refine cS.out.mono ?_
              rintro e w9 ⟨rfl, b9⟩
              replace bw := hid (bt bw.out b9)
              clear b9 cS
              go_wp2_with fail
              go_ret
              exact ⟨rfl, bw.out⟩
end Go.Proofs.YtbcjppbiihgfpaaGreatDoor.Tyt
