/-
  lictorref10.texts, SameEntity, SameAction: alike ones are the same. Written by wip/tysame2gen.py.
-/
import Derived.Test.YtbcjppbiihgfpaaGreatDoorTyCopyS
namespace Go.Proofs.YtbcjppbiihgfpaaGreatDoor.Tyt
open Go.ChangeShapes Go.WideShapes Go.ChangeAt Go.RowKit
open Go.Proofs.YtbcjppbiihgfpaaGreatDoor.Mem
set_option linter.unusedVariables false
set_option linter.unusedSimpArgs false
set_option maxRecDepth 100000
set_option maxHeartbeats 4000000 in
theorem texts_any (l : List ByteArray) (av bv : Value) (w : World) (ha : StrsV w av l) (hb : StrsV w bv l) : Calls Tryz.prog 101 #[av, bv] w fun e w' => e = .returned (.bool true) ∧ Below w.heap.size w w' := by
  obtain ⟨ao, ac, rfl, l1, l2⟩ := SlV.form ha
  obtain ⟨bo, bc, rfl, _, _⟩ := SlV.form hb
  unfold maxLen at l2
  obtain ⟨n, hn⟩ : ∃ n, l.length = n := ⟨_, rfl⟩
  rw [hn] at l1 ⊢
  have i1 : (n : Int) ≤ 9223372036854775807 := by omega
  have ha' := hid ha
  have hb' := hid hb
  have hn' := hid hn
  have bw := hid (Below.refl w.heap.size w)
  clear ha hb hn l1 l2
  go_enter Tryz.func101, Tryz.ntmps101
  go_wp2_with fail
  go_loopw [13] (fun i wr => ∃ k : Nat, k ≤ n ∧ i = .int .i64 k ∧ Hid (Below w.heap.size w wr)) (fun i _ => n - (intOf i).toNat)
  case atStart => exact ⟨0, by omega, rfl, bw⟩
  case round =>
    clear bw
    obtain ⟨k, hk, rfl, bw⟩ := hrel
    rename_i wr
    by_cases hkl : k < n
    · have hki : (k : Int) < (n : Int) := by omega
      have hka : k < l.length := by rw [hn'.out]; exact hkl
      obtain ⟨xb, xo, xc, hx, _, _, _, f⟩ := StrsV.open (StrsV.below ha'.out bw.out) (by omega)
      obtain ⟨yb, yo, yc, hy, _, _, _, g⟩ := StrsV.open (StrsV.below hb'.out bw.out) (by omega)
      replace f := f k hka
      replace g := g k hka
      simp only [Value.slice.injEq] at hx hy
      obtain ⟨hx1, _, _⟩ := hx
      obtain ⟨hy1, _, _⟩ := hy
      subst hx1
      subst hy1
      generalize l[k] = nm at f g
      have hnn : (nm.toList != nm.toList) = false := by simp
      go_upto_region 6 with fail
      go_region_held3 (fun Y => Y.cell? ⟨xb, xo + k, none⟩ = some (.string nm) ∧ Y.cell? ⟨yb, yo + k, none⟩ = some (.string nm)) (exact ⟨f, g⟩) (fail)
      replace bw := hid (bt bw.out ((Below.refl _ wr).drew))
      clear f g
      go_wp2_with fail
      go_roundw
      case rel => exact ⟨k + 1, by omega, by go_num, bw⟩
      case measure => simp [intOf]; omega
    · have hki : ¬ (k : Int) < (n : Int) := by omega
      go_wp2_with fail
      go_ret
      exact ⟨rfl, bw.out⟩
set_option maxHeartbeats 8000000 in
theorem same_et (x y : Et) (hl : x.like y) (w : World) (hx : x.rd w) (hy : y.rd w) : Calls Tryz.prog 54 #[x.val, y.val] w fun e w' => e = .returned (.bool true) ∧ Below w.heap.size w w' := by
  obtain ⟨k0, k1, ka, kt⟩ := hl
  have kl := Ty.likeL_length kt
  obtain ⟨xpo, xpc, xao, xac, e0, e1⟩ := hx.forms
  obtain ⟨ypo, ypc, yao, yac, d0, d1⟩ := hy.forms
  have px := hx.parts
  have py := hy.parts
  rw [← k0] at py
  rw [e0, e1] at px
  rw [d0, d1, ← k1, ← ka, ← kl] at py
  rw [show x.val = .agg #[.string x.name, .slice xpo x.ps.length xpc, .slice xao x.att.length xac] by unfold Et.val; rw [e0, e1], show y.val = .agg #[.string x.name, .slice ypo x.ps.length ypc, .slice yao x.att.length yac] by unfold Et.val; rw [d0, d1, ← k0, ← k1, ← kl]]
  have c0 := hid (fun W (B : Below w.heap.size w W) => texts_any x.ps _ _ W (StrsV.below px.2.1 B) (StrsV.below py.2.1 B))
  have ca := hid (fun W (B : Below w.heap.size w W) => sameattrs_any x.an x.att y.att kt W _ _ (px.2.2.below B) (py.2.2.below B))
  have hnn : (x.name.toList == x.name.toList) = true := by simp
  have bw0 := hid (Below.refl w.heap.size w)
  clear px py hx hy k0 k1 ka kt kl e0 d0 e1 d1
  go_enter Tryz.func54, Tryz.ntmps54
  go_upto_region 1 with fail
  have K1 := hid (Blk.new w [.string x.name, .slice xpo x.ps.length xpc, .slice xao x.att.length xac] 53)
  have bw1 := hid (bw0.out.alloc (Nat.le_refl _) (.cells #[.string x.name, .slice xpo x.ps.length xpc, .slice xao x.att.length xac] 53))
  have hs : w.heap.size + 1 = (w.alloc (.cells #[.string x.name, .slice xpo x.ps.length xpc, .slice xao x.att.length xac] 53)).heap.size := by simp
  generalize w.alloc (.cells #[.string x.name, .slice xpo x.ps.length xpc, .slice xao x.att.length xac] 53) = X0 at K1 bw1 hs ⊢
  have K2 := hid (Blk.new' X0 [.string x.name, .slice ypo x.ps.length ypc, .slice yao x.att.length yac] 53 (w.heap.size + 1) hs)
  replace K1 := hid (K1.out.alloc (.cells #[.string x.name, .slice ypo x.ps.length ypc, .slice yao x.att.length yac] 53))
  have bw := hid (bw1.out.alloc (by omega) (.cells #[.string x.name, .slice ypo x.ps.length ypc, .slice yao x.att.length yac] 53))
  clear bw0 bw1 hs
  generalize X0.alloc (.cells #[.string x.name, .slice ypo x.ps.length ypc, .slice yao x.att.length yac] 53) = X1 at K1 K2 bw ⊢
  obtain ⟨f0, f1, f2, ff⟩ := three' K1.out
  obtain ⟨g0, g1, g2, gf⟩ := three' K2.out
  have cc := hid (c0.out X1 bw.out)
  go_wp2_with fail
  refine cc.out.mono ?_
  rintro e w2 ⟨rfl, b2⟩
  replace K1 := hid (K1.out.below b2 K1.out.lt)
  replace K2 := hid (K2.out.below b2 K2.out.lt)
  replace bw := hid (bt bw.out b2)
  clear b2 cc f0 g0 f1 g1 f2 g2 ff gf
  obtain ⟨f0, f1, f2, ff⟩ := three' K1.out
  obtain ⟨g0, g1, g2, gf⟩ := three' K2.out
  have cc := hid (ca.out w2 bw.out)
  go_wp2_with fail
  refine cc.out.mono ?_
  rintro e w3 ⟨rfl, b2⟩
  replace K1 := hid (K1.out.below b2 K1.out.lt)
  replace K2 := hid (K2.out.below b2 K2.out.lt)
  replace bw := hid (bt bw.out b2)
  clear b2 cc f0 g0 f1 g1 f2 g2 ff gf
  go_wp2_with fail
  go_ret
  exact ⟨rfl, bw.out⟩
set_option maxHeartbeats 8000000 in
theorem same_ac (x y : Ac) (hl : x.like y) (w : World) (hx : x.rd w) (hy : y.rd w) : Calls Tryz.prog 55 #[x.val, y.val] w fun e w' => e = .returned (.bool true) ∧ Below w.heap.size w w' := by
  obtain ⟨k0, k1, k2, ka, kt⟩ := hl
  have kl := Ty.likeL_length kt
  obtain ⟨xpo, xpc, xro, xrc, xao, xac, e0, e1, e2⟩ := hx.forms
  obtain ⟨ypo, ypc, yro, yrc, yao, yac, d0, d1, d2⟩ := hy.forms
  have px := hx.parts
  have py := hy.parts
  rw [← k0] at py
  rw [e0, e1, e2] at px
  rw [d0, d1, d2, ← k1, ← k2, ← ka, ← kl] at py
  rw [show x.val = .agg #[.string x.name, .slice xpo x.ps.length xpc, .slice xro x.rs.length xrc, .slice xao x.att.length xac] by unfold Ac.val; rw [e0, e1, e2], show y.val = .agg #[.string x.name, .slice ypo x.ps.length ypc, .slice yro x.rs.length yrc, .slice yao x.att.length yac] by unfold Ac.val; rw [d0, d1, d2, ← k0, ← k1, ← k2, ← kl]]
  have c0 := hid (fun W (B : Below w.heap.size w W) => texts_any x.ps _ _ W (StrsV.below px.2.1 B) (StrsV.below py.2.1 B))
  have c1 := hid (fun W (B : Below w.heap.size w W) => texts_any x.rs _ _ W (StrsV.below px.2.2.1 B) (StrsV.below py.2.2.1 B))
  have ca := hid (fun W (B : Below w.heap.size w W) => sameattrs_any x.an x.att y.att kt W _ _ (px.2.2.2.below B) (py.2.2.2.below B))
  have hnn : (x.name.toList == x.name.toList) = true := by simp
  have bw0 := hid (Below.refl w.heap.size w)
  clear px py hx hy k0 k1 k2 ka kt kl e0 d0 e1 d1 e2 d2
  go_enter Tryz.func55, Tryz.ntmps55
  go_upto_region 1 with fail
  have K1 := hid (Blk.new w [.string x.name, .slice xpo x.ps.length xpc, .slice xro x.rs.length xrc, .slice xao x.att.length xac] 57)
  have bw1 := hid (bw0.out.alloc (Nat.le_refl _) (.cells #[.string x.name, .slice xpo x.ps.length xpc, .slice xro x.rs.length xrc, .slice xao x.att.length xac] 57))
  have hs : w.heap.size + 1 = (w.alloc (.cells #[.string x.name, .slice xpo x.ps.length xpc, .slice xro x.rs.length xrc, .slice xao x.att.length xac] 57)).heap.size := by simp
  generalize w.alloc (.cells #[.string x.name, .slice xpo x.ps.length xpc, .slice xro x.rs.length xrc, .slice xao x.att.length xac] 57) = X0 at K1 bw1 hs ⊢
  have K2 := hid (Blk.new' X0 [.string x.name, .slice ypo x.ps.length ypc, .slice yro x.rs.length yrc, .slice yao x.att.length yac] 57 (w.heap.size + 1) hs)
  replace K1 := hid (K1.out.alloc (.cells #[.string x.name, .slice ypo x.ps.length ypc, .slice yro x.rs.length yrc, .slice yao x.att.length yac] 57))
  have bw := hid (bw1.out.alloc (by omega) (.cells #[.string x.name, .slice ypo x.ps.length ypc, .slice yro x.rs.length yrc, .slice yao x.att.length yac] 57))
  clear bw0 bw1 hs
  generalize X0.alloc (.cells #[.string x.name, .slice ypo x.ps.length ypc, .slice yro x.rs.length yrc, .slice yao x.att.length yac] 57) = X1 at K1 K2 bw ⊢
  obtain ⟨f0, f1, f2, f3, ff⟩ := four' K1.out
  obtain ⟨g0, g1, g2, g3, gf⟩ := four' K2.out
  have cc := hid (c0.out X1 bw.out)
  go_wp2_with fail
  refine cc.out.mono ?_
  rintro e w2 ⟨rfl, b2⟩
  replace K1 := hid (K1.out.below b2 K1.out.lt)
  replace K2 := hid (K2.out.below b2 K2.out.lt)
  replace bw := hid (bt bw.out b2)
  clear b2 cc f0 g0 f1 g1 f2 g2 f3 g3 ff gf
  obtain ⟨f0, f1, f2, f3, ff⟩ := four' K1.out
  obtain ⟨g0, g1, g2, g3, gf⟩ := four' K2.out
  have cc := hid (c1.out w2 bw.out)
  go_wp2_with fail
  refine cc.out.mono ?_
  rintro e w3 ⟨rfl, b2⟩
  replace K1 := hid (K1.out.below b2 K1.out.lt)
  replace K2 := hid (K2.out.below b2 K2.out.lt)
  replace bw := hid (bt bw.out b2)
  clear b2 cc f0 g0 f1 g1 f2 g2 f3 g3 ff gf
  obtain ⟨f0, f1, f2, f3, ff⟩ := four' K1.out
  obtain ⟨g0, g1, g2, g3, gf⟩ := four' K2.out
  have cc := hid (ca.out w3 bw.out)
  go_wp2_with fail
  refine cc.out.mono ?_
  rintro e w4 ⟨rfl, b2⟩
  replace K1 := hid (K1.out.below b2 K1.out.lt)
  replace K2 := hid (K2.out.below b2 K2.out.lt)
  replace bw := hid (bt bw.out b2)
  clear b2 cc f0 g0 f1 g1 f2 g2 f3 g3 ff gf
  go_wp2_with fail
  go_ret
  exact ⟨rfl, bw.out⟩
end Go.Proofs.YtbcjppbiihgfpaaGreatDoor.Tyt
