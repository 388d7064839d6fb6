/-
  lictorref10.Same: alike schemas are the same. Written by wip/tysame3gen.py.
-/
import Derived.Test.YtbcjppbiihgfpaaGreatDoorTySameE
namespace Go.Proofs.YtbcjppbiihgfpaaGreatDoor.Tyt
open Go.ChangeShapes Go.WideShapes Go.ChangeAt Go.RowKit
open Go.Proofs.YtbcjppbiihgfpaaGreatDoor.Mem
set_option linter.unusedVariables false
set_option linter.unusedSimpArgs false
set_option maxRecDepth 100000
theorem EtsR.open {w : World} {v : Value} {l : List Et} (h : EtsR w v l) (hl : 0 < l.length) : ∃ b off cap, v = .slice (some ⟨b, off, none⟩) l.length cap ∧ b < w.heap.size ∧ ∀ i (hi : i < l.length), w.cell? ⟨b, off + i * 3, none⟩ = some (.string l[i].name) ∧ w.cell? ⟨b, off + i * 3 + 1, none⟩ = some l[i].pv ∧ w.cell? ⟨b, off + i * 3 + 2, none⟩ = some l[i].av := by
  obtain ⟨b, off, cap, h1, _, _, h4, h5⟩ := SlV.open h.1 (by rw [Et.enc_len]; omega)
  refine ⟨b, off, cap, h1, h4, fun i hi => ?_⟩
  have key : ∀ j, j < 3 → w.cell? ⟨b, off + i * 3 + j, none⟩ = (l[i].cells)[j]? := fun j hj => by
    have hl2 : i * 3 + j < (Et.enc l).length := by rw [Et.enc_len]; omega
    rw [Nat.add_assoc, h5 _ hl2, ← Et.enc_get l i hi j hj, List.getElem?_eq_getElem hl2]
  exact ⟨key 0 (by omega), key 1 (by omega), key 2 (by omega)⟩
theorem AcsR.open {w : World} {v : Value} {l : List Ac} (h : AcsR w v l) (hl : 0 < l.length) : ∃ b off cap, v = .slice (some ⟨b, off, none⟩) l.length cap ∧ b < w.heap.size ∧ ∀ i (hi : i < l.length), w.cell? ⟨b, off + i * 4, none⟩ = some (.string l[i].name) ∧ w.cell? ⟨b, off + i * 4 + 1, none⟩ = some l[i].pv ∧ w.cell? ⟨b, off + i * 4 + 2, none⟩ = some l[i].rv ∧ w.cell? ⟨b, off + i * 4 + 3, none⟩ = some l[i].av := by
  obtain ⟨b, off, cap, h1, _, _, h4, h5⟩ := SlV.open h.1 (by rw [Ac.enc_len]; omega)
  refine ⟨b, off, cap, h1, h4, fun i hi => ?_⟩
  have key : ∀ j, j < 4 → w.cell? ⟨b, off + i * 4 + j, none⟩ = (l[i].cells)[j]? := fun j hj => by
    have hl2 : i * 4 + j < (Ac.enc l).length := by rw [Ac.enc_len]; omega
    rw [Nat.add_assoc, h5 _ hl2, ← Ac.enc_get l i hi j hj, List.getElem?_eq_getElem hl2]
  exact ⟨key 0 (by omega), key 1 (by omega), key 2 (by omega), key 3 (by omega)⟩
set_option maxHeartbeats 32000000 in
theorem same_any (x y : Sch) (hl : x.like y) (w : World) (hx : x.rd w) (hy : y.rd w) : Calls Tryz.prog 23 #[x.val, y.val] w fun e w' => e = .returned (.bool true) ∧ Below w.heap.size w w' := by
  obtain ⟨hl1, hl2, hl3, hl4⟩ := hl
  obtain ⟨xt, xtc, e0, _, _⟩ := SlV.form hx.1.1
  obtain ⟨xa, xac, e1, _, _⟩ := SlV.form hx.2.1
  obtain ⟨yt, ytc, d0, _, _⟩ := SlV.form hy.1.1
  obtain ⟨ya, yac, d1, _, _⟩ := SlV.form hy.2.1
  have b1 := SlV.len hx.1.1
  have b2 := SlV.len hx.2.1
  unfold maxLen at b1 b2
  have hxEt := hid hx.1
  have hxAc := hid hx.2
  have hyEt := hid hy.1
  have hyAc := hid hy.2
  rw [e0] at hxEt
  rw [e1] at hxAc
  rw [d0] at hyEt
  rw [d1] at hyAc
  rw [show x.val = .agg #[.slice xt x.ts.length xtc, .slice xa x.acts.length xac] by unfold Sch.val; rw [e0, e1], show y.val = .agg #[.slice yt x.ts.length ytc, .slice ya x.acts.length yac] by unfold Sch.val; rw [d0, d1, ← hl1, ← hl2]]
  rw [← hl1] at hyEt
  rw [← hl2] at hyAc
  have i1 : (x.ts.length : Int) ≤ 9223372036854775807 := by omega
  have i2 : (x.acts.length : Int) ≤ 9223372036854775807 := by omega
  have hEtl := hid hl1
  have hAcl := hid hl2
  have hEtk := hid hl3
  have hAck := hid hl4
  have bw0 := hid (Below.refl w.heap.size w)
  clear hl1 hl2 hl3 hl4 hx hy e0 e1 d0 d1 b1 b2
  go_enter Tryz.func23, Tryz.ntmps23
  go_upto_region 1 with fail
  have K1 := hid (Blk.new w [.slice xt x.ts.length xtc, .slice xa x.acts.length xac] 49)
  have bw1 := hid (bw0.out.alloc (Nat.le_refl _) (.cells #[.slice xt x.ts.length xtc, .slice xa x.acts.length xac] 49))
  have hs : w.heap.size + 1 = (w.alloc (.cells #[.slice xt x.ts.length xtc, .slice xa x.acts.length xac] 49)).heap.size := by simp
  generalize w.alloc (.cells #[.slice xt x.ts.length xtc, .slice xa x.acts.length xac] 49) = X0 at K1 bw1 hs ⊢
  have K2 := hid (Blk.new' X0 [.slice yt x.ts.length ytc, .slice ya x.acts.length yac] 49 (w.heap.size + 1) hs)
  replace K1 := hid (K1.out.alloc (.cells #[.slice yt x.ts.length ytc, .slice ya x.acts.length yac] 49))
  have bw := hid (bw1.out.alloc (by omega) (.cells #[.slice yt x.ts.length ytc, .slice ya x.acts.length yac] 49))
  clear bw0 bw1 hs
  generalize X0.alloc (.cells #[.slice yt x.ts.length ytc, .slice ya x.acts.length yac] 49) = X1 at K1 K2 bw ⊢
  obtain ⟨f0, f1, ff⟩ := two' K1.out
  obtain ⟨g0, g1, gf⟩ := two' K2.out
  go_wp2_with fail
  clear f0 f1 ff g0 g1 gf
  go_loopw [26] (fun i wr => ∃ k : Nat, k ≤ x.ts.length ∧ i = .int .i64 k ∧ Hid (Blk wr w.heap.size [.slice xt x.ts.length xtc, .slice xa x.acts.length xac] 49) ∧ Hid (Blk wr (w.heap.size + 1) [.slice yt x.ts.length ytc, .slice ya x.acts.length yac] 49) ∧ Hid (Below w.heap.size w wr)) (fun i _ => x.ts.length - (intOf i).toNat)
  case atStart => exact ⟨0, by omega, rfl, K1, K2, bw⟩
  case round =>
    clear K1 K2 bw
    obtain ⟨k, hk, rfl, K1, K2, bw⟩ := hrel
    by_cases hkl : k < x.ts.length
    · have hki : (k : Int) < (x.ts.length : Int) := by omega
      have hkb : k < y.ts.length := by have := hEtl.out; omega
      have hx9 := hid (hxEt.out.below bw.out)
      have hy9 := hid (hyEt.out.below bw.out)
      obtain ⟨xb, xo, xcap, hxv, _, hxc⟩ := hx9.out.open (by omega)
      obtain ⟨yb, yo, ycap, hyv, _, hyc⟩ := hy9.out.open (by omega)
      simp only [Value.slice.injEq] at hxv hyv
      obtain ⟨hx1, _, hx2⟩ := hxv
      obtain ⟨hy1, hyq, hy2⟩ := hyv
      clear hyq
      subst hx1 hx2 hy1 hy2
      obtain ⟨f0, f1, f2⟩ := hxc k hkl
      obtain ⟨g0, g1, g2⟩ := hyc k hkb
      have hzr := hid (hx9.out.2 _ (List.getElem_mem hkl))
      have hur := hid (hy9.out.2 _ (List.getElem_mem hkb))
      have hlz := hid (hEtk.out k hkl hkb)
      generalize x.ts[k] = z at f0 f1 f2 hzr hlz
      generalize y.ts[k] = u at g0 g1 g2 hur hlz
      obtain ⟨zpo, zpc, zao, zac, e0, e1⟩ := hzr.out.forms
      obtain ⟨upo, upc, uao, uac, d0, d1⟩ := hur.out.forms
      have hrec := hid (same_et z u hlz.out wr.drew (hzr.out.below (Below.refl _ wr).drew) (hur.out.below (Below.refl _ wr).drew))
      rw [show z.val = .agg #[.string z.name, .slice zpo z.ps.length zpc, .slice zao z.att.length zac] by unfold Et.val; rw [e0, e1], show u.val = .agg #[.string u.name, .slice upo u.ps.length upc, .slice uao u.att.length uac] by unfold Et.val; rw [d0, d1]] at hrec
      rw [e0] at f1
      rw [e1] at f2
      rw [d0] at g1
      rw [d1] at g2
      clear e0 d0 e1 d1 hxc hyc hzr hur hlz hx9 hy9
      have p0 := K1.out.cell 0 (by simp)
      have p1 := K2.out.cell 0 (by simp)
      simp only [List.getElem_cons_zero, List.getElem_cons_succ] at p0 p1
      go_upto_region 6 with fail
      go_region_held3 (fun Y => Y.cell? ⟨w.heap.size, 0, none⟩ = some (.slice (some ⟨xb, xo, none⟩) x.ts.length xtc) ∧ Y.cell? ⟨w.heap.size + 1, 0, none⟩ = some (.slice (some ⟨yb, yo, none⟩) x.ts.length ytc) ∧ Y.cell? ⟨xb, xo + k * 3, none⟩ = some (.string z.name) ∧ Y.cell? ⟨xb, xo + k * 3 + 1, none⟩ = some (.slice zpo z.ps.length zpc) ∧ Y.cell? ⟨xb, xo + k * 3 + 2, none⟩ = some (.slice zao z.att.length zac) ∧ Y.cell? ⟨yb, yo + k * 3, none⟩ = some (.string u.name) ∧ Y.cell? ⟨yb, yo + k * 3 + 1, none⟩ = some (.slice upo u.ps.length upc) ∧ Y.cell? ⟨yb, yo + k * 3 + 2, none⟩ = some (.slice uao u.att.length uac)) (exact ⟨p0, p1, f0, f1, f2, g0, g1, g2⟩) (first
        | (go_at_call 54
           (with_reducible refine hrec.out.mono ?_)
           rintro e w3 ⟨rfl, b3⟩
           have ca : ∀ {a : Addr} {v : Value}, wr.cell? a = some v → w3.cell? a = some v := fun h => cell_below b3 _ _ (show wr.drew.cell? _ = _ from h)
           replace p0 := ca p0; replace p1 := ca p1; replace f0 := ca f0; replace f1 := ca f1; replace f2 := ca f2; replace g0 := ca g0; replace g1 := ca g1; replace g2 := ca g2
           replace K1 := hid (K1.out.drew.below b3 K1.out.drew.lt)
           replace K2 := hid (K2.out.drew.below b3 K2.out.drew.lt)
           replace bw := hid (bt bw.out.drew b3)
           clear ca b3))
      clear p0 p1 f0 f1 f2 g0 g1 g2 hrec
      go_wp2_with fail
      go_roundw
      case rel => exact ⟨k + 1, by omega, by go_num, K1, K2, bw⟩
      case measure => simp [intOf]; omega
    · have hki : ¬ (k : Int) < (x.ts.length : Int) := by omega
      obtain ⟨q0, q1, qf⟩ := two' K1.out
      go_wp2_with fail
      clear q0 q1 qf
      go_loopw [45] (fun i wr => ∃ k : Nat, k ≤ x.acts.length ∧ i = .int .i64 k ∧ Hid (Blk wr w.heap.size [.slice xt x.ts.length xtc, .slice xa x.acts.length xac] 49) ∧ Hid (Blk wr (w.heap.size + 1) [.slice yt x.ts.length ytc, .slice ya x.acts.length yac] 49) ∧ Hid (Below w.heap.size w wr)) (fun i _ => x.acts.length - (intOf i).toNat)
      case atStart => exact ⟨0, by omega, rfl, K1, K2, bw⟩
      case round =>
        clear K1 K2 bw
        obtain ⟨k, hk, rfl, K1, K2, bw⟩ := hrel
        by_cases hkl : k < x.acts.length
        · have hki : (k : Int) < (x.acts.length : Int) := by omega
          have hkb : k < y.acts.length := by have := hAcl.out; omega
          have hx9 := hid (hxAc.out.below bw.out)
          have hy9 := hid (hyAc.out.below bw.out)
          obtain ⟨xb, xo, xcap, hxv, _, hxc⟩ := hx9.out.open (by omega)
          obtain ⟨yb, yo, ycap, hyv, _, hyc⟩ := hy9.out.open (by omega)
          simp only [Value.slice.injEq] at hxv hyv
          obtain ⟨hx1, _, hx2⟩ := hxv
          obtain ⟨hy1, hyq, hy2⟩ := hyv
          clear hyq
          subst hx1 hx2 hy1 hy2
          obtain ⟨f0, f1, f2, f3⟩ := hxc k hkl
          obtain ⟨g0, g1, g2, g3⟩ := hyc k hkb
          have hzr := hid (hx9.out.2 _ (List.getElem_mem hkl))
          have hur := hid (hy9.out.2 _ (List.getElem_mem hkb))
          have hlz := hid (hAck.out k hkl hkb)
          generalize x.acts[k] = z at f0 f1 f2 f3 hzr hlz
          generalize y.acts[k] = u at g0 g1 g2 g3 hur hlz
          obtain ⟨zpo, zpc, zro, zrc, zao, zac, e0, e1, e2⟩ := hzr.out.forms
          obtain ⟨upo, upc, uro, urc, uao, uac, d0, d1, d2⟩ := hur.out.forms
          have hrec := hid (same_ac z u hlz.out wr.drew (hzr.out.below (Below.refl _ wr).drew) (hur.out.below (Below.refl _ wr).drew))
          rw [show z.val = .agg #[.string z.name, .slice zpo z.ps.length zpc, .slice zro z.rs.length zrc, .slice zao z.att.length zac] by unfold Ac.val; rw [e0, e1, e2], show u.val = .agg #[.string u.name, .slice upo u.ps.length upc, .slice uro u.rs.length urc, .slice uao u.att.length uac] by unfold Ac.val; rw [d0, d1, d2]] at hrec
          rw [e0] at f1
          rw [e1] at f2
          rw [e2] at f3
          rw [d0] at g1
          rw [d1] at g2
          rw [d2] at g3
          clear e0 d0 e1 d1 e2 d2 hxc hyc hzr hur hlz hx9 hy9
          have p0 := K1.out.cell 1 (by simp)
          have p1 := K2.out.cell 1 (by simp)
          simp only [List.getElem_cons_zero, List.getElem_cons_succ] at p0 p1
          go_upto_region 12 with fail
          go_region_held3 (fun Y => Y.cell? ⟨w.heap.size, 1, none⟩ = some (.slice (some ⟨xb, xo, none⟩) x.acts.length xac) ∧ Y.cell? ⟨w.heap.size + 1, 1, none⟩ = some (.slice (some ⟨yb, yo, none⟩) x.acts.length yac) ∧ Y.cell? ⟨xb, xo + k * 4, none⟩ = some (.string z.name) ∧ Y.cell? ⟨xb, xo + k * 4 + 1, none⟩ = some (.slice zpo z.ps.length zpc) ∧ Y.cell? ⟨xb, xo + k * 4 + 2, none⟩ = some (.slice zro z.rs.length zrc) ∧ Y.cell? ⟨xb, xo + k * 4 + 3, none⟩ = some (.slice zao z.att.length zac) ∧ Y.cell? ⟨yb, yo + k * 4, none⟩ = some (.string u.name) ∧ Y.cell? ⟨yb, yo + k * 4 + 1, none⟩ = some (.slice upo u.ps.length upc) ∧ Y.cell? ⟨yb, yo + k * 4 + 2, none⟩ = some (.slice uro u.rs.length urc) ∧ Y.cell? ⟨yb, yo + k * 4 + 3, none⟩ = some (.slice uao u.att.length uac)) (exact ⟨p0, p1, f0, f1, f2, f3, g0, g1, g2, g3⟩) (first
            | (go_at_call 55
               (with_reducible refine hrec.out.mono ?_)
               rintro e w3 ⟨rfl, b3⟩
               have ca : ∀ {a : Addr} {v : Value}, wr.cell? a = some v → w3.cell? a = some v := fun h => cell_below b3 _ _ (show wr.drew.cell? _ = _ from h)
               replace p0 := ca p0; replace p1 := ca p1; replace f0 := ca f0; replace f1 := ca f1; replace f2 := ca f2; replace f3 := ca f3; replace g0 := ca g0; replace g1 := ca g1; replace g2 := ca g2; replace g3 := ca g3
               replace K1 := hid (K1.out.drew.below b3 K1.out.drew.lt)
               replace K2 := hid (K2.out.drew.below b3 K2.out.drew.lt)
               replace bw := hid (bt bw.out.drew b3)
               clear ca b3))
          clear p0 p1 f0 f1 f2 f3 g0 g1 g2 g3 hrec
          go_wp2_with fail
          go_roundw
          case rel => exact ⟨k + 1, by omega, by go_num, K1, K2, bw⟩
          case measure => simp [intOf]; omega
        · have hki : ¬ (k : Int) < (x.acts.length : Int) := by omega
          obtain ⟨q0, q1, qf⟩ := two' K1.out
          go_wp2_with fail
          clear q0 q1 qf
          go_ret
          exact ⟨rfl, bw.out⟩
end Go.Proofs.YtbcjppbiihgfpaaGreatDoor.Tyt
