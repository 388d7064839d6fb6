/-
  lictorref10.SameType of alike types: contract.
-/
import Derived.Test.YtklclfolmfhocaaGreatDoorTyLike
namespace Go.Proofs.YtklclfolmfhocaaGreatDoor.Tyt
open Go.ChangeShapes Go.WideShapes Go.ChangeAt Go.RowKit
open Go.Proofs.YtklclfolmfhocaaGreatDoor.Mem
set_option linter.unusedVariables false
set_option linter.unusedSimpArgs false
set_option maxRecDepth 100000
theorem four' {w : World} {b : Nat} {v0 v1 v2 v3 : Value} {t : TypeId} (h : Blk w b [v0, v1, v2, v3] t) :
    w.cell? ⟨b, 0, none⟩ = some v0 ∧ w.cell? ⟨b, 1, none⟩ = some v1 ∧ w.cell? ⟨b, 2, none⟩ = some v2 ∧ w.cell? ⟨b, 3, none⟩ = some v3 ∧ ∀ o, w.frozen? ⟨b, o, none⟩ = false := h.four
set_option maxHeartbeats 4000000 in
theorem samety_step (x y : Ty) (hl : x.like y) (ihof : ∀ (i : Nat) (h1 : i < x.of.length) (h2 : i < y.of.length), SameTy x.of[i] y.of[i]) (ihatt : ∀ (i : Nat) (h1 : i < x.att.length) (h2 : i < y.att.length), SameTy x.att[i] y.att[i]) : SameTy x y := by
  intro w hx hy
  obtain ⟨k1, k2, k3, k4, k5⟩ := Ty.like_iff.1 hl
  have hll := Ty.likeL_length k4
  have hat := hid (fun W (B : Below w.heap.size w W) => sameattrs_step x.an x.att y.att k5 ihatt W x.av y.av ((hx.below B).attrs) (k3 ▸ (hy.below B).attrs))
  obtain ⟨oo, oc, ao, ac, e1, e2, l1, l2⟩ := hx.forms
  obtain ⟨po, pc, qo, qc, g1, g2, m1, m2⟩ := hy.forms
  obtain ⟨n, hn⟩ : ∃ n, x.of.length = n := ⟨_, rfl⟩
  have hnb : y.of.length = n := by omega
  rw [Ty.val_eq e1 e2, Ty.val_eq g1 g2]
  rw [e2, g2] at hat
  rw [hn] at l1 e1 ⊢
  rw [hnb] at g1 ⊢
  rw [← k1, ← k2]
  have i1 : (n : Int) ≤ 9223372036854775807 := by omega
  have hx' := hid hx
  have hy' := hid hy
  have hn' := hid hn
  have hnb' := hid hnb
  have e1' := hid e1
  have g1' := hid g1
  have ih' := hid ihof
  have bw0 := hid (Below.refl w.heap.size w)
  clear hl ihof ihatt k1 k2 k3 k4 k5 hll hx hy hn hnb l1 l2 e1 e2 g1 g2 m1 m2
  generalize x.att.length = la at *
  generalize y.att.length = lb at *
  generalize x.kind = k at *
  generalize x.name = nm at *
  have hnn : (nm.toList != nm.toList) = false := by simp
  go_enter Tryz.func8, Tryz.ntmps8
  go_upto_region 1 with fail
  have K1 := hid (Blk.new w [.int .u8 (k : Nat), .string nm, .slice oo n oc, .slice ao la ac] 26)
  have bw1 := hid (bw0.out.alloc (Nat.le_refl _) (.cells #[.int .u8 (k : Nat), .string nm, .slice oo n oc, .slice ao la ac] 26))
  have hs : w.heap.size + 1 = (w.alloc (.cells #[.int .u8 (k : Nat), .string nm, .slice oo n oc, .slice ao la ac] 26)).heap.size := by simp
  generalize w.alloc (.cells #[.int .u8 (k : Nat), .string nm, .slice oo n oc, .slice ao la ac] 26) = X0 at K1 bw1 hs ⊢
  have K2 := hid (Blk.new' X0 [.int .u8 (k : Nat), .string nm, .slice po n pc, .slice qo lb qc] 26 (w.heap.size + 1) hs)
  replace K1 := hid (K1.out.alloc (.cells #[.int .u8 (k : Nat), .string nm, .slice po n pc, .slice qo lb qc] 26))
  have bw := hid (bw1.out.alloc (by omega) (.cells #[.int .u8 (k : Nat), .string nm, .slice po n pc, .slice qo lb qc] 26))
  clear bw0 bw1 hs
  generalize X0.alloc (.cells #[.int .u8 (k : Nat), .string nm, .slice po n pc, .slice qo lb qc] 26) = X1 at K1 K2 bw ⊢
  obtain ⟨c0, c1, c2, c3, cf⟩ := four' K1.out
  obtain ⟨d0, d1, d2, d3, df⟩ := four' K2.out
  go_wp2_with fail
  clear c0 c1 c2 c3 cf d0 d1 d2 d3 df
  go_loopw [30] (fun i wr => ∃ k2 : Nat, k2 ≤ n ∧ i = .int .i64 k2 ∧ Hid (Blk wr w.heap.size [.int .u8 (k : Nat), .string nm, .slice oo n oc, .slice ao la ac] 26) ∧ Hid (Blk wr (w.heap.size + 1) [.int .u8 (k : Nat), .string nm, .slice po n pc, .slice qo lb qc] 26) ∧ Hid (Below w.heap.size w wr)) (fun i _ => n - (intOf i).toNat)
  case atStart => exact ⟨0, by omega, rfl, K1, K2, bw⟩
  case round =>
    clear K1 K2 bw
    obtain ⟨j, hj, rfl, K1, K2, bw⟩ := hrel
    rename_i wr _
    obtain ⟨c0, c1, c2, c3, cf⟩ := four' K1.out
    obtain ⟨d0, d1, d2, d3, df⟩ := four' K2.out
    by_cases hjl : j < n
    · have hji : (j : Int) < (n : Int) := by omega
      have hka : j < x.of.length := by rw [hn'.out]; exact hjl
      have hkb : j < y.of.length := by rw [hnb'.out]; exact hjl
      obtain ⟨xb, xo, hxo, f1, f2, f3, f4⟩ := (hx'.out.below bw.out).part (oo := oo) (oc := oc) (by rw [e1'.out, hn'.out]) j hka
      obtain ⟨yb, yo, hyo, r1, r2, r3, r4⟩ := (hy'.out.below bw.out).part (oo := po) (oc := pc) (by rw [g1'.out, hnb'.out]) j hkb
      subst hxo
      subst hyo
      have hrec := hid (ih'.out j hka hkb wr.drew (((hx'.out.below bw.out).parts.2.2.2.2.2.2.1 _ (List.getElem_mem hka)).below (Below.refl _ wr).drew) (((hy'.out.below bw.out).parts.2.2.2.2.2.2.1 _ (List.getElem_mem hkb)).below (Below.refl _ wr).drew))
      have hxf := ((hx'.out.below bw.out).parts.2.2.2.2.2.2.1 _ (List.getElem_mem hka)).forms
      have hyf := ((hy'.out.below bw.out).parts.2.2.2.2.2.2.1 _ (List.getElem_mem hkb)).forms
      generalize x.of[j] = p at f1 f2 f3 f4 hrec hxf
      generalize y.of[j] = q at r1 r2 r3 r4 hrec hyf
      obtain ⟨uo, uc, uo2, uc2, pe1, pe2, _, _⟩ := hxf
      obtain ⟨vo, vc, vo2, vc2, qe1, qe2, _, _⟩ := hyf
      rw [Ty.val_eq pe1 pe2, Ty.val_eq qe1 qe2] at hrec
      rw [pe1] at f3
      rw [pe2] at f4
      rw [qe1] at r3
      rw [qe2] at r4
      clear pe1 pe2 qe1 qe2 c0 c1 c3 cf d0 d1 d3 df
      go_upto_region 6 with fail
      go_region_held3 (fun Y => Y.cell? ⟨w.heap.size, 2, none⟩ = some (.slice (some ⟨xb, xo, none⟩) n oc) ∧ Y.cell? ⟨w.heap.size + 1, 2, none⟩ = some (.slice (some ⟨yb, yo, none⟩) n pc) ∧ Y.cell? ⟨xb, xo + j * 4, none⟩ = some (.int .u8 (p.kind : Nat)) ∧ Y.cell? ⟨xb, xo + j * 4 + 1, none⟩ = some (.string p.name) ∧ Y.cell? ⟨xb, xo + j * 4 + 2, none⟩ = some (.slice uo p.of.length uc) ∧ Y.cell? ⟨xb, xo + j * 4 + 3, none⟩ = some (.slice uo2 p.att.length uc2) ∧ Y.cell? ⟨yb, yo + j * 4, none⟩ = some (.int .u8 (q.kind : Nat)) ∧ Y.cell? ⟨yb, yo + j * 4 + 1, none⟩ = some (.string q.name) ∧ Y.cell? ⟨yb, yo + j * 4 + 2, none⟩ = some (.slice vo q.of.length vc) ∧ Y.cell? ⟨yb, yo + j * 4 + 3, none⟩ = some (.slice vo2 q.att.length vc2)) (first | with_reducible exact ⟨c2, d2, f1, f2, f3, f4, r1, r2, r3, r4⟩ | with_reducible exact ⟨celld c2, celld d2, celld f1, celld f2, celld f3, celld f4, celld r1, celld r2, celld r3, celld r4⟩) (first
        | (go_at_call 8
           (with_reducible refine hrec.out.mono ?_)
           rintro e w3 ⟨rfl, b3⟩
           have ca : ∀ {a : Addr} {v : Value}, wr.cell? a = some v → w3.cell? a = some v := fun h => cell_below b3 _ _ (show wr.drew.cell? _ = _ from h)
           replace c2 := ca c2; replace d2 := ca d2; replace f1 := ca f1; replace f2 := ca f2; replace f3 := ca f3; replace f4 := ca f4; replace r1 := ca r1; replace r2 := ca r2; replace r3 := ca r3; replace r4 := ca r4
           replace K1 := hid (K1.out.drew.below b3 K1.out.drew.lt)
           replace K2 := hid (K2.out.drew.below b3 K2.out.drew.lt)
           replace bw := hid (bt bw.out.drew b3)
           clear ca b3))
      clear f1 f2 f3 f4 r1 r2 r3 r4 hrec c2 d2
      go_wp2_with fail
      go_roundw
      case rel => exact ⟨j + 1, by omega, by go_num, K1, K2, bw⟩
      case measure => simp [intOf]; omega
    · have hji : ¬ (j : Int) < (n : Int) := by omega
      have cA := hid (hat.out wr bw.out)
      go_wp2_with fail
      refine cA.out.mono ?_
      rintro e w3 ⟨rfl, b3⟩
      replace bw := hid (bt bw.out b3)
      clear b3 cA c0 c1 c2 c3 cf d0 d1 d2 d3 df K1 K2
      go_wp2_with fail
      go_ret
      exact ⟨rfl, bw.out⟩
theorem samety_any {x y : Ty} (h : x.like y) : SameTy x y := by
  suffices g : ∀ n (x y : Ty), x.size ≤ n → x.like y → SameTy x y from g x.size x y (Nat.le_refl _) h
  intro n
  induction n with
  | zero => intro x y hx; have := x.size_pos; omega
  | succ n ih =>
    intro x y hx hl
    obtain ⟨_, _, _, k4, k5⟩ := Ty.like_iff.1 hl
    exact samety_step x y hl (fun i h1 h2 => ih _ _ (by have := Ty.size_of (List.getElem_mem h1); omega) (Ty.likeL_at k4 i h1 h2)) (fun i h1 h2 => ih _ _ (by have := Ty.size_att (List.getElem_mem h1); omega) (Ty.likeL_at k5 i h1 h2))
theorem sameattrs_any (an : List ByteArray) (a b : List Ty) (hl : Ty.likeL a b) (w : World) (av bv : Value) (ha : AttrsV w av an a) (hb : AttrsV w bv an b) :
    Calls Tryz.prog 21 #[av, bv] w fun e w' => e = .returned (.bool true) ∧ Below w.heap.size w w' :=
  sameattrs_step an a b hl (fun i h1 h2 => samety_any (Ty.likeL_at hl i h1 h2)) w av bv ha hb
end Go.Proofs.YtklclfolmfhocaaGreatDoor.Tyt
