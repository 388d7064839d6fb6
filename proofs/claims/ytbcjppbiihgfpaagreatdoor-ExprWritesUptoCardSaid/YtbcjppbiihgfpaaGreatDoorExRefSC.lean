/-
  ExRefSC: ExRefS15, ExRefS27, ExRefS28, ExRefS29 in one. Written by wip/prgroups.py.
-/
import Derived.Test.YtbcjppbiihgfpaaGreatDoorExRefBase
import Derived.Deep.RegionHeld3
namespace Go.Proofs.YtbcjppbiihgfpaaGreatDoor.Ex
open Go.ChangeShapes Go.WideShapes Go.ChangeAt Go.RowKit
open Go.Proofs.YtbcjppbiihgfpaaGreatDoor.Mem Go.Proofs.YtbcjppbiihgfpaaGreatDoor.Lik
set_option linter.unusedVariables false
set_option linter.unusedSimpArgs false
set_option maxRecDepth 100000
set_option maxHeartbeats 16000000 in
theorem rshow_pair (x : T) (ih : ∀ z ∈ x.list, RShow z) (hk : 15 ≤ x.kind ∧ x.kind ≤ 26) : RShow x := by
  intro w h hz hr
  obtain ⟨⟨y, z, hl⟩, hk29⟩ := kids2 hr (by omega)
  have hym : y ∈ x.list := by rw [hl]; simp
  have ho0 : 0 < x.list.length := by rw [hl]; simp
  have hy0 : x.list[0] = y := List.getElem_of_eq hl _
  have hzm : z ∈ x.list := by rw [hl]; simp
  have ho1 : 1 < x.list.length := by rw [hl]; simp
  have hz0 : x.list[1] = z := List.getElem_of_eq hl _
  have hsh : showT x = [40] ++ (showT y ++ ([32] ++ (spellT x.kind ++ ([32] ++ (showT z ++ [41]))))) := by
    rw [showT_eq, hl]
    unfold nodeS
    rw [if_neg (by omega), if_neg (by omega), if_neg (by omega), if_neg (by omega), if_neg (by omega), if_neg (by omega), if_neg (by omega), if_neg (by omega), if_neg (by omega), if_neg (by omega), if_neg (by omega), if_neg (by omega), if_neg (by omega), if_neg (by omega), if_neg (by omega)]
    rfl
  have hcall := hid (fun W => sign_any x.kind hk W)
  have hql := hid (spellT_len x.kind)
  obtain ⟨no, nc, lo, lc, e1, e2, l1, l2⟩ := h.forms
  obtain ⟨xb, xo, rfl⟩ := base_of h e2 ho0
  replace hy0 := hid hy0
  replace ho0 := hid ho0
  replace hym := hid hym
  replace hz0 := hid hz0
  replace ho1 := hid ho1
  replace hzm := hid hzm
  replace hsh := hid hsh
  have hl' := hid hl
  clear hl
  obtain ⟨i0, hi, iz0, iz1, iz2⟩ := info_string
  have hll : x.list.length * 16 ≤ 140737488355328 := by have := h.parts.1.2.2; omega
  obtain ⟨n, hn⟩ : ∃ n, x.list.length = n := ⟨_, rfl⟩
  rw [T.val_eq e1 e2]
  rw [hn] at hll l2 ⊢
  rw [hn] at e2
  have i1 : (x.names.length : Int) ≤ 9223372036854775807 := by omega
  have i2 : (n : Int) ≤ 9223372036854775807 := by omega
  have hrec0 := hid (fun (z : T) (hz' : z ∈ x.list) W (b : Below w.heap.size w W) => ih z hz' W ((h.below b).parts.2.2.2.2.2.2.2 z hz') (by have := T.size_part hz'; omega) (right_kid hr hz'))
  have hpl := hid (fun (z : T) (hz' : z ∈ x.list) => part_len h hz hr hz')
  have hwl := hid (whole_len h hz hr)
  have h' := hid h
  have e2' := hid e2
  have hn' := hid hn
  clear ih h e1 e2 hn hz hr l1 l2
  replace hk := hid hk
  go_enter Tryz.func26, Tryz.ntmps26
  go_upto_region 1 with fail
  have K1 := hid (Blk.new w [.int .u8 (x.kind : Nat), .int .i64 x.num, .string x.str, .string x.typ, .slice no x.names.length nc, .slice (some ⟨xb, xo, none⟩) n lc] 26)
  have bw := hid ((Below.refl w.heap.size w).alloc (Nat.le_refl _) (.cells #[.int .u8 (x.kind : Nat), .int .i64 x.num, .string x.str, .string x.typ, .slice no x.names.length nc, .slice (some ⟨xb, xo, none⟩) n lc] 26))
  have hBB := hid (show w.heap.size + 1 ≤ (w.alloc (.cells #[.int .u8 (x.kind : Nat), .int .i64 x.num, .string x.str, .string x.typ, .slice no x.names.length nc, .slice (some ⟨xb, xo, none⟩) n lc] 26)).heap.size by simp)
  generalize w.alloc (.cells #[.int .u8 (x.kind : Nat), .int .i64 x.num, .string x.str, .string x.typ, .slice no x.names.length nc, .slice (some ⟨xb, xo, none⟩) n lc] 26) = X0 at K1 bw hBB ⊢
  obtain ⟨c0, c1, c2, c3, c4, c5, cf⟩ := six K1.out
  go_wp2_with fail
  clear c0 c1 c2 c3 c4 c5 cf
  go_loopw [3, 13] (fun av i wr => ∃ k : Nat, k ≤ n ∧ i = .int .i64 k ∧ (∃ ao cap, av = .slice ao k cap ∧ Hid (wr.ownsRow (w.heap.size + 1) 9 1 (.slice ao k cap) k (ksC (x.list.take k)))) ∧ Hid (Blk wr w.heap.size [.int .u8 (x.kind : Nat), .int .i64 x.num, .string x.str, .string x.typ, .slice no x.names.length nc, .slice (some ⟨xb, xo, none⟩) n lc] 26) ∧ Hid (w.heap.size + 1 ≤ wr.heap.size) ∧ Hid (Below w.heap.size w wr)) (fun _ i _ => n - (intOf i).toNat)
  case atStart => exact ⟨0, by omega, rfl, ⟨none, 0, rfl, hid (World.ownsRow_nil _ _ _ _)⟩, K1, hBB, bw⟩
  case round =>
    clear K1 bw hBB
    obtain ⟨k, hkn, rfl, ⟨ao, cap, rfl, hown⟩, K1, hBB, bw⟩ := hrel
    rename_i wr _
    by_cases hkl : k < n
    · have hki : (k : Int) < (n : Int) := by omega
      have hkx : k < x.list.length := by rw [hn'.out]; exact hkl
      obtain ⟨zb, zo, hzo, d0, d1, d2, d3, d4, d5⟩ := (h'.out.below bw.out).part6 (lo := (some ⟨xb, xo, none⟩)) (lc := lc) (by rw [e2'.out, hn'.out]) k hkx
      have hzok := (h'.out.parts.2.2.2.2.2.2.2 _ (List.getElem_mem hkx)).forms
      have hrec := hid (hrec0.out x.list[k] (List.getElem_mem hkx))
      have hst := hid (ksC_step x.list k hkx)
      generalize x.list[k] = z at d0 d1 d2 d3 d4 d5 hrec hzok hst
      obtain ⟨zno, znc, zlo, zlc, ez1, ez2, zl1, zl2⟩ := hzok
      have hzv := T.val_eq ez1 ez2
      rw [ez1] at d4
      rw [ez2] at d5
      replace hrec := hid (show ∀ W, Below w.heap.size w W → Calls Tryz.prog 26 #[.agg #[.int .u8 (z.kind : Nat), .int .i64 z.num, .string z.str, .string z.typ, .slice zno z.names.length znc, .slice zlo z.list.length zlc]] W fun e w' => e = .returned (.string (bs (showT z))) ∧ Below W.heap.size W w' from hzv ▸ hrec.out)
      clear ez1 ez2 hzv
      obtain ⟨rfl, rfl⟩ : xb = zb ∧ xo = zo := by simpa using hzo
      clear hzo
      generalize bs (showT z) = sz at *
      go_upto_region 5 with fail
      have K4 := hid (Blk.new wr [.int .u8 (z.kind : Nat), .int .i64 z.num, .string z.str, .string z.typ, .slice zno z.names.length znc, .slice zlo z.list.length zlc] 26)
      have hb4 := (Below.refl wr.heap.size wr).alloc (Nat.le_refl _) (.cells #[.int .u8 (z.kind : Nat), .int .i64 z.num, .string z.str, .string z.typ, .slice zno z.names.length znc, .slice zlo z.list.length zlc] 26)
      replace K1 := hid (K1.out.below hb4 K1.out.lt)
      replace hown := hid (ownsRow_below hown.out hb4)
      replace hBB := hid (Nat.le_trans hBB.out hb4.size)
      replace bw := hid (bt bw.out hb4)
      clear d0 d1 d2 d3 d4 d5 hb4
      generalize wr.alloc (.cells #[.int .u8 (z.kind : Nat), .int .i64 z.num, .string z.str, .string z.typ, .slice zno z.names.length znc, .slice zlo z.list.length zlc] 26) = X3 at K1 K4 hown hBB bw ⊢
      obtain ⟨f0, f1, f2, f3, f4, f5, ff⟩ := six K4.out
      go_wp2_with fail
      refine (hrec.out _ bw.out).mono ?_
      rintro e X4 ⟨rfl, b4⟩
      replace K1 := hid (K1.out.below b4 K1.out.lt)
      replace hown := hid (ownsRow_below hown.out b4)
      replace hBB := hid (Nat.le_trans hBB.out b4.size)
      replace bw := hid (bt bw.out b4)
      clear f0 f1 f2 f3 f4 f5 ff K4 b4 hrec
      go_wp2_with (at_builtin; refine wpList_append_own _ rfl _ _ 23 rfl (w.heap.size + 1) 9 i0 (.string ⟨#[]⟩) 1 16 Tryz.underlying23 hi iz0 iz1 iz2 rfl (by decide) _ _ _ rfl (ownsRow_below hown.out ((Below.refl _ _).alloc (Nat.le_refl _) _)) ⟨X4.heap.size, 0, none⟩ 1 1 [.string sz] rfl rfl ?c1 ?c2 ?c3 ?c4 ?c5 ?_)
      case c1 =>
        intro j u hj
        match j, hj with
        | 0, hj => simp at hj; subst hj; simp [Addr.add]
      case c2 => intro u hu; simp at hu; subst hu; rfl
      case c3 => unfold maxLen; omega
      case c4 => omega
      case c5 => have := hBB.out; simp; omega
      intro v' X5 hown5 hgr _
      have hlt0 := fun q (hq : (Value.slice ao k cap).ownBlock = some q) => hown.out.lt q hq
      have hbn := hid (show Below w.heap.size w X5 from (bw.out.alloc bw.out.size _).grown hgr (by have := bw.out.size; simp; omega) (fun q hq => by have := (hlt0 q hq).1; omega))
      have K1n := hid (show Blk X5 w.heap.size [.int .u8 (x.kind : Nat), .int .i64 x.num, .string x.str, .string x.typ, .slice no x.names.length nc, .slice (some ⟨xb, xo, none⟩) n lc] 26 from ⟨(hgr.block _ (by have := K1.out.lt; simp; omega) (fun e => by have := (hlt0 _ e.symm).1; omega)).trans (K1.out.alloc _).at'⟩)
      have hBn := hid (show w.heap.size + 1 ≤ X5.heap.size from by have h1 := hgr.size; have h2 := hBB.out; simp at h1; omega)
      obtain ⟨ao', cap', rfl, _, _⟩ := ownsRow_form hown5
      have hownn := hid (show X5.ownsRow (w.heap.size + 1) 9 1 (.slice ao' (k + 1) cap') (k + 1) (ksC (x.list.take (k + 1))) from by rw [hst.out]; exact hown5)
      clear hown5 hgr hlt0 K1 hBB bw hown hst
      go_wp2_with fail
      go_roundw
      case rel => exact ⟨k + 1, by omega, by go_num, ⟨ao', cap', rfl, hownn⟩, K1n, hBn, hbn⟩
      case measure => simp [intOf]; omega
    · have hki : ¬ (k : Int) < (n : Int) := by omega
      obtain rfl : k = n := by omega
      replace hown := hid (show wr.ownsRow (w.heap.size + 1) 9 1 (.slice ao k cap) k (ksC x.list) from by have := hown.out; rwa [List.take_of_length_le (by rw [hn'.out]; exact Nat.le_refl _)] at this)
      obtain ⟨g, o, rfl, hks⟩ := ks_open (g := 0) hown.out hn'.out (by have := hn'.out; rw [← this]; exact ho0.out)
      have t0 := hks 0 ho0.out
      rw [hy0.out] at t0
      rw [Nat.add_zero] at t0
      have s0 := hpl.out y hym.out
      have t1 := hks 1 ho1.out
      rw [hz0.out] at t1
      have s1 := hpl.out z hzm.out
      obtain ⟨yb, yo, hyo, p0, _⟩ := (h'.out.below bw.out).part6 (lo := some ⟨xb, xo, none⟩) (lc := lc) (by rw [e2'.out, hn'.out]) 0 ho0.out
      obtain ⟨rfl, rfl⟩ : xb = yb ∧ xo = yo := by simpa using hyo
      rw [hy0.out, Nat.zero_mul, Nat.add_zero] at p0
      have hk1 : k = 2 := by rw [← hn'.out, hl'.out]; rfl
      subst hk1
      clear hks hyo
      have b0 : (bs (showT y)).size ≤ 34359738368 := by rw [bs_size]; exact s0
      obtain ⟨S0, hS0⟩ : ∃ S, bs (showT y) = S := ⟨_, rfl⟩
      rw [hS0] at t0 b0
      replace hS0 := hid hS0
      clear s0
      have b1 : (bs (showT z)).size ≤ 34359738368 := by rw [bs_size]; exact s1
      obtain ⟨S1, hS1⟩ : ∃ S, bs (showT z) = S := ⟨_, rfl⟩
      rw [hS1] at t1 b1
      replace hS1 := hid hS1
      clear s1
      obtain ⟨c0, c1, c2, c3, c4, c5, cf⟩ := six K1.out
      replace hk := hk.out
      have bq : (bs (spellT x.kind)).size ≤ 11 := by rw [bs_size]; exact hql.out
      obtain ⟨Q, hQ⟩ : ∃ Q, bs (spellT x.kind) = Q := ⟨_, rfl⟩
      rw [hQ] at bq hcall
      replace hQ := hid hQ
      obtain ⟨kx, hkx⟩ : ∃ kx, x.kind = kx := ⟨_, rfl⟩
      rw [hkx] at c0 hk hcall
      replace hkx := hid hkx
      have m1 : ((kx : Int) == 1) = false := by rw [beq_eq_false_iff_ne]; omega
      have m2 : ((kx : Int) == 2) = false := by rw [beq_eq_false_iff_ne]; omega
      have m3 : ((kx : Int) == 3) = false := by rw [beq_eq_false_iff_ne]; omega
      have m4 : ((kx : Int) == 4) = false := by rw [beq_eq_false_iff_ne]; omega
      have m5 : ((kx : Int) == 5) = false := by rw [beq_eq_false_iff_ne]; omega
      have m6 : ((kx : Int) == 6) = false := by rw [beq_eq_false_iff_ne]; omega
      have m7 : ((kx : Int) == 7) = false := by rw [beq_eq_false_iff_ne]; omega
      have m8 : ((kx : Int) == 8) = false := by rw [beq_eq_false_iff_ne]; omega
      have m9 : ((kx : Int) == 9) = false := by rw [beq_eq_false_iff_ne]; omega
      have m10 : ((kx : Int) == 10) = false := by rw [beq_eq_false_iff_ne]; omega
      have m11 : ((kx : Int) == 11) = false := by rw [beq_eq_false_iff_ne]; omega
      have m12 : ((kx : Int) == 12) = false := by rw [beq_eq_false_iff_ne]; omega
      have m13 : ((kx : Int) == 13) = false := by rw [beq_eq_false_iff_ne]; omega
      have m14 : ((kx : Int) == 14) = false := by rw [beq_eq_false_iff_ne]; omega
      have m27 : ((kx : Int) == 27) = false := by rw [beq_eq_false_iff_ne]; omega
      have m28 : ((kx : Int) == 28) = false := by rw [beq_eq_false_iff_ne]; omega
      have m29 : ((kx : Int) == 29) = false := by rw [beq_eq_false_iff_ne]; omega
      clear hk
      obtain ⟨ky, hky⟩ : ∃ ky, y.kind = ky := ⟨_, rfl⟩
      rw [hky] at p0
      replace hky := hid hky
      have n90 : ¬ 9223372036854775807 < 1 + S0.size := by omega
      have n91 : ¬ 9223372036854775807 < 1 + S0.size + 1 := by omega
      by_cases hy12 : ky = 12
      · have hbs := hid (show (⟨#[40]⟩ : ByteArray) ++ S0 ++ ⟨#[41]⟩ = bs (baseL y.kind (showT y)) by rw [hky.out, hy12, ← hS0.out]; exact ba_eq (by simp [bs, baseL]))
        have hbl : ((⟨#[40]⟩ : ByteArray) ++ S0 ++ ⟨#[41]⟩).size ≤ 34359738370 := by
          rw [ByteArray.size_append, ByteArray.size_append]
          have e1 : (⟨#[40]⟩ : ByteArray).size = 1 := rfl
          have e2 : (⟨#[41]⟩ : ByteArray).size = 1 := rfl
          omega
        replace hky := hid (hky.out.trans hy12)
        rw [hy12] at p0
        clear hy12
        go_upto_region 12 with fail
        clear n90 n91
        generalize (⟨#[40]⟩ : ByteArray) ++ S0 ++ ⟨#[41]⟩ = Bs at hbs hbl ⊢
        have u0 : ¬ 9223372036854775807 < 1 + S0.size := by omega
        have u1 : ¬ 9223372036854775807 < 1 + S0.size + 1 := by omega
        have u2 : ¬ 9223372036854775807 < 1 + S0.size + 1 + Q.size := by omega
        have u3 : ¬ 9223372036854775807 < 1 + S0.size + 1 + Q.size + 1 := by omega
        have u4 : ¬ 9223372036854775807 < 1 + S0.size + 1 + Q.size + 1 + S1.size := by omega
        have u5 : ¬ 9223372036854775807 < 1 + S0.size + 1 + Q.size + 1 + S1.size + 1 := by omega
        go_upto_region 59 with fail
        have cQ := hid (hcall.out wr.drew)
        go_region_held3 (fun Y => Y.cell? ⟨g, o, none⟩ = some (.string S0) ∧ Y.cell? ⟨w.heap.size, 0, none⟩ = some (.int .u8 (kx : Nat)) ∧ Y.cell? ⟨g, o + 1, none⟩ = some (.string S1)) (first | with_reducible exact ⟨t0, c0, t1⟩ | with_reducible exact ⟨celld t0, celld c0, celld t1⟩ | exact ⟨t0, c0, t1⟩) (first
          | (go_at_call 62
             (with_reducible refine cQ.out.mono ?_)
             rintro e X9 ⟨rfl, b9⟩
             replace t0 := cell_below b9 _ _ (show wr.drew.cell? _ = _ from t0)
             replace c0 := cell_below b9 _ _ (show wr.drew.cell? _ = _ from c0)
             replace t1 := cell_below b9 _ _ (show wr.drew.cell? _ = _ from t1)
             replace bw := hid (bt bw.out.drew b9)
             clear b9))
        go_wp2_with fail
        go_ret
        exact ⟨by
          show Ending.returned (.string ((⟨#[40]⟩ : ByteArray) ++ S0 ++ (⟨#[32]⟩ : ByteArray) ++ Q ++ (⟨#[32]⟩ : ByteArray) ++ S1 ++ (⟨#[41]⟩ : ByteArray))) = _
          rw [hsh.out]
          rw [← hQ.out, ← hS0.out, ← hS1.out]; exact congrArg (fun s => Ending.returned (.string s)) (ba_eq (by simp [bs])), bw.out⟩
      by_cases hy13 : ky = 13
      · have hbs := hid (show (⟨#[40]⟩ : ByteArray) ++ S0 ++ ⟨#[41]⟩ = bs (baseL y.kind (showT y)) by rw [hky.out, hy13, ← hS0.out]; exact ba_eq (by simp [bs, baseL]))
        have hbl : ((⟨#[40]⟩ : ByteArray) ++ S0 ++ ⟨#[41]⟩).size ≤ 34359738370 := by
          rw [ByteArray.size_append, ByteArray.size_append]
          have e1 : (⟨#[40]⟩ : ByteArray).size = 1 := rfl
          have e2 : (⟨#[41]⟩ : ByteArray).size = 1 := rfl
          omega
        replace hky := hid (hky.out.trans hy13)
        rw [hy13] at p0
        clear hy13 hy12
        go_upto_region 12 with fail
        clear n90 n91
        generalize (⟨#[40]⟩ : ByteArray) ++ S0 ++ ⟨#[41]⟩ = Bs at hbs hbl ⊢
        have u0 : ¬ 9223372036854775807 < 1 + S0.size := by omega
        have u1 : ¬ 9223372036854775807 < 1 + S0.size + 1 := by omega
        have u2 : ¬ 9223372036854775807 < 1 + S0.size + 1 + Q.size := by omega
        have u3 : ¬ 9223372036854775807 < 1 + S0.size + 1 + Q.size + 1 := by omega
        have u4 : ¬ 9223372036854775807 < 1 + S0.size + 1 + Q.size + 1 + S1.size := by omega
        have u5 : ¬ 9223372036854775807 < 1 + S0.size + 1 + Q.size + 1 + S1.size + 1 := by omega
        go_upto_region 59 with fail
        have cQ := hid (hcall.out wr.drew)
        go_region_held3 (fun Y => Y.cell? ⟨g, o, none⟩ = some (.string S0) ∧ Y.cell? ⟨w.heap.size, 0, none⟩ = some (.int .u8 (kx : Nat)) ∧ Y.cell? ⟨g, o + 1, none⟩ = some (.string S1)) (first | with_reducible exact ⟨t0, c0, t1⟩ | with_reducible exact ⟨celld t0, celld c0, celld t1⟩ | exact ⟨t0, c0, t1⟩) (first
          | (go_at_call 62
             (with_reducible refine cQ.out.mono ?_)
             rintro e X9 ⟨rfl, b9⟩
             replace t0 := cell_below b9 _ _ (show wr.drew.cell? _ = _ from t0)
             replace c0 := cell_below b9 _ _ (show wr.drew.cell? _ = _ from c0)
             replace t1 := cell_below b9 _ _ (show wr.drew.cell? _ = _ from t1)
             replace bw := hid (bt bw.out.drew b9)
             clear b9))
        go_wp2_with fail
        go_ret
        exact ⟨by
          show Ending.returned (.string ((⟨#[40]⟩ : ByteArray) ++ S0 ++ (⟨#[32]⟩ : ByteArray) ++ Q ++ (⟨#[32]⟩ : ByteArray) ++ S1 ++ (⟨#[41]⟩ : ByteArray))) = _
          rw [hsh.out]
          rw [← hQ.out, ← hS0.out, ← hS1.out]; exact congrArg (fun s => Ending.returned (.string s)) (ba_eq (by simp [bs])), bw.out⟩
      · have hbs := hid (show S0 = bs (baseL y.kind (showT y)) by rw [hky.out, ← hS0.out]; unfold baseL; rw [if_neg (by omega)])
        have hbl : S0.size ≤ 34359738370 := by omega
        have q1 : ((ky : Int) == 12) = false := by rw [beq_eq_false_iff_ne]; omega
        have q2 : ((ky : Int) == 13) = false := by rw [beq_eq_false_iff_ne]; omega
        clear hy12 hy13
        go_upto_region 12 with fail
        clear n90 n91 q1 q2
        have u0 : ¬ 9223372036854775807 < 1 + S0.size := by omega
        have u1 : ¬ 9223372036854775807 < 1 + S0.size + 1 := by omega
        have u2 : ¬ 9223372036854775807 < 1 + S0.size + 1 + Q.size := by omega
        have u3 : ¬ 9223372036854775807 < 1 + S0.size + 1 + Q.size + 1 := by omega
        have u4 : ¬ 9223372036854775807 < 1 + S0.size + 1 + Q.size + 1 + S1.size := by omega
        have u5 : ¬ 9223372036854775807 < 1 + S0.size + 1 + Q.size + 1 + S1.size + 1 := by omega
        go_upto_region 59 with fail
        have cQ := hid (hcall.out wr.drew)
        go_region_held3 (fun Y => Y.cell? ⟨g, o, none⟩ = some (.string S0) ∧ Y.cell? ⟨w.heap.size, 0, none⟩ = some (.int .u8 (kx : Nat)) ∧ Y.cell? ⟨g, o + 1, none⟩ = some (.string S1)) (first | with_reducible exact ⟨t0, c0, t1⟩ | with_reducible exact ⟨celld t0, celld c0, celld t1⟩ | exact ⟨t0, c0, t1⟩) (first
          | (go_at_call 62
             (with_reducible refine cQ.out.mono ?_)
             rintro e X9 ⟨rfl, b9⟩
             replace t0 := cell_below b9 _ _ (show wr.drew.cell? _ = _ from t0)
             replace c0 := cell_below b9 _ _ (show wr.drew.cell? _ = _ from c0)
             replace t1 := cell_below b9 _ _ (show wr.drew.cell? _ = _ from t1)
             replace bw := hid (bt bw.out.drew b9)
             clear b9))
        go_wp2_with fail
        go_ret
        exact ⟨by
          show Ending.returned (.string ((⟨#[40]⟩ : ByteArray) ++ S0 ++ (⟨#[32]⟩ : ByteArray) ++ Q ++ (⟨#[32]⟩ : ByteArray) ++ S1 ++ (⟨#[41]⟩ : ByteArray))) = _
          rw [hsh.out]
          rw [← hQ.out, ← hS0.out, ← hS1.out]; exact congrArg (fun s => Ending.returned (.string s)) (ba_eq (by simp [bs])), bw.out⟩
end Go.Proofs.YtbcjppbiihgfpaaGreatDoor.Ex
namespace Go.Proofs.YtbcjppbiihgfpaaGreatDoor.Ex
open Go.ChangeShapes Go.WideShapes Go.ChangeAt Go.RowKit
open Go.Proofs.YtbcjppbiihgfpaaGreatDoor.Mem Go.Proofs.YtbcjppbiihgfpaaGreatDoor.Lik
set_option linter.unusedVariables false
set_option linter.unusedSimpArgs false
set_option maxRecDepth 100000
set_option maxHeartbeats 16000000 in
theorem rshow_call27 (x : T) (ih : ∀ z ∈ x.list, RShow z) (hk : x.kind = 27) : RShow x := by
  intro w h hz hr
  obtain ⟨⟨y, z, hl⟩, hk29⟩ := kids2 hr (by omega)
  have hym : y ∈ x.list := by rw [hl]; simp
  have ho0 : 0 < x.list.length := by rw [hl]; simp
  have hy0 : x.list[0] = y := List.getElem_of_eq hl _
  have hzm : z ∈ x.list := by rw [hl]; simp
  have ho1 : 1 < x.list.length := by rw [hl]; simp
  have hz0 : x.list[1] = z := List.getElem_of_eq hl _
  have hsh : showT x = baseL y.kind (showT y) ++ ([46] ++ (spellT x.kind ++ ([40] ++ (showT z ++ [41])))) := by
    rw [showT_eq, hl]
    unfold nodeS
    have e : kk x = y.kind := by unfold kk; rw [hl]; rfl
    rw [if_neg (by omega), if_neg (by omega), if_neg (by omega), if_neg (by omega), if_neg (by omega), if_neg (by omega), if_neg (by omega), if_neg (by omega), if_neg (by omega), if_neg (by omega), if_neg (by omega), if_neg (by omega), if_neg (by omega), if_neg (by omega), if_pos (by omega), e]
    rfl
  have hcall := hid (fun W => word_any x.kind (by omega) W)
  have hql := hid (spellT_len x.kind)
  obtain ⟨no, nc, lo, lc, e1, e2, l1, l2⟩ := h.forms
  obtain ⟨xb, xo, rfl⟩ := base_of h e2 ho0
  replace hy0 := hid hy0
  replace ho0 := hid ho0
  replace hym := hid hym
  replace hz0 := hid hz0
  replace ho1 := hid ho1
  replace hzm := hid hzm
  replace hsh := hid hsh
  have hl' := hid hl
  clear hl
  obtain ⟨i0, hi, iz0, iz1, iz2⟩ := info_string
  have hll : x.list.length * 16 ≤ 140737488355328 := by have := h.parts.1.2.2; omega
  obtain ⟨n, hn⟩ : ∃ n, x.list.length = n := ⟨_, rfl⟩
  rw [T.val_eq e1 e2]
  rw [hn] at hll l2 ⊢
  rw [hn] at e2
  have i1 : (x.names.length : Int) ≤ 9223372036854775807 := by omega
  have i2 : (n : Int) ≤ 9223372036854775807 := by omega
  have hrec0 := hid (fun (z : T) (hz' : z ∈ x.list) W (b : Below w.heap.size w W) => ih z hz' W ((h.below b).parts.2.2.2.2.2.2.2 z hz') (by have := T.size_part hz'; omega) (right_kid hr hz'))
  have hpl := hid (fun (z : T) (hz' : z ∈ x.list) => part_len h hz hr hz')
  have hwl := hid (whole_len h hz hr)
  have h' := hid h
  have e2' := hid e2
  have hn' := hid hn
  clear ih h e1 e2 hn hz hr l1 l2
  replace hk := hid hk
  go_enter Tryz.func26, Tryz.ntmps26
  go_upto_region 1 with fail
  have K1 := hid (Blk.new w [.int .u8 (x.kind : Nat), .int .i64 x.num, .string x.str, .string x.typ, .slice no x.names.length nc, .slice (some ⟨xb, xo, none⟩) n lc] 26)
  have bw := hid ((Below.refl w.heap.size w).alloc (Nat.le_refl _) (.cells #[.int .u8 (x.kind : Nat), .int .i64 x.num, .string x.str, .string x.typ, .slice no x.names.length nc, .slice (some ⟨xb, xo, none⟩) n lc] 26))
  have hBB := hid (show w.heap.size + 1 ≤ (w.alloc (.cells #[.int .u8 (x.kind : Nat), .int .i64 x.num, .string x.str, .string x.typ, .slice no x.names.length nc, .slice (some ⟨xb, xo, none⟩) n lc] 26)).heap.size by simp)
  generalize w.alloc (.cells #[.int .u8 (x.kind : Nat), .int .i64 x.num, .string x.str, .string x.typ, .slice no x.names.length nc, .slice (some ⟨xb, xo, none⟩) n lc] 26) = X0 at K1 bw hBB ⊢
  obtain ⟨c0, c1, c2, c3, c4, c5, cf⟩ := six K1.out
  go_wp2_with fail
  clear c0 c1 c2 c3 c4 c5 cf
  go_loopw [3, 13] (fun av i wr => ∃ k : Nat, k ≤ n ∧ i = .int .i64 k ∧ (∃ ao cap, av = .slice ao k cap ∧ Hid (wr.ownsRow (w.heap.size + 1) 9 1 (.slice ao k cap) k (ksC (x.list.take k)))) ∧ Hid (Blk wr w.heap.size [.int .u8 (x.kind : Nat), .int .i64 x.num, .string x.str, .string x.typ, .slice no x.names.length nc, .slice (some ⟨xb, xo, none⟩) n lc] 26) ∧ Hid (w.heap.size + 1 ≤ wr.heap.size) ∧ Hid (Below w.heap.size w wr)) (fun _ i _ => n - (intOf i).toNat)
  case atStart => exact ⟨0, by omega, rfl, ⟨none, 0, rfl, hid (World.ownsRow_nil _ _ _ _)⟩, K1, hBB, bw⟩
  case round =>
    clear K1 bw hBB
    obtain ⟨k, hkn, rfl, ⟨ao, cap, rfl, hown⟩, K1, hBB, bw⟩ := hrel
    rename_i wr _
    by_cases hkl : k < n
    · have hki : (k : Int) < (n : Int) := by omega
      have hkx : k < x.list.length := by rw [hn'.out]; exact hkl
      obtain ⟨zb, zo, hzo, d0, d1, d2, d3, d4, d5⟩ := (h'.out.below bw.out).part6 (lo := (some ⟨xb, xo, none⟩)) (lc := lc) (by rw [e2'.out, hn'.out]) k hkx
      have hzok := (h'.out.parts.2.2.2.2.2.2.2 _ (List.getElem_mem hkx)).forms
      have hrec := hid (hrec0.out x.list[k] (List.getElem_mem hkx))
      have hst := hid (ksC_step x.list k hkx)
      generalize x.list[k] = z at d0 d1 d2 d3 d4 d5 hrec hzok hst
      obtain ⟨zno, znc, zlo, zlc, ez1, ez2, zl1, zl2⟩ := hzok
      have hzv := T.val_eq ez1 ez2
      rw [ez1] at d4
      rw [ez2] at d5
      replace hrec := hid (show ∀ W, Below w.heap.size w W → Calls Tryz.prog 26 #[.agg #[.int .u8 (z.kind : Nat), .int .i64 z.num, .string z.str, .string z.typ, .slice zno z.names.length znc, .slice zlo z.list.length zlc]] W fun e w' => e = .returned (.string (bs (showT z))) ∧ Below W.heap.size W w' from hzv ▸ hrec.out)
      clear ez1 ez2 hzv
      obtain ⟨rfl, rfl⟩ : xb = zb ∧ xo = zo := by simpa using hzo
      clear hzo
      generalize bs (showT z) = sz at *
      go_upto_region 5 with fail
      have K4 := hid (Blk.new wr [.int .u8 (z.kind : Nat), .int .i64 z.num, .string z.str, .string z.typ, .slice zno z.names.length znc, .slice zlo z.list.length zlc] 26)
      have hb4 := (Below.refl wr.heap.size wr).alloc (Nat.le_refl _) (.cells #[.int .u8 (z.kind : Nat), .int .i64 z.num, .string z.str, .string z.typ, .slice zno z.names.length znc, .slice zlo z.list.length zlc] 26)
      replace K1 := hid (K1.out.below hb4 K1.out.lt)
      replace hown := hid (ownsRow_below hown.out hb4)
      replace hBB := hid (Nat.le_trans hBB.out hb4.size)
      replace bw := hid (bt bw.out hb4)
      clear d0 d1 d2 d3 d4 d5 hb4
      generalize wr.alloc (.cells #[.int .u8 (z.kind : Nat), .int .i64 z.num, .string z.str, .string z.typ, .slice zno z.names.length znc, .slice zlo z.list.length zlc] 26) = X3 at K1 K4 hown hBB bw ⊢
      obtain ⟨f0, f1, f2, f3, f4, f5, ff⟩ := six K4.out
      go_wp2_with fail
      refine (hrec.out _ bw.out).mono ?_
      rintro e X4 ⟨rfl, b4⟩
      replace K1 := hid (K1.out.below b4 K1.out.lt)
      replace hown := hid (ownsRow_below hown.out b4)
      replace hBB := hid (Nat.le_trans hBB.out b4.size)
      replace bw := hid (bt bw.out b4)
      clear f0 f1 f2 f3 f4 f5 ff K4 b4 hrec
      go_wp2_with (at_builtin; refine wpList_append_own _ rfl _ _ 23 rfl (w.heap.size + 1) 9 i0 (.string ⟨#[]⟩) 1 16 Tryz.underlying23 hi iz0 iz1 iz2 rfl (by decide) _ _ _ rfl (ownsRow_below hown.out ((Below.refl _ _).alloc (Nat.le_refl _) _)) ⟨X4.heap.size, 0, none⟩ 1 1 [.string sz] rfl rfl ?c1 ?c2 ?c3 ?c4 ?c5 ?_)
      case c1 =>
        intro j u hj
        match j, hj with
        | 0, hj => simp at hj; subst hj; simp [Addr.add]
      case c2 => intro u hu; simp at hu; subst hu; rfl
      case c3 => unfold maxLen; omega
      case c4 => omega
      case c5 => have := hBB.out; simp; omega
      intro v' X5 hown5 hgr _
      have hlt0 := fun q (hq : (Value.slice ao k cap).ownBlock = some q) => hown.out.lt q hq
      have hbn := hid (show Below w.heap.size w X5 from (bw.out.alloc bw.out.size _).grown hgr (by have := bw.out.size; simp; omega) (fun q hq => by have := (hlt0 q hq).1; omega))
      have K1n := hid (show Blk X5 w.heap.size [.int .u8 (x.kind : Nat), .int .i64 x.num, .string x.str, .string x.typ, .slice no x.names.length nc, .slice (some ⟨xb, xo, none⟩) n lc] 26 from ⟨(hgr.block _ (by have := K1.out.lt; simp; omega) (fun e => by have := (hlt0 _ e.symm).1; omega)).trans (K1.out.alloc _).at'⟩)
      have hBn := hid (show w.heap.size + 1 ≤ X5.heap.size from by have h1 := hgr.size; have h2 := hBB.out; simp at h1; omega)
      obtain ⟨ao', cap', rfl, _, _⟩ := ownsRow_form hown5
      have hownn := hid (show X5.ownsRow (w.heap.size + 1) 9 1 (.slice ao' (k + 1) cap') (k + 1) (ksC (x.list.take (k + 1))) from by rw [hst.out]; exact hown5)
      clear hown5 hgr hlt0 K1 hBB bw hown hst
      go_wp2_with fail
      go_roundw
      case rel => exact ⟨k + 1, by omega, by go_num, ⟨ao', cap', rfl, hownn⟩, K1n, hBn, hbn⟩
      case measure => simp [intOf]; omega
    · have hki : ¬ (k : Int) < (n : Int) := by omega
      obtain rfl : k = n := by omega
      replace hown := hid (show wr.ownsRow (w.heap.size + 1) 9 1 (.slice ao k cap) k (ksC x.list) from by have := hown.out; rwa [List.take_of_length_le (by rw [hn'.out]; exact Nat.le_refl _)] at this)
      obtain ⟨g, o, rfl, hks⟩ := ks_open (g := 0) hown.out hn'.out (by have := hn'.out; rw [← this]; exact ho0.out)
      have t0 := hks 0 ho0.out
      rw [hy0.out] at t0
      rw [Nat.add_zero] at t0
      have s0 := hpl.out y hym.out
      have t1 := hks 1 ho1.out
      rw [hz0.out] at t1
      have s1 := hpl.out z hzm.out
      obtain ⟨yb, yo, hyo, p0, _⟩ := (h'.out.below bw.out).part6 (lo := some ⟨xb, xo, none⟩) (lc := lc) (by rw [e2'.out, hn'.out]) 0 ho0.out
      obtain ⟨rfl, rfl⟩ : xb = yb ∧ xo = yo := by simpa using hyo
      rw [hy0.out, Nat.zero_mul, Nat.add_zero] at p0
      have hk1 : k = 2 := by rw [← hn'.out, hl'.out]; rfl
      subst hk1
      clear hks hyo
      have b0 : (bs (showT y)).size ≤ 34359738368 := by rw [bs_size]; exact s0
      obtain ⟨S0, hS0⟩ : ∃ S, bs (showT y) = S := ⟨_, rfl⟩
      rw [hS0] at t0 b0
      replace hS0 := hid hS0
      clear s0
      have b1 : (bs (showT z)).size ≤ 34359738368 := by rw [bs_size]; exact s1
      obtain ⟨S1, hS1⟩ : ∃ S, bs (showT z) = S := ⟨_, rfl⟩
      rw [hS1] at t1 b1
      replace hS1 := hid hS1
      clear s1
      obtain ⟨c0, c1, c2, c3, c4, c5, cf⟩ := six K1.out
      replace hk := hk.out
      have bq : (bs (spellT x.kind)).size ≤ 11 := by rw [bs_size]; exact hql.out
      obtain ⟨Q, hQ⟩ : ∃ Q, bs (spellT x.kind) = Q := ⟨_, rfl⟩
      rw [hQ] at bq hcall
      replace hQ := hid hQ
      rw [hk] at c0 hcall
      obtain ⟨ky, hky⟩ : ∃ ky, y.kind = ky := ⟨_, rfl⟩
      rw [hky] at p0
      replace hky := hid hky
      have n90 : ¬ 9223372036854775807 < 1 + S0.size := by omega
      have n91 : ¬ 9223372036854775807 < 1 + S0.size + 1 := by omega
      by_cases hy12 : ky = 12
      · have hbs := hid (show (⟨#[40]⟩ : ByteArray) ++ S0 ++ ⟨#[41]⟩ = bs (baseL y.kind (showT y)) by rw [hky.out, hy12, ← hS0.out]; exact ba_eq (by simp [bs, baseL]))
        have hbl : ((⟨#[40]⟩ : ByteArray) ++ S0 ++ ⟨#[41]⟩).size ≤ 34359738370 := by
          rw [ByteArray.size_append, ByteArray.size_append]
          have e1 : (⟨#[40]⟩ : ByteArray).size = 1 := rfl
          have e2 : (⟨#[41]⟩ : ByteArray).size = 1 := rfl
          omega
        replace hky := hid (hky.out.trans hy12)
        rw [hy12] at p0
        clear hy12
        go_upto_region 12 with fail
        clear n90 n91
        generalize (⟨#[40]⟩ : ByteArray) ++ S0 ++ ⟨#[41]⟩ = Bs at hbs hbl ⊢
        have u0 : ¬ 9223372036854775807 < Bs.size + 1 := by omega
        have u1 : ¬ 9223372036854775807 < Bs.size + 1 + Q.size := by omega
        have u2 : ¬ 9223372036854775807 < Bs.size + 1 + Q.size + 1 := by omega
        have u3 : ¬ 9223372036854775807 < Bs.size + 1 + Q.size + 1 + S1.size := by omega
        have u4 : ¬ 9223372036854775807 < Bs.size + 1 + Q.size + 1 + S1.size + 1 := by omega
        go_upto_region 58 with fail
        have cQ := hid (show Calls Tryz.prog 61 #[.int .u8 27] wr.drew _ from hcall.out wr.drew)
        go_region_held3 (fun Y => Y.cell? ⟨w.heap.size, 0, none⟩ = some (.int .u8 27) ∧ Y.cell? ⟨g, o + 1, none⟩ = some (.string S1)) (first | with_reducible exact ⟨c0, t1⟩ | with_reducible exact ⟨celld c0, celld t1⟩ | exact ⟨c0, t1⟩) (first
          | (go_at_call 61
             (with_reducible refine cQ.out.mono ?_)
             rintro e X9 ⟨rfl, b9⟩
             replace c0 := cell_below b9 _ _ (show wr.drew.cell? _ = _ from c0)
             replace t1 := cell_below b9 _ _ (show wr.drew.cell? _ = _ from t1)
             replace bw := hid (bt bw.out.drew b9)
             clear b9))
        go_wp2_with fail
        go_ret
        exact ⟨by
          show Ending.returned (.string (Bs ++ (⟨#[46]⟩ : ByteArray) ++ Q ++ (⟨#[40]⟩ : ByteArray) ++ S1 ++ (⟨#[41]⟩ : ByteArray))) = _
          rw [hsh.out]
          rw [hbs.out, ← hQ.out, ← hS1.out]; exact congrArg (fun s => Ending.returned (.string s)) (ba_eq (by simp [bs])), bw.out⟩
      by_cases hy13 : ky = 13
      · have hbs := hid (show (⟨#[40]⟩ : ByteArray) ++ S0 ++ ⟨#[41]⟩ = bs (baseL y.kind (showT y)) by rw [hky.out, hy13, ← hS0.out]; exact ba_eq (by simp [bs, baseL]))
        have hbl : ((⟨#[40]⟩ : ByteArray) ++ S0 ++ ⟨#[41]⟩).size ≤ 34359738370 := by
          rw [ByteArray.size_append, ByteArray.size_append]
          have e1 : (⟨#[40]⟩ : ByteArray).size = 1 := rfl
          have e2 : (⟨#[41]⟩ : ByteArray).size = 1 := rfl
          omega
        replace hky := hid (hky.out.trans hy13)
        rw [hy13] at p0
        clear hy13 hy12
        go_upto_region 12 with fail
        clear n90 n91
        generalize (⟨#[40]⟩ : ByteArray) ++ S0 ++ ⟨#[41]⟩ = Bs at hbs hbl ⊢
        have u0 : ¬ 9223372036854775807 < Bs.size + 1 := by omega
        have u1 : ¬ 9223372036854775807 < Bs.size + 1 + Q.size := by omega
        have u2 : ¬ 9223372036854775807 < Bs.size + 1 + Q.size + 1 := by omega
        have u3 : ¬ 9223372036854775807 < Bs.size + 1 + Q.size + 1 + S1.size := by omega
        have u4 : ¬ 9223372036854775807 < Bs.size + 1 + Q.size + 1 + S1.size + 1 := by omega
        go_upto_region 58 with fail
        have cQ := hid (show Calls Tryz.prog 61 #[.int .u8 27] wr.drew _ from hcall.out wr.drew)
        go_region_held3 (fun Y => Y.cell? ⟨w.heap.size, 0, none⟩ = some (.int .u8 27) ∧ Y.cell? ⟨g, o + 1, none⟩ = some (.string S1)) (first | with_reducible exact ⟨c0, t1⟩ | with_reducible exact ⟨celld c0, celld t1⟩ | exact ⟨c0, t1⟩) (first
          | (go_at_call 61
             (with_reducible refine cQ.out.mono ?_)
             rintro e X9 ⟨rfl, b9⟩
             replace c0 := cell_below b9 _ _ (show wr.drew.cell? _ = _ from c0)
             replace t1 := cell_below b9 _ _ (show wr.drew.cell? _ = _ from t1)
             replace bw := hid (bt bw.out.drew b9)
             clear b9))
        go_wp2_with fail
        go_ret
        exact ⟨by
          show Ending.returned (.string (Bs ++ (⟨#[46]⟩ : ByteArray) ++ Q ++ (⟨#[40]⟩ : ByteArray) ++ S1 ++ (⟨#[41]⟩ : ByteArray))) = _
          rw [hsh.out]
          rw [hbs.out, ← hQ.out, ← hS1.out]; exact congrArg (fun s => Ending.returned (.string s)) (ba_eq (by simp [bs])), bw.out⟩
      · have hbs := hid (show S0 = bs (baseL y.kind (showT y)) by rw [hky.out, ← hS0.out]; unfold baseL; rw [if_neg (by omega)])
        have hbl : S0.size ≤ 34359738370 := by omega
        have q1 : ((ky : Int) == 12) = false := by rw [beq_eq_false_iff_ne]; omega
        have q2 : ((ky : Int) == 13) = false := by rw [beq_eq_false_iff_ne]; omega
        clear hy12 hy13
        go_upto_region 12 with fail
        clear n90 n91 q1 q2
        have u0 : ¬ 9223372036854775807 < S0.size + 1 := by omega
        have u1 : ¬ 9223372036854775807 < S0.size + 1 + Q.size := by omega
        have u2 : ¬ 9223372036854775807 < S0.size + 1 + Q.size + 1 := by omega
        have u3 : ¬ 9223372036854775807 < S0.size + 1 + Q.size + 1 + S1.size := by omega
        have u4 : ¬ 9223372036854775807 < S0.size + 1 + Q.size + 1 + S1.size + 1 := by omega
        go_upto_region 58 with fail
        have cQ := hid (show Calls Tryz.prog 61 #[.int .u8 27] wr.drew _ from hcall.out wr.drew)
        go_region_held3 (fun Y => Y.cell? ⟨w.heap.size, 0, none⟩ = some (.int .u8 27) ∧ Y.cell? ⟨g, o + 1, none⟩ = some (.string S1)) (first | with_reducible exact ⟨c0, t1⟩ | with_reducible exact ⟨celld c0, celld t1⟩ | exact ⟨c0, t1⟩) (first
          | (go_at_call 61
             (with_reducible refine cQ.out.mono ?_)
             rintro e X9 ⟨rfl, b9⟩
             replace c0 := cell_below b9 _ _ (show wr.drew.cell? _ = _ from c0)
             replace t1 := cell_below b9 _ _ (show wr.drew.cell? _ = _ from t1)
             replace bw := hid (bt bw.out.drew b9)
             clear b9))
        go_wp2_with fail
        go_ret
        exact ⟨by
          show Ending.returned (.string (S0 ++ (⟨#[46]⟩ : ByteArray) ++ Q ++ (⟨#[40]⟩ : ByteArray) ++ S1 ++ (⟨#[41]⟩ : ByteArray))) = _
          rw [hsh.out]
          rw [hbs.out, ← hQ.out, ← hS1.out]; exact congrArg (fun s => Ending.returned (.string s)) (ba_eq (by simp [bs])), bw.out⟩
end Go.Proofs.YtbcjppbiihgfpaaGreatDoor.Ex
namespace Go.Proofs.YtbcjppbiihgfpaaGreatDoor.Ex
open Go.ChangeShapes Go.WideShapes Go.ChangeAt Go.RowKit
open Go.Proofs.YtbcjppbiihgfpaaGreatDoor.Mem Go.Proofs.YtbcjppbiihgfpaaGreatDoor.Lik
set_option linter.unusedVariables false
set_option linter.unusedSimpArgs false
set_option maxRecDepth 100000
set_option maxHeartbeats 16000000 in
theorem rshow_call28 (x : T) (ih : ∀ z ∈ x.list, RShow z) (hk : x.kind = 28) : RShow x := by
  intro w h hz hr
  obtain ⟨⟨y, z, hl⟩, hk29⟩ := kids2 hr (by omega)
  have hym : y ∈ x.list := by rw [hl]; simp
  have ho0 : 0 < x.list.length := by rw [hl]; simp
  have hy0 : x.list[0] = y := List.getElem_of_eq hl _
  have hzm : z ∈ x.list := by rw [hl]; simp
  have ho1 : 1 < x.list.length := by rw [hl]; simp
  have hz0 : x.list[1] = z := List.getElem_of_eq hl _
  have hsh : showT x = baseL y.kind (showT y) ++ ([46] ++ (spellT x.kind ++ ([40] ++ (showT z ++ [41])))) := by
    rw [showT_eq, hl]
    unfold nodeS
    have e : kk x = y.kind := by unfold kk; rw [hl]; rfl
    rw [if_neg (by omega), if_neg (by omega), if_neg (by omega), if_neg (by omega), if_neg (by omega), if_neg (by omega), if_neg (by omega), if_neg (by omega), if_neg (by omega), if_neg (by omega), if_neg (by omega), if_neg (by omega), if_neg (by omega), if_neg (by omega), if_pos (by omega), e]
    rfl
  have hcall := hid (fun W => word_any x.kind (by omega) W)
  have hql := hid (spellT_len x.kind)
  obtain ⟨no, nc, lo, lc, e1, e2, l1, l2⟩ := h.forms
  obtain ⟨xb, xo, rfl⟩ := base_of h e2 ho0
  replace hy0 := hid hy0
  replace ho0 := hid ho0
  replace hym := hid hym
  replace hz0 := hid hz0
  replace ho1 := hid ho1
  replace hzm := hid hzm
  replace hsh := hid hsh
  have hl' := hid hl
  clear hl
  obtain ⟨i0, hi, iz0, iz1, iz2⟩ := info_string
  have hll : x.list.length * 16 ≤ 140737488355328 := by have := h.parts.1.2.2; omega
  obtain ⟨n, hn⟩ : ∃ n, x.list.length = n := ⟨_, rfl⟩
  rw [T.val_eq e1 e2]
  rw [hn] at hll l2 ⊢
  rw [hn] at e2
  have i1 : (x.names.length : Int) ≤ 9223372036854775807 := by omega
  have i2 : (n : Int) ≤ 9223372036854775807 := by omega
  have hrec0 := hid (fun (z : T) (hz' : z ∈ x.list) W (b : Below w.heap.size w W) => ih z hz' W ((h.below b).parts.2.2.2.2.2.2.2 z hz') (by have := T.size_part hz'; omega) (right_kid hr hz'))
  have hpl := hid (fun (z : T) (hz' : z ∈ x.list) => part_len h hz hr hz')
  have hwl := hid (whole_len h hz hr)
  have h' := hid h
  have e2' := hid e2
  have hn' := hid hn
  clear ih h e1 e2 hn hz hr l1 l2
  replace hk := hid hk
  go_enter Tryz.func26, Tryz.ntmps26
  go_upto_region 1 with fail
  have K1 := hid (Blk.new w [.int .u8 (x.kind : Nat), .int .i64 x.num, .string x.str, .string x.typ, .slice no x.names.length nc, .slice (some ⟨xb, xo, none⟩) n lc] 26)
  have bw := hid ((Below.refl w.heap.size w).alloc (Nat.le_refl _) (.cells #[.int .u8 (x.kind : Nat), .int .i64 x.num, .string x.str, .string x.typ, .slice no x.names.length nc, .slice (some ⟨xb, xo, none⟩) n lc] 26))
  have hBB := hid (show w.heap.size + 1 ≤ (w.alloc (.cells #[.int .u8 (x.kind : Nat), .int .i64 x.num, .string x.str, .string x.typ, .slice no x.names.length nc, .slice (some ⟨xb, xo, none⟩) n lc] 26)).heap.size by simp)
  generalize w.alloc (.cells #[.int .u8 (x.kind : Nat), .int .i64 x.num, .string x.str, .string x.typ, .slice no x.names.length nc, .slice (some ⟨xb, xo, none⟩) n lc] 26) = X0 at K1 bw hBB ⊢
  obtain ⟨c0, c1, c2, c3, c4, c5, cf⟩ := six K1.out
  go_wp2_with fail
  clear c0 c1 c2 c3 c4 c5 cf
  go_loopw [3, 13] (fun av i wr => ∃ k : Nat, k ≤ n ∧ i = .int .i64 k ∧ (∃ ao cap, av = .slice ao k cap ∧ Hid (wr.ownsRow (w.heap.size + 1) 9 1 (.slice ao k cap) k (ksC (x.list.take k)))) ∧ Hid (Blk wr w.heap.size [.int .u8 (x.kind : Nat), .int .i64 x.num, .string x.str, .string x.typ, .slice no x.names.length nc, .slice (some ⟨xb, xo, none⟩) n lc] 26) ∧ Hid (w.heap.size + 1 ≤ wr.heap.size) ∧ Hid (Below w.heap.size w wr)) (fun _ i _ => n - (intOf i).toNat)
  case atStart => exact ⟨0, by omega, rfl, ⟨none, 0, rfl, hid (World.ownsRow_nil _ _ _ _)⟩, K1, hBB, bw⟩
  case round =>
    clear K1 bw hBB
    obtain ⟨k, hkn, rfl, ⟨ao, cap, rfl, hown⟩, K1, hBB, bw⟩ := hrel
    rename_i wr _
    by_cases hkl : k < n
    · have hki : (k : Int) < (n : Int) := by omega
      have hkx : k < x.list.length := by rw [hn'.out]; exact hkl
      obtain ⟨zb, zo, hzo, d0, d1, d2, d3, d4, d5⟩ := (h'.out.below bw.out).part6 (lo := (some ⟨xb, xo, none⟩)) (lc := lc) (by rw [e2'.out, hn'.out]) k hkx
      have hzok := (h'.out.parts.2.2.2.2.2.2.2 _ (List.getElem_mem hkx)).forms
      have hrec := hid (hrec0.out x.list[k] (List.getElem_mem hkx))
      have hst := hid (ksC_step x.list k hkx)
      generalize x.list[k] = z at d0 d1 d2 d3 d4 d5 hrec hzok hst
      obtain ⟨zno, znc, zlo, zlc, ez1, ez2, zl1, zl2⟩ := hzok
      have hzv := T.val_eq ez1 ez2
      rw [ez1] at d4
      rw [ez2] at d5
      replace hrec := hid (show ∀ W, Below w.heap.size w W → Calls Tryz.prog 26 #[.agg #[.int .u8 (z.kind : Nat), .int .i64 z.num, .string z.str, .string z.typ, .slice zno z.names.length znc, .slice zlo z.list.length zlc]] W fun e w' => e = .returned (.string (bs (showT z))) ∧ Below W.heap.size W w' from hzv ▸ hrec.out)
      clear ez1 ez2 hzv
      obtain ⟨rfl, rfl⟩ : xb = zb ∧ xo = zo := by simpa using hzo
      clear hzo
      generalize bs (showT z) = sz at *
      go_upto_region 5 with fail
      have K4 := hid (Blk.new wr [.int .u8 (z.kind : Nat), .int .i64 z.num, .string z.str, .string z.typ, .slice zno z.names.length znc, .slice zlo z.list.length zlc] 26)
      have hb4 := (Below.refl wr.heap.size wr).alloc (Nat.le_refl _) (.cells #[.int .u8 (z.kind : Nat), .int .i64 z.num, .string z.str, .string z.typ, .slice zno z.names.length znc, .slice zlo z.list.length zlc] 26)
      replace K1 := hid (K1.out.below hb4 K1.out.lt)
      replace hown := hid (ownsRow_below hown.out hb4)
      replace hBB := hid (Nat.le_trans hBB.out hb4.size)
      replace bw := hid (bt bw.out hb4)
      clear d0 d1 d2 d3 d4 d5 hb4
      generalize wr.alloc (.cells #[.int .u8 (z.kind : Nat), .int .i64 z.num, .string z.str, .string z.typ, .slice zno z.names.length znc, .slice zlo z.list.length zlc] 26) = X3 at K1 K4 hown hBB bw ⊢
      obtain ⟨f0, f1, f2, f3, f4, f5, ff⟩ := six K4.out
      go_wp2_with fail
      refine (hrec.out _ bw.out).mono ?_
      rintro e X4 ⟨rfl, b4⟩
      replace K1 := hid (K1.out.below b4 K1.out.lt)
      replace hown := hid (ownsRow_below hown.out b4)
      replace hBB := hid (Nat.le_trans hBB.out b4.size)
      replace bw := hid (bt bw.out b4)
      clear f0 f1 f2 f3 f4 f5 ff K4 b4 hrec
      go_wp2_with (at_builtin; refine wpList_append_own _ rfl _ _ 23 rfl (w.heap.size + 1) 9 i0 (.string ⟨#[]⟩) 1 16 Tryz.underlying23 hi iz0 iz1 iz2 rfl (by decide) _ _ _ rfl (ownsRow_below hown.out ((Below.refl _ _).alloc (Nat.le_refl _) _)) ⟨X4.heap.size, 0, none⟩ 1 1 [.string sz] rfl rfl ?c1 ?c2 ?c3 ?c4 ?c5 ?_)
      case c1 =>
        intro j u hj
        match j, hj with
        | 0, hj => simp at hj; subst hj; simp [Addr.add]
      case c2 => intro u hu; simp at hu; subst hu; rfl
      case c3 => unfold maxLen; omega
      case c4 => omega
      case c5 => have := hBB.out; simp; omega
      intro v' X5 hown5 hgr _
      have hlt0 := fun q (hq : (Value.slice ao k cap).ownBlock = some q) => hown.out.lt q hq
      have hbn := hid (show Below w.heap.size w X5 from (bw.out.alloc bw.out.size _).grown hgr (by have := bw.out.size; simp; omega) (fun q hq => by have := (hlt0 q hq).1; omega))
      have K1n := hid (show Blk X5 w.heap.size [.int .u8 (x.kind : Nat), .int .i64 x.num, .string x.str, .string x.typ, .slice no x.names.length nc, .slice (some ⟨xb, xo, none⟩) n lc] 26 from ⟨(hgr.block _ (by have := K1.out.lt; simp; omega) (fun e => by have := (hlt0 _ e.symm).1; omega)).trans (K1.out.alloc _).at'⟩)
      have hBn := hid (show w.heap.size + 1 ≤ X5.heap.size from by have h1 := hgr.size; have h2 := hBB.out; simp at h1; omega)
      obtain ⟨ao', cap', rfl, _, _⟩ := ownsRow_form hown5
      have hownn := hid (show X5.ownsRow (w.heap.size + 1) 9 1 (.slice ao' (k + 1) cap') (k + 1) (ksC (x.list.take (k + 1))) from by rw [hst.out]; exact hown5)
      clear hown5 hgr hlt0 K1 hBB bw hown hst
      go_wp2_with fail
      go_roundw
      case rel => exact ⟨k + 1, by omega, by go_num, ⟨ao', cap', rfl, hownn⟩, K1n, hBn, hbn⟩
      case measure => simp [intOf]; omega
    · have hki : ¬ (k : Int) < (n : Int) := by omega
      obtain rfl : k = n := by omega
      replace hown := hid (show wr.ownsRow (w.heap.size + 1) 9 1 (.slice ao k cap) k (ksC x.list) from by have := hown.out; rwa [List.take_of_length_le (by rw [hn'.out]; exact Nat.le_refl _)] at this)
      obtain ⟨g, o, rfl, hks⟩ := ks_open (g := 0) hown.out hn'.out (by have := hn'.out; rw [← this]; exact ho0.out)
      have t0 := hks 0 ho0.out
      rw [hy0.out] at t0
      rw [Nat.add_zero] at t0
      have s0 := hpl.out y hym.out
      have t1 := hks 1 ho1.out
      rw [hz0.out] at t1
      have s1 := hpl.out z hzm.out
      obtain ⟨yb, yo, hyo, p0, _⟩ := (h'.out.below bw.out).part6 (lo := some ⟨xb, xo, none⟩) (lc := lc) (by rw [e2'.out, hn'.out]) 0 ho0.out
      obtain ⟨rfl, rfl⟩ : xb = yb ∧ xo = yo := by simpa using hyo
      rw [hy0.out, Nat.zero_mul, Nat.add_zero] at p0
      have hk1 : k = 2 := by rw [← hn'.out, hl'.out]; rfl
      subst hk1
      clear hks hyo
      have b0 : (bs (showT y)).size ≤ 34359738368 := by rw [bs_size]; exact s0
      obtain ⟨S0, hS0⟩ : ∃ S, bs (showT y) = S := ⟨_, rfl⟩
      rw [hS0] at t0 b0
      replace hS0 := hid hS0
      clear s0
      have b1 : (bs (showT z)).size ≤ 34359738368 := by rw [bs_size]; exact s1
      obtain ⟨S1, hS1⟩ : ∃ S, bs (showT z) = S := ⟨_, rfl⟩
      rw [hS1] at t1 b1
      replace hS1 := hid hS1
      clear s1
      obtain ⟨c0, c1, c2, c3, c4, c5, cf⟩ := six K1.out
      replace hk := hk.out
      have bq : (bs (spellT x.kind)).size ≤ 11 := by rw [bs_size]; exact hql.out
      obtain ⟨Q, hQ⟩ : ∃ Q, bs (spellT x.kind) = Q := ⟨_, rfl⟩
      rw [hQ] at bq hcall
      replace hQ := hid hQ
      rw [hk] at c0 hcall
      obtain ⟨ky, hky⟩ : ∃ ky, y.kind = ky := ⟨_, rfl⟩
      rw [hky] at p0
      replace hky := hid hky
      have n90 : ¬ 9223372036854775807 < 1 + S0.size := by omega
      have n91 : ¬ 9223372036854775807 < 1 + S0.size + 1 := by omega
      by_cases hy12 : ky = 12
      · have hbs := hid (show (⟨#[40]⟩ : ByteArray) ++ S0 ++ ⟨#[41]⟩ = bs (baseL y.kind (showT y)) by rw [hky.out, hy12, ← hS0.out]; exact ba_eq (by simp [bs, baseL]))
        have hbl : ((⟨#[40]⟩ : ByteArray) ++ S0 ++ ⟨#[41]⟩).size ≤ 34359738370 := by
          rw [ByteArray.size_append, ByteArray.size_append]
          have e1 : (⟨#[40]⟩ : ByteArray).size = 1 := rfl
          have e2 : (⟨#[41]⟩ : ByteArray).size = 1 := rfl
          omega
        replace hky := hid (hky.out.trans hy12)
        rw [hy12] at p0
        clear hy12
        go_upto_region 12 with fail
        clear n90 n91
        generalize (⟨#[40]⟩ : ByteArray) ++ S0 ++ ⟨#[41]⟩ = Bs at hbs hbl ⊢
        have u0 : ¬ 9223372036854775807 < Bs.size + 1 := by omega
        have u1 : ¬ 9223372036854775807 < Bs.size + 1 + Q.size := by omega
        have u2 : ¬ 9223372036854775807 < Bs.size + 1 + Q.size + 1 := by omega
        have u3 : ¬ 9223372036854775807 < Bs.size + 1 + Q.size + 1 + S1.size := by omega
        have u4 : ¬ 9223372036854775807 < Bs.size + 1 + Q.size + 1 + S1.size + 1 := by omega
        go_upto_region 58 with fail
        have cQ := hid (show Calls Tryz.prog 61 #[.int .u8 28] wr.drew _ from hcall.out wr.drew)
        go_region_held3 (fun Y => Y.cell? ⟨w.heap.size, 0, none⟩ = some (.int .u8 28) ∧ Y.cell? ⟨g, o + 1, none⟩ = some (.string S1)) (first | with_reducible exact ⟨c0, t1⟩ | with_reducible exact ⟨celld c0, celld t1⟩ | exact ⟨c0, t1⟩) (first
          | (go_at_call 61
             (with_reducible refine cQ.out.mono ?_)
             rintro e X9 ⟨rfl, b9⟩
             replace c0 := cell_below b9 _ _ (show wr.drew.cell? _ = _ from c0)
             replace t1 := cell_below b9 _ _ (show wr.drew.cell? _ = _ from t1)
             replace bw := hid (bt bw.out.drew b9)
             clear b9))
        go_wp2_with fail
        go_ret
        exact ⟨by
          show Ending.returned (.string (Bs ++ (⟨#[46]⟩ : ByteArray) ++ Q ++ (⟨#[40]⟩ : ByteArray) ++ S1 ++ (⟨#[41]⟩ : ByteArray))) = _
          rw [hsh.out]
          rw [hbs.out, ← hQ.out, ← hS1.out]; exact congrArg (fun s => Ending.returned (.string s)) (ba_eq (by simp [bs])), bw.out⟩
      by_cases hy13 : ky = 13
      · have hbs := hid (show (⟨#[40]⟩ : ByteArray) ++ S0 ++ ⟨#[41]⟩ = bs (baseL y.kind (showT y)) by rw [hky.out, hy13, ← hS0.out]; exact ba_eq (by simp [bs, baseL]))
        have hbl : ((⟨#[40]⟩ : ByteArray) ++ S0 ++ ⟨#[41]⟩).size ≤ 34359738370 := by
          rw [ByteArray.size_append, ByteArray.size_append]
          have e1 : (⟨#[40]⟩ : ByteArray).size = 1 := rfl
          have e2 : (⟨#[41]⟩ : ByteArray).size = 1 := rfl
          omega
        replace hky := hid (hky.out.trans hy13)
        rw [hy13] at p0
        clear hy13 hy12
        go_upto_region 12 with fail
        clear n90 n91
        generalize (⟨#[40]⟩ : ByteArray) ++ S0 ++ ⟨#[41]⟩ = Bs at hbs hbl ⊢
        have u0 : ¬ 9223372036854775807 < Bs.size + 1 := by omega
        have u1 : ¬ 9223372036854775807 < Bs.size + 1 + Q.size := by omega
        have u2 : ¬ 9223372036854775807 < Bs.size + 1 + Q.size + 1 := by omega
        have u3 : ¬ 9223372036854775807 < Bs.size + 1 + Q.size + 1 + S1.size := by omega
        have u4 : ¬ 9223372036854775807 < Bs.size + 1 + Q.size + 1 + S1.size + 1 := by omega
        go_upto_region 58 with fail
        have cQ := hid (show Calls Tryz.prog 61 #[.int .u8 28] wr.drew _ from hcall.out wr.drew)
        go_region_held3 (fun Y => Y.cell? ⟨w.heap.size, 0, none⟩ = some (.int .u8 28) ∧ Y.cell? ⟨g, o + 1, none⟩ = some (.string S1)) (first | with_reducible exact ⟨c0, t1⟩ | with_reducible exact ⟨celld c0, celld t1⟩ | exact ⟨c0, t1⟩) (first
          | (go_at_call 61
             (with_reducible refine cQ.out.mono ?_)
             rintro e X9 ⟨rfl, b9⟩
             replace c0 := cell_below b9 _ _ (show wr.drew.cell? _ = _ from c0)
             replace t1 := cell_below b9 _ _ (show wr.drew.cell? _ = _ from t1)
             replace bw := hid (bt bw.out.drew b9)
             clear b9))
        go_wp2_with fail
        go_ret
        exact ⟨by
          show Ending.returned (.string (Bs ++ (⟨#[46]⟩ : ByteArray) ++ Q ++ (⟨#[40]⟩ : ByteArray) ++ S1 ++ (⟨#[41]⟩ : ByteArray))) = _
          rw [hsh.out]
          rw [hbs.out, ← hQ.out, ← hS1.out]; exact congrArg (fun s => Ending.returned (.string s)) (ba_eq (by simp [bs])), bw.out⟩
      · have hbs := hid (show S0 = bs (baseL y.kind (showT y)) by rw [hky.out, ← hS0.out]; unfold baseL; rw [if_neg (by omega)])
        have hbl : S0.size ≤ 34359738370 := by omega
        have q1 : ((ky : Int) == 12) = false := by rw [beq_eq_false_iff_ne]; omega
        have q2 : ((ky : Int) == 13) = false := by rw [beq_eq_false_iff_ne]; omega
        clear hy12 hy13
        go_upto_region 12 with fail
        clear n90 n91 q1 q2
        have u0 : ¬ 9223372036854775807 < S0.size + 1 := by omega
        have u1 : ¬ 9223372036854775807 < S0.size + 1 + Q.size := by omega
        have u2 : ¬ 9223372036854775807 < S0.size + 1 + Q.size + 1 := by omega
        have u3 : ¬ 9223372036854775807 < S0.size + 1 + Q.size + 1 + S1.size := by omega
        have u4 : ¬ 9223372036854775807 < S0.size + 1 + Q.size + 1 + S1.size + 1 := by omega
        go_upto_region 58 with fail
        have cQ := hid (show Calls Tryz.prog 61 #[.int .u8 28] wr.drew _ from hcall.out wr.drew)
        go_region_held3 (fun Y => Y.cell? ⟨w.heap.size, 0, none⟩ = some (.int .u8 28) ∧ Y.cell? ⟨g, o + 1, none⟩ = some (.string S1)) (first | with_reducible exact ⟨c0, t1⟩ | with_reducible exact ⟨celld c0, celld t1⟩ | exact ⟨c0, t1⟩) (first
          | (go_at_call 61
             (with_reducible refine cQ.out.mono ?_)
             rintro e X9 ⟨rfl, b9⟩
             replace c0 := cell_below b9 _ _ (show wr.drew.cell? _ = _ from c0)
             replace t1 := cell_below b9 _ _ (show wr.drew.cell? _ = _ from t1)
             replace bw := hid (bt bw.out.drew b9)
             clear b9))
        go_wp2_with fail
        go_ret
        exact ⟨by
          show Ending.returned (.string (S0 ++ (⟨#[46]⟩ : ByteArray) ++ Q ++ (⟨#[40]⟩ : ByteArray) ++ S1 ++ (⟨#[41]⟩ : ByteArray))) = _
          rw [hsh.out]
          rw [hbs.out, ← hQ.out, ← hS1.out]; exact congrArg (fun s => Ending.returned (.string s)) (ba_eq (by simp [bs])), bw.out⟩
end Go.Proofs.YtbcjppbiihgfpaaGreatDoor.Ex
namespace Go.Proofs.YtbcjppbiihgfpaaGreatDoor.Ex
open Go.ChangeShapes Go.WideShapes Go.ChangeAt Go.RowKit
open Go.Proofs.YtbcjppbiihgfpaaGreatDoor.Mem Go.Proofs.YtbcjppbiihgfpaaGreatDoor.Lik
set_option linter.unusedVariables false
set_option linter.unusedSimpArgs false
set_option maxRecDepth 100000
set_option maxHeartbeats 16000000 in
theorem rshow_call29 (x : T) (ih : ∀ z ∈ x.list, RShow z) (hk : x.kind = 29) : RShow x := by
  intro w h hz hr
  obtain ⟨⟨y, z, hl⟩, hk29⟩ := kids2 hr (by omega)
  have hym : y ∈ x.list := by rw [hl]; simp
  have ho0 : 0 < x.list.length := by rw [hl]; simp
  have hy0 : x.list[0] = y := List.getElem_of_eq hl _
  have hzm : z ∈ x.list := by rw [hl]; simp
  have ho1 : 1 < x.list.length := by rw [hl]; simp
  have hz0 : x.list[1] = z := List.getElem_of_eq hl _
  have hsh : showT x = baseL y.kind (showT y) ++ ([46] ++ (spellT x.kind ++ ([40] ++ (showT z ++ [41])))) := by
    rw [showT_eq, hl]
    unfold nodeS
    have e : kk x = y.kind := by unfold kk; rw [hl]; rfl
    rw [if_neg (by omega), if_neg (by omega), if_neg (by omega), if_neg (by omega), if_neg (by omega), if_neg (by omega), if_neg (by omega), if_neg (by omega), if_neg (by omega), if_neg (by omega), if_neg (by omega), if_neg (by omega), if_neg (by omega), if_neg (by omega), if_pos (by omega), e]
    rfl
  have hcall := hid (fun W => word_any x.kind (by omega) W)
  have hql := hid (spellT_len x.kind)
  obtain ⟨no, nc, lo, lc, e1, e2, l1, l2⟩ := h.forms
  obtain ⟨xb, xo, rfl⟩ := base_of h e2 ho0
  replace hy0 := hid hy0
  replace ho0 := hid ho0
  replace hym := hid hym
  replace hz0 := hid hz0
  replace ho1 := hid ho1
  replace hzm := hid hzm
  replace hsh := hid hsh
  have hl' := hid hl
  clear hl
  obtain ⟨i0, hi, iz0, iz1, iz2⟩ := info_string
  have hll : x.list.length * 16 ≤ 140737488355328 := by have := h.parts.1.2.2; omega
  obtain ⟨n, hn⟩ : ∃ n, x.list.length = n := ⟨_, rfl⟩
  rw [T.val_eq e1 e2]
  rw [hn] at hll l2 ⊢
  rw [hn] at e2
  have i1 : (x.names.length : Int) ≤ 9223372036854775807 := by omega
  have i2 : (n : Int) ≤ 9223372036854775807 := by omega
  have hrec0 := hid (fun (z : T) (hz' : z ∈ x.list) W (b : Below w.heap.size w W) => ih z hz' W ((h.below b).parts.2.2.2.2.2.2.2 z hz') (by have := T.size_part hz'; omega) (right_kid hr hz'))
  have hpl := hid (fun (z : T) (hz' : z ∈ x.list) => part_len h hz hr hz')
  have hwl := hid (whole_len h hz hr)
  have h' := hid h
  have e2' := hid e2
  have hn' := hid hn
  clear ih h e1 e2 hn hz hr l1 l2
  replace hk := hid hk
  go_enter Tryz.func26, Tryz.ntmps26
  go_upto_region 1 with fail
  have K1 := hid (Blk.new w [.int .u8 (x.kind : Nat), .int .i64 x.num, .string x.str, .string x.typ, .slice no x.names.length nc, .slice (some ⟨xb, xo, none⟩) n lc] 26)
  have bw := hid ((Below.refl w.heap.size w).alloc (Nat.le_refl _) (.cells #[.int .u8 (x.kind : Nat), .int .i64 x.num, .string x.str, .string x.typ, .slice no x.names.length nc, .slice (some ⟨xb, xo, none⟩) n lc] 26))
  have hBB := hid (show w.heap.size + 1 ≤ (w.alloc (.cells #[.int .u8 (x.kind : Nat), .int .i64 x.num, .string x.str, .string x.typ, .slice no x.names.length nc, .slice (some ⟨xb, xo, none⟩) n lc] 26)).heap.size by simp)
  generalize w.alloc (.cells #[.int .u8 (x.kind : Nat), .int .i64 x.num, .string x.str, .string x.typ, .slice no x.names.length nc, .slice (some ⟨xb, xo, none⟩) n lc] 26) = X0 at K1 bw hBB ⊢
  obtain ⟨c0, c1, c2, c3, c4, c5, cf⟩ := six K1.out
  go_wp2_with fail
  clear c0 c1 c2 c3 c4 c5 cf
  go_loopw [3, 13] (fun av i wr => ∃ k : Nat, k ≤ n ∧ i = .int .i64 k ∧ (∃ ao cap, av = .slice ao k cap ∧ Hid (wr.ownsRow (w.heap.size + 1) 9 1 (.slice ao k cap) k (ksC (x.list.take k)))) ∧ Hid (Blk wr w.heap.size [.int .u8 (x.kind : Nat), .int .i64 x.num, .string x.str, .string x.typ, .slice no x.names.length nc, .slice (some ⟨xb, xo, none⟩) n lc] 26) ∧ Hid (w.heap.size + 1 ≤ wr.heap.size) ∧ Hid (Below w.heap.size w wr)) (fun _ i _ => n - (intOf i).toNat)
  case atStart => exact ⟨0, by omega, rfl, ⟨none, 0, rfl, hid (World.ownsRow_nil _ _ _ _)⟩, K1, hBB, bw⟩
  case round =>
    clear K1 bw hBB
    obtain ⟨k, hkn, rfl, ⟨ao, cap, rfl, hown⟩, K1, hBB, bw⟩ := hrel
    rename_i wr _
    by_cases hkl : k < n
    · have hki : (k : Int) < (n : Int) := by omega
      have hkx : k < x.list.length := by rw [hn'.out]; exact hkl
      obtain ⟨zb, zo, hzo, d0, d1, d2, d3, d4, d5⟩ := (h'.out.below bw.out).part6 (lo := (some ⟨xb, xo, none⟩)) (lc := lc) (by rw [e2'.out, hn'.out]) k hkx
      have hzok := (h'.out.parts.2.2.2.2.2.2.2 _ (List.getElem_mem hkx)).forms
      have hrec := hid (hrec0.out x.list[k] (List.getElem_mem hkx))
      have hst := hid (ksC_step x.list k hkx)
      generalize x.list[k] = z at d0 d1 d2 d3 d4 d5 hrec hzok hst
      obtain ⟨zno, znc, zlo, zlc, ez1, ez2, zl1, zl2⟩ := hzok
      have hzv := T.val_eq ez1 ez2
      rw [ez1] at d4
      rw [ez2] at d5
      replace hrec := hid (show ∀ W, Below w.heap.size w W → Calls Tryz.prog 26 #[.agg #[.int .u8 (z.kind : Nat), .int .i64 z.num, .string z.str, .string z.typ, .slice zno z.names.length znc, .slice zlo z.list.length zlc]] W fun e w' => e = .returned (.string (bs (showT z))) ∧ Below W.heap.size W w' from hzv ▸ hrec.out)
      clear ez1 ez2 hzv
      obtain ⟨rfl, rfl⟩ : xb = zb ∧ xo = zo := by simpa using hzo
      clear hzo
      generalize bs (showT z) = sz at *
      go_upto_region 5 with fail
      have K4 := hid (Blk.new wr [.int .u8 (z.kind : Nat), .int .i64 z.num, .string z.str, .string z.typ, .slice zno z.names.length znc, .slice zlo z.list.length zlc] 26)
      have hb4 := (Below.refl wr.heap.size wr).alloc (Nat.le_refl _) (.cells #[.int .u8 (z.kind : Nat), .int .i64 z.num, .string z.str, .string z.typ, .slice zno z.names.length znc, .slice zlo z.list.length zlc] 26)
      replace K1 := hid (K1.out.below hb4 K1.out.lt)
      replace hown := hid (ownsRow_below hown.out hb4)
      replace hBB := hid (Nat.le_trans hBB.out hb4.size)
      replace bw := hid (bt bw.out hb4)
      clear d0 d1 d2 d3 d4 d5 hb4
      generalize wr.alloc (.cells #[.int .u8 (z.kind : Nat), .int .i64 z.num, .string z.str, .string z.typ, .slice zno z.names.length znc, .slice zlo z.list.length zlc] 26) = X3 at K1 K4 hown hBB bw ⊢
      obtain ⟨f0, f1, f2, f3, f4, f5, ff⟩ := six K4.out
      go_wp2_with fail
      refine (hrec.out _ bw.out).mono ?_
      rintro e X4 ⟨rfl, b4⟩
      replace K1 := hid (K1.out.below b4 K1.out.lt)
      replace hown := hid (ownsRow_below hown.out b4)
      replace hBB := hid (Nat.le_trans hBB.out b4.size)
      replace bw := hid (bt bw.out b4)
      clear f0 f1 f2 f3 f4 f5 ff K4 b4 hrec
      go_wp2_with (at_builtin; refine wpList_append_own _ rfl _ _ 23 rfl (w.heap.size + 1) 9 i0 (.string ⟨#[]⟩) 1 16 Tryz.underlying23 hi iz0 iz1 iz2 rfl (by decide) _ _ _ rfl (ownsRow_below hown.out ((Below.refl _ _).alloc (Nat.le_refl _) _)) ⟨X4.heap.size, 0, none⟩ 1 1 [.string sz] rfl rfl ?c1 ?c2 ?c3 ?c4 ?c5 ?_)
      case c1 =>
        intro j u hj
        match j, hj with
        | 0, hj => simp at hj; subst hj; simp [Addr.add]
      case c2 => intro u hu; simp at hu; subst hu; rfl
      case c3 => unfold maxLen; omega
      case c4 => omega
      case c5 => have := hBB.out; simp; omega
      intro v' X5 hown5 hgr _
      have hlt0 := fun q (hq : (Value.slice ao k cap).ownBlock = some q) => hown.out.lt q hq
      have hbn := hid (show Below w.heap.size w X5 from (bw.out.alloc bw.out.size _).grown hgr (by have := bw.out.size; simp; omega) (fun q hq => by have := (hlt0 q hq).1; omega))
      have K1n := hid (show Blk X5 w.heap.size [.int .u8 (x.kind : Nat), .int .i64 x.num, .string x.str, .string x.typ, .slice no x.names.length nc, .slice (some ⟨xb, xo, none⟩) n lc] 26 from ⟨(hgr.block _ (by have := K1.out.lt; simp; omega) (fun e => by have := (hlt0 _ e.symm).1; omega)).trans (K1.out.alloc _).at'⟩)
      have hBn := hid (show w.heap.size + 1 ≤ X5.heap.size from by have h1 := hgr.size; have h2 := hBB.out; simp at h1; omega)
      obtain ⟨ao', cap', rfl, _, _⟩ := ownsRow_form hown5
      have hownn := hid (show X5.ownsRow (w.heap.size + 1) 9 1 (.slice ao' (k + 1) cap') (k + 1) (ksC (x.list.take (k + 1))) from by rw [hst.out]; exact hown5)
      clear hown5 hgr hlt0 K1 hBB bw hown hst
      go_wp2_with fail
      go_roundw
      case rel => exact ⟨k + 1, by omega, by go_num, ⟨ao', cap', rfl, hownn⟩, K1n, hBn, hbn⟩
      case measure => simp [intOf]; omega
    · have hki : ¬ (k : Int) < (n : Int) := by omega
      obtain rfl : k = n := by omega
      replace hown := hid (show wr.ownsRow (w.heap.size + 1) 9 1 (.slice ao k cap) k (ksC x.list) from by have := hown.out; rwa [List.take_of_length_le (by rw [hn'.out]; exact Nat.le_refl _)] at this)
      obtain ⟨g, o, rfl, hks⟩ := ks_open (g := 0) hown.out hn'.out (by have := hn'.out; rw [← this]; exact ho0.out)
      have t0 := hks 0 ho0.out
      rw [hy0.out] at t0
      rw [Nat.add_zero] at t0
      have s0 := hpl.out y hym.out
      have t1 := hks 1 ho1.out
      rw [hz0.out] at t1
      have s1 := hpl.out z hzm.out
      obtain ⟨yb, yo, hyo, p0, _⟩ := (h'.out.below bw.out).part6 (lo := some ⟨xb, xo, none⟩) (lc := lc) (by rw [e2'.out, hn'.out]) 0 ho0.out
      obtain ⟨rfl, rfl⟩ : xb = yb ∧ xo = yo := by simpa using hyo
      rw [hy0.out, Nat.zero_mul, Nat.add_zero] at p0
      have hk1 : k = 2 := by rw [← hn'.out, hl'.out]; rfl
      subst hk1
      clear hks hyo
      have b0 : (bs (showT y)).size ≤ 34359738368 := by rw [bs_size]; exact s0
      obtain ⟨S0, hS0⟩ : ∃ S, bs (showT y) = S := ⟨_, rfl⟩
      rw [hS0] at t0 b0
      replace hS0 := hid hS0
      clear s0
      have b1 : (bs (showT z)).size ≤ 34359738368 := by rw [bs_size]; exact s1
      obtain ⟨S1, hS1⟩ : ∃ S, bs (showT z) = S := ⟨_, rfl⟩
      rw [hS1] at t1 b1
      replace hS1 := hid hS1
      clear s1
      obtain ⟨c0, c1, c2, c3, c4, c5, cf⟩ := six K1.out
      replace hk := hk.out
      have bq : (bs (spellT x.kind)).size ≤ 11 := by rw [bs_size]; exact hql.out
      obtain ⟨Q, hQ⟩ : ∃ Q, bs (spellT x.kind) = Q := ⟨_, rfl⟩
      rw [hQ] at bq hcall
      replace hQ := hid hQ
      rw [hk] at c0 hcall
      obtain ⟨ky, hky⟩ : ∃ ky, y.kind = ky := ⟨_, rfl⟩
      rw [hky] at p0
      replace hky := hid hky
      have n90 : ¬ 9223372036854775807 < 1 + S0.size := by omega
      have n91 : ¬ 9223372036854775807 < 1 + S0.size + 1 := by omega
      by_cases hy12 : ky = 12
      · have hbs := hid (show (⟨#[40]⟩ : ByteArray) ++ S0 ++ ⟨#[41]⟩ = bs (baseL y.kind (showT y)) by rw [hky.out, hy12, ← hS0.out]; exact ba_eq (by simp [bs, baseL]))
        have hbl : ((⟨#[40]⟩ : ByteArray) ++ S0 ++ ⟨#[41]⟩).size ≤ 34359738370 := by
          rw [ByteArray.size_append, ByteArray.size_append]
          have e1 : (⟨#[40]⟩ : ByteArray).size = 1 := rfl
          have e2 : (⟨#[41]⟩ : ByteArray).size = 1 := rfl
          omega
        replace hky := hid (hky.out.trans hy12)
        rw [hy12] at p0
        clear hy12
        go_upto_region 12 with fail
        clear n90 n91
        generalize (⟨#[40]⟩ : ByteArray) ++ S0 ++ ⟨#[41]⟩ = Bs at hbs hbl ⊢
        have u0 : ¬ 9223372036854775807 < Bs.size + 1 := by omega
        have u1 : ¬ 9223372036854775807 < Bs.size + 1 + Q.size := by omega
        have u2 : ¬ 9223372036854775807 < Bs.size + 1 + Q.size + 1 := by omega
        have u3 : ¬ 9223372036854775807 < Bs.size + 1 + Q.size + 1 + S1.size := by omega
        have u4 : ¬ 9223372036854775807 < Bs.size + 1 + Q.size + 1 + S1.size + 1 := by omega
        go_upto_region 58 with fail
        have cQ := hid (show Calls Tryz.prog 61 #[.int .u8 29] wr.drew _ from hcall.out wr.drew)
        go_region_held3 (fun Y => Y.cell? ⟨w.heap.size, 0, none⟩ = some (.int .u8 29) ∧ Y.cell? ⟨g, o + 1, none⟩ = some (.string S1)) (first | with_reducible exact ⟨c0, t1⟩ | with_reducible exact ⟨celld c0, celld t1⟩ | exact ⟨c0, t1⟩) (first
          | (go_at_call 61
             (with_reducible refine cQ.out.mono ?_)
             rintro e X9 ⟨rfl, b9⟩
             replace c0 := cell_below b9 _ _ (show wr.drew.cell? _ = _ from c0)
             replace t1 := cell_below b9 _ _ (show wr.drew.cell? _ = _ from t1)
             replace bw := hid (bt bw.out.drew b9)
             clear b9))
        go_wp2_with fail
        go_ret
        exact ⟨by
          show Ending.returned (.string (Bs ++ (⟨#[46]⟩ : ByteArray) ++ Q ++ (⟨#[40]⟩ : ByteArray) ++ S1 ++ (⟨#[41]⟩ : ByteArray))) = _
          rw [hsh.out]
          rw [hbs.out, ← hQ.out, ← hS1.out]; exact congrArg (fun s => Ending.returned (.string s)) (ba_eq (by simp [bs])), bw.out⟩
      by_cases hy13 : ky = 13
      · have hbs := hid (show (⟨#[40]⟩ : ByteArray) ++ S0 ++ ⟨#[41]⟩ = bs (baseL y.kind (showT y)) by rw [hky.out, hy13, ← hS0.out]; exact ba_eq (by simp [bs, baseL]))
        have hbl : ((⟨#[40]⟩ : ByteArray) ++ S0 ++ ⟨#[41]⟩).size ≤ 34359738370 := by
          rw [ByteArray.size_append, ByteArray.size_append]
          have e1 : (⟨#[40]⟩ : ByteArray).size = 1 := rfl
          have e2 : (⟨#[41]⟩ : ByteArray).size = 1 := rfl
          omega
        replace hky := hid (hky.out.trans hy13)
        rw [hy13] at p0
        clear hy13 hy12
        go_upto_region 12 with fail
        clear n90 n91
        generalize (⟨#[40]⟩ : ByteArray) ++ S0 ++ ⟨#[41]⟩ = Bs at hbs hbl ⊢
        have u0 : ¬ 9223372036854775807 < Bs.size + 1 := by omega
        have u1 : ¬ 9223372036854775807 < Bs.size + 1 + Q.size := by omega
        have u2 : ¬ 9223372036854775807 < Bs.size + 1 + Q.size + 1 := by omega
        have u3 : ¬ 9223372036854775807 < Bs.size + 1 + Q.size + 1 + S1.size := by omega
        have u4 : ¬ 9223372036854775807 < Bs.size + 1 + Q.size + 1 + S1.size + 1 := by omega
        go_upto_region 58 with fail
        have cQ := hid (show Calls Tryz.prog 61 #[.int .u8 29] wr.drew _ from hcall.out wr.drew)
        go_region_held3 (fun Y => Y.cell? ⟨w.heap.size, 0, none⟩ = some (.int .u8 29) ∧ Y.cell? ⟨g, o + 1, none⟩ = some (.string S1)) (first | with_reducible exact ⟨c0, t1⟩ | with_reducible exact ⟨celld c0, celld t1⟩ | exact ⟨c0, t1⟩) (first
          | (go_at_call 61
             (with_reducible refine cQ.out.mono ?_)
             rintro e X9 ⟨rfl, b9⟩
             replace c0 := cell_below b9 _ _ (show wr.drew.cell? _ = _ from c0)
             replace t1 := cell_below b9 _ _ (show wr.drew.cell? _ = _ from t1)
             replace bw := hid (bt bw.out.drew b9)
             clear b9))
        go_wp2_with fail
        go_ret
        exact ⟨by
          show Ending.returned (.string (Bs ++ (⟨#[46]⟩ : ByteArray) ++ Q ++ (⟨#[40]⟩ : ByteArray) ++ S1 ++ (⟨#[41]⟩ : ByteArray))) = _
          rw [hsh.out]
          rw [hbs.out, ← hQ.out, ← hS1.out]; exact congrArg (fun s => Ending.returned (.string s)) (ba_eq (by simp [bs])), bw.out⟩
      · have hbs := hid (show S0 = bs (baseL y.kind (showT y)) by rw [hky.out, ← hS0.out]; unfold baseL; rw [if_neg (by omega)])
        have hbl : S0.size ≤ 34359738370 := by omega
        have q1 : ((ky : Int) == 12) = false := by rw [beq_eq_false_iff_ne]; omega
        have q2 : ((ky : Int) == 13) = false := by rw [beq_eq_false_iff_ne]; omega
        clear hy12 hy13
        go_upto_region 12 with fail
        clear n90 n91 q1 q2
        have u0 : ¬ 9223372036854775807 < S0.size + 1 := by omega
        have u1 : ¬ 9223372036854775807 < S0.size + 1 + Q.size := by omega
        have u2 : ¬ 9223372036854775807 < S0.size + 1 + Q.size + 1 := by omega
        have u3 : ¬ 9223372036854775807 < S0.size + 1 + Q.size + 1 + S1.size := by omega
        have u4 : ¬ 9223372036854775807 < S0.size + 1 + Q.size + 1 + S1.size + 1 := by omega
        go_upto_region 58 with fail
        have cQ := hid (show Calls Tryz.prog 61 #[.int .u8 29] wr.drew _ from hcall.out wr.drew)
        go_region_held3 (fun Y => Y.cell? ⟨w.heap.size, 0, none⟩ = some (.int .u8 29) ∧ Y.cell? ⟨g, o + 1, none⟩ = some (.string S1)) (first | with_reducible exact ⟨c0, t1⟩ | with_reducible exact ⟨celld c0, celld t1⟩ | exact ⟨c0, t1⟩) (first
          | (go_at_call 61
             (with_reducible refine cQ.out.mono ?_)
             rintro e X9 ⟨rfl, b9⟩
             replace c0 := cell_below b9 _ _ (show wr.drew.cell? _ = _ from c0)
             replace t1 := cell_below b9 _ _ (show wr.drew.cell? _ = _ from t1)
             replace bw := hid (bt bw.out.drew b9)
             clear b9))
        go_wp2_with fail
        go_ret
        exact ⟨by
          show Ending.returned (.string (S0 ++ (⟨#[46]⟩ : ByteArray) ++ Q ++ (⟨#[40]⟩ : ByteArray) ++ S1 ++ (⟨#[41]⟩ : ByteArray))) = _
          rw [hsh.out]
          rw [hbs.out, ← hQ.out, ← hS1.out]; exact congrArg (fun s => Ending.returned (.string s)) (ba_eq (by simp [bs])), bw.out⟩
end Go.Proofs.YtbcjppbiihgfpaaGreatDoor.Ex
