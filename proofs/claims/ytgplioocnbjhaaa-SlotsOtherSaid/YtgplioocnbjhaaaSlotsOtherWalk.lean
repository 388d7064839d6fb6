/-
  SlotsOther: the walk.
-/
import Derived.Test.YtgplioocnbjhaaaSlotAll
import Derived.Test.YtgplioocnbjhaaaSectorSame
namespace Go.Proofs.Ytgplioocnbjhaaa.slotsOther
open Go.ChangeShapes Go.WideShapes Go.ChangeAt Go.RowKit
open Go.Proofs.Ytgplioocnbjhaaa.Mem Go.Proofs.Ytgplioocnbjhaaa.Rec Go.Proofs.Ytgplioocnbjhaaa.Sector Go.Proofs.Ytgplioocnbjhaaa.Wal Go.Proofs.Ytgplioocnbjhaaa.Slot
set_option linter.unusedVariables false
set_option maxRecDepth 100000
theorem read_of {d : Disk} (ok : okB d = true) (off : d.off = false) {i : Nat} (hi : i < d.secs.length) : readE d i = (now d i, 0) := by
  unfold readE now
  rw [ok, if_neg (by simp), off, if_neg (by simp), if_neg (by simp [missB]; omega)]
set_option maxHeartbeats 8000000 in
theorem walk (v0 : Value) (d : Disk) (a b : Rg) (m : Im) (w : World) (h0 : DiskV w v0 d) (f0 : (Lit.int .i64 d.fuse).wf = true) (w1 : a.has) (w2 : b.has) (w3 : m.has) :
    Calls Try.prog 14 #[v0, rgV a, rgV b, imV m] w fun e w' => e = .returned (.bool true) ∧ Below w.heap.size w w' := by
  have hv := hid h0
  have hl1 := hid (fun v W (h : DiskV W v d) => load_any d v a b W h w1 w2)
  have hsv := hid (fun v W (h : DiskV W v d) => save_any d v a b m W h f0 w1 w2 w3)
  have hok := hid (fun e (h : saveE d a b m = (e, 0)) => save_ok w3.1 h)
  have hsz := hid (save_size (d := d) (a := a) (b := b) (m := m))
  have hlx := hid (fun e v W (h : DiskV W v e) => load_any e v a b W h w1 w2)
  have hto := hid (show toE d a b = if (loadE d a b).c = 0 ∧ (loadE d a b).at' = 0 then b else a from rfl)
  obtain ⟨X, hX⟩ : ∃ X, loadE d a b = X := ⟨_, rfl⟩
  rw [hX] at hl1 hto
  obtain ⟨Y, hY⟩ : ∃ Y, saveE d a b m = Y := ⟨_, rfl⟩
  rw [hY] at hsv hok hsz
  clear hX hY
  obtain ⟨x, c⟩ := Y
  dsimp only at hsz
  obtain ⟨sv, pv, rfl, hs, hp⟩ := h0
  obtain ⟨so, scap, rfl, _⟩ := hs.form
  obtain ⟨po, pcap, rfl, _⟩ := hp.form
  clear hs hp f0 w1 w2 w3
  rw [show rgV a = .agg #[.int .i64 a.f, .int .i64 a.s] from rfl, show rgV b = .agg #[.int .i64 b.f, .int .i64 b.s] from rfl] at hl1 hsv hlx ⊢
  rw [show imV m = .agg #[.int .u64 (m.epoch : Nat), .string m.pay] from rfl] at hsv ⊢
  go_enter Try.func14, Try.ntmps14
  go_wp2_with fail
  have D0 := hid ((((Blk.new w [.slice so d.secs.length scap, .slice po d.pend.length pcap, .bool d.off, .int .i64 d.fuse] 25).alloc (.cells #[.int .i64 a.f, .int .i64 a.s] 54)).alloc (.cells #[.int .i64 b.f, .int .i64 b.s] 54)).alloc (.cells #[.int .u64 (m.epoch : Nat), .string m.pay] 72))
  have A0 := hid (((Blk.new' (w.alloc (.cells #[.slice so d.secs.length scap, .slice po d.pend.length pcap, .bool d.off, .int .i64 d.fuse] 25)) [.int .i64 a.f, .int .i64 a.s] 54 (w.heap.size + 1) (by simp)).alloc (.cells #[.int .i64 b.f, .int .i64 b.s] 54)).alloc (.cells #[.int .u64 (m.epoch : Nat), .string m.pay] 72))
  have B0 := hid ((Blk.new' ((w.alloc (.cells #[.slice so d.secs.length scap, .slice po d.pend.length pcap, .bool d.off, .int .i64 d.fuse] 25)).alloc (.cells #[.int .i64 a.f, .int .i64 a.s] 54)) [.int .i64 b.f, .int .i64 b.s] 54 (w.heap.size + 2) (by simp)).alloc (.cells #[.int .u64 (m.epoch : Nat), .string m.pay] 72))
  have M0 := hid (Blk.new' (((w.alloc (.cells #[.slice so d.secs.length scap, .slice po d.pend.length pcap, .bool d.off, .int .i64 d.fuse] 25)).alloc (.cells #[.int .i64 a.f, .int .i64 a.s] 54)).alloc (.cells #[.int .i64 b.f, .int .i64 b.s] 54)) [.int .u64 (m.epoch : Nat), .string m.pay] 72 (w.heap.size + 3) (by simp))
  have hb0 : Below w.heap.size w ((((w.alloc (.cells #[.slice so d.secs.length scap, .slice po d.pend.length pcap, .bool d.off, .int .i64 d.fuse] 25)).alloc (.cells #[.int .i64 a.f, .int .i64 a.s] 54)).alloc (.cells #[.int .i64 b.f, .int .i64 b.s] 54)).alloc (.cells #[.int .u64 (m.epoch : Nat), .string m.pay] 72)) := by go_grown
  generalize (((w.alloc (.cells #[.slice so d.secs.length scap, .slice po d.pend.length pcap, .bool d.off, .int .i64 d.fuse] 25)).alloc (.cells #[.int .i64 a.f, .int .i64 a.s] 54)).alloc (.cells #[.int .i64 b.f, .int .i64 b.s] 54)).alloc (.cells #[.int .u64 (m.epoch : Nat), .string m.pay] 72) = X0 at D0 A0 B0 M0 hb0 ⊢
  have hbw := hid hb0
  clear hb0
  refine (Slot.lives_any _).mono ?_
  rintro e w1 ⟨rfl, b9⟩
  replace D0 := hid (D0.out.below b9 D0.out.lt)
  replace A0 := hid (A0.out.below b9 A0.out.lt)
  replace B0 := hid (B0.out.below b9 B0.out.lt)
  replace M0 := hid (M0.out.below b9 M0.out.lt)
  replace hbw := hid (bt hbw.out b9)
  clear b9
  obtain ⟨d0, d1, d2, d3, df⟩ := D0.out.four
  obtain ⟨a0, a1, af⟩ := A0.out.two
  obtain ⟨b0, b1, bf⟩ := B0.out.two
  go_wp2_with fail
  (with_reducible refine (hl1.out _ _ (hv.out.below hbw.out)).mono ?_)
  rintro e w3 ⟨rfl, b9⟩
  clear d0 d1 d2 d3 df a0 a1 af b0 b1 bf
  replace D0 := hid (D0.out.below b9 D0.out.lt)
  replace A0 := hid (A0.out.below b9 A0.out.lt)
  replace B0 := hid (B0.out.below b9 B0.out.lt)
  replace M0 := hid (M0.out.below b9 M0.out.lt)
  replace hbw := hid (bt hbw.out b9)
  clear b9 hl1
  unfold imV
  try dsimp only
  go_upto_region 4 with fail
  have hal : Below w3.heap.size w3 (w3.alloc (.cells #[.int .u64 (X.im.epoch : Nat), .string X.im.pay] 72)) := (Below.refl _ w3).alloc (Nat.le_refl _) _
  replace D0 := hid (D0.out.below hal D0.out.lt)
  replace A0 := hid (A0.out.below hal A0.out.lt)
  replace B0 := hid (B0.out.below hal B0.out.lt)
  replace M0 := hid (M0.out.below hal M0.out.lt)
  replace hbw := hid (bt hbw.out hal)
  generalize w3.alloc (.cells #[.int .u64 (X.im.epoch : Nat), .string X.im.pay] 72) = X3 at hal D0 A0 B0 M0 hbw ⊢
  generalize w3.heap.size = n3 at *
  clear hal
  obtain ⟨d0, d1, d2, d3, df⟩ := D0.out.four
  obtain ⟨a0, a1, af⟩ := A0.out.two
  obtain ⟨b0, b1, bf⟩ := B0.out.two
  obtain ⟨m0, m1, mf⟩ := M0.out.two
  go_wp2_with fail
  (with_reducible refine (hsv.out _ _ (hv.out.below hbw.out)).mono ?_)
  rintro e w4 hr
  obtain ⟨so3, sc3, po3, pc3, rfl, o3, b9⟩ := hr.open
  dsimp only at o3
  clear hr hsv
  clear d0 d1 d2 d3 df a0 a1 af b0 b1 bf m0 m1 mf
  replace D0 := hid (D0.out.below b9 D0.out.lt)
  replace A0 := hid (A0.out.below b9 A0.out.lt)
  replace B0 := hid (B0.out.below b9 B0.out.lt)
  replace M0 := hid (M0.out.below b9 M0.out.lt)
  replace hbw := hid (bt hbw.out b9)
  clear b9
  have u3 := hid o3.v
  clear o3
  dsimp only
  go_upto_region 5 with fail
  have hal : Below w4.heap.size w4 (w4.alloc (.cells #[.slice so3 x.secs.length sc3, .slice po3 x.pend.length pc3, .bool x.off, .int .i64 x.fuse] 25)) := (Below.refl _ w4).alloc (Nat.le_refl _) _
  have E0 := hid (Blk.new w4 [.slice so3 x.secs.length sc3, .slice po3 x.pend.length pc3, .bool x.off, .int .i64 x.fuse] 25)
  replace u3 := hid (u3.out.below hal)
  replace D0 := hid (D0.out.below hal D0.out.lt)
  replace A0 := hid (A0.out.below hal A0.out.lt)
  replace B0 := hid (B0.out.below hal B0.out.lt)
  replace M0 := hid (M0.out.below hal M0.out.lt)
  replace hbw := hid (bt hbw.out hal)
  generalize w4.heap.size = n4 at E0 ⊢
  generalize w4.alloc (.cells #[.slice so3 x.secs.length sc3, .slice po3 x.pend.length pc3, .bool x.off, .int .i64 x.fuse] 25) = X4 at hal D0 A0 B0 M0 E0 u3 hbw ⊢
  clear hal
  by_cases hc : c = 0
  · subst hc
    have F := hok.out x rfl
    have hl2 := hid (fun v W h => F.load ▸ hlx.out x v W h)
    obtain ⟨k1, k2, k3⟩ := slChk_zero F.chk0
    have q1 := (walChk_zero k1)
    have q2 := (walChk_zero k2)
    have hL2 := hid (show d.secs.length ≤ 1024 from q1.2.2.2.2)
    have hrd := hid (fun (k : Nat) (hk : k < d.secs.length) => show ∃ s1 s2, readE d k = (s1, 0) ∧ readE x k = (s2, 0) ∧ (s1 ≠ s2 → (toE d a b).f ≤ (k : Int) ∧ (k : Int) < (toE d a b).f + (toE d a b).s) from
      ⟨now d k, now x k, read_of q1.1 F.off0 hk, read_of F.ok F.off (by rw [F.len]; exact hk), fun hne => Decidable.byContradiction fun hn => hne (F.now' k (by omega) (by omega) hn).symm⟩)
    have htb := hid (show 0 ≤ (toE d a b).f ∧ (toE d a b).f ≤ 1024 ∧ 0 ≤ (toE d a b).s ∧ (toE d a b).s ≤ 1024 from by unfold toE; split <;> omega)
    clear hok hsz F k1 k2 k3 q1 q2 hlx
    generalize (if (loadE d a b).c = 0 ∧ (loadE d a b).at' = 0 then 1 else 0) = kk at hl2
    obtain ⟨a0, a1, af⟩ := A0.out.two
    go_upto_region 8 with fail
    clear a0 a1 af
    have hal : Below X4.heap.size X4 (X4.alloc (.cells #[.int .i64 a.f, .int .i64 a.s] 54)) := (Below.refl _ X4).alloc (Nat.le_refl _) _
    have T0 := hid (Blk.new X4 [.int .i64 a.f, .int .i64 a.s] 54)
    generalize X4.alloc (.cells #[.int .i64 a.f, .int .i64 a.s] 54) = X5 at hal T0 ⊢
    by_cases hx0 : X.c = 0
    · have h1 : (X.c == 0) = true := by rw [hx0]; rfl
      by_cases hx1 : X.at' = 0
      · have h2 : ((X.at' : Int) == 0) = true := by rw [hx1]; rfl
        have ht : toE d a b = b := by rw [hto.out, if_pos ⟨hx0, hx1⟩]
        clear hx0 hx1 hto
        have B1 := hid (B0.out.below hal B0.out.lt)
        obtain ⟨b0, b1, bf⟩ := B1.out.two
        obtain ⟨t0, t1, tf⟩ := T0.out.two
        go_upto_region 10 with fail
        replace T0 := hid (blk2 T0.out (b0 := .int .i64 b.f) (b1 := .int .i64 b.s))
        replace hal := below2 (b0 := .int .i64 b.f) (b1 := .int .i64 b.s) hal (Nat.le_refl X4.heap.size)
        clear b0 b1 bf t0 t1 tf B1 h1 h2
        generalize (X5.setCell ⟨X4.heap.size, 0, none⟩ (.int .i64 b.f)).setCell ⟨X4.heap.size, 1, none⟩ (.int .i64 b.s) = X6 at T0 hal ⊢
        replace u3 := hid (u3.out.below hal)
        replace D0 := hid (D0.out.below hal D0.out.lt)
        replace A0 := hid (A0.out.below hal A0.out.lt)
        replace B0 := hid (B0.out.below hal B0.out.lt)
        replace M0 := hid (M0.out.below hal M0.out.lt)
        replace E0 := hid (E0.out.below hal E0.out.lt)
        replace hbw := hid (bt hbw.out hal)
        clear hal
        generalize X4.heap.size = n5 at T0 ⊢
        replace hrd := hid (fun k hk => ht ▸ hrd.out k hk)
        replace htb := hid (ht ▸ htb.out)
        clear ht
        obtain ⟨d0, d1, d2, d3, df⟩ := D0.out.four
        go_wp2_with fail
        clear d0 d1 d2 d3 df
        go_loopw [61] (fun i wr => ∃ k : Nat, k ≤ d.secs.length ∧ i = .int .i64 k ∧ Hid (Below X6.heap.size X6 wr)) (fun i _ => d.secs.length - (intOf i).toNat)
        case atStart => exact ⟨0, by omega, rfl, hid (Below.refl _ _)⟩
        case round =>
          obtain ⟨k, hk, rfl, hbr⟩ := hrel
          have D4 := hid (D0.out.below hbr.out D0.out.lt)
          have E4 := hid (E0.out.below hbr.out E0.out.lt)
          have T4 := hid (T0.out.below hbr.out T0.out.lt)
          by_cases hlt : k < d.secs.length
          · have hltI : (k : Int) < (d.secs.length : Int) := by omega
            obtain ⟨s1, s2, r1, r2, r3⟩ := hrd.out k hlt
            have hr1 := hid r1
            have hr2 := hid r2
            have hk1 := hid (show (k : Int) ≤ 1024 by have := hL2.out; omega)
            clear r1 r2
            obtain ⟨d0, d1, d2, d3, df⟩ := D4.out.four
            go_wp2_with fail
            refine (read_any d _ k _ (hv.out.below (bt hbw.out hbr.out))).mono ?_
            rw [hr1.out]
            rintro e w5 ⟨rfl, b5⟩
            have hb5 := hid (bt hbr.out b5)
            have E5 := hid (E4.out.below b5 E4.out.lt)
            have T5 := hid (T4.out.below b5 T4.out.lt)
            clear b5 d0 d1 d2 d3 df
            obtain ⟨e0, e1, e2, e3, ef⟩ := E5.out.four
            dsimp only
            go_wp2_with fail
            refine (read_any x _ k _ (u3.out.below hb5.out)).mono ?_
            rw [hr2.out]
            rintro e w6 ⟨rfl, b6⟩
            have hb6 := hid (bt hb5.out b6)
            have T6 := hid (T5.out.below b6 T5.out.lt)
            clear b6 e0 e1 e2 e3 ef hr1 hr2 D4 E4 E5 T4 T5 hb5
            obtain ⟨t0, t1, tf⟩ := T6.out.two
            dsimp only
            have hk2 : (k : Int) ≤ 1024 := hk1.out
            have hk3 : (0 : Int) ≤ (k : Int) := by omega
            cases hq : (s1.toList == s2.toList) with
            | true =>
              go_wp2_with fail
              go_roundw
              case rel => exact ⟨k + 1, by omega, by go_num, hb6⟩
              case measure => simp [intOf]; omega
            | false =>
              have hin := r3 (fun h => by rw [h] at hq; simp at hq)
              have i1 : ¬ (k : Int) < b.f := by omega
              have i2 : ¬ b.f + b.s ≤ (k : Int) := by omega
              have hwr : IntKind.i64.wrap (b.f + b.s) = b.f + b.s := by rw [IntWalk.i64_in _ (by have := htb.out; omega)]
              clear hin
              go_wp2_with fail
              go_roundw
              case rel => exact ⟨k + 1, by omega, by go_num, hb6⟩
              case measure => simp [intOf]; omega
          · obtain rfl : k = d.secs.length := by omega
            replace E4 := E4
            have A4 := hid (A0.out.below hbr.out A0.out.lt)
            have B4 := hid (B0.out.below hbr.out B0.out.lt)
            have M4 := hid (M0.out.below hbr.out M0.out.lt)
            clear D4 T4 hlt
            obtain ⟨e0, e1, e2, e3, ef⟩ := E4.out.four
            obtain ⟨a0, a1, af⟩ := A4.out.two
            obtain ⟨b0, b1, bf⟩ := B4.out.two
            go_wp2_with fail
            (with_reducible refine (hl2.out _ _ (u3.out.below hbr.out)).mono ?_)
            rintro e w7 ⟨rfl, b7⟩
            have M7 := hid (M4.out.below b7 M4.out.lt)
            have hb7 := hid (bt (bt hbw.out hbr.out) b7)
            clear e0 e1 e2 e3 ef a0 a1 af b0 b1 bf b7 hl2
            unfold imV
            try dsimp only
            go_upto_region 19 with fail
            have hal : Below w7.heap.size w7 (w7.alloc (.cells #[.int .u64 (m.epoch : Nat), .string m.pay] 72)) := (Below.refl _ w7).alloc (Nat.le_refl _) _
            have G7 := hid (Blk.new w7 [.int .u64 (m.epoch : Nat), .string m.pay] 72)
            replace M7 := hid (M7.out.below hal M7.out.lt)
            replace hb7 := hid (bt hb7.out hal)
            generalize w7.heap.size = n7 at G7 ⊢
            generalize w7.alloc (.cells #[.int .u64 (m.epoch : Nat), .string m.pay] 72) = X7 at hal M7 G7 hb7 ⊢
            clear hal
            obtain ⟨m0, m1, mf⟩ := M7.out.two
            obtain ⟨g0, g1, gf⟩ := G7.out.two
            have h3 : (m.pay.toList == m.pay.toList) = true := by simp
            go_wp2_with fail
            go_ret
            exact ⟨rfl, hb7.out⟩
      · have h2 : ((X.at' : Int) == 0) = false := beq_eq_false_iff_ne.2 (by omega)
        have ht : toE d a b = a := by rw [hto.out, if_neg (fun h => hx1 h.2)]
        clear hx0 hx1 hto
        obtain ⟨t0, t1, tf⟩ := T0.out.two
        go_upto_region 10 with fail
        clear t0 t1 tf h1 h2
        replace u3 := hid (u3.out.below hal)
        replace D0 := hid (D0.out.below hal D0.out.lt)
        replace A0 := hid (A0.out.below hal A0.out.lt)
        replace B0 := hid (B0.out.below hal B0.out.lt)
        replace M0 := hid (M0.out.below hal M0.out.lt)
        replace E0 := hid (E0.out.below hal E0.out.lt)
        replace hbw := hid (bt hbw.out hal)
        clear hal
        generalize X4.heap.size = n5 at T0 ⊢
        replace hrd := hid (fun k hk => ht ▸ hrd.out k hk)
        replace htb := hid (ht ▸ htb.out)
        clear ht
        obtain ⟨d0, d1, d2, d3, df⟩ := D0.out.four
        go_wp2_with fail
        clear d0 d1 d2 d3 df
        go_loopw [61] (fun i wr => ∃ k : Nat, k ≤ d.secs.length ∧ i = .int .i64 k ∧ Hid (Below X5.heap.size X5 wr)) (fun i _ => d.secs.length - (intOf i).toNat)
        case atStart => exact ⟨0, by omega, rfl, hid (Below.refl _ _)⟩
        case round =>
          obtain ⟨k, hk, rfl, hbr⟩ := hrel
          have D4 := hid (D0.out.below hbr.out D0.out.lt)
          have E4 := hid (E0.out.below hbr.out E0.out.lt)
          have T4 := hid (T0.out.below hbr.out T0.out.lt)
          by_cases hlt : k < d.secs.length
          · have hltI : (k : Int) < (d.secs.length : Int) := by omega
            obtain ⟨s1, s2, r1, r2, r3⟩ := hrd.out k hlt
            have hr1 := hid r1
            have hr2 := hid r2
            have hk1 := hid (show (k : Int) ≤ 1024 by have := hL2.out; omega)
            clear r1 r2
            obtain ⟨d0, d1, d2, d3, df⟩ := D4.out.four
            go_wp2_with fail
            refine (read_any d _ k _ (hv.out.below (bt hbw.out hbr.out))).mono ?_
            rw [hr1.out]
            rintro e w5 ⟨rfl, b5⟩
            have hb5 := hid (bt hbr.out b5)
            have E5 := hid (E4.out.below b5 E4.out.lt)
            have T5 := hid (T4.out.below b5 T4.out.lt)
            clear b5 d0 d1 d2 d3 df
            obtain ⟨e0, e1, e2, e3, ef⟩ := E5.out.four
            dsimp only
            go_wp2_with fail
            refine (read_any x _ k _ (u3.out.below hb5.out)).mono ?_
            rw [hr2.out]
            rintro e w6 ⟨rfl, b6⟩
            have hb6 := hid (bt hb5.out b6)
            have T6 := hid (T5.out.below b6 T5.out.lt)
            clear b6 e0 e1 e2 e3 ef hr1 hr2 D4 E4 E5 T4 T5 hb5
            obtain ⟨t0, t1, tf⟩ := T6.out.two
            dsimp only
            have hk2 : (k : Int) ≤ 1024 := hk1.out
            have hk3 : (0 : Int) ≤ (k : Int) := by omega
            cases hq : (s1.toList == s2.toList) with
            | true =>
              go_wp2_with fail
              go_roundw
              case rel => exact ⟨k + 1, by omega, by go_num, hb6⟩
              case measure => simp [intOf]; omega
            | false =>
              have hin := r3 (fun h => by rw [h] at hq; simp at hq)
              have i1 : ¬ (k : Int) < a.f := by omega
              have i2 : ¬ a.f + a.s ≤ (k : Int) := by omega
              have hwr : IntKind.i64.wrap (a.f + a.s) = a.f + a.s := by rw [IntWalk.i64_in _ (by have := htb.out; omega)]
              clear hin
              go_wp2_with fail
              go_roundw
              case rel => exact ⟨k + 1, by omega, by go_num, hb6⟩
              case measure => simp [intOf]; omega
          · obtain rfl : k = d.secs.length := by omega
            replace E4 := E4
            have A4 := hid (A0.out.below hbr.out A0.out.lt)
            have B4 := hid (B0.out.below hbr.out B0.out.lt)
            have M4 := hid (M0.out.below hbr.out M0.out.lt)
            clear D4 T4 hlt
            obtain ⟨e0, e1, e2, e3, ef⟩ := E4.out.four
            obtain ⟨a0, a1, af⟩ := A4.out.two
            obtain ⟨b0, b1, bf⟩ := B4.out.two
            go_wp2_with fail
            (with_reducible refine (hl2.out _ _ (u3.out.below hbr.out)).mono ?_)
            rintro e w7 ⟨rfl, b7⟩
            have M7 := hid (M4.out.below b7 M4.out.lt)
            have hb7 := hid (bt (bt hbw.out hbr.out) b7)
            clear e0 e1 e2 e3 ef a0 a1 af b0 b1 bf b7 hl2
            unfold imV
            try dsimp only
            go_upto_region 19 with fail
            have hal : Below w7.heap.size w7 (w7.alloc (.cells #[.int .u64 (m.epoch : Nat), .string m.pay] 72)) := (Below.refl _ w7).alloc (Nat.le_refl _) _
            have G7 := hid (Blk.new w7 [.int .u64 (m.epoch : Nat), .string m.pay] 72)
            replace M7 := hid (M7.out.below hal M7.out.lt)
            replace hb7 := hid (bt hb7.out hal)
            generalize w7.heap.size = n7 at G7 ⊢
            generalize w7.alloc (.cells #[.int .u64 (m.epoch : Nat), .string m.pay] 72) = X7 at hal M7 G7 hb7 ⊢
            clear hal
            obtain ⟨m0, m1, mf⟩ := M7.out.two
            obtain ⟨g0, g1, gf⟩ := G7.out.two
            have h3 : (m.pay.toList == m.pay.toList) = true := by simp
            go_wp2_with fail
            go_ret
            exact ⟨rfl, hb7.out⟩
    · have h1 : (X.c == 0) = false := beq_eq_false_iff_ne.2 hx0
      have ht : toE d a b = a := by rw [hto.out, if_neg (fun h => hx0 h.1)]
      clear hx0 hto
      obtain ⟨t0, t1, tf⟩ := T0.out.two
      go_upto_region 10 with fail
      clear t0 t1 tf h1
      replace u3 := hid (u3.out.below hal)
      replace D0 := hid (D0.out.below hal D0.out.lt)
      replace A0 := hid (A0.out.below hal A0.out.lt)
      replace B0 := hid (B0.out.below hal B0.out.lt)
      replace M0 := hid (M0.out.below hal M0.out.lt)
      replace E0 := hid (E0.out.below hal E0.out.lt)
      replace hbw := hid (bt hbw.out hal)
      clear hal
      generalize X4.heap.size = n5 at T0 ⊢
      replace hrd := hid (fun k hk => ht ▸ hrd.out k hk)
      replace htb := hid (ht ▸ htb.out)
      clear ht
      obtain ⟨d0, d1, d2, d3, df⟩ := D0.out.four
      go_wp2_with fail
      clear d0 d1 d2 d3 df
      go_loopw [61] (fun i wr => ∃ k : Nat, k ≤ d.secs.length ∧ i = .int .i64 k ∧ Hid (Below X5.heap.size X5 wr)) (fun i _ => d.secs.length - (intOf i).toNat)
      case atStart => exact ⟨0, by omega, rfl, hid (Below.refl _ _)⟩
      case round =>
        obtain ⟨k, hk, rfl, hbr⟩ := hrel
        have D4 := hid (D0.out.below hbr.out D0.out.lt)
        have E4 := hid (E0.out.below hbr.out E0.out.lt)
        have T4 := hid (T0.out.below hbr.out T0.out.lt)
        by_cases hlt : k < d.secs.length
        · have hltI : (k : Int) < (d.secs.length : Int) := by omega
          obtain ⟨s1, s2, r1, r2, r3⟩ := hrd.out k hlt
          have hr1 := hid r1
          have hr2 := hid r2
          have hk1 := hid (show (k : Int) ≤ 1024 by have := hL2.out; omega)
          clear r1 r2
          obtain ⟨d0, d1, d2, d3, df⟩ := D4.out.four
          go_wp2_with fail
          refine (read_any d _ k _ (hv.out.below (bt hbw.out hbr.out))).mono ?_
          rw [hr1.out]
          rintro e w5 ⟨rfl, b5⟩
          have hb5 := hid (bt hbr.out b5)
          have E5 := hid (E4.out.below b5 E4.out.lt)
          have T5 := hid (T4.out.below b5 T4.out.lt)
          clear b5 d0 d1 d2 d3 df
          obtain ⟨e0, e1, e2, e3, ef⟩ := E5.out.four
          dsimp only
          go_wp2_with fail
          refine (read_any x _ k _ (u3.out.below hb5.out)).mono ?_
          rw [hr2.out]
          rintro e w6 ⟨rfl, b6⟩
          have hb6 := hid (bt hb5.out b6)
          have T6 := hid (T5.out.below b6 T5.out.lt)
          clear b6 e0 e1 e2 e3 ef hr1 hr2 D4 E4 E5 T4 T5 hb5
          obtain ⟨t0, t1, tf⟩ := T6.out.two
          dsimp only
          have hk2 : (k : Int) ≤ 1024 := hk1.out
          have hk3 : (0 : Int) ≤ (k : Int) := by omega
          cases hq : (s1.toList == s2.toList) with
          | true =>
            go_wp2_with fail
            go_roundw
            case rel => exact ⟨k + 1, by omega, by go_num, hb6⟩
            case measure => simp [intOf]; omega
          | false =>
            have hin := r3 (fun h => by rw [h] at hq; simp at hq)
            have i1 : ¬ (k : Int) < a.f := by omega
            have i2 : ¬ a.f + a.s ≤ (k : Int) := by omega
            have hwr : IntKind.i64.wrap (a.f + a.s) = a.f + a.s := by rw [IntWalk.i64_in _ (by have := htb.out; omega)]
            clear hin
            go_wp2_with fail
            go_roundw
            case rel => exact ⟨k + 1, by omega, by go_num, hb6⟩
            case measure => simp [intOf]; omega
        · obtain rfl : k = d.secs.length := by omega
          replace E4 := E4
          have A4 := hid (A0.out.below hbr.out A0.out.lt)
          have B4 := hid (B0.out.below hbr.out B0.out.lt)
          have M4 := hid (M0.out.below hbr.out M0.out.lt)
          clear D4 T4 hlt
          obtain ⟨e0, e1, e2, e3, ef⟩ := E4.out.four
          obtain ⟨a0, a1, af⟩ := A4.out.two
          obtain ⟨b0, b1, bf⟩ := B4.out.two
          go_wp2_with fail
          (with_reducible refine (hl2.out _ _ (u3.out.below hbr.out)).mono ?_)
          rintro e w7 ⟨rfl, b7⟩
          have M7 := hid (M4.out.below b7 M4.out.lt)
          have hb7 := hid (bt (bt hbw.out hbr.out) b7)
          clear e0 e1 e2 e3 ef a0 a1 af b0 b1 bf b7 hl2
          unfold imV
          try dsimp only
          go_upto_region 19 with fail
          have hal : Below w7.heap.size w7 (w7.alloc (.cells #[.int .u64 (m.epoch : Nat), .string m.pay] 72)) := (Below.refl _ w7).alloc (Nat.le_refl _) _
          have G7 := hid (Blk.new w7 [.int .u64 (m.epoch : Nat), .string m.pay] 72)
          replace M7 := hid (M7.out.below hal M7.out.lt)
          replace hb7 := hid (bt hb7.out hal)
          generalize w7.heap.size = n7 at G7 ⊢
          generalize w7.alloc (.cells #[.int .u64 (m.epoch : Nat), .string m.pay] 72) = X7 at hal M7 G7 hb7 ⊢
          clear hal
          obtain ⟨m0, m1, mf⟩ := M7.out.two
          obtain ⟨g0, g1, gf⟩ := G7.out.two
          have h3 : (m.pay.toList == m.pay.toList) = true := by simp
          go_wp2_with fail
          go_ret
          exact ⟨rfl, hb7.out⟩
  · have h1 : (c != 0) = true := by simpa using hc
    by_cases h17 : c = 17
    · subst h17
      obtain rfl : x = d := hsz.out rfl
      clear hok hsz hlx h1 hc hto
      obtain ⟨d0, d1, d2, d3, df⟩ := D0.out.four
      obtain ⟨e0, e1, e2, e3, ef⟩ := E0.out.four
      go_wp2_with fail
      refine (same_self x _ _ _ (hv.out.below hbw.out) u3.out).mono ?_
      rintro e w5 ⟨rfl, b9⟩
      replace hbw := hid (bt hbw.out b9)
      clear d0 d1 d2 d3 df e0 e1 e2 e3 ef D0 A0 B0 M0 E0 u3 b9
      go_wp2_with fail
      go_ret
      exact ⟨rfl, hbw.out⟩
    · have h2 : (c != 17) = true := by simpa using h17
      clear hok hsz hlx hc h17 hto
      go_wp2_with fail
      go_ret
      exact ⟨rfl, hbw.out⟩
end Go.Proofs.Ytgplioocnbjhaaa.slotsOther
