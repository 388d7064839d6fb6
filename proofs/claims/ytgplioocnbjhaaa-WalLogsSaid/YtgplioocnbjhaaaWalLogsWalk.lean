/-
  WalLogs: the walk.
-/
import Derived.Test.YtgplioocnbjhaaaWalLives
import Derived.Test.YtgplioocnbjhaaaWalArgs
import Derived.Test.YtgplioocnbjhaaaFrSame
import Derived.Test.YtgplioocnbjhaaaSectorSame
import Derived.Test.YtgplioocnbjhaaaRound
import Derived.Deep.DrawnRows
namespace Go.Proofs.Ytgplioocnbjhaaa.walLogs
open Go.ChangeShapes Go.WideShapes Go.ChangeAt Go.RowKit
open Go.Proofs.Ytgplioocnbjhaaa.Mem Go.Proofs.Ytgplioocnbjhaaa.Rec Go.Proofs.Ytgplioocnbjhaaa.Sector Go.Proofs.Ytgplioocnbjhaaa.Wal
set_option linter.unusedVariables false
set_option maxRecDepth 100000
theorem not_rowF {w : World} {base e size n b : Nat} {v : Value} {xs cs : List Value} {t : TypeId} (hown : w.ownsRow base e size v n xs) (hb : Blk w b cs t) (hne : t ≠ e) : v.ownBlock ≠ some b := not_row hown hb hne
theorem wapp_step (B : Nat) (W : World) (x : Nat) (v : Value) (n : Nat) (L : List Fr) (f : Fr) (hown : W.ownsRow B 40 4 v n (frC L)) (hx : Blk W x [.int .u8 f.kind, .int .u64 f.epoch, .int .u64 f.seq, .string f.pay] 40) (hn : n ≤ 2000) (hB : B ≤ W.heap.size) :
    ∃ so cp W1, (Builtin.append_ #[55, 55] 55 #[v, .slice (some ⟨x, 0, none⟩) 1 1]).run Try.prog W = .ok (.slice so (n + 1) cp) W1 ∧
      W1.ownsRow B 40 4 (.slice so (n + 1) cp) (n + 1) (frC (L ++ [f])) ∧ Below B W W1 ∧ (∀ b cs t, Blk W b cs t → t ≠ 40 → Blk W1 b cs t) ∧
      (∀ B2 sv pv d, OwnDisk B2 W sv pv d → (∀ k, v.ownBlock = some k → k < B2) → OwnDisk B2 W1 sv pv d) := by
  obtain ⟨i0, hi, hz0, hz1, hz2⟩ := info_parts info_frame
  obtain ⟨x0, x1, x2, x3, _⟩ := hx.four
  obtain ⟨v', w8, hr8, ho8, hg8, _⟩ := run_append_own (P := Try.prog) W B 55 55 40 i0 (.agg #[.int .u8 0, .int .u64 0, .int .u64 0, .string ⟨#[]⟩]) 4 40 Try.underlying55 hi hz0 hz1 hz2 rfl (by decide) _ _ _ hown ⟨x, 0, none⟩ 1 1 [.int .u8 f.kind, .int .u64 f.epoch, .int .u64 f.seq, .string f.pay] rfl
    (by
      intro j u hu
      match j, hu with
      | 0, hu => simp at hu; subst hu; exact x0
      | 1, hu => simp at hu; subst hu; exact x1
      | 2, hu => simp at hu; subst hu; exact x2
      | 3, hu => simp at hu; subst hu; exact x3) (by simp [Value.oneCell']) (by unfold maxLen; omega) (by omega) hB
  obtain ⟨so', cp', rfl, _, _⟩ := ownsRow_form ho8
  rw [show frC L ++ [Value.int .u8 f.kind, .int .u64 f.epoch, .int .u64 f.seq, .string f.pay] = frC (L ++ [f]) by rw [frC_app]; rfl] at ho8
  have key : ∀ (B2 : Nat) (e : TypeId) (size n2 : Nat) (u : Value) (xs : List Value), W.ownsRow B2 e size u n2 xs → (∀ k, v.ownBlock = some k → k < B2) → w8.ownsRow B2 e size u n2 xs := fun B2 e size n2 u xs h hlt =>
    h.kept hg8 (by
      cases hk : u.ownBlock with
      | none => exact .inl rfl
      | some k => exact .inr (fun e => by have h1 := (ownBlock_lt h hk).1; have h2 := hlt k e.symm; omega))
  refine ⟨so', cp', w8, hr8, ho8, (Below.refl B W).grown hg8 hB (fun k hk => (hown.lt k hk).1), fun b cs t hb ht => Blk.grown' hb hg8 (not_row hown hb ht), fun B2 sv pv d hd hlt => ?_⟩
  obtain ⟨h1, M, h2, h3, h4, h5⟩ := hd
  exact ⟨key _ _ _ _ _ _ h1 hlt, M, h2, Nat.le_trans h3 hg8.size, h4, key _ _ _ _ _ _ h5 (fun k hk => Nat.lt_of_lt_of_le (hlt k hk) h2)⟩
theorem _root_.Go.Proofs.Ytgplioocnbjhaaa.Wal.Written.crash {d : Disk} {S ep at' : Nat} {l : List Fr} (w : Written d S ep at' l) (k : List Bool) : crashE d k = (d, 0) := by
  unfold crashE
  rw [if_pos (walChk_zero w.chk).1]
  obtain ⟨h1, h2, h3, h4⟩ := (⟨w.off, w.fuse, w.pend, trivial⟩ : d.off = false ∧ d.fuse = -1 ∧ d.pend = [] ∧ True)
  obtain ⟨secs, pend, off, fuse⟩ := d
  dsimp only at h1 h2 h3
  subst h1 h2 h3
  rfl
theorem _root_.Go.Proofs.Ytgplioocnbjhaaa.Wal.Written.scan {d : Disk} {S ep at' : Nat} {l : List Fr} (w : Written d S ep at' l) : scanE d ⟨0, S⟩ ep = (l, at', 0) := by
  unfold scanE
  rw [if_neg (by simpa using w.chk), if_neg (by rw [w.off]; simp)]
  have e1 := w.log
  have e2 := w.till
  show (logF (cont d ⟨0, S⟩) S ep, endF (cont d ⟨0, S⟩) S ep, (0 : Int)) = _
  rw [e1, e2]
theorem _root_.Go.Proofs.Ytgplioocnbjhaaa.Wal.Written.scan_other {d : Disk} {S ep at' : Nat} {l : List Fr} (w : Written d S ep at' l) {o : Nat} (ho : ¬ o = ep) : scanE d ⟨0, S⟩ o = ([], 0, 0) := by
  unfold scanE
  rw [if_neg (by simpa using w.chk), if_neg (by rw [w.off]; simp)]
  obtain ⟨e1, e2⟩ := w.other ho
  show (logF (cont d ⟨0, S⟩) S o, endF (cont d ⟨0, S⟩) S o, (0 : Int)) = _
  rw [e1, e2]
set_option maxHeartbeats 16000000 in
theorem walk (a0 : Int) (v1 : Value) (a1 : List ByteArray) (a2 a3 : Int) (v4 : Value) (a4 : List Bool) (w : World) (w0 : (Lit.int .i64 a0).wf = true) (w1 : StrsV w v1 a1) (s1 : ∀ s ∈ a1, s.size ≤ maxLen) (w2 : (Lit.int .u64 a2).wf = true) (w3 : (Lit.int .u64 a3).wf = true) (w4 : BoolsV w v4 a4) :
    Calls Try.prog 9 #[.int .i64 a0, v1, .int .u64 a2, .int .u64 a3, v4] w fun e w' => e = .returned (.bool true) ∧ Below w.heap.size w w' := by
  obtain ⟨ep, rfl, hep⟩ := Crc.nat_u64 w2
  obtain ⟨ot, rfl, hot⟩ := Crc.nat_u64 w3
  obtain ⟨ko, kcap, rfl, _⟩ := SlV.form w4
  obtain ⟨vo, vcap, rfl, hv2, hv3⟩ := SlV.form w1
  have hkp := hid w4
  have hvs := hid w1
  have hss := hid s1
  have hb0 := bounds_i64 w0
  have hep' := hid hep
  unfold maxLen at hv3
  have hnl : (a1.length : Int) ≤ 9223372036854775807 := by omega
  clear w0 w1 s1 w2 w3 w4 hep hot hv2 hv3
  go_enter Try.func9, Try.ntmps9
  go_wp2_with fail
  refine (Wal.lives_any _).mono ?_
  rintro e w1 ⟨rfl, b1⟩
  go_wp2_with fail
  refine (new_any a0 _).mono ?_
  unfold newE
  by_cases hsz : a0 < 1 ∨ 1024 < a0
  · rw [if_pos hsz]
    rintro e w2 hr
    obtain ⟨so2, sc2, po2, pc2, rfl, o2, b2⟩ := hr.open
    have hb := hid (bt b1 b2)
    clear hr o2 b1 b2
    dsimp only
    go_wp2_with fail
    go_ret
    exact ⟨rfl, hb.out.alloc hb.out.size _⟩
  · rw [if_neg hsz]
    obtain ⟨S, rfl⟩ : ∃ S : Nat, a0 = S := ⟨a0.toNat, by omega⟩
    have hS1 : 1 ≤ S := by omega
    have hS2 : S ≤ 1024 := by omega
    rw [Int.toNat_natCast]
    have hW0 := hid (Written.start (ep := ep) hS1 hS2)
    generalize (⟨List.replicate S Sector.blank, [], false, -1⟩ : Disk) = dd at hW0 ⊢
    rintro e w2 hr
    obtain ⟨so2, sc2, po2, pc2, rfl, o2, b2⟩ := hr.open
    dsimp only at o2
    have hrS := hid (show Rg.has ⟨0, S⟩ from ⟨by simp, by simp, by show (-9223372036854775808 : Int) ≤ (S : Int); omega, by show (S : Int) ≤ 9223372036854775807; omega⟩)
    have hSi : (S : Int) ≤ 1024 := by omega
    clear hr hsz hb0
    have hbw := hid (bt b1 b2)
    clear b1 b2
    dsimp only
    go_upto_region 7 with fail
    have K1 := hid ((Blk.new w2 [.slice so2 dd.secs.length sc2, .slice po2 dd.pend.length pc2, .bool dd.off, .int .i64 dd.fuse] 25).alloc (.cells #[.int .i64 0, .int .i64 (S : Nat)] 54))
    have K2 := hid (Blk.new' (w2.alloc (.cells #[.slice so2 dd.secs.length sc2, .slice po2 dd.pend.length pc2, .bool dd.off, .int .i64 dd.fuse] 25)) [.int .i64 0, .int .i64 (S : Nat)] 54 (w2.heap.size + 1) (by simp))
    have hal : Below w2.heap.size w2 ((w2.alloc (.cells #[.slice so2 dd.secs.length sc2, .slice po2 dd.pend.length pc2, .bool dd.off, .int .i64 dd.fuse] 25)).alloc (.cells #[.int .i64 0, .int .i64 (S : Nat)] 54)) := by go_grown
    have hb := hid (bt hbw.out hal)
    have u := hid (o2.v.below hal)
    have hn1 := hid hbw.out.size
    generalize (w2.alloc (.cells #[.slice so2 dd.secs.length sc2, .slice po2 dd.pend.length pc2, .bool dd.off, .int .i64 dd.fuse] 25)).alloc (.cells #[.int .i64 0, .int .i64 (S : Nat)] 54) = X2 at K1 K2 hal hb u ⊢
    clear hal o2 hbw
    generalize w2.heap.size = n1 at K1 K2 hn1 ⊢
    go_wp2_with fail
    go_loopw [14, 15, 41] (fun want a i wr => ∃ (k : Nat) (d : Disk) (l : List Fr) (at1 : Nat) (so : Option Addr) (sc : Nat) (po : Option Addr) (pc : Nat) (lo : Option Addr) (lc : Nat), k ≤ a1.length ∧ i = .int .i64 k ∧ want = .slice lo l.length lc ∧ a = .int .i64 at1 ∧ Hid (Written d S ep at1 l) ∧ l.length ≤ 199 ∧
      Hid (Blk wr n1 [.slice so d.secs.length sc, .slice po d.pend.length pc, .bool d.off, .int .i64 d.fuse] 25) ∧ Hid (Blk wr (n1 + 1) [.int .i64 0, .int .i64 (S : Nat)] 54) ∧ Hid (DiskV wr (.agg #[.slice so d.secs.length sc, .slice po d.pend.length pc, .bool d.off, .int .i64 d.fuse]) d) ∧
      Hid (wr.ownsRow w.heap.size 40 4 (.slice lo l.length lc) l.length (frC l)) ∧ Hid (Below w.heap.size w wr)) (fun _ _ i _ => a1.length - (intOf i).toNat)
    case atStart => exact ⟨0, dd, [], 0, so2, sc2, po2, pc2, none, 0, by omega, rfl, rfl, rfl, hW0, by simp, K1, K2, u, hid (World.ownsRow_nil _ _ _ _), hb⟩
    case round =>
      clear K1 K2 u hb hW0
      obtain ⟨k, d, l, at1, so, sc, po, pc, lo, lc, hk, rfl, rfl, rfl, hW, hll, K1, K2, u, hw, hb⟩ := hrel
      by_cases hlt : k < a1.length
      · obtain ⟨tb, toff, tcap', hv, _, _, htb, htc⟩ := StrsV.open hvs.out (by omega)
        simp only [Value.slice.injEq] at hv
        obtain ⟨rfl, -, rfl⟩ := hv
        have tc := (hb.out.cell (p := ⟨tb, toff + k, none⟩) htb).trans (htc k hlt)
        have hki : (k : Int) < (a1.length : Int) := by omega
        have hps := hss.out a1[k] (List.getElem_mem hlt)
        clear htc
        generalize a1[k] = p at tc hps
        have hps' := hid (show p.size ≤ 9223372036854775807 by unfold maxLen at hps; omega)
        have hli : (l.length : Int) ≤ 199 := by omega
        have hat : at1 ≤ S := by have := hW.out.till; rw [← this]; exact pos_le _ _ _
        have hati : (at1 : Int) ≤ 1024 := by omega
        have hcase := hid (app_live (r := ⟨0, S⟩) (a := at1) (f := ⟨1, ep, l.length, p⟩) hW.out.chk hW.out.off (by rw [hW.out.fuse]; decide) (by rw [hW.out.pend]; simp) (by omega) (by dsimp only; omega) (by simp))
        have hmore := hid (fun e te h1 h2 => hW.out.more (e := e) (te := te) (f := ⟨1, ep, l.length, p⟩) h1 h2 ⟨by simp, hep'.out, by dsimp only; omega, by have := (fchk_zero (app_ok h1).chk).2; dsimp only at this ⊢; omega⟩ rfl rfl (by omega))
        have hap := hid (fun v W (h : DiskV W v d) => append_any d v ⟨0, S⟩ at1 ⟨1, ep, l.length, p⟩ W h (by rw [hW.out.fuse]; decide) hrS.out (WalkArith.wf_i64 ⟨by omega, by omega⟩) ⟨by simp, hep'.out, by dsimp only; omega, hps'.out⟩)
        clear hps
        rw [show rgV ⟨0, S⟩ = .agg #[.int .i64 0, .int .i64 (S : Nat)] from rfl, show frV ⟨1, ep, l.length, p⟩ = .agg #[.int .u8 1, .int .u64 (ep : Nat), .int .u64 (l.length : Nat), .string p] from rfl] at hap
        go_upto_region 13 with fail
        have hal : Below wr.heap.size wr (wr.alloc (.cells #[.int .u8 1, .int .u64 (ep : Nat), .int .u64 (l.length : Nat), .string p] 40)) := (Below.refl _ wr).alloc (Nat.le_refl _) _
        have F4 := hid (Blk.new wr [.int .u8 1, .int .u64 (ep : Nat), .int .u64 (l.length : Nat), .string p] 40)
        replace K1 := hid (K1.out.below hal K1.out.lt)
        replace K2 := hid (K2.out.below hal K2.out.lt)
        have u5 := hid (u.out.below hal)
        replace hw := hid (ownsRow_below hw.out hal)
        replace hb := hid (bt hb.out hal)
        clear hal u tc
        generalize wr.heap.size = f4 at F4 ⊢
        generalize wr.alloc (.cells #[.int .u8 1, .int .u64 (ep : Nat), .int .u64 (l.length : Nat), .string p] 40) = X4 at F4 K1 K2 u5 hw hb ⊢
        obtain ⟨c0, c1, c2, c3, cf⟩ := K1.out.four
        obtain ⟨r0, r1, rf⟩ := K2.out.two
        obtain ⟨g0, g1, g2, g3, gf⟩ := F4.out.four
        go_wp2_with fail
        rcases hcase.out with ⟨hl3, hE⟩ | ⟨hl3, hr3, hE⟩ | ⟨e, hE, hfu⟩
        · replace hE := hid hE
          clear hcase hmore hl3
          replace hap := hid (fun v W h => hE.out ▸ hap.out v W h)
          refine (hap.out _ _ u5.out).mono ?_
          rintro e3 w3 hr
          obtain ⟨so4, sc4, po4, pc4, rfl, o4, b4⟩ := hr.open
          dsimp only at o4
          clear hr hap
          have hal : Below w3.heap.size w3 (w3.alloc (.cells #[.slice so4 d.secs.length sc4, .slice po4 d.pend.length pc4, .bool d.off, .int .i64 d.fuse] 25)) := (Below.refl _ w3).alloc (Nat.le_refl _) _
          replace K1 := hid ((K1.out.below b4 K1.out.lt).below hal (Nat.lt_of_lt_of_le K1.out.lt b4.size))
          replace K2 := hid ((K2.out.below b4 K2.out.lt).below hal (Nat.lt_of_lt_of_le K2.out.lt b4.size))
          replace u5 := hid ((u5.out.below b4).below hal)
          replace hw := hid (ownsRow_below (ownsRow_below hw.out b4) hal)
          replace hb := hid (bt (bt hb.out b4) hal)
          have E5 := hid (Blk.new w3 [.slice so4 d.secs.length sc4, .slice po4 d.pend.length pc4, .bool d.off, .int .i64 d.fuse] 25)
          have u4 := hid (o4.v.below hal)
          clear c0 c1 c2 c3 cf r0 r1 rf g0 g1 g2 g3 gf o4 b4 F4
          dsimp only
          go_upto_region 14 with fail
          generalize w3.heap.size = e4 at E5 ⊢
          generalize w3.alloc (.cells #[.slice so4 d.secs.length sc4, .slice po4 d.pend.length pc4, .bool d.off, .int .i64 d.fuse] 25) = X5 at hal K1 K2 u5 hw hb E5 u4 ⊢
          clear hal
          obtain ⟨c0, c1, c2, c3, cf⟩ := K1.out.four
          obtain ⟨g0, g1, g2, g3, gf⟩ := E5.out.four
          go_wp2_with fail
          refine (same_self d _ _ _ u5.out u4.out).mono ?_
          rintro e6 w6 ⟨rfl, b6⟩
          replace K1 := hid (K1.out.below b6 K1.out.lt)
          replace K2 := hid (K2.out.below b6 K2.out.lt)
          replace u5 := hid (u5.out.below b6)
          replace hw := hid (ownsRow_below hw.out b6)
          replace hb := hid (bt hb.out b6)
          clear c0 c1 c2 c3 cf g0 g1 g2 g3 gf b6 E5 u4
          go_wp2_with fail
          go_roundw
          case rel => exact ⟨k + 1, d, l, at1, so, sc, po, pc, lo, lc, by omega, by go_num, rfl, rfl, hW, hll, K1, K2, u5, hw, hb⟩
          case measure => simp [intOf]; omega
        · replace hE := hid hE
          clear hcase hmore hl3 hr3
          replace hap := hid (fun v W h => hE.out ▸ hap.out v W h)
          refine (hap.out _ _ u5.out).mono ?_
          rintro e3 w3 hr
          obtain ⟨so4, sc4, po4, pc4, rfl, o4, b4⟩ := hr.open
          dsimp only at o4
          clear hr hap
          have hal : Below w3.heap.size w3 (w3.alloc (.cells #[.slice so4 d.secs.length sc4, .slice po4 d.pend.length pc4, .bool d.off, .int .i64 d.fuse] 25)) := (Below.refl _ w3).alloc (Nat.le_refl _) _
          replace K1 := hid ((K1.out.below b4 K1.out.lt).below hal (Nat.lt_of_lt_of_le K1.out.lt b4.size))
          replace K2 := hid ((K2.out.below b4 K2.out.lt).below hal (Nat.lt_of_lt_of_le K2.out.lt b4.size))
          replace u5 := hid ((u5.out.below b4).below hal)
          replace hw := hid (ownsRow_below (ownsRow_below hw.out b4) hal)
          replace hb := hid (bt (bt hb.out b4) hal)
          have E5 := hid (Blk.new w3 [.slice so4 d.secs.length sc4, .slice po4 d.pend.length pc4, .bool d.off, .int .i64 d.fuse] 25)
          have u4 := hid (o4.v.below hal)
          clear c0 c1 c2 c3 cf r0 r1 rf g0 g1 g2 g3 gf o4 b4 F4
          dsimp only
          go_upto_region 14 with fail
          generalize w3.heap.size = e4 at E5 ⊢
          generalize w3.alloc (.cells #[.slice so4 d.secs.length sc4, .slice po4 d.pend.length pc4, .bool d.off, .int .i64 d.fuse] 25) = X5 at hal K1 K2 u5 hw hb E5 u4 ⊢
          clear hal
          obtain ⟨c0, c1, c2, c3, cf⟩ := K1.out.four
          obtain ⟨g0, g1, g2, g3, gf⟩ := E5.out.four
          go_wp2_with fail
          refine (same_self d _ _ _ u5.out u4.out).mono ?_
          rintro e6 w6 ⟨rfl, b6⟩
          replace K1 := hid (K1.out.below b6 K1.out.lt)
          replace K2 := hid (K2.out.below b6 K2.out.lt)
          replace u5 := hid (u5.out.below b6)
          replace hw := hid (ownsRow_below hw.out b6)
          replace hb := hid (bt hb.out b6)
          clear c0 c1 c2 c3 cf g0 g1 g2 g3 gf b6 E5 u4
          go_wp2_with fail
          go_roundw
          case rel => exact ⟨k + 1, d, l, at1, so, sc, po, pc, lo, lc, by omega, by go_num, rfl, rfl, hW, hll, K1, K2, u5, hw, hb⟩
          case measure => simp [intOf]; omega
        · have hWr := hid (hmore.out e _ hE hfu).1
          have htn : (at1 : Int) + ((pcs p.size : Nat) + 1) = ((at1 + (pcs p.size + 1) : Nat) : Int) := by push_cast; rfl
          rw [htn] at hE
          obtain ⟨at2, hat2⟩ : ∃ at2, at1 + (pcs p.size + 1) = at2 := ⟨_, rfl⟩
          rw [hat2] at hE hWr
          replace hE := hid hE
          clear hcase hmore htn hat2 hfu hW hat hati
          replace hap := hid (fun v W h => hE.out ▸ hap.out v W h)
          refine (hap.out _ _ u5.out).mono ?_
          rintro e3 w3 hr
          obtain ⟨so4, sc4, po4, pc4, rfl, o4, b4⟩ := hr.open
          dsimp only at o4
          clear hr hap
          have hal : Below w3.heap.size w3 (w3.alloc (.cells #[.slice so4 e.secs.length sc4, .slice po4 e.pend.length pc4, .bool e.off, .int .i64 e.fuse] 25)) := (Below.refl _ w3).alloc (Nat.le_refl _) _
          have hn1X := hid K1.out.lt
          have hwl := hid (fun k hk => (hw.out.lt k hk).2)
          replace K1 := hid ((K1.out.below b4 K1.out.lt).below hal (Nat.lt_of_lt_of_le K1.out.lt b4.size))
          replace K2 := hid ((K2.out.below b4 K2.out.lt).below hal (Nat.lt_of_lt_of_le K2.out.lt b4.size))
          have F5 := hid ((F4.out.below b4 F4.out.lt).below hal (Nat.lt_of_lt_of_le F4.out.lt b4.size))
          replace hw := hid (ownsRow_below (ownsRow_below hw.out b4) hal)
          have hcur := hid (bt (bt hb.out b4) hal)
          have E5 := hid (Blk.new w3 [.slice so4 e.secs.length sc4, .slice po4 e.pend.length pc4, .bool e.off, .int .i64 e.fuse] 25)
          have O5 := hid (o4.below hal)
          clear c0 c1 c2 c3 cf r0 r1 rf g0 g1 g2 g3 gf o4 b4 F4 u5 hb
          dsimp only
          go_upto_region 17 with fail
          generalize w3.heap.size = e4 at E5 ⊢
          generalize w3.alloc (.cells #[.slice so4 e.secs.length sc4, .slice po4 e.pend.length pc4, .bool e.off, .int .i64 e.fuse] 25) = X5 at hal K1 K2 hw hcur E5 F5 O5 ⊢
          clear hal
          generalize X4.heap.size = B5 at hn1X hwl O5
          go_cut [14, 15] (fun s14 s15 wx => ∃ (so6 : Option Addr) (cp6 : Nat) (so4 : Option Addr) (sc4 : Nat) (po4 : Option Addr) (pc4 : Nat), s14 = .slice so6 (l.length + 1) cp6 ∧ s15 = .int .i64 at2 ∧ Hid (Blk wx n1 [.slice so4 e.secs.length sc4, .slice po4 e.pend.length pc4, .bool e.off, .int .i64 e.fuse] 25) ∧ Hid (Blk wx (n1 + 1) [.int .i64 0, .int .i64 (S : Nat)] 54) ∧ Hid (DiskV wx (.agg #[.slice so4 e.secs.length sc4, .slice po4 e.pend.length pc4, .bool e.off, .int .i64 e.fuse]) e) ∧ Hid (wx.ownsRow w.heap.size 40 4 (.slice so6 (l.length + 1) cp6) (l.length + 1) (frC (l ++ [(⟨1, ep, l.length, p⟩ : Fr)]))) ∧ Hid (Below w.heap.size w wx))
          case first =>
            have hdr := (Below.refl X5.heap.size X5).drew
            replace K1 := hid (K1.out.below hdr K1.out.lt)
            replace K2 := hid (K2.out.below hdr K2.out.lt)
            replace E5 := hid (E5.out.below hdr E5.out.lt)
            replace F5 := hid (F5.out.below hdr F5.out.lt)
            replace O5 := hid (O5.out.below hdr)
            replace hw := hid (ownsRow_below hw.out hdr)
            replace hcur := hid (bt hcur.out hdr)
            have hmix : Try.prog.follows .mixedOrders = true := by kernel_rfl
            refine wp_region_any hmix ?_
            clear hmix
            rw [show ({ heap := X5.heap, tape := X5.tape, drawn := X5.drawn + 1, os := X5.os, output := X5.output } : World) = X5.drew from rfl]
            generalize X5.drew = Z0 at hdr K1 K2 E5 F5 O5 hw hcur ⊢
            clear hdr
            refine wpAny_take (i := 1) (v := ?_) rfl (by kernel_rfl) (by kernel_rfl) (by kernel_rfl) (fun _ _ _ h => h) (Or.inl ⟨by rfl, ?_⟩) ?_
            rotate_left 1
            (intro w; go_simp; try with_reducible rfl)
            (try simp only [Act.put, List.getElem_toArray, List.getElem_cons_zero, List.getElem_cons_succ, List.setIfInBounds_toArray, List.set_cons_zero, List.set_cons_succ])
            refine wpAny_take (i := 2) (v := ?_) rfl (by kernel_rfl) (by kernel_rfl) (by kernel_rfl) (fun _ _ _ h => h) (Or.inl ⟨by rfl, ?_⟩) ?_
            rotate_left 1
            (intro w; go_simp; try with_reducible rfl)
            (try simp only [Act.put, List.getElem_toArray, List.getElem_cons_zero, List.getElem_cons_succ, List.setIfInBounds_toArray, List.set_cons_zero, List.set_cons_succ])
            refine wpAny_ready (rs := [0, 3]) (by kernel_rfl) (by simp) ?_
            refine AllReady.cons rfl (fun K hK => ?_) ?_
            · skip
              obtain ⟨e0, e1, e2, e3, ef⟩ := E5.out.four
              go_simp
              clear e0 e1 e2 e3 ef
              refine hK _ _ ?_
              clear hK K
              (try simp only [Act.put, List.getElem_toArray, List.getElem_cons_zero, List.getElem_cons_succ, List.setIfInBounds_toArray, List.set_cons_zero, List.set_cons_succ])
              refine wpAny_ready (rs := [3]) (by kernel_rfl) (by simp) ?_
              refine AllReady.cons rfl (fun K hK => ?_) AllReady.nil
              obtain ⟨f0, f1, f2, f3, ff⟩ := F5.out.four
              go_simp
              clear f0 f1 f2 f3 ff
              refine hK _ _ ?_
              clear hK K
              (try simp only [Act.put, List.getElem_toArray, List.getElem_cons_zero, List.getElem_cons_succ, List.setIfInBounds_toArray, List.set_cons_zero, List.set_cons_succ])
              refine wpAny_ready (rs := [4]) (by kernel_rfl) (by simp) ?_
              refine AllReady.cons rfl (fun K hK => ?_) AllReady.nil
              go_simp
              refine hK _ _ ?_
              clear hK K
              (try simp only [Act.put, List.getElem_toArray, List.getElem_cons_zero, List.getElem_cons_succ, List.setIfInBounds_toArray, List.set_cons_zero, List.set_cons_succ])
              have hlit := hid (Blk.new Z0 [.int .u8 1, .int .u64 (ep : Nat), .int .u64 (l.length : Nat), .string p] 40)
              have hal : Below Z0.heap.size Z0 (Z0.alloc (.cells #[.int .u8 1, .int .u64 (ep : Nat), .int .u64 (l.length : Nat), .string p] 40)) := (Below.refl _ _).alloc (Nat.le_refl _) _
              replace K1 := hid (K1.out.below hal K1.out.lt)
              replace K2 := hid (K2.out.below hal K2.out.lt)
              replace E5 := hid (E5.out.below hal E5.out.lt)
              replace F5 := hid (F5.out.below hal F5.out.lt)
              replace O5 := hid (O5.out.below hal)
              replace hw := hid (ownsRow_below hw.out hal)
              replace hcur := hid (bt hcur.out hal)
              clear hal
              skip
              generalize Z0.alloc (.cells #[.int .u8 1, .int .u64 (ep : Nat), .int .u64 (l.length : Nat), .string p] 40) = Z1 at K1 K2 E5 F5 O5 hw hcur hlit ⊢
              refine wpAny_ready (rs := [5]) (by kernel_rfl) (by simp) ?_
              refine AllReady.cons rfl (fun K hK => ?_) AllReady.nil
              obtain ⟨so6, cp6, Z2, hrun, hw6, hb6, hk6, ho6⟩ := wapp_step w.heap.size Z1 _ _ _ l ⟨1, ep, l.length, p⟩ hw.out hlit.out (by omega) hcur.out.size
              refine Rec.step_append_run rfl (.tmp 76) (.tmp 78) 55 rfl _ _ _ _ rfl rfl hrun ?_
              refine hK _ _ ?_
              clear hK K
              (try simp only [Act.put, List.getElem_toArray, List.getElem_cons_zero, List.getElem_cons_succ, List.setIfInBounds_toArray, List.set_cons_zero, List.set_cons_succ])
              replace K1 := hid (hk6 _ _ _ K1.out (by decide))
              replace K2 := hid (hk6 _ _ _ K2.out (by decide))
              replace E5 := hid (hk6 _ _ _ E5.out (by decide))
              replace O5 := hid (ho6 _ _ _ _ O5.out hwl.out)
              replace hw := hid hw6
              replace hcur := hid (hcur.out.trans hb6)
              clear hrun hw6 hb6 hk6 ho6 hlit
              refine wpAny_ready (rs := [6]) (by kernel_rfl) (by simp) ?_
              refine AllReady.cons rfl (fun K hK => ?_) AllReady.nil
              obtain ⟨d0, d1, d2, d3, df⟩ := K1.out.four
              go_simp
              clear d0 d1 d2 d3 df
              refine hK _ _ ?_
              clear hK K
              (try simp only [Act.put, List.getElem_toArray, List.getElem_cons_zero, List.getElem_cons_succ, List.setIfInBounds_toArray, List.set_cons_zero, List.set_cons_succ])
              refine wpAny_take (i := 7) (v := ?_) rfl (by kernel_rfl) (by kernel_rfl) (by kernel_rfl) (fun _ _ _ h => h) (Or.inl ⟨by rfl, ?_⟩) ?_
              rotate_left 1
              (intro w; go_simp; try with_reducible rfl)
              (try simp only [Act.put, List.getElem_toArray, List.getElem_cons_zero, List.getElem_cons_succ, List.setIfInBounds_toArray, List.set_cons_zero, List.set_cons_succ])
              refine wpAny_take (i := 8) (v := ?_) rfl (by kernel_rfl) (by kernel_rfl) (by kernel_rfl) (fun _ _ _ h => h) (Or.inl ⟨by rfl, ?_⟩) ?_
              rotate_left 1
              (intro w; go_simp; try with_reducible rfl)
              (try simp only [Act.put, List.getElem_toArray, List.getElem_cons_zero, List.getElem_cons_succ, List.setIfInBounds_toArray, List.set_cons_zero, List.set_cons_succ])
              refine wpAny_done (by kernel_rfl) ?_ _
              obtain ⟨K1', O6, hb6⟩ := box4 K1.out O5.out hn1X.out hcur.out hn1.out (.slice so4 e.secs.length sc4) (.slice po4 e.pend.length pc4) (.bool e.off) (.int .i64 e.fuse)
              have K2' := hid ((((K2.out.other (p := ⟨n1, 0, none⟩) (by simp) (.slice so4 e.secs.length sc4)).other (p := ⟨n1, 1, none⟩) (by simp) (.slice po4 e.pend.length pc4)).other (p := ⟨n1, 2, none⟩) (by simp) (.bool e.off)).other (p := ⟨n1, 3, none⟩) (by simp) (.int .i64 e.fuse))
              have hne := not_rowF hw.out K1.out (by decide)
              have hw' := hid (ownsRow_setCell_other (ownsRow_setCell_other (ownsRow_setCell_other (ownsRow_setCell_other hw.out (a := ⟨n1, 0, none⟩) hne (.slice so4 e.secs.length sc4)) (a := ⟨n1, 1, none⟩) hne (.slice po4 e.pend.length pc4)) (a := ⟨n1, 2, none⟩) hne (.bool e.off)) (a := ⟨n1, 3, none⟩) hne (.int .i64 e.fuse))
              generalize (((Z2.setCell ⟨n1, 0, none⟩ (.slice so4 e.secs.length sc4)).setCell ⟨n1, 1, none⟩ (.slice po4 e.pend.length pc4)).setCell ⟨n1, 2, none⟩ (.bool e.off)).setCell ⟨n1, 3, none⟩ (.int .i64 e.fuse) = X6 at K1' K2' hw' O6 hb6 ⊢
              have u6 := hid O6.out.v
              clear K1 K2 E5 O5 hw hcur hne O6
              go_wp2_with fail
              go_meet
              exact ⟨so6, cp6, so4, sc4, po4, pc4, rfl, rfl, K1', K2', u6, hw', hb6⟩
            refine AllReady.cons rfl (fun K hK => ?_) AllReady.nil
            obtain ⟨f0, f1, f2, f3, ff⟩ := F5.out.four
            go_simp
            clear f0 f1 f2 f3 ff
            refine hK _ _ ?_
            clear hK K
            (try simp only [Act.put, List.getElem_toArray, List.getElem_cons_zero, List.getElem_cons_succ, List.setIfInBounds_toArray, List.set_cons_zero, List.set_cons_succ])
            refine wpAny_ready (rs := [0, 4]) (by kernel_rfl) (by simp) ?_
            refine AllReady.cons rfl (fun K hK => ?_) ?_
            · skip
              obtain ⟨e0, e1, e2, e3, ef⟩ := E5.out.four
              go_simp
              clear e0 e1 e2 e3 ef
              refine hK _ _ ?_
              clear hK K
              (try simp only [Act.put, List.getElem_toArray, List.getElem_cons_zero, List.getElem_cons_succ, List.setIfInBounds_toArray, List.set_cons_zero, List.set_cons_succ])
              refine wpAny_ready (rs := [4]) (by kernel_rfl) (by simp) ?_
              refine AllReady.cons rfl (fun K hK => ?_) AllReady.nil
              go_simp
              refine hK _ _ ?_
              clear hK K
              (try simp only [Act.put, List.getElem_toArray, List.getElem_cons_zero, List.getElem_cons_succ, List.setIfInBounds_toArray, List.set_cons_zero, List.set_cons_succ])
              have hlit := hid (Blk.new Z0 [.int .u8 1, .int .u64 (ep : Nat), .int .u64 (l.length : Nat), .string p] 40)
              have hal : Below Z0.heap.size Z0 (Z0.alloc (.cells #[.int .u8 1, .int .u64 (ep : Nat), .int .u64 (l.length : Nat), .string p] 40)) := (Below.refl _ _).alloc (Nat.le_refl _) _
              replace K1 := hid (K1.out.below hal K1.out.lt)
              replace K2 := hid (K2.out.below hal K2.out.lt)
              replace E5 := hid (E5.out.below hal E5.out.lt)
              replace F5 := hid (F5.out.below hal F5.out.lt)
              replace O5 := hid (O5.out.below hal)
              replace hw := hid (ownsRow_below hw.out hal)
              replace hcur := hid (bt hcur.out hal)
              clear hal
              skip
              generalize Z0.alloc (.cells #[.int .u8 1, .int .u64 (ep : Nat), .int .u64 (l.length : Nat), .string p] 40) = Z1 at K1 K2 E5 F5 O5 hw hcur hlit ⊢
              refine wpAny_ready (rs := [5]) (by kernel_rfl) (by simp) ?_
              refine AllReady.cons rfl (fun K hK => ?_) AllReady.nil
              obtain ⟨so6, cp6, Z2, hrun, hw6, hb6, hk6, ho6⟩ := wapp_step w.heap.size Z1 _ _ _ l ⟨1, ep, l.length, p⟩ hw.out hlit.out (by omega) hcur.out.size
              refine Rec.step_append_run rfl (.tmp 76) (.tmp 78) 55 rfl _ _ _ _ rfl rfl hrun ?_
              refine hK _ _ ?_
              clear hK K
              (try simp only [Act.put, List.getElem_toArray, List.getElem_cons_zero, List.getElem_cons_succ, List.setIfInBounds_toArray, List.set_cons_zero, List.set_cons_succ])
              replace K1 := hid (hk6 _ _ _ K1.out (by decide))
              replace K2 := hid (hk6 _ _ _ K2.out (by decide))
              replace E5 := hid (hk6 _ _ _ E5.out (by decide))
              replace O5 := hid (ho6 _ _ _ _ O5.out hwl.out)
              replace hw := hid hw6
              replace hcur := hid (hcur.out.trans hb6)
              clear hrun hw6 hb6 hk6 ho6 hlit
              refine wpAny_ready (rs := [6]) (by kernel_rfl) (by simp) ?_
              refine AllReady.cons rfl (fun K hK => ?_) AllReady.nil
              obtain ⟨d0, d1, d2, d3, df⟩ := K1.out.four
              go_simp
              clear d0 d1 d2 d3 df
              refine hK _ _ ?_
              clear hK K
              (try simp only [Act.put, List.getElem_toArray, List.getElem_cons_zero, List.getElem_cons_succ, List.setIfInBounds_toArray, List.set_cons_zero, List.set_cons_succ])
              refine wpAny_take (i := 7) (v := ?_) rfl (by kernel_rfl) (by kernel_rfl) (by kernel_rfl) (fun _ _ _ h => h) (Or.inl ⟨by rfl, ?_⟩) ?_
              rotate_left 1
              (intro w; go_simp; try with_reducible rfl)
              (try simp only [Act.put, List.getElem_toArray, List.getElem_cons_zero, List.getElem_cons_succ, List.setIfInBounds_toArray, List.set_cons_zero, List.set_cons_succ])
              refine wpAny_take (i := 8) (v := ?_) rfl (by kernel_rfl) (by kernel_rfl) (by kernel_rfl) (fun _ _ _ h => h) (Or.inl ⟨by rfl, ?_⟩) ?_
              rotate_left 1
              (intro w; go_simp; try with_reducible rfl)
              (try simp only [Act.put, List.getElem_toArray, List.getElem_cons_zero, List.getElem_cons_succ, List.setIfInBounds_toArray, List.set_cons_zero, List.set_cons_succ])
              refine wpAny_done (by kernel_rfl) ?_ _
              obtain ⟨K1', O6, hb6⟩ := box4 K1.out O5.out hn1X.out hcur.out hn1.out (.slice so4 e.secs.length sc4) (.slice po4 e.pend.length pc4) (.bool e.off) (.int .i64 e.fuse)
              have K2' := hid ((((K2.out.other (p := ⟨n1, 0, none⟩) (by simp) (.slice so4 e.secs.length sc4)).other (p := ⟨n1, 1, none⟩) (by simp) (.slice po4 e.pend.length pc4)).other (p := ⟨n1, 2, none⟩) (by simp) (.bool e.off)).other (p := ⟨n1, 3, none⟩) (by simp) (.int .i64 e.fuse))
              have hne := not_rowF hw.out K1.out (by decide)
              have hw' := hid (ownsRow_setCell_other (ownsRow_setCell_other (ownsRow_setCell_other (ownsRow_setCell_other hw.out (a := ⟨n1, 0, none⟩) hne (.slice so4 e.secs.length sc4)) (a := ⟨n1, 1, none⟩) hne (.slice po4 e.pend.length pc4)) (a := ⟨n1, 2, none⟩) hne (.bool e.off)) (a := ⟨n1, 3, none⟩) hne (.int .i64 e.fuse))
              generalize (((Z2.setCell ⟨n1, 0, none⟩ (.slice so4 e.secs.length sc4)).setCell ⟨n1, 1, none⟩ (.slice po4 e.pend.length pc4)).setCell ⟨n1, 2, none⟩ (.bool e.off)).setCell ⟨n1, 3, none⟩ (.int .i64 e.fuse) = X6 at K1' K2' hw' O6 hb6 ⊢
              have u6 := hid O6.out.v
              clear K1 K2 E5 O5 hw hcur hne O6
              go_wp2_with fail
              go_meet
              exact ⟨so6, cp6, so4, sc4, po4, pc4, rfl, rfl, K1', K2', u6, hw', hb6⟩
            refine AllReady.cons rfl (fun K hK => ?_) AllReady.nil
            go_simp
            refine hK _ _ ?_
            clear hK K
            (try simp only [Act.put, List.getElem_toArray, List.getElem_cons_zero, List.getElem_cons_succ, List.setIfInBounds_toArray, List.set_cons_zero, List.set_cons_succ])
            have hlit := hid (Blk.new Z0 [.int .u8 1, .int .u64 (ep : Nat), .int .u64 (l.length : Nat), .string p] 40)
            have hal : Below Z0.heap.size Z0 (Z0.alloc (.cells #[.int .u8 1, .int .u64 (ep : Nat), .int .u64 (l.length : Nat), .string p] 40)) := (Below.refl _ _).alloc (Nat.le_refl _) _
            replace K1 := hid (K1.out.below hal K1.out.lt)
            replace K2 := hid (K2.out.below hal K2.out.lt)
            replace E5 := hid (E5.out.below hal E5.out.lt)
            replace F5 := hid (F5.out.below hal F5.out.lt)
            replace O5 := hid (O5.out.below hal)
            replace hw := hid (ownsRow_below hw.out hal)
            replace hcur := hid (bt hcur.out hal)
            clear hal
            skip
            generalize Z0.alloc (.cells #[.int .u8 1, .int .u64 (ep : Nat), .int .u64 (l.length : Nat), .string p] 40) = Z1 at K1 K2 E5 F5 O5 hw hcur hlit ⊢
            refine wpAny_ready (rs := [0, 5]) (by kernel_rfl) (by simp) ?_
            refine AllReady.cons rfl (fun K hK => ?_) ?_
            · skip
              obtain ⟨e0, e1, e2, e3, ef⟩ := E5.out.four
              go_simp
              clear e0 e1 e2 e3 ef
              refine hK _ _ ?_
              clear hK K
              (try simp only [Act.put, List.getElem_toArray, List.getElem_cons_zero, List.getElem_cons_succ, List.setIfInBounds_toArray, List.set_cons_zero, List.set_cons_succ])
              refine wpAny_ready (rs := [5]) (by kernel_rfl) (by simp) ?_
              refine AllReady.cons rfl (fun K hK => ?_) AllReady.nil
              obtain ⟨so6, cp6, Z2, hrun, hw6, hb6, hk6, ho6⟩ := wapp_step w.heap.size Z1 _ _ _ l ⟨1, ep, l.length, p⟩ hw.out hlit.out (by omega) hcur.out.size
              refine Rec.step_append_run rfl (.tmp 76) (.tmp 78) 55 rfl _ _ _ _ rfl rfl hrun ?_
              refine hK _ _ ?_
              clear hK K
              (try simp only [Act.put, List.getElem_toArray, List.getElem_cons_zero, List.getElem_cons_succ, List.setIfInBounds_toArray, List.set_cons_zero, List.set_cons_succ])
              replace K1 := hid (hk6 _ _ _ K1.out (by decide))
              replace K2 := hid (hk6 _ _ _ K2.out (by decide))
              replace E5 := hid (hk6 _ _ _ E5.out (by decide))
              replace O5 := hid (ho6 _ _ _ _ O5.out hwl.out)
              replace hw := hid hw6
              replace hcur := hid (hcur.out.trans hb6)
              clear hrun hw6 hb6 hk6 ho6 hlit
              refine wpAny_ready (rs := [6]) (by kernel_rfl) (by simp) ?_
              refine AllReady.cons rfl (fun K hK => ?_) AllReady.nil
              obtain ⟨d0, d1, d2, d3, df⟩ := K1.out.four
              go_simp
              clear d0 d1 d2 d3 df
              refine hK _ _ ?_
              clear hK K
              (try simp only [Act.put, List.getElem_toArray, List.getElem_cons_zero, List.getElem_cons_succ, List.setIfInBounds_toArray, List.set_cons_zero, List.set_cons_succ])
              refine wpAny_take (i := 7) (v := ?_) rfl (by kernel_rfl) (by kernel_rfl) (by kernel_rfl) (fun _ _ _ h => h) (Or.inl ⟨by rfl, ?_⟩) ?_
              rotate_left 1
              (intro w; go_simp; try with_reducible rfl)
              (try simp only [Act.put, List.getElem_toArray, List.getElem_cons_zero, List.getElem_cons_succ, List.setIfInBounds_toArray, List.set_cons_zero, List.set_cons_succ])
              refine wpAny_take (i := 8) (v := ?_) rfl (by kernel_rfl) (by kernel_rfl) (by kernel_rfl) (fun _ _ _ h => h) (Or.inl ⟨by rfl, ?_⟩) ?_
              rotate_left 1
              (intro w; go_simp; try with_reducible rfl)
              (try simp only [Act.put, List.getElem_toArray, List.getElem_cons_zero, List.getElem_cons_succ, List.setIfInBounds_toArray, List.set_cons_zero, List.set_cons_succ])
              refine wpAny_done (by kernel_rfl) ?_ _
              obtain ⟨K1', O6, hb6⟩ := box4 K1.out O5.out hn1X.out hcur.out hn1.out (.slice so4 e.secs.length sc4) (.slice po4 e.pend.length pc4) (.bool e.off) (.int .i64 e.fuse)
              have K2' := hid ((((K2.out.other (p := ⟨n1, 0, none⟩) (by simp) (.slice so4 e.secs.length sc4)).other (p := ⟨n1, 1, none⟩) (by simp) (.slice po4 e.pend.length pc4)).other (p := ⟨n1, 2, none⟩) (by simp) (.bool e.off)).other (p := ⟨n1, 3, none⟩) (by simp) (.int .i64 e.fuse))
              have hne := not_rowF hw.out K1.out (by decide)
              have hw' := hid (ownsRow_setCell_other (ownsRow_setCell_other (ownsRow_setCell_other (ownsRow_setCell_other hw.out (a := ⟨n1, 0, none⟩) hne (.slice so4 e.secs.length sc4)) (a := ⟨n1, 1, none⟩) hne (.slice po4 e.pend.length pc4)) (a := ⟨n1, 2, none⟩) hne (.bool e.off)) (a := ⟨n1, 3, none⟩) hne (.int .i64 e.fuse))
              generalize (((Z2.setCell ⟨n1, 0, none⟩ (.slice so4 e.secs.length sc4)).setCell ⟨n1, 1, none⟩ (.slice po4 e.pend.length pc4)).setCell ⟨n1, 2, none⟩ (.bool e.off)).setCell ⟨n1, 3, none⟩ (.int .i64 e.fuse) = X6 at K1' K2' hw' O6 hb6 ⊢
              have u6 := hid O6.out.v
              clear K1 K2 E5 O5 hw hcur hne O6
              go_wp2_with fail
              go_meet
              exact ⟨so6, cp6, so4, sc4, po4, pc4, rfl, rfl, K1', K2', u6, hw', hb6⟩
            refine AllReady.cons rfl (fun K hK => ?_) AllReady.nil
            obtain ⟨so6, cp6, Z2, hrun, hw6, hb6, hk6, ho6⟩ := wapp_step w.heap.size Z1 _ _ _ l ⟨1, ep, l.length, p⟩ hw.out hlit.out (by omega) hcur.out.size
            refine Rec.step_append_run rfl (.tmp 76) (.tmp 78) 55 rfl _ _ _ _ rfl rfl hrun ?_
            refine hK _ _ ?_
            clear hK K
            (try simp only [Act.put, List.getElem_toArray, List.getElem_cons_zero, List.getElem_cons_succ, List.setIfInBounds_toArray, List.set_cons_zero, List.set_cons_succ])
            replace K1 := hid (hk6 _ _ _ K1.out (by decide))
            replace K2 := hid (hk6 _ _ _ K2.out (by decide))
            replace E5 := hid (hk6 _ _ _ E5.out (by decide))
            replace O5 := hid (ho6 _ _ _ _ O5.out hwl.out)
            replace hw := hid hw6
            replace hcur := hid (hcur.out.trans hb6)
            clear hrun hw6 hb6 hk6 ho6 hlit
            refine wpAny_ready (rs := [0]) (by kernel_rfl) (by simp) ?_
            refine AllReady.cons rfl (fun K hK => ?_) AllReady.nil
            obtain ⟨e0, e1, e2, e3, ef⟩ := E5.out.four
            go_simp
            clear e0 e1 e2 e3 ef
            refine hK _ _ ?_
            clear hK K
            (try simp only [Act.put, List.getElem_toArray, List.getElem_cons_zero, List.getElem_cons_succ, List.setIfInBounds_toArray, List.set_cons_zero, List.set_cons_succ])
            refine wpAny_ready (rs := [6]) (by kernel_rfl) (by simp) ?_
            refine AllReady.cons rfl (fun K hK => ?_) AllReady.nil
            obtain ⟨d0, d1, d2, d3, df⟩ := K1.out.four
            go_simp
            clear d0 d1 d2 d3 df
            refine hK _ _ ?_
            clear hK K
            (try simp only [Act.put, List.getElem_toArray, List.getElem_cons_zero, List.getElem_cons_succ, List.setIfInBounds_toArray, List.set_cons_zero, List.set_cons_succ])
            refine wpAny_take (i := 7) (v := ?_) rfl (by kernel_rfl) (by kernel_rfl) (by kernel_rfl) (fun _ _ _ h => h) (Or.inl ⟨by rfl, ?_⟩) ?_
            rotate_left 1
            (intro w; go_simp; try with_reducible rfl)
            (try simp only [Act.put, List.getElem_toArray, List.getElem_cons_zero, List.getElem_cons_succ, List.setIfInBounds_toArray, List.set_cons_zero, List.set_cons_succ])
            refine wpAny_take (i := 8) (v := ?_) rfl (by kernel_rfl) (by kernel_rfl) (by kernel_rfl) (fun _ _ _ h => h) (Or.inl ⟨by rfl, ?_⟩) ?_
            rotate_left 1
            (intro w; go_simp; try with_reducible rfl)
            (try simp only [Act.put, List.getElem_toArray, List.getElem_cons_zero, List.getElem_cons_succ, List.setIfInBounds_toArray, List.set_cons_zero, List.set_cons_succ])
            refine wpAny_done (by kernel_rfl) ?_ _
            obtain ⟨K1', O6, hb6⟩ := box4 K1.out O5.out hn1X.out hcur.out hn1.out (.slice so4 e.secs.length sc4) (.slice po4 e.pend.length pc4) (.bool e.off) (.int .i64 e.fuse)
            have K2' := hid ((((K2.out.other (p := ⟨n1, 0, none⟩) (by simp) (.slice so4 e.secs.length sc4)).other (p := ⟨n1, 1, none⟩) (by simp) (.slice po4 e.pend.length pc4)).other (p := ⟨n1, 2, none⟩) (by simp) (.bool e.off)).other (p := ⟨n1, 3, none⟩) (by simp) (.int .i64 e.fuse))
            have hne := not_rowF hw.out K1.out (by decide)
            have hw' := hid (ownsRow_setCell_other (ownsRow_setCell_other (ownsRow_setCell_other (ownsRow_setCell_other hw.out (a := ⟨n1, 0, none⟩) hne (.slice so4 e.secs.length sc4)) (a := ⟨n1, 1, none⟩) hne (.slice po4 e.pend.length pc4)) (a := ⟨n1, 2, none⟩) hne (.bool e.off)) (a := ⟨n1, 3, none⟩) hne (.int .i64 e.fuse))
            generalize (((Z2.setCell ⟨n1, 0, none⟩ (.slice so4 e.secs.length sc4)).setCell ⟨n1, 1, none⟩ (.slice po4 e.pend.length pc4)).setCell ⟨n1, 2, none⟩ (.bool e.off)).setCell ⟨n1, 3, none⟩ (.int .i64 e.fuse) = X6 at K1' K2' hw' O6 hb6 ⊢
            have u6 := hid O6.out.v
            clear K1 K2 E5 O5 hw hcur hne O6
            go_wp2_with fail
            go_meet
            exact ⟨so6, cp6, so4, sc4, po4, pc4, rfl, rfl, K1', K2', u6, hw', hb6⟩
          case rest =>
            clear K1 K2 E5 F5 O5 hw hcur
            obtain ⟨so6, cp6, so4, sc4, po4, pc4, rfl, rfl, K1, K2, u6, hw, hb6⟩ := hcut
            have hlen6 : (l ++ [(⟨1, ep, l.length, p⟩ : Fr)]).length = l.length + 1 := by simp
            generalize l ++ [(⟨1, ep, l.length, p⟩ : Fr)] = L2 at hlen6 hWr hw
            rw [← hlen6] at hw ⊢
            have hlen7 := hid hlen6
            have hl200 : L2.length ≤ 200 := by omega
            clear hlen6
            by_cases hbr : 200 ≤ L2.length
            · have hbri : (200 : Int) ≤ (L2.length : Int) := by omega
              have hW := hWr
              have u := u6
              have hb := hb6
              clear hWr u6 hb6 hbr hlen7
              obtain ⟨d0, d1, d2, d3, df⟩ := K1.out.four
              go_wp2_with fail
              refine (crash_any e _ _ a4 _ u.out (BoolsV.below hkp.out hb.out)).mono ?_
              rw [hW.out.crash a4]
              rintro e7 w7 hr
              obtain ⟨so7, sc7, po7, pc7, rfl, o7, b7⟩ := hr.open
              clear hr
              dsimp only at o7
              have hn1x := K1.out.lt
              have J1 := hid (K1.out.below b7 K1.out.lt)
              have J2 := hid (K2.out.below b7 K2.out.lt)
              have hw7 := hid (ownsRow_below hw.out b7)
              clear d0 d1 d2 d3 df
              obtain ⟨d0, d1, d2, d3, df⟩ := J1.out.four
              obtain ⟨M1, O8, hb8⟩ := box4 J1.out o7 hn1x (bt hb.out b7) hn1.out (.slice so7 e.secs.length sc7) (.slice po7 e.pend.length pc7) (.bool e.off) (.int .i64 e.fuse)
              have M2 := hid ((((J2.out.other (p := ⟨n1, 0, none⟩) (by simp) (.slice so7 e.secs.length sc7)).other (p := ⟨n1, 1, none⟩) (by simp) (.slice po7 e.pend.length pc7)).other (p := ⟨n1, 2, none⟩) (by simp) (.bool e.off)).other (p := ⟨n1, 3, none⟩) (by simp) (.int .i64 e.fuse))
              have hne7 := not_rowF hw7.out J1.out (by decide)
              have hw8 := hid (ownsRow_setCell_other (ownsRow_setCell_other (ownsRow_setCell_other (ownsRow_setCell_other hw7.out (a := ⟨n1, 0, none⟩) hne7 (.slice so7 e.secs.length sc7)) (a := ⟨n1, 1, none⟩) hne7 (.slice po7 e.pend.length pc7)) (a := ⟨n1, 2, none⟩) hne7 (.bool e.off)) (a := ⟨n1, 3, none⟩) hne7 (.int .i64 e.fuse))
              clear hw hw7 u hb o7 b7 K1 K2 hne7 J2 hn1x
              dsimp only
              go_upto_region 21 with fail
              generalize (((w7.setCell ⟨n1, 0, none⟩ (.slice so7 e.secs.length sc7)).setCell ⟨n1, 1, none⟩ (.slice po7 e.pend.length pc7)).setCell ⟨n1, 2, none⟩ (.bool e.off)).setCell ⟨n1, 3, none⟩ (.int .i64 e.fuse) = X8 at M1 M2 O8 hb8 hw8 ⊢
              clear d0 d1 d2 d3 df J1
              obtain ⟨d0, d1, d2, d3, df⟩ := M1.out.four
              obtain ⟨r0, r1, rf⟩ := M2.out.two
              go_wp2_with fail
              refine (scan_any e _ ⟨0, S⟩ ep _ O8.out.v hrS.out).mono ?_
              rw [hW.out.scan]
              rintro e9 w9 ⟨ao9, cap9, rfl, hs9, b9⟩
              dsimp only at hs9
              have M1' := hid (M1.out.below b9 M1.out.lt)
              have M2' := hid (M2.out.below b9 M2.out.lt)
              have O9 := hid (O8.out.below b9)
              have hw9 := hid (ownsRow_below hw8.out b9)
              have hb9 := hid (bt hb8.out b9)
              have hs9' := hid hs9
              clear d0 d1 d2 d3 df r0 r1 rf b9 hs9 M1 M2 O8 hw8 hb8
              obtain ⟨d0, d1, d2, d3, df⟩ := M1'.out.four
              obtain ⟨r0, r1, rf⟩ := M2'.out.two
              dsimp only
              go_wp2_with fail
              refine (scan_any e _ ⟨0, S⟩ ot _ O9.out.v hrS.out).mono ?_
              rintro e10 w10 ⟨ao10, cap10, rfl, hs10, b10⟩
              have hw10 := hid (ownsRow_below hw9.out b10)
              have hs10' := hid (ownsRow_below hs9'.out b10)
              have hb10 := hid (bt hb9.out b10)
              clear d0 d1 d2 d3 df r0 r1 rf b10 hs10 M1' M2' O9 hw9 hb9 hs9'
              by_cases hoe : ot = ep
              · have hoe2 := hoe.symm
                clear hoe
                subst hoe2
                have hoi : ((ep : Int) == (ep : Int)) = true := by simp
                rw [hW.out.scan]
                dsimp only
                go_wp2_with fail
                refine (fsame_any L2 _ _ _ (FrsV.own hs10'.out rfl) (FrsV.own hw10.out rfl)).mono ?_
                rintro e11 w11 ⟨rfl, b11⟩
                go_wp2_with fail
                go_ret
                exact ⟨rfl, bt hb10.out b11⟩
              · have hoi : ((ot : Int) == (ep : Int)) = false := by rw [beq_eq_false_iff_ne]; omega
                rw [hW.out.scan_other hoe]
                dsimp only [List.length_nil]
                go_wp2_with fail
                refine (fsame_any L2 _ _ _ (FrsV.own hs10'.out rfl) (FrsV.own hw10.out rfl)).mono ?_
                rintro e11 w11 ⟨rfl, b11⟩
                go_wp2_with fail
                go_ret
                exact ⟨rfl, bt hb10.out b11⟩
            · have hbri : ¬ (200 : Int) ≤ (L2.length : Int) := by omega
              have hl9 : L2.length ≤ 199 := by omega
              clear hbr
              go_wp2_with fail
              go_roundw
              case rel => exact ⟨k + 1, e, L2, at2, so4, sc4, po4, pc4, so6, cp6, by omega, by go_num, rfl, rfl, hWr, hl9, K1, K2, u6, hw, hb6⟩
              case measure => simp [intOf]; omega
      · obtain rfl : k = a1.length := by omega
        have hki : ¬ (a1.length : Int) < (a1.length : Int) := by omega
        clear hlt hk
        obtain ⟨d0, d1, d2, d3, df⟩ := K1.out.four
        go_wp2_with fail
        refine (crash_any d _ _ a4 _ u.out (BoolsV.below hkp.out hb.out)).mono ?_
        rw [hW.out.crash a4]
        rintro e7 w7 hr
        obtain ⟨so7, sc7, po7, pc7, rfl, o7, b7⟩ := hr.open
        clear hr
        dsimp only at o7
        have hn1x := K1.out.lt
        have J1 := hid (K1.out.below b7 K1.out.lt)
        have J2 := hid (K2.out.below b7 K2.out.lt)
        have hw7 := hid (ownsRow_below hw.out b7)
        clear d0 d1 d2 d3 df
        obtain ⟨d0, d1, d2, d3, df⟩ := J1.out.four
        obtain ⟨M1, O8, hb8⟩ := box4 J1.out o7 hn1x (bt hb.out b7) hn1.out (.slice so7 d.secs.length sc7) (.slice po7 d.pend.length pc7) (.bool d.off) (.int .i64 d.fuse)
        have M2 := hid ((((J2.out.other (p := ⟨n1, 0, none⟩) (by simp) (.slice so7 d.secs.length sc7)).other (p := ⟨n1, 1, none⟩) (by simp) (.slice po7 d.pend.length pc7)).other (p := ⟨n1, 2, none⟩) (by simp) (.bool d.off)).other (p := ⟨n1, 3, none⟩) (by simp) (.int .i64 d.fuse))
        have hne7 := not_rowF hw7.out J1.out (by decide)
        have hw8 := hid (ownsRow_setCell_other (ownsRow_setCell_other (ownsRow_setCell_other (ownsRow_setCell_other hw7.out (a := ⟨n1, 0, none⟩) hne7 (.slice so7 d.secs.length sc7)) (a := ⟨n1, 1, none⟩) hne7 (.slice po7 d.pend.length pc7)) (a := ⟨n1, 2, none⟩) hne7 (.bool d.off)) (a := ⟨n1, 3, none⟩) hne7 (.int .i64 d.fuse))
        clear hw hw7 u hb o7 b7 K1 K2 hne7 J2 hn1x
        dsimp only
        go_upto_region 21 with fail
        generalize (((w7.setCell ⟨n1, 0, none⟩ (.slice so7 d.secs.length sc7)).setCell ⟨n1, 1, none⟩ (.slice po7 d.pend.length pc7)).setCell ⟨n1, 2, none⟩ (.bool d.off)).setCell ⟨n1, 3, none⟩ (.int .i64 d.fuse) = X8 at M1 M2 O8 hb8 hw8 ⊢
        clear d0 d1 d2 d3 df J1
        obtain ⟨d0, d1, d2, d3, df⟩ := M1.out.four
        obtain ⟨r0, r1, rf⟩ := M2.out.two
        go_wp2_with fail
        refine (scan_any d _ ⟨0, S⟩ ep _ O8.out.v hrS.out).mono ?_
        rw [hW.out.scan]
        rintro e9 w9 ⟨ao9, cap9, rfl, hs9, b9⟩
        dsimp only at hs9
        have M1' := hid (M1.out.below b9 M1.out.lt)
        have M2' := hid (M2.out.below b9 M2.out.lt)
        have O9 := hid (O8.out.below b9)
        have hw9 := hid (ownsRow_below hw8.out b9)
        have hb9 := hid (bt hb8.out b9)
        have hs9' := hid hs9
        clear d0 d1 d2 d3 df r0 r1 rf b9 hs9 M1 M2 O8 hw8 hb8
        obtain ⟨d0, d1, d2, d3, df⟩ := M1'.out.four
        obtain ⟨r0, r1, rf⟩ := M2'.out.two
        dsimp only
        go_wp2_with fail
        refine (scan_any d _ ⟨0, S⟩ ot _ O9.out.v hrS.out).mono ?_
        rintro e10 w10 ⟨ao10, cap10, rfl, hs10, b10⟩
        have hw10 := hid (ownsRow_below hw9.out b10)
        have hs10' := hid (ownsRow_below hs9'.out b10)
        have hb10 := hid (bt hb9.out b10)
        clear d0 d1 d2 d3 df r0 r1 rf b10 hs10 M1' M2' O9 hw9 hb9 hs9'
        by_cases hoe : ot = ep
        · have hoe2 := hoe.symm
          clear hoe
          subst hoe2
          have hoi : ((ep : Int) == (ep : Int)) = true := by simp
          rw [hW.out.scan]
          dsimp only
          go_wp2_with fail
          refine (fsame_any l _ _ _ (FrsV.own hs10'.out rfl) (FrsV.own hw10.out rfl)).mono ?_
          rintro e11 w11 ⟨rfl, b11⟩
          go_wp2_with fail
          go_ret
          exact ⟨rfl, bt hb10.out b11⟩
        · have hoi : ((ot : Int) == (ep : Int)) = false := by rw [beq_eq_false_iff_ne]; omega
          rw [hW.out.scan_other hoe]
          dsimp only [List.length_nil]
          go_wp2_with fail
          refine (fsame_any l _ _ _ (FrsV.own hs10'.out rfl) (FrsV.own hw10.out rfl)).mono ?_
          rintro e11 w11 ⟨rfl, b11⟩
          go_wp2_with fail
          go_ret
          exact ⟨rfl, bt hb10.out b11⟩
end Go.Proofs.Ytgplioocnbjhaaa.walLogs
