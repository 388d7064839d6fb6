/-
  SectorSafe: the walk.
-/
import Derived.Test.YtocoodccobipiaaSectorLives
import Derived.Test.YtocoodccobipiaaSectorSame
import Derived.Test.YtocoodccobipiaaSectorSafeMath
import Derived.Deep.RegionHeld3
import Derived.Deep.QuietTactic
import Derived.BigQuiet
import Derived.WalkArith
namespace Go.Proofs.Ytocoodccobipiaa.sectorSafe
open Go.ChangeShapes Go.WideShapes Go.ChangeAt Go.RowKit
open Go.Proofs.Ytocoodccobipiaa.Mem Go.Proofs.Ytocoodccobipiaa.Sector
set_option linter.unusedVariables false
set_option maxRecDepth 100000
theorem info_bool : (Try.prog.info? 4).map (fun i => (i.zero, i.size, i.bytes)) = some (some (Value.bool false), 1, 1) := by kernel_rfl
theorem made_bools (n : Nat) : (madeCells #[Value.bool false] n).toList = List.replicate n (Value.bool false) := by
  apply List.ext_getElem
  · simp [madeCells]
  · intro j h1 h2
    simp [madeCells, Nat.mod_one]
def tcells (n k : Nat) : List Value := List.replicate k (.bool true) ++ List.replicate (n - k) (.bool false)
theorem tcells_len (n k : Nat) (h : k ≤ n) : (tcells n k).length = n := by simp [tcells]; omega
theorem tcells_set (n k : Nat) (h : k < n) : (tcells n k).set k (.bool true) = tcells n (k + 1) := by
  unfold tcells
  rw [List.set_append_right _ _ (by simp), List.length_replicate, Nat.sub_self, show n - k = (n - (k + 1)) + 1 by omega, List.replicate_succ, List.set_cons_zero, List.replicate_succ', List.append_assoc]
  rfl
theorem tcells_bools {W : World} {g n : Nat} (h : Blk W g (tcells n n) 4) (hn : n ≤ maxLen) : BoolsV W (.slice (some ⟨g, 0, none⟩) n n) (List.replicate n true) := by
  have e : tcells n n = (List.replicate n true).map Value.bool := by simp [tcells]
  rw [e] at h
  unfold BoolsV
  rw [List.length_replicate]
  refine ⟨some ⟨g, 0, none⟩, n, rfl, Nat.le_refl _, hn, by simp, fun h0 => by subst h0; rfl, fun a ha j hj => ?_⟩
  cases ha
  rw [Mem.add_plain, Nat.zero_add]
  exact h.cell j hj
theorem str_yes {a b : ByteArray} (h : a = b) : (a.toList == b.toList) = true := by rw [h]; simp
theorem str_no {a b : ByteArray} (h : a ≠ b) : (a.toList == b.toList) = false := by
  rw [beq_eq_false_iff_ne]
  intro e
  rw [ByteArray.toList_eq, ByteArray.toList_eq] at e
  exact h (ByteArray.ext (Array.ext' e))
set_option maxHeartbeats 4000000 in
theorem walk (v0 : Value) (a0 : Disk) (v1 : Value) (a1 : List Bool) (a2 : Int) (w : World) (h0 : DiskV w v0 a0) (f0 : (Lit.int .i64 a0.fuse).wf = true) (h1 : BoolsV w v1 a1) (w2 : (Lit.int .i64 a2).wf = true) :
    Calls Try.prog 5 #[v0, v1, .int .i64 a2] w fun e w' => e = .returned (.bool true) ∧ Below w.heap.size w w' := by
  have hv := hid h0
  have g4 := hid h1
  obtain ⟨sv, pv, rfl, hs, hp⟩ := h0
  obtain ⟨so, scap, rfl, _⟩ := hs.form
  obtain ⟨po, pcap, rfl, _⟩ := hp.form
  obtain ⟨ko, kcap, rfl, _⟩ := h1.form
  clear hs hp f0 w2 h1
  go_enter Try.func5, Try.ntmps5
  go_wp2_with fail
  refine (lives_any _).mono ?_
  rintro e w1 ⟨rfl, b1⟩
  have D1 : Blk w1 w.heap.size [.slice so a0.secs.length scap, .slice po a0.pend.length pcap, .bool a0.off, .int .i64 a0.fuse] 25 := (Blk.new w _ _).below b1 (by simp)
  have h1 := hid ((show Below w.heap.size w _ from by go_grown).trans (b1.mono (by simp)))
  obtain ⟨d0, d1, d2, d3, df⟩ := D1.four
  have D1' := hid D1
  clear D1 b1
  go_wp2_with fail
  refine (crash_any a0 _ _ a1 _ (hv.out.below h1.out) (g4.out.below h1.out)).mono ?_
  rintro e w2 hr
  unfold crashE at hr
  cases hok : okB a0 with
  | false =>
    have hck := hid (chk_bad hok)
    rw [if_neg (by simp [hok])] at hr
    obtain ⟨s2, sc2, p2, pc2, rfl, o2, b2⟩ := hr.open
    dsimp only at o2
    have h2 := hid (bt h1.out b2)
    have v2 := hid o2.v
    have D2 := hid (D1'.out.below b2 D1'.out.lt)
    clear hr hok d0 d1 d2 d3 df o2 b2
    go_wp2_with fail
    refine (same_self zeroDisk _ _ _ (v2.out.below ((Below.refl _ w2).alloc (Nat.le_refl _) _)) (zero_v _)).mono ?_
    rintro e w3 ⟨rfl, b3⟩
    have h3 := hid (bt (h2.out.alloc h2.out.size _) b3)
    have D3 := (D2.out.alloc (.cells #[.slice s2 zeroDisk.secs.length sc2, .slice p2 zeroDisk.pend.length pc2, .bool zeroDisk.off, .int .i64 zeroDisk.fuse] 25)).below b3 (by have := D2.out.lt; simp; omega)
    obtain ⟨d0, d1, d2, d3, df⟩ := D3.four
    clear D3 D2 v2 h2 b3
    go_wp2_with fail
    refine (check_any a0 _ _ (hv.out.below h3.out)).mono ?_
    rw [hck.out]
    rintro e w4 ⟨rfl, b4⟩
    have h4 := hid (bt h3.out b4)
    clear d0 d1 d2 d3 df b4
    go_wp2_with fail
    go_ret
    exact ⟨rfl, h4.out⟩
  | true =>
    rw [if_pos hok] at hr
    have r1 := hid (read_crash hok a1 a2)
    have r2 := hid (read_crash hok (List.replicate a0.pend.length true) a2)
    have hok' := hid hok
    obtain ⟨s2, sc2, p2, pc2, rfl, o2, b2⟩ := hr.open
    dsimp only at o2
    have hal := (Below.refl _ w2).alloc (Nat.le_refl _) (.cells #[.slice s2 (crashD a0 a1).secs.length sc2, .slice p2 (crashD a0 a1).pend.length pc2, .bool (crashD a0 a1).off, .int .i64 (crashD a0 a1).fuse] 25)
    have D2 := (D1'.out.below b2 D1'.out.lt).below hal (Nat.lt_of_lt_of_le D1'.out.lt b2.size)
    have A2 : Blk (w2.alloc (.cells #[.slice s2 (crashD a0 a1).secs.length sc2, .slice p2 (crashD a0 a1).pend.length pc2, .bool (crashD a0 a1).off, .int .i64 (crashD a0 a1).fuse] 25)) w2.heap.size [.slice s2 (crashD a0 a1).secs.length sc2, .slice p2 (crashD a0 a1).pend.length pc2, .bool (crashD a0 a1).off, .int .i64 (crashD a0 a1).fuse] 25 := Blk.new w2 _ _
    have h2 := hid (bt (bt h1.out b2) hal)
    have v2 := hid (o2.v.below hal)
    have u2 := hid (hv.out.below h2.out)
    have hab : Hid (w.heap.size < w2.heap.size) := hid (Nat.lt_of_lt_of_le D1'.out.lt b2.size)
    have c1 : Hid ((crashD a0 a1).pend.length = 0 ∧ (crashD a0 a1).off = false ∧ (crashD a0 a1).fuse = -1 ∧ (crashD a0 a1).secs.length = a0.secs.length) := hid ⟨rfl, rfl, rfl, by simp only [crashD, sett_len]⟩
    have hmay := hid (fun hm => read_may hok a1 a2 hm)
    have hall := hid (fun hm => read_all hok a2 hm)
    have hnow := hid (fun hm => read_now hok a2 hm a0.fuse)
    have hpl : a0.pend.length ≤ 4096 := (okp hok).2.2.1
    have hsl : a0.secs.length ≤ 1024 := (okp hok).2.1
    clear d0 d1 d2 d3 df D1' hr o2 b2 hal h1 hok
    obtain ⟨i0, hi, hz0, hz1, hz2⟩ := info_parts info_bool
    generalize crashD a0 a1 = C at D2 A2 h2 v2 u2 r1 c1 ⊢
    generalize hM : a0.pend.length = M at *
    go_upto_region 6 with fail
    generalize hcb : w2.heap.size = cb at A2 hab ⊢
    generalize w2.alloc (.cells #[.slice s2 C.secs.length sc2, .slice p2 C.pend.length pc2, .bool C.off, .int .i64 C.fuse] 25) = W at D2 A2 h2 v2 u2 ⊢
    clear hcb
    obtain ⟨d0, d1, d2, d3, df⟩ := D2.four
    have D2' := hid D2
    have A2' := hid A2
    clear D2 A2
    go_wp2_with (at_make; refine wpList_make_full _ rfl _ _ 34 rfl W.heap.size 4 i0 (.bool false) 1 Try.underlying34 hi hz0 hz1 _ _ _ _ M rfl rfl rfl rfl ?m1 ?m2 (Nat.le_refl _) ?_)
    case m1 => rw [hz2]; omega
    case m2 => unfold maxLen; omega
    intro wm hown hgm
    have hbm : Below W.heap.size W wm := (Below.refl _ _).grown hgm (Nat.le_refl _) (by simp)
    have hg0 := made_blk hown
    rw [made_bools] at hg0
    have B0 := hid (show Blk wm W.heap.size (tcells M 0) 4 from ⟨hg0⟩)
    have hbm' := hid hbm
    clear hown hgm hg0 hbm hi hz0 hz1 hz2 d0 d1 d2 d3 df
    go_wp2_with fail
    go_loopw [46] (fun i wr => ∃ k : Nat, k ≤ M ∧ i = .int .i64 k ∧ Hid (Blk wr W.heap.size (tcells M k) 4) ∧ Hid (Below W.heap.size W wr)) (fun i _ => M - (intOf i).toNat)
    case atStart => exact ⟨0, by omega, rfl, B0, hbm'⟩
    case round =>
      obtain ⟨k, hk, rfl, hB, hbr⟩ := hrel
      by_cases hlt : k < M
      · have hcell := hB.out.cell k (by rw [tcells_len _ _ hk]; exact hlt)
        generalize (tcells M k)[k]'_ = old at hcell
        have hfree := hB.out.free k
        have B2 := hB.out.set k (.bool true)
        rw [tcells_set M k hlt] at B2
        have B2' := hid B2
        have hbn := hid (hbr.out.setCell (p := ⟨W.heap.size, k, none⟩) (by simp) (.bool true))
        have hltz : (k : Int) < (M : Int) := by omega
        have hk0 : (0 : Int) ≤ (k : Int) := by omega
        clear B2
        go_wp2_with fail
        go_roundw
        case rel => exact ⟨k + 1, by omega, by go_num, B2', hbn⟩
        case measure => simp [intOf]; omega
      · obtain rfl : M = k := by omega
        have hbo := hid (tcells_bools hB.out (by unfold maxLen; omega))
        have D3 := D2'.out.below hbr.out D2'.out.lt
        have A3 := A2'.out.below hbr.out A2'.out.lt
        have h3 := hid (bt h2.out hbr.out)
        have v3 := hid (v2.out.below hbr.out)
        have u3 := hid (u2.out.below hbr.out)
        obtain ⟨d0, d1, d2, d3, df⟩ := D3.four
        have D3' := hid D3
        have A3' := hid A3
        clear D3 A3 hB hbr B0 hbm' h2 v2 u2 D2' A2' hlt hk
        go_wp2_with fail
        refine (crash_any a0 _ _ (List.replicate M true) _ u3.out hbo.out).mono ?_
        rintro e w4 hr
        unfold crashE at hr
        rw [if_pos hok'.out] at hr
        obtain ⟨s4, sc4, p4, pc4, rfl, o4, b4⟩ := hr.open
        dsimp only at o4
        have hal := (Below.refl _ w4).alloc (Nat.le_refl _) (.cells #[.slice s4 (crashD a0 (List.replicate M true)).secs.length sc4, .slice p4 (crashD a0 (List.replicate M true)).pend.length pc4, .bool (crashD a0 (List.replicate M true)).off, .int .i64 (crashD a0 (List.replicate M true)).fuse] 25)
        have D4 := (D3'.out.below b4 D3'.out.lt).below hal (Nat.lt_of_lt_of_le D3'.out.lt b4.size)
        have A4 := (A3'.out.below b4 A3'.out.lt).below hal (Nat.lt_of_lt_of_le A3'.out.lt b4.size)
        have E4 : Blk (w4.alloc (.cells #[.slice s4 (crashD a0 (List.replicate M true)).secs.length sc4, .slice p4 (crashD a0 (List.replicate M true)).pend.length pc4, .bool (crashD a0 (List.replicate M true)).off, .int .i64 (crashD a0 (List.replicate M true)).fuse] 25)) w4.heap.size [.slice s4 (crashD a0 (List.replicate M true)).secs.length sc4, .slice p4 (crashD a0 (List.replicate M true)).pend.length pc4, .bool (crashD a0 (List.replicate M true)).off, .int .i64 (crashD a0 (List.replicate M true)).fuse] 25 := Blk.new w4 _ _
        have h4 := hid (bt (bt h3.out b4) hal)
        have v4 := hid ((v3.out.below b4).below hal)
        have u4 := hid ((u3.out.below b4).below hal)
        have x4 := hid (o4.v.below hal)
        clear hr o4 b4 hal h3 v3 u3 D3' A3' hbo d0 d1 d2 d3 df
        generalize crashD a0 (List.replicate M true) = G at E4 D4 A4 h4 v4 u4 x4 r2 ⊢
        obtain ⟨d0, d1, d2, d3, df⟩ := D4.four
        obtain ⟨e0, e1, e2, e3, ef⟩ := A4.four
        obtain ⟨g0, g1, g2, g3, gf⟩ := E4.four
        have D4' := hid D4
        have A4' := hid A4
        have E4' := hid E4
        clear D4 A4 E4
        obtain ⟨X, Y, c, q1, q2, q3⟩ : ∃ X Y c, readE C a2 = (X, c) ∧ readE G a2 = (Y, c) ∧ ((missB a0.secs.length a2 = true ∧ c = 1) ∨ (missB a0.secs.length a2 = false ∧ c = 0 ∧ (sett (kept a1) a0.pend a0.secs M).getD a2.toNat ⟨#[]⟩ = X ∧ heldS a0.secs a0.pend a2 = Y)) := by
          cases hm : missB a0.secs.length a2 with
          | true => exact ⟨⟨#[]⟩, ⟨#[]⟩, 1, by rw [r1.out, hm]; rfl, by rw [r2.out, hm]; rfl, .inl ⟨rfl, rfl⟩⟩
          | false => exact ⟨_, _, 0, by rw [r1.out, hm]; rfl, by rw [r2.out, hm, hall.out hm]; rfl, .inr ⟨rfl, rfl, rfl, rfl⟩⟩
        have q1' := hid q1
        have q2' := hid q2
        have q3' := hid q3
        clear q1 q2 q3 r1 r2 hall
        go_wp2_with fail
        refine (read_any C _ a2 _ v4.out).mono ?_
        rintro e w5 ⟨rfl, b5⟩
        have D5 := D4'.out.below b5 D4'.out.lt
        have A5 := A4'.out.below b5 A4'.out.lt
        have E5 := E4'.out.below b5 E4'.out.lt
        have h5 := hid (bt h4.out b5)
        have u5 := hid (u4.out.below b5)
        have x5 := hid (x4.out.below b5)
        clear d0 d1 d2 d3 df e0 e1 e2 e3 ef g0 g1 g2 g3 gf D4' A4' E4' h4 v4 u4 x4 b5
        obtain ⟨d0, d1, d2, d3, df⟩ := D5.four
        obtain ⟨g0, g1, g2, g3, gf⟩ := E5.four
        have D5' := hid D5
        have A5' := hid A5
        clear D5 A5 E5
        rw [q1'.out]
        go_wp2_with fail
        refine (read_any G _ a2 _ x5.out).mono ?_
        rintro e w6 ⟨rfl, b6⟩
        rw [q2'.out]
        have D6 := D5'.out.below b6 D5'.out.lt
        have A6 := A5'.out.below b6 A5'.out.lt
        have h6 := hid (bt h5.out b6)
        have u6 := hid (u5.out.below b6)
        clear d0 d1 d2 d3 df g0 g1 g2 g3 gf D5' A5' h5 u5 x5 b6 q1' q2'
        obtain ⟨d0, d1, d2, d3, df⟩ := D6.four
        obtain ⟨e0, e1, e2, e3, ef⟩ := A6.four
        have D6' := hid D6
        have A6' := hid A6
        clear D6 A6
        rcases q3'.out with ⟨hm, rfl⟩ | ⟨hm, rfl, hX, hY⟩
        · clear q3' hmay hnow
          by_cases hn0 : a2 < 0
          · clear hm
            go_wp2_with fail
            go_ret
            exact ⟨rfl, h6.out⟩
          · have hn1 : (a0.secs.length : Int) ≤ a2 := by simp [missB] at hm; omega
            clear hm
            go_wp2_with fail
            go_ret
            exact ⟨rfl, h6.out⟩
        · replace hmay := hid (hmay.out hm)
          replace hnow := hid (hnow.out hm)
          obtain ⟨q, rfl, hq⟩ : ∃ q : Nat, a2 = q ∧ q < a0.secs.length := ⟨a2.toNat, by simp [missB] at hm; omega, by simp [missB] at hm; omega⟩
          rw [hX] at hmay
          rw [hY] at hnow
          clear hm hX hY q3'
          have hq0 : ¬ (q : Int) < 0 := by omega
          have hqn : (q : Int) < (a0.secs.length : Int) := by omega
          obtain ⟨sv, pv, hv1, us, up⟩ := u6.out
          simp only [Value.agg.injEq, Array.mk.injEq, List.cons.injEq, and_true] at hv1
          obtain ⟨rfl, rfl⟩ := hv1
          obtain ⟨sb, soff, scap', hv2, _, _, hsb, hcc⟩ := us.open (by omega)
          simp only [Value.slice.injEq] at hv2
          obtain ⟨rfl, -, rfl⟩ := hv2
          have x0 := hcc q hq
          have hsq : Hid (a0.secs.getD (q : Int).toNat ⟨#[]⟩ = a0.secs[q]) := hid (by simp [List.getD, hq])
          have us' := hid us
          have up' := hid up
          clear us up hcc
          generalize a0.secs[q] = Z at x0 hsq
          obtain ⟨t0, hxe⟩ : ∃ t0, (X.toList == Z.toList) = t0 := ⟨_, rfl⟩
          have hm0 : Hid (t0 = mayB a0.secs a0.pend q X 0) := hid (by
            simp only [mayB]
            rw [hsq.out, ← hxe]
            by_cases hxz : X = Z
            · rw [str_yes hxz]; simp [hxz]
            · rw [str_no hxz]; simp [hxz])
          go_wp2_with fail
          clear hxe x0
          go_loopw [17, 100] (fun al i wr => ∃ k : Nat, k ≤ M ∧ i = .int .i64 k ∧ al = .bool (mayB a0.secs a0.pend q X k) ∧ Hid (Below w6.heap.size w6 wr)) (fun _ i _ => M - (intOf i).toNat)
          case atStart => exact ⟨0, by omega, rfl, by rw [hm0.out], hid (Below.refl _ _)⟩
          case round =>
            obtain ⟨k, hk, rfl, rfl, hbr⟩ := hrel
            by_cases hlt : k < M
            · obtain ⟨pb, poff, pcap', hv3, _, _, hpb, hpc⟩ := (up'.out.below hbr.out).open (by rw [hM]; omega)
              simp only [Value.slice.injEq] at hv3
              obtain ⟨rfl, -, rfl⟩ := hv3
              have hkp : k < a0.pend.length := by rw [hM]; exact hlt
              have y0 := hpc k hkp
              have hnx : Hid (mayB a0.secs a0.pend q X (k + 1) = (mayB a0.secs a0.pend q X k || (decide (a0.pend[k].1 = (q : Int)) && decide (a0.pend[k].2 = X)))) := hid (by simp [mayB, List.getD, hkp])
              obtain ⟨P, hP⟩ : ∃ P, a0.pend[k] = P := ⟨_, rfl⟩
              obtain ⟨P1, P2⟩ := P
              rw [hP] at y0 hnx
              dsimp only at y0 hnx
              clear hP hpc hpb
              have hltz : (k : Int) < (M : Int) := by omega
              have hk0 : (0 : Int) ≤ (k : Int) := by omega
              have hts := hid (show mayB a0.secs a0.pend q X (k + 1) = mayB a0.secs a0.pend q X (k + 1) from rfl)
              obtain ⟨tn, htn'⟩ : ∃ tn, mayB a0.secs a0.pend q X (k + 1) = tn := ⟨_, rfl⟩
              rw [htn'] at hnx
              have htn := hid htn'
              clear htn' hts
              generalize mayB a0.secs a0.pend q X k = t at hnx ⊢
              obtain ⟨y0, y1⟩ := y0
              cases t with
              | true =>
                replace hnx : Hid (tn = true) := hid (by rw [hnx.out]; simp)
                go_wp2_with fail
                go_roundw
                case rel => exact ⟨k + 1, by omega, by go_num, by rw [htn.out, hnx.out], by first | exact hid (below_drewN (hbr.out.alloc hbr.out.size _) _) | exact hid (hbr.out.alloc hbr.out.size _)⟩
                case measure => simp [intOf]; omega
              | false =>
                by_cases e1 : P1 = (q : Int)
                · subst e1
                  have q9 : ((q : Int) == (q : Int)) = true := by simp
                  by_cases e2 : P2 = X
                  · have e3 := str_yes e2
                    replace hnx : Hid (tn = true) := hid (by rw [hnx.out]; simp [e2])
                    clear e2
                    go_wp2_with fail
                    go_roundw
                    case rel => exact ⟨k + 1, by omega, by go_num, by rw [htn.out, hnx.out], by first | exact hid (below_drewN (hbr.out.alloc hbr.out.size _) _) | exact hid (hbr.out.alloc hbr.out.size _)⟩
                    case measure => simp [intOf]; omega
                  · have e3 := str_no e2
                    replace hnx : Hid (tn = false) := hid (by rw [hnx.out]; simp [e2])
                    clear e2
                    go_wp2_with fail
                    go_roundw
                    case rel => exact ⟨k + 1, by omega, by go_num, by rw [htn.out, hnx.out], by first | exact hid (below_drewN (hbr.out.alloc hbr.out.size _) _) | exact hid (hbr.out.alloc hbr.out.size _)⟩
                    case measure => simp [intOf]; omega
                · have q9 : (P1 == (q : Int)) = false := by rw [beq_eq_false_iff_ne]; exact e1
                  replace hnx : Hid (tn = false) := hid (by rw [hnx.out]; simp [e1])
                  clear e1
                  go_wp2_with fail
                  go_roundw
                  case rel => exact ⟨k + 1, by omega, by go_num, by rw [htn.out, hnx.out], by first | exact hid (below_drewN (hbr.out.alloc hbr.out.size _) _) | exact hid (hbr.out.alloc hbr.out.size _)⟩
                  case measure => simp [intOf]; omega
            · obtain rfl : M = k := by omega
              have hmt : mayB a0.secs a0.pend q X M = true := hmay.out
              rw [hmt]
              have D7 := D6'.out.below hbr.out D6'.out.lt
              have A7 := A6'.out.below hbr.out A6'.out.lt
              have h7 := hid (bt h6.out hbr.out)
              obtain ⟨d0, d1, d2, d3, df⟩ := D7.four
              have hF := hid (h7.out.setCell (p := ⟨w.heap.size, 2, none⟩) (Nat.le_refl _) (.bool false))
              have hvo : Hid (DiskV (wr.setCell ⟨w.heap.size, 2, none⟩ (.bool false)) (.agg #[.slice (some ⟨sb, soff, none⟩) a0.secs.length scap, .slice po M pcap, .bool false, .int .i64 a0.fuse]) ⟨a0.secs, a0.pend, false, a0.fuse⟩) := hid (by
                obtain ⟨sv, pv, he, us, up⟩ := hv.out.below hF.out
                simp only [Value.agg.injEq, Array.mk.injEq, List.cons.injEq, and_true] at he
                obtain ⟨rfl, rfl⟩ := he
                exact ⟨_, _, rfl, us, up⟩)
              have A8 := A7.other (p := ⟨w.heap.size, 2, none⟩) (by simp; have := hab.out; omega) (.bool false)
              have A8' := hid A8
              clear hmt h7 A8 D7 A7 hmay
              go_wp2_with fail
              refine (read_any ⟨a0.secs, a0.pend, false, a0.fuse⟩ _ q _ hvo.out).mono ?_
              rw [hnow.out]
              rintro e w9 ⟨rfl, b9⟩
              have A9 := A8'.out.below b9 A8'.out.lt
              have h9 := hid (bt hF.out b9)
              obtain ⟨e0, e1, e2, e3, ef⟩ := A9.four
              rw [c1.out.1, c1.out.2.1, c1.out.2.2.1] at *
              clear d0 d1 d2 d3 df
              have hyy := str_yes (rfl : Y = Y)
              go_wp2_with fail
              go_ret
              exact ⟨rfl, h9.out⟩
end Go.Proofs.Ytocoodccobipiaa.sectorSafe
