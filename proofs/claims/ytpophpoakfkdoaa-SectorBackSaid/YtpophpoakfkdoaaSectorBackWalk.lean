/-
  SectorBack: the walk.
-/
import Derived.Test.YtpophpoakfkdoaaSectorLives
import Derived.Test.YtpophpoakfkdoaaSectorSame
import Derived.Test.YtpophpoakfkdoaaSectorMath
import Derived.Deep.RegionHeld3
import Derived.Deep.QuietTactic
import Derived.BigQuiet
import Derived.WalkArith
namespace Go.Proofs.Ytpophpoakfkdoaa.sectorBack
open Go.ChangeShapes Go.WideShapes Go.ChangeAt Go.RowKit
open Go.Proofs.Ytpophpoakfkdoaa.Mem Go.Proofs.Ytpophpoakfkdoaa.Sector
set_option linter.unusedVariables false

set_option maxHeartbeats 4000000 in
theorem walk (v0 : Value) (a0 : Disk) (a1 a2 : Int) (a3 : ByteArray) (v4 : Value) (a4 : List Bool) (w : World) (h0 : DiskV w v0 a0) (f0 : (Lit.int .i64 a0.fuse).wf = true) (w1 : (Lit.int .i64 a1).wf = true) (w2 : (Lit.int .i64 a2).wf = true) (z3 : a3.size ≤ 140737488351232) (h4 : BoolsV w v4 a4) :
    Calls Try.prog 7 #[v0, .int .i64 a1, .int .i64 a2, .string a3, v4] w fun e w' => e = .returned (.bool true) ∧ Below w.heap.size w w' := by
  have hv := hid h0
  have g4 := hid h4
  have hfu := hid f0
  obtain ⟨sv, pv, rfl, hs, hp⟩ := h0
  obtain ⟨so, scap, rfl, _⟩ := hs.form
  obtain ⟨po, pcap, rfl, _⟩ := hp.form
  obtain ⟨ko, kcap, rfl, _⟩ := h4.form
  clear hs hp f0 w1 w2 z3 h4
  go_enter Try.func7, Try.ntmps7
  go_wp2_with fail
  refine (lives_any _).mono ?_
  rintro e w1 ⟨rfl, b1⟩
  have D1 : Blk w1 w.heap.size [.slice so a0.secs.length scap, .slice po a0.pend.length pcap, .bool a0.off, .int .i64 a0.fuse] 25 := (Blk.new w _ _).below b1 (by simp)
  have h1 := hid ((show Below w.heap.size w _ from by go_grown).trans (b1.mono (by simp)))
  obtain ⟨d0, d1, d2, d3, df⟩ := D1.four
  have D1' := hid D1
  clear D1 b1
  go_wp2_with fail
  refine (put_any a0 _ a1 a3 _ (hv.out.below h1.out) hfu.out).mono ?_
  rintro e w2 hr
  cases hok : okB a0 with
  | false =>
    unfold putE workE at hr
    rw [hok, if_pos rfl] at hr
    obtain ⟨s2, sc2, p2, pc2, rfl, o2, b2⟩ := hr.open
    dsimp only at o2
    have h2 := hid (bt h1.out b2)
    have v2 := hid o2.v
    clear hr hok d0 d1 d2 d3 df o2 b2
    go_wp2_with fail
    refine (same_self zeroDisk _ _ _ (v2.out.below ((Below.refl _ w2).alloc (Nat.le_refl _) _)) (zero_v _)).mono ?_
    rintro e w3 ⟨rfl, b3⟩
    have h3 := hid (bt (h2.out.alloc h2.out.size _) b3)
    go_wp2_with fail
    go_ret
    exact ⟨rfl, h3.out⟩
  | true =>
    unfold putE workE at hr
    rw [hok, if_neg (by simp)] at hr
    have hok' := hid hok
    clear hok
    cases hoff : a0.off with
    | true =>
      rw [hoff, if_pos rfl] at hr
      obtain ⟨s2, sc2, p2, pc2, rfl, o2, b2⟩ := hr.open
      dsimp only at o2
      have h2 := hid (bt h1.out b2)
      clear hr d0 d1 d2 d3 df o2 b2 hoff
      go_wp2_with fail
      go_ret
      exact ⟨rfl, h2.out.alloc h2.out.size _⟩
    | false =>
      rw [hoff, if_neg (by simp)] at hr
      have hoff' := hid hoff
      clear hoff
      by_cases hz : refuseE a0 a1 a3 = 0
      · rw [if_neg (by simpa using hz)] at hr
        have hz' := hid hz
        clear hz
        by_cases hf0 : a0.fuse = 0
        · rw [if_pos hf0] at hr
          obtain ⟨s2, sc2, p2, pc2, rfl, o2, b2⟩ := hr.open
          dsimp only at o2
          have h2 := hid (bt h1.out b2)
          clear hr d0 d1 d2 d3 df o2 b2 hf0
          go_wp2_with fail
          go_ret
          exact ⟨rfl, h2.out.alloc h2.out.size _⟩
        · rw [if_neg hf0] at hr
          have hA : ({ pendD a0 a1 a3 with fuse := if 0 < a0.fuse then a0.fuse - 1 else a0.fuse } : Disk) = putD a0 a1 a3 := by unfold putD pendD; rw [hoff'.out]
          rw [hA] at hr
          have k1 := hid (read_put hok'.out hz'.out (putD a0 a1 a3).fuse)
          have k2 := hid (read_other hok'.out hoff'.out hz'.out (m := a2) (putD a0 a1 a3).fuse)
          have k3 := hid (ok_put hok'.out hz'.out)
          have k4 := hid (sync_put hok'.out hz'.out)
          have k5 := hid (fun l => crash_syn (ok_put hok'.out hz'.out) l)
          have k6 := hid (read_syn hok'.out hz'.out)
          have k7 : Hid ((Lit.int .i64 (putD a0 a1 a3).fuse).wf = true) := hid (by
            have := bounds_i64 hfu.out
            refine WalkArith.wf_i64 ?_
            simp only [putD]
            split <;> omega)
          have k8 : Hid ((⟨a0.secs, a0.pend ++ [(a1, a3)], false, (putD a0 a1 a3).fuse⟩ : Disk) = putD a0 a1 a3) := hid rfl
          rw [show (⟨a0.secs, a0.pend ++ [(a1, a3)], false, (putD a0 a1 a3).fuse⟩ : Disk) = putD a0 a1 a3 from rfl] at k1 k2
          clear k8 hA
          generalize putD a0 a1 a3 = A at hr k1 k2 k3 k4 k5 k6 k7
          obtain ⟨s2, sc2, p2, pc2, rfl, o2, b2⟩ := hr.open
          dsimp only at o2
          have hal := (Below.refl _ w2).alloc (Nat.le_refl _) (.cells #[.slice s2 A.secs.length sc2, .slice p2 A.pend.length pc2, .bool A.off, .int .i64 A.fuse] 25)
          have D2 := (D1'.out.below b2 D1'.out.lt).below hal (Nat.lt_of_lt_of_le D1'.out.lt b2.size)
          have A2 : Blk (w2.alloc (.cells #[.slice s2 A.secs.length sc2, .slice p2 A.pend.length pc2, .bool A.off, .int .i64 A.fuse] 25)) w2.heap.size [.slice s2 A.secs.length sc2, .slice p2 A.pend.length pc2, .bool A.off, .int .i64 A.fuse] 25 := Blk.new w2 _ _
          have h2 := hid (bt (bt h1.out b2) hal)
          have v2 := hid (o2.v.below hal)
          have u2 := hid (hv.out.below h2.out)
          clear d0 d1 d2 d3 df D1' hr o2 b2 hal hf0 h1
          obtain ⟨d0, d1, d2, d3, df⟩ := D2.four
          obtain ⟨e0, e1, e2, e3, ef⟩ := A2.four
          have D2' := hid D2
          have A2' := hid A2
          clear D2 A2
          go_wp2_with fail
          refine (read_any A _ a1 _ v2.out).mono ?_
          rw [k1.out]
          rintro e w3 ⟨rfl, b3⟩
          have D3 := D2'.out.below b3 D2'.out.lt
          have A3 := A2'.out.below b3 A2'.out.lt
          have h3 := hid (bt h2.out b3)
          have v3 := hid (v2.out.below b3)
          have u3 := hid (u2.out.below b3)
          clear d0 d1 d2 d3 df e0 e1 e2 e3 ef D2' A2' h2 v2 u2 b3
          obtain ⟨d0, d1, d2, d3, df⟩ := D3.four
          obtain ⟨e0, e1, e2, e3, ef⟩ := A3.four
          have D3' := hid D3
          have A3' := hid A3
          clear D3 A3
          obtain ⟨x, hx⟩ : ∃ x, (readE a0 a2).1 = x := ⟨_, rfl⟩
          obtain ⟨cx, hcx⟩ : ∃ c, (readE a0 a2).2 = c := ⟨_, rfl⟩
          obtain ⟨y, hy⟩ : ∃ y, (readE A a2).1 = y := ⟨_, rfl⟩
          have hcy : Hid ((readE A a2).2 = cx) := hid (by rw [← k2.out.1, hcx])
          have hxy : Hid (a2 ≠ a1 → x = y) := hid (fun h => by rw [← hx, ← hy]; exact k2.out.2 h)
          have hx' := hid hx
          have hcx' := hid hcx
          have hy' := hid hy
          clear hx hcx hy k2 k1
          go_wp2_with fail
          refine (read_any a0 _ a2 _ u3.out).mono ?_
          rw [hx'.out, hcx'.out]
          rintro e w4 ⟨rfl, b4⟩
          have D4 := D3'.out.below b4 D3'.out.lt
          have A4 := A3'.out.below b4 A3'.out.lt
          have h4 := hid (bt h3.out b4)
          have v4 := hid (v3.out.below b4)
          clear d0 d1 d2 d3 df e0 e1 e2 e3 ef D3' A3' h3 v3 u3 b4
          obtain ⟨e0, e1, e2, e3, ef⟩ := A4.four
          have A4' := hid A4
          clear D4 A4
          go_wp2_with fail
          refine (read_any A _ a2 _ v4.out).mono ?_
          rw [hy'.out, hcy.out]
          rintro e w5 ⟨rfl, b5⟩
          have A5 := A4'.out.below b5 A4'.out.lt
          have h5 := hid (bt h4.out b5)
          have v5 := hid (v4.out.below b5)
          clear e0 e1 e2 e3 ef A4' h4 v4 b5 hx' hcx' hy' hcy
          obtain ⟨e0, e1, e2, e3, ef⟩ := A5.four
          have A5' := hid A5
          clear A5
          have hcond : ((a2 != a1) = false ∨ (a2 != a1) = true ∧ x = y) := by
            by_cases he : a2 = a1
            · exact .inl (by simp [he])
            · exact .inr ⟨by simp [he], hxy.out he⟩
          clear hxy
          rcases hcond with hne | ⟨hne, rfl⟩
          all_goals
            go_wp2_with fail
            clear e0 e1 e2 e3 ef
            refine (sync_any A _ _ v5.out k7.out).mono ?_
            rw [k4.out]
            rintro e w6 hr
            by_cases hf0 : A.fuse = 0
            · rw [if_pos hf0] at hr
              obtain ⟨s6, sc6, p6, pc6, rfl, o6, b6⟩ := hr.open
              dsimp only at o6
              have h6 := hid (bt h5.out b6)
              clear hr o6 b6 hf0
              go_wp2_with fail
              go_ret
              exact ⟨rfl, h6.out.alloc h6.out.size _⟩
            · rw [if_neg hf0] at hr
              have k5' := k5
              have hpe : Hid ((synD A).pend.length = 0) := hid rfl
              clear hf0
              generalize synD A = S at hr k5 k6 hpe
              obtain ⟨s6, sc6, p6, pc6, rfl, o6, b6⟩ := hr.open
              dsimp only at o6
              have hal := (Below.refl _ w6).alloc (Nat.le_refl _) (.cells #[.slice s6 S.secs.length sc6, .slice p6 S.pend.length pc6, .bool S.off, .int .i64 S.fuse] 25)
              have S6 : Blk (w6.alloc (.cells #[.slice s6 S.secs.length sc6, .slice p6 S.pend.length pc6, .bool S.off, .int .i64 S.fuse] 25)) w6.heap.size [.slice s6 S.secs.length sc6, .slice p6 S.pend.length pc6, .bool S.off, .int .i64 S.fuse] 25 := Blk.new w6 _ _
              have h6 := hid (bt (bt h5.out b6) hal)
              have v6 := hid (o6.v.below hal)
              clear hr o6 b6 hal
              have S6' := hid S6
              clear S6
              go_wp2_with fail
              refine (crash_any S _ _ a4 _ v6.out (g4.out.below h6.out)).mono ?_
              rw [k5.out]
              rintro e w7 hr
              obtain ⟨s7, sc7, p7, pc7, rfl, o7, b7⟩ := hr.open
              dsimp only at o7
              have S7 := S6'.out.below b7 S6'.out.lt
              have hal := (Below.refl _ w7).alloc (Nat.le_refl _) (.cells #[.slice s7 S.secs.length sc7, .slice p7 0 pc7, .bool false, .int .i64 (-1)] 25)
              have S8 := S7.below hal S7.lt
              have h7 := hid (bt (bt h6.out b7) hal)
              have v7 := hid (o7.v.below hal)
              clear hr o7 b7 hal h6 v6 S6' S7
              obtain ⟨e0, e1, e2, e3, ef⟩ := S8.four
              have S8' := hid S8
              clear S8
              dsimp only [List.length_nil] at v7 ⊢
              go_wp2_with fail
              refine (read_any ⟨S.secs, [], false, -1⟩ _ a1 _ v7.out).mono ?_
              rw [k6.out]
              rintro e w8 ⟨rfl, b8⟩
              have S9 := S8'.out.below b8 S8'.out.lt
              have h8 := hid (bt h7.out b8)
              clear e0 e1 e2 e3 ef h7 v7 b8 S8'
              obtain ⟨e0, e1, e2, e3, ef⟩ := S9.four
              clear S9
              have hpe1 := hpe.out
              have hpe2 : ((S.pend.length : Int) == 0) = true := by rw [hpe1]; rfl
              clear hpe1
              go_wp2_with fail
              first | go_quiet (fail) | skip
              go_wp2_with fail
              go_ret
              exact ⟨by simp, by first | exact h8.out | exact below_drewN h8.out _ | exact h8.out.drew⟩
      · rw [if_pos hz] at hr
        obtain ⟨s2, sc2, p2, pc2, rfl, o2, b2⟩ := hr.open
        dsimp only at o2
        have hr3 : refuseE a0 a1 a3 = 1 ∨ refuseE a0 a1 a3 = 3 ∨ refuseE a0 a1 a3 = 2 := by
          unfold refuseE at hz ⊢
          split
          · exact .inl rfl
          · split
            · exact .inr (.inl rfl)
            · split
              · exact .inr (.inr rfl)
              · rename_i x y z; simp [x, y, z] at hz
        have hal := (Below.refl _ w2).alloc (Nat.le_refl _) (.cells #[.slice s2 a0.secs.length sc2, .slice p2 a0.pend.length pc2, .bool a0.off, .int .i64 a0.fuse] 25)
        have D2 := (D1'.out.below b2 D1'.out.lt).below hal (Nat.lt_of_lt_of_le D1'.out.lt b2.size)
        have A2 : Blk (w2.alloc (.cells #[.slice s2 a0.secs.length sc2, .slice p2 a0.pend.length pc2, .bool a0.off, .int .i64 a0.fuse] 25)) w2.heap.size [.slice s2 a0.secs.length sc2, .slice p2 a0.pend.length pc2, .bool a0.off, .int .i64 a0.fuse] 25 := Blk.new w2 _ _
        have h2 := hid (bt (bt h1.out b2) hal)
        have v2 := hid (o2.v.below hal)
        have u2 := hid (hv.out.below h2.out)
        clear d0 d1 d2 d3 df D1' hr hz o2 b2 hal
        obtain ⟨d0, d1, d2, d3, df⟩ := D2.four
        obtain ⟨e0, e1, e2, e3, ef⟩ := A2.four
        clear D2 A2
        rcases hr3 with hr3 | hr3 | hr3
        all_goals
          rw [hr3]
          have hr3' := hid hr3
          clear hr3
          go_wp2_with fail
          refine (same_self a0 _ _ _ v2.out u2.out).mono ?_
          rintro e w3 ⟨rfl, b3⟩
          have h3 := hid (bt h2.out b3)
          go_wp2_with fail
          go_ret
          exact ⟨rfl, h3.out⟩
end Go.Proofs.Ytpophpoakfkdoaa.sectorBack
