/-
  SectorFuse: the walk.
-/
import Derived.Test.YtpophpoakfkdoaaSectorFuseMath
import Derived.WalkArith
namespace Go.Proofs.Ytpophpoakfkdoaa.sectorFuse
open Go.ChangeShapes Go.WideShapes Go.ChangeAt Go.RowKit
open Go.Proofs.Ytpophpoakfkdoaa.Mem Go.Proofs.Ytpophpoakfkdoaa.Sector
set_option linter.unusedVariables false

theorem new_one : newE 1 = (⟨[Sector.blank], [], false, -1⟩, 0) := by kernel_rfl

set_option maxRecDepth 20000 in
set_option maxHeartbeats 4000000 in
theorem walk (a0 a1 : Int) (a2 : ByteArray) (w : World) (w0 : (Lit.int .u8 a0).wf = true) (w1 : (Lit.int .i64 a1).wf = true) (z2 : a2.size ≤ 140737488351232) :
    Calls Try.prog 8 #[.int .u8 a0, .int .i64 a1, .string a2] w fun e w' => e = .returned (.bool true) ∧ Below w.heap.size w w' := by
  have hb0 := bounds_u8 w0
  have hb1 := bounds_i64 w1
  obtain ⟨f, rfl⟩ : ∃ f : Nat, a0 = f := ⟨a0.toNat, by omega⟩
  have hf : f < 256 := by omega
  have hz2 : (a2.size : Int) ≤ 9223372036854775807 := by omega
  clear w0 w1 hb0
  go_enter Try.func8, Try.ntmps8
  go_wp2_with fail
  refine (lives_any _).mono ?_
  rintro e w1 ⟨rfl, b1⟩
  go_wp2_with fail
  refine (new_any 1 _).mono ?_
  rw [new_one]
  rintro e w2 hr
  obtain ⟨s2, sc2, p2, pc2, rfl, o2, b2⟩ := hr.open
  dsimp only [List.length_nil, List.length_singleton] at o2 ⊢
  by_cases hs : a2.size = 64
  · have hs2 : ((a2.size : Int) != 64) = false := by rw [hs]; rfl
    have hs' := hid hs
    clear hs hr
    go_wp2_with fail
    have hB : w.heap.size ≤ w2.heap.size := (bt b1 b2).size
    have D0 := Blk.new w2 [.slice s2 1 sc2, .slice p2 0 pc2, .bool false, .int .i64 (f : Int)] 25
    have o0 : OwnDisk w1.heap.size (w2.alloc (.cells #[.slice s2 1 sc2, .slice p2 0 pc2, .bool false, .int .i64 (f : Int)] 25)) (.slice s2 1 sc2) (.slice p2 0 pc2) (st f a2 0) := by
      rw [st_zero]
      have := o2.below ((Below.refl _ w2).alloc (Nat.le_refl _) (.cells #[.slice s2 1 sc2, .slice p2 0 pc2, .bool false, .int .i64 (f : Int)] 25))
      exact ⟨this.secs, this.far⟩
    have h0 := (bt b1 b2).alloc (bt b1 b2).size (.cells #[.slice s2 1 sc2, .slice p2 0 pc2, .bool false, .int .i64 (f : Int)] 25)
    have v0 := o0.v
    rw [show (st f a2 0).off = false by rw [st_zero], show (st f a2 0).fuse = (f : Int) by rw [st_zero]] at v0
    have start : ∃ k : Nat, k ≤ 300 ∧ Value.int .i64 0 = .int .i64 k ∧ Hid (∃ so sc po pc, Blk (w2.alloc (.cells #[.slice s2 1 sc2, .slice p2 0 pc2, .bool false, .int .i64 (f : Int)] 25)) w2.heap.size [.slice so (st f a2 k).secs.length sc, .slice po (st f a2 k).pend.length pc, .bool (st f a2 k).off, .int .i64 (st f a2 k).fuse] 25 ∧
        DiskV (w2.alloc (.cells #[.slice s2 1 sc2, .slice p2 0 pc2, .bool false, .int .i64 (f : Int)] 25)) (.agg #[.slice so (st f a2 k).secs.length sc, .slice po (st f a2 k).pend.length pc, .bool (st f a2 k).off, .int .i64 (st f a2 k).fuse]) (st f a2 k)) ∧
        Hid (Below w.heap.size w (w2.alloc (.cells #[.slice s2 1 sc2, .slice p2 0 pc2, .bool false, .int .i64 (f : Int)] 25))) := by
      refine ⟨0, by omega, rfl, ⟨s2, sc2, p2, pc2, ?_, ?_⟩, h0⟩
      · rw [st_zero]; exact D0
      · rw [st_zero] at v0 ⊢; exact v0
    clear D0 o0 h0 v0 o2 b1 b2
    go_loopw [9] (fun i wr => ∃ k : Nat, k ≤ 300 ∧ i = .int .i64 k ∧ Hid (∃ so sc po pc, Blk wr w2.heap.size [.slice so (st f a2 k).secs.length sc, .slice po (st f a2 k).pend.length pc, .bool (st f a2 k).off, .int .i64 (st f a2 k).fuse] 25 ∧
        DiskV wr (.agg #[.slice so (st f a2 k).secs.length sc, .slice po (st f a2 k).pend.length pc, .bool (st f a2 k).off, .int .i64 (st f a2 k).fuse]) (st f a2 k)) ∧ Hid (Below w.heap.size w wr)) (fun i _ => 300 - (intOf i).toNat)
    case atStart => exact start
    clear start
    case round =>
      obtain ⟨k, hk, rfl, ⟨so, sc, po, pc, hD, hV⟩, hbr⟩ := hrel
      have hD' := hid hD
      have hV' := hid hV
      obtain ⟨d0, d1, d2, d3, df⟩ := hD.four
      clear hD hV
      by_cases hgo : (k : Int) < a1 ∧ (k : Int) < 300
      · obtain ⟨hg1, hg2⟩ := hgo
        have hput := hid (put_st hf hs'.out k)
        have hwf : Hid ((Lit.int .i64 (st f a2 k).fuse).wf = true) := hid (WalkArith.wf_i64 (by have := fuse_st hf a2 k; omega))
        have hoff := hid (off_st f a2 k)
        go_wp2_with fail
        refine (put_any (st f a2 k) _ 0 a2 _ hV'.out hwf.out).mono ?_
        rw [hput.out]
        rintro e w3 hr
        have hS : Hid (∃ S, S = st f a2 (k + 1)) := hid ⟨_, rfl⟩
        generalize hSS : st f a2 (k + 1) = S at hr hoff ⊢
        have hS' := hid hSS
        clear hS hSS
        obtain ⟨s3, sc3, p3, pc3, rfl, o3, b3⟩ := hr.open
        dsimp only at o3
        have hlt := Nat.lt_of_lt_of_le hD'.out.lt (Nat.le_refl _)
        have D3 := hD'.out.below b3 hD'.out.lt
        have hal := (Below.refl _ w3).alloc (Nat.le_refl _) (.cells #[.slice s3 S.secs.length sc3, .slice p3 S.pend.length pc3, .bool S.off, .int .i64 S.fuse] 25)
        have E3 := Blk.new w3 [.slice s3 S.secs.length sc3, .slice p3 S.pend.length pc3, .bool S.off, .int .i64 S.fuse] 25
        have D4 := D3.below hal D3.lt
        obtain ⟨D5, o5, h5⟩ := box4 D4 (o3.below hal) hlt (bt (bt hbr.out b3) hal) hB (.slice s3 S.secs.length sc3) (.slice p3 S.pend.length pc3) (.bool S.off) (.int .i64 S.fuse)
        have D6 := D5
        have V6 := hid o5.out.v
        have h6 := h5
        clear d0 d1 d2 d3 df hal hr o3 b3 hbr hV' hD' D5 o5 h5 E3
        obtain ⟨d0, d1, d2, d3, df⟩ := D4.four
        by_cases hkf : k < f
        · have hkf2 : (k : Int) < (f : Int) := by omega
          rw [if_pos hkf]
          clear hoff D4 hkf D3
          go_wp2_with fail
          go_roundw
          case rel => exact ⟨k + 1, by omega, by go_num, by rw [hS'.out]; exact hid ⟨s3, sc3, p3, pc3, D6.out, V6.out⟩, h6⟩
          case measure => simp [intOf]; omega
        · have hkf2 : (f : Int) ≤ (k : Int) := by omega
          rw [if_neg hkf]
          have ho := hoff.out hkf
          have ho' := hid ho
          clear hoff D4 hkf D3
          rw [ho] at d0 d1 d2 d3 df D6 V6 h6 ⊢
          clear ho
          go_wp2_with fail
          go_roundw
          case rel => exact ⟨k + 1, by omega, by go_num, by rw [hS'.out, ho'.out]; exact hid ⟨s3, sc3, p3, pc3, D6.out, V6.out⟩, h6⟩
          case measure => simp [intOf]; omega
      · have hcr : Hid (crashE (st f a2 k) [] = (crashD (st f a2 k) [], 0)) := hid (by unfold crashE; rw [if_pos (ok_st hf hs'.out k)])
        have hex : ¬ (k : Int) < a1 ∨ ((k : Int) < a1 ∧ ¬ (k : Int) < 300) := by omega
        have hpe : Hid ((crashD (st f a2 k) []).pend.length = 0 ∧ (crashD (st f a2 k) []).off = false ∧ (crashD (st f a2 k) []).fuse = -1) := hid ⟨rfl, rfl, rfl⟩
        clear hgo
        rcases hex with hn | ⟨hy, hn⟩
        all_goals
          go_wp2_with fail
          refine (crash_any (st f a2 k) _ _ [] _ hV'.out (SlV.nil _)).mono ?_
          rw [hcr.out]
          rintro e w3 hr
          generalize crashD (st f a2 k) [] = S at hr hpe ⊢
          obtain ⟨s3, sc3, p3, pc3, rfl, o3, b3⟩ := hr.open
          obtain ⟨e1, e2, e3⟩ := hpe.out
          have h3 := hid (bt hbr.out b3)
          dsimp only
          rw [e1, e2, e3]
          clear hr hpe o3 b3 d0 d1 d2 d3 df e1 e2 e3
          go_wp2_with fail
          go_ret
          exact ⟨rfl, h3.out.alloc h3.out.size _⟩
  · have hs2 : ((a2.size : Int) != 64) = true := by rw [bne_iff_ne]; omega
    clear hs
    go_wp2_with fail
    go_ret
    exact ⟨rfl, by first | exact (bt b1 b2).alloc (bt b1 b2).size _ | exact bt b1 b2⟩
end Go.Proofs.Ytpophpoakfkdoaa.sectorFuse
