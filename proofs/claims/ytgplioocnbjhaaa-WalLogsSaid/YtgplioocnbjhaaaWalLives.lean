/-
  lictorlaw04.lives: the answers that it asks for are given.
-/
import Derived.Test.YtgplioocnbjhaaaWalApp
import Derived.Test.YtgplioocnbjhaaaWalAppend
import Derived.Test.YtgplioocnbjhaaaWalScan
namespace Go.Proofs.Ytgplioocnbjhaaa.Wal
open Go.ChangeShapes Go.WideShapes Go.ChangeAt Go.RowKit
open Go.Proofs.Ytgplioocnbjhaaa.Mem Go.Proofs.Ytgplioocnbjhaaa.Rec Go.Proofs.Ytgplioocnbjhaaa.Sector
set_option linter.unusedVariables false
set_option maxRecDepth 100000
def f0w : Fr := ⟨1, 7, 0, ⟨#[]⟩⟩
def f1w : Fr := ⟨1, 7, 1, ⟨#[120]⟩⟩
theorem f0w_has : f0w.has := ⟨by decide, by decide, by decide, by decide⟩
theorem f1w_has : f1w.has := ⟨by decide, by decide, by decide, by decide⟩
theorem rg2_has : Rg.has ⟨0, 2⟩ := ⟨by decide, by decide, by decide, by decide⟩
theorem lives_data : ∃ D, appE l1 ⟨0, 2⟩ 0 f0w = ⟨D, 1, 0⟩ ∧ (Lit.int .i64 D.fuse).wf = true ∧ appE D ⟨0, 2⟩ 1 f1w = ⟨D, 0, 16⟩ ∧ scanE D ⟨0, 2⟩ 7 = ([f0w], 1, 0) ∧ scanE D ⟨0, 2⟩ 8 = ([], 0, 0) := by
  have s0 : Written l1 2 7 0 [] := Written.start (by omega) (by omega)
  have p0 : pcs f0w.pay.size = 0 := rfl
  have p1 : pcs f1w.pay.size = 1 := rfl
  rcases app_live (r := ⟨0, 2⟩) (a := 0) (f := f0w) s0.chk s0.off (by rw [s0.fuse]; decide) (by rw [s0.pend]; decide) (by omega) (by decide) (by decide) with ⟨h, _⟩ | ⟨_, h, _⟩ | ⟨D, h, hf⟩
  · exact absurd h (by decide)
  · rw [p0] at h; exact absurd h (by decide)
  · rw [p0] at h
    obtain ⟨s1, ht⟩ := s0.more (at' := 0) (S := 2) (f := f0w) h hf ⟨by decide, by decide, by decide, by decide⟩ rfl rfl (by decide)
    rw [p0] at s1
    refine ⟨D, h, ?_, ?_, ?_, ?_⟩
    · rw [s1.fuse]; decide
    · rcases app_live (r := ⟨0, 2⟩) (a := 1) (f := f1w) s1.chk s1.off (by rw [s1.fuse]; decide) (by rw [s1.pend]; decide) (by omega) (by decide) (by decide) with ⟨g, _⟩ | ⟨_, _, g⟩ | ⟨e, g, _⟩
      · exact absurd g (by decide)
      · exact g
      · have := (app_ok g).room
        rw [p1] at this; exact absurd this (by decide)
    · unfold scanE
      have hc : walChk D ⟨0, 2⟩ = 0 := s1.chk
      rw [if_neg (by rw [hc]; simp), if_neg (by rw [s1.off]; simp)]
      have e1 : logF (cont D ⟨0, 2⟩) 2 7 = [] ++ [f0w] := s1.log
      have e2 : endF (cont D ⟨0, 2⟩) 2 7 = 0 + (0 + 1) := s1.till
      show (logF (cont D ⟨0, 2⟩) 2 7, endF (cont D ⟨0, 2⟩) 2 7, (0 : Int)) = _
      rw [e1, e2]; rfl
    · unfold scanE
      have hc : walChk D ⟨0, 2⟩ = 0 := s1.chk
      rw [if_neg (by rw [hc]; simp), if_neg (by rw [s1.off]; simp)]
      obtain ⟨e1, e2⟩ := s1.other (o := 8) (by decide)
      have e1 : logF (cont D ⟨0, 2⟩) 2 8 = [] := e1
      have e2 : endF (cont D ⟨0, 2⟩) 2 8 = 0 := e2
      show (logF (cont D ⟨0, 2⟩) 2 8, endF (cont D ⟨0, 2⟩) 2 8, (0 : Int)) = _
      rw [e1, e2]
theorem Apd.open {w : World} {x : Ap} {e : Ending} {w' : World} (h : Apd w x e w') : ∃ so sc po pc, e = .returned (.tuple #[.agg #[.slice so x.d.secs.length sc, .slice po x.d.pend.length pc, .bool x.d.off, .int .i64 x.d.fuse], .int .i64 x.at', .int .i64 x.c]) ∧
    OwnDisk w.heap.size w' (.slice so x.d.secs.length sc) (.slice po x.d.pend.length pc) x.d ∧ Below w.heap.size w w' := by
  obtain ⟨sv, pv, he, ho, hb⟩ := h
  obtain ⟨so, sc, rfl, _⟩ := ownsRow_form ho.secs
  obtain ⟨po, pc, rfl, _⟩ := ownsRow_form ho.pend
  exact ⟨so, sc, po, pc, he, ho, hb⟩
set_option maxHeartbeats 4000000 in
theorem lives_any (w : World) : Calls Try.prog 38 #[] w fun e w' => e = .returned (.bool true) ∧ Below w.heap.size w w' := by
  obtain ⟨D, h1, h2, h3, h4, h5⟩ := lives_data
  have hap := hid (fun v W (h : DiskV W v l1) => h1 ▸ append_any l1 v ⟨0, 2⟩ 0 f0w W h (by decide) rg2_has (by decide) f0w_has)
  have hap2 := hid (fun v W (h : DiskV W v D) => h3 ▸ append_any D v ⟨0, 2⟩ 1 f1w W h h2 rg2_has (by decide) f1w_has)
  have hsc := hid (fun v W (h : DiskV W v D) => h4 ▸ scan_any D v ⟨0, 2⟩ 7 W h rg2_has)
  have hsc2 := hid (fun v W (h : DiskV W v D) => h5 ▸ scan_any D v ⟨0, 2⟩ 8 W h rg2_has)
  clear h1 h2 h3 h4 h5
  rw [show rgV ⟨0, 2⟩ = .agg #[.int .i64 0, .int .i64 2] from rfl] at hap hap2 hsc hsc2
  rw [show frV f0w = .agg #[.int .u8 1, .int .u64 7, .int .u64 0, .string ⟨#[]⟩] from rfl] at hap
  rw [show frV f1w = .agg #[.int .u8 1, .int .u64 7, .int .u64 1, .string ⟨#[120]⟩] from rfl] at hap2
  go_enter Try.func38, Try.ntmps38
  go_wp2_with fail
  refine (new_any 2 _).mono ?_
  rw [l_new]
  rintro e w1 hr
  obtain ⟨so1, sc1, po1, pc1, rfl, o1, b1⟩ := hr.open
  dsimp only at o1
  clear hr
  have b1' := hid b1
  clear b1
  go_wp2_with fail
  have K1 := (Blk.new w1 [.slice so1 l1.secs.length sc1, .slice po1 l1.pend.length pc1, .bool l1.off, .int .i64 l1.fuse] 25).alloc (.cells #[.int .i64 0, .int .i64 2] 54)
  have K2 := Blk.new' (w1.alloc (.cells #[.slice so1 l1.secs.length sc1, .slice po1 l1.pend.length pc1, .bool l1.off, .int .i64 l1.fuse] 25)) [.int .i64 0, .int .i64 2] 54 (w1.heap.size + 1) (by simp)
  have hal : Below w1.heap.size w1 ((w1.alloc (.cells #[.slice so1 l1.secs.length sc1, .slice po1 l1.pend.length pc1, .bool l1.off, .int .i64 l1.fuse] 25)).alloc (.cells #[.int .i64 0, .int .i64 2] 54)) := by go_grown
  have hb := hid (bt b1'.out hal)
  have u1 := hid (o1.v.below hal)
  generalize (w1.alloc (.cells #[.slice so1 l1.secs.length sc1, .slice po1 l1.pend.length pc1, .bool l1.off, .int .i64 l1.fuse] 25)).alloc (.cells #[.int .i64 0, .int .i64 2] 54) = X2 at K1 K2 hal hb u1 ⊢
  have hn1 := b1'.out.size
  generalize w1.heap.size = n1 at K1 K2 hn1 ⊢
  clear hal o1 b1'
  have hlt := K1.lt
  refine (hap.out _ _ u1.out).mono ?_
  rintro e w3 hr
  obtain ⟨so3, sc3, po3, pc3, rfl, o3, b3⟩ := hr.open
  dsimp only at o3
  clear hr
  have K1' := hid (K1.below b3 K1.lt)
  have K2' := hid (K2.below b3 K2.lt)
  obtain ⟨D3, O3, c3⟩ := box4 K1'.out o3 hlt (bt hb.out b3) hn1 (.slice so3 D.secs.length sc3) (.slice po3 D.pend.length pc3) (.bool D.off) (.int .i64 D.fuse)
  have R3 := hid ((((K2'.out.other (p := ⟨n1, 0, none⟩) (by simp) (.slice so3 D.secs.length sc3)).other (p := ⟨n1, 1, none⟩) (by simp) (.slice po3 D.pend.length pc3)).other (p := ⟨n1, 2, none⟩) (by simp) (.bool D.off)).other (p := ⟨n1, 3, none⟩) (by simp) (.int .i64 D.fuse))
  obtain ⟨d0, d1, d2, d3, df⟩ := K1'.out.four
  clear K1 K2 hb u1 hlt o3 b3 hap
  go_upto_region 4 with fail
  generalize (((w3.setCell ⟨n1, 0, none⟩ (.slice so3 D.secs.length sc3)).setCell ⟨n1, 1, none⟩ (.slice po3 D.pend.length pc3)).setCell ⟨n1, 2, none⟩ (.bool D.off)).setCell ⟨n1, 3, none⟩ (.int .i64 D.fuse) = X3 at D3 O3 c3 R3 ⊢
  clear d0 d1 d2 d3 df K1' K2'
  obtain ⟨d0, d1, d2, d3, df⟩ := D3.out.four
  obtain ⟨r0, r1, rf⟩ := R3.out.two
  go_wp2_with fail
  refine (hap2.out _ _ O3.out.v).mono ?_
  rintro e w4 hr
  obtain ⟨so4, sc4, po4, pc4, rfl, o4, b4⟩ := hr.open
  clear hr o4
  have hal : Below w4.heap.size w4 (w4.alloc (.cells #[.slice so4 D.secs.length sc4, .slice po4 D.pend.length pc4, .bool D.off, .int .i64 D.fuse] 25)) := (Below.refl _ w4).alloc (Nat.le_refl _) _
  have D5 := hid ((D3.out.below b4 D3.out.lt).below hal (Nat.lt_of_lt_of_le D3.out.lt b4.size))
  have R5 := hid ((R3.out.below b4 R3.out.lt).below hal (Nat.lt_of_lt_of_le R3.out.lt b4.size))
  have O5 := hid ((O3.out.below b4).below hal)
  have c5 := hid (bt (bt c3.out b4) hal)
  clear D3 R3 O3 c3 b4 d0 d1 d2 d3 df r0 r1 rf hap2
  dsimp only
  go_upto_region 5 with fail
  generalize w4.alloc (.cells #[.slice so4 D.secs.length sc4, .slice po4 D.pend.length pc4, .bool D.off, .int .i64 D.fuse] 25) = X5 at hal D5 R5 O5 c5 ⊢
  clear hal
  obtain ⟨d0, d1, d2, d3, df⟩ := D5.out.four
  obtain ⟨r0, r1, rf⟩ := R5.out.two
  go_wp2_with fail
  refine (hsc.out _ _ O5.out.v).mono ?_
  rintro e w6 ⟨ao, cap, rfl, _, b6⟩
  have D6 := hid (D5.out.below b6 D5.out.lt)
  have R6 := hid (R5.out.below b6 R5.out.lt)
  have O6 := hid (O5.out.below b6)
  have c6 := hid (bt c5.out b6)
  clear D5 R5 O5 c5 b6 d0 d1 d2 d3 df r0 r1 rf hsc
  obtain ⟨d0, d1, d2, d3, df⟩ := D6.out.four
  obtain ⟨r0, r1, rf⟩ := R6.out.two
  dsimp only
  go_wp2_with fail
  refine (hsc2.out _ _ O6.out.v).mono ?_
  rintro e w7 ⟨ao2, cap2, rfl, _, b7⟩
  have c7 := hid (bt c6.out b7)
  clear D6 R6 O6 c6 b7 d0 d1 d2 d3 df r0 r1 rf hsc2
  dsimp only
  go_wp2_with fail
  go_ret
  exact ⟨rfl, c7.out⟩
end Go.Proofs.Ytgplioocnbjhaaa.Wal
