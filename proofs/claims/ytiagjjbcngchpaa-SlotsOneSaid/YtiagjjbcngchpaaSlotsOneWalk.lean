/-
  SlotsOne: the walk.
-/
import Derived.Test.YtiagjjbcngchpaaSlotSaved2
import Derived.Test.YtiagjjbcngchpaaSectorSame
namespace Go.Proofs.Ytiagjjbcngchpaa.slotsOne
open Go.ChangeShapes Go.WideShapes Go.ChangeAt Go.RowKit
open Go.Proofs.Ytiagjjbcngchpaa.Mem Go.Proofs.Ytiagjjbcngchpaa.Rec Go.Proofs.Ytiagjjbcngchpaa.Sector Go.Proofs.Ytiagjjbcngchpaa.Wal Go.Proofs.Ytiagjjbcngchpaa.Slot
set_option linter.unusedVariables false
set_option linter.unusedSimpArgs false
set_option maxRecDepth 100000
theorem _root_.Go.Proofs.Ytiagjjbcngchpaa.Mem.Bag.refuse {w0 w : World} {L : List Bx} {O : List Dk} (h : Bag w0 w L O) {sv pv : Value} (secs : List ByteArray) (pend : List (Int × ByteArray)) (off : Bool) (f f' : Int) (hO : O = [⟨sv, pv, ⟨secs, pend, off, f⟩⟩]) : Bag w0 w L [⟨sv, pv, ⟨secs, pend, off, f'⟩⟩] :=
  ⟨h.bel, h.up, h.ge, h.at', fun o ho => by
    rw [List.mem_singleton] at ho
    subst ho
    have := h.own ⟨sv, pv, ⟨secs, pend, off, f⟩⟩ (by rw [hO]; exact List.mem_singleton.2 rfl)
    exact ⟨this.secs, this.far⟩⟩
set_option maxHeartbeats 8000000 in
theorem walk (a0 : Int) (v1 : Value) (l : List ByteArray) (a2 : ByteArray) (a3 : Int) (v4 : Value) (kp : List Bool) (w : World) (w0 : (Lit.int .i64 a0).wf = true) (w1 : StrsV w v1 l) (s1 : ∀ s ∈ l, s.size ≤ maxLen) (z2 : a2.size ≤ 140737488351232) (w3 : (Lit.int .i64 a3).wf = true) (w4 : BoolsV w v4 kp) :
    Calls Try.prog 6 #[.int .i64 a0, v1, .string a2, .int .i64 a3, v4] w fun e w' => e = .returned (.bool true) ∧ Below w.heap.size w w' := by
  obtain ⟨ko, kcap, rfl, _⟩ := SlV.form w4
  obtain ⟨vo, vcap, rfl, hv2, hv3⟩ := SlV.form w1
  have hkp := hid w4
  have hvs := hid w1
  have hss := hid s1
  have hfw := hid w3
  have hz2 := hid z2
  have hz3 : (a2.size : Int) ≤ 9223372036854775807 := by have := hz2.out; omega
  have hb0 := bounds_i64 w0
  unfold maxLen at hv3
  have hnl : l.length ≤ 9223372036854775807 := by omega
  clear w0 w1 s1 hv2 hv3 w3 w4 z2
  go_enter Try.func6, Try.ntmps6
  go_wp2_with fail
  refine (Slot.lives_any _).mono ?_
  rintro e w1 ⟨rfl, b1⟩
  go_wp2_with fail
  by_cases hsz : a0 < 1 ∨ 512 < a0 ∨ 100 < l.length
  · refine (saved_no a0 vo l.length vcap _ hnl hsz).mono ?_
    rintro e w2 ⟨rfl, b2⟩
    have hb := hid (bt b1 b2)
    clear b1 b2 hb0
    dsimp only
    go_wp2_with fail
    go_ret
    exact ⟨rfl, bt hb.out (by go_grown)⟩
  · obtain ⟨S, rfl⟩ : ∃ S : Nat, a0 = S := ⟨a0.toNat, by omega⟩
    have hS1 : 1 ≤ S := by omega
    have hS2 : S ≤ 512 := by omega
    refine (saved_yes S l vo vcap _ hS1 hS2 (by omega) (hvs.out.below b1) hss.out).mono ?_
    rintro e w2 ⟨d, m, so, sc, po, pc, rfl, o2, q1, q2, q3, m1, b2⟩
    replace m1 : m.epoch ≤ 100 := by omega
    clear hvs hss hb0 hsz hnl
    have hms := hid m1
    have hb := hid (bt b1 b2)
    have hs1 := hid b1.size
    have ho := hid o2
    have hSt := hid q1
    have hmh := hid q3
    obtain ⟨secs, pend, off, fu⟩ := d
    dsimp only at *
    clear b1 b2 o2 q1 q2 q3
    have hm1 : (m.epoch : Int) ≤ 100 := by have := hms.out; omega
    have w5 : IntKind.u64.wrap ((m.epoch : Int) + 1) = (m.epoch : Int) + 1 := by rw [IntWalk.u64_in _ (by omega)]
    obtain ⟨n, hn⟩ : ∃ n : Im, n = ⟨m.epoch + 1, a2⟩ := ⟨_, rfl⟩
    have hne := hid (show n.epoch = m.epoch + 1 by rw [hn])
    have hnh := hid (show n.has by rw [hn]; exact ⟨by show m.epoch + 1 < _; omega, by show a2.size ≤ _; omega⟩)
    have hrA := hid (show Rg.has ⟨0, S⟩ from ⟨by simp, by simp, by show (-9223372036854775808 : Int) ≤ (S : Int); omega, by show (S : Int) ≤ 9223372036854775807; omega⟩)
    have hrB := hid (show Rg.has ⟨S, S⟩ from ⟨by show (-9223372036854775808 : Int) ≤ (S : Int); omega, by show (S : Int) ≤ 9223372036854775807; omega, by show (-9223372036854775808 : Int) ≤ (S : Int); omega, by show (S : Int) ≤ 9223372036854775807; omega⟩)
    have hsv := hid (fun v W (h : DiskV W v ⟨secs, pend, off, a3⟩) => save_any ⟨secs, pend, off, a3⟩ v ⟨0, S⟩ ⟨S, S⟩ n W h hfw.out hrA.out hrB.out hnh.out)
    rw [show rgV ⟨0, S⟩ = .agg #[.int .i64 0, .int .i64 (S : Nat)] from rfl, show rgV ⟨S, S⟩ = .agg #[.int .i64 (S : Nat), .int .i64 (S : Nat)] from rfl] at hsv
    rw [show imV n = .agg #[.int .u64 (n.epoch : Nat), .string n.pay] from rfl] at hsv
    have hcase := hid (St.save (hSt.out.fuse a3) (by rw [hne.out]; omega) hnh.out.1 kp)
    dsimp only at hcase
    obtain ⟨Y, hY⟩ : ∃ Y, saveE ⟨secs, pend, off, a3⟩ ⟨0, S⟩ ⟨S, S⟩ n = Y := ⟨_, rfl⟩
    rw [hY] at hsv hcase
    clear hY
    obtain ⟨x, c⟩ := Y
    go_upto_region 6 with fail
    have M := hid ((((((Bag.of hb.out).disk ho.out hs1.out).push [.int .i64 0, .int .i64 (S : Nat)] 27 w2.heap.size rfl).push [.int .i64 (S : Nat), .int .i64 (S : Nat)] 27 (w2.heap.size + 1) (by simp)).push [.slice so secs.length sc, .slice po pend.length pc, .bool off, .int .i64 fu] 25 (w2.heap.size + 2) (by simp)).push [.int .u64 (m.epoch : Nat), .string m.pay] 56 (w2.heap.size + 3) (by simp))
    generalize (((w2.alloc (.cells #[.int .i64 0, .int .i64 (S : Nat)] 27)).alloc (.cells #[.int .i64 (S : Nat), .int .i64 (S : Nat)] 27)).alloc (.cells #[.slice so secs.length sc, .slice po pend.length pc, .bool off, .int .i64 fu] 25)).alloc (.cells #[.int .u64 (m.epoch : Nat), .string m.pay] 56) = X0 at M ⊢
    generalize w2.heap.size = n0 at M ⊢
    clear hb hs1 ho
    obtain ⟨m0, m1, mf⟩ := (M.out.get 3 rfl).two
    go_upto_region 7 with fail
    have hE : ((m.epoch : Int) + 1) = ((n.epoch : Nat) : Int) := by have := hne.out; omega
    have hP : a2 = n.pay := by rw [hn]
    rw [hE, hP]
    clear hE hP hn w5 hz2
    clear m0 m1 mf
    replace M := hid (M.out.push [.int .u64 (n.epoch : Nat), .string n.pay] 56 X0.heap.size rfl)
    generalize X0.alloc (.cells #[.int .u64 (n.epoch : Nat), .string n.pay] 56) = X1 at M ⊢
    generalize X0.heap.size = n4 at M ⊢
    obtain ⟨d0, d1, d2, d3, df⟩ := (M.out.get 2 rfl).four
    go_upto_region 8 with fail
    clear d0 d1 d2 d3 df
    replace M := hid (M.out.put 2 rfl (by decide) (by decide) 3 (.int .i64 a3))
    generalize X1.setCell ⟨n0 + 2, 3, none⟩ (.int .i64 a3) = X2 at M ⊢
    replace M := hid (M.out.refuse secs pend off fu a3 rfl)
    obtain ⟨a0, a1, af⟩ := (M.out.get 0 rfl).two
    obtain ⟨b0, b1, bf⟩ := (M.out.get 1 rfl).two
    obtain ⟨d0, d1, d2, d3, df⟩ := (M.out.get 2 rfl).four
    obtain ⟨m0, m1, mf⟩ := (M.out.get 4 rfl).two
    go_wp2_with fail
    clear a0 a1 af b0 b1 bf d0 d1 d2 d3 df m0 m1 mf
    (with_reducible refine (hsv.out _ _ (M.out.view 0 rfl)).mono ?_)
    rintro e3 w3 hr
    obtain ⟨so4, sc4, po4, pc4, rfl, o4, b4⟩ := hr.open
    dsimp only at o4
    replace M := hid (M.out.res o4 b4)
    clear hr hsv o4 b4
    dsimp only
    go_upto_region 9 with fail
    replace M := hid (M.out.push [.slice so4 x.secs.length sc4, .slice po4 x.pend.length pc4, .bool x.off, .int .i64 x.fuse] 25 w3.heap.size rfl)
    generalize w3.alloc (.cells #[.slice so4 x.secs.length sc4, .slice po4 x.pend.length pc4, .bool x.off, .int .i64 x.fuse] 25) = X4 at M ⊢
    generalize w3.heap.size = n5 at M ⊢
    rcases hcase.out with ⟨h1, h2⟩ | ⟨h1, hok, h2⟩
    · obtain rfl : x = ⟨secs, pend, off, a3⟩ := h2
      clear hcase
      dsimp only at *
      obtain ⟨d0, d1, d2, d3, df⟩ := (M.out.get 2 rfl).four
      obtain ⟨e0, e1, e2, e3, ef⟩ := (M.out.get 5 rfl).four
      rcases h1 with rfl | rfl
      all_goals
        go_wp2_with fail
        refine (same_self ⟨secs, pend, off, a3⟩ _ _ _ (M.out.view 0 rfl) (M.out.view 1 rfl)).mono ?_
        rintro e w5 ⟨rfl, b9⟩
        replace M := hid (M.out.below b9)
        clear b9
        clear d0 d1 d2 d3 df e0 e1 e2 e3 ef
        go_wp2_with fail
        go_ret
        exact ⟨rfl, M.out.bel⟩
    · obtain ⟨y, hy⟩ : ∃ y, crashD x kp = y := ⟨_, rfl⟩
      have hcr := hid (fun v u W (h : DiskV W v x) (g : BoolsV W u kp) => (show crashE x kp = (y, 0) by unfold crashE; rw [if_pos hok, hy]) ▸ crash_any x v u kp W h g)
      rw [hy] at h2
      clear hcase hy hok
      obtain ⟨e0, e1, e2, e3, ef⟩ := (M.out.get 5 rfl).four
      rcases (show c = 0 ∨ c = 15 from h1) with rfl | rfl
      · go_wp2_with fail
        (with_reducible refine (hcr.out _ _ _ (M.out.view 1 rfl) (hkp.out.below M.out.bel)).mono ?_)
        rintro e5 w5 hr
        obtain ⟨so5, sc5, po5, pc5, rfl, o5, b5⟩ := hr.open
        dsimp only at o5
        replace M := hid (M.out.res o5 b5)
        clear hr hcr o5 b5
        clear e0 e1 e2 e3 ef
        obtain ⟨e0, e1, e2, e3, ef⟩ := (M.out.get 5 rfl).four
        dsimp only
        go_upto_region 12 with fail
        clear e0 e1 e2 e3 ef
        replace M := hid ((((M.out.put 5 rfl (by decide) (by decide) 0 (.slice so5 y.secs.length sc5)).put 5 rfl (by decide) (by decide) 1 (.slice po5 y.pend.length pc5)).put 5 rfl (by decide) (by decide) 2 (.bool y.off)).put 5 rfl (by decide) (by decide) 3 (.int .i64 y.fuse))
        generalize (((w5.setCell ⟨n5, 0, none⟩ (.slice so5 y.secs.length sc5)).setCell ⟨n5, 1, none⟩ (.slice po5 y.pend.length pc5)).setCell ⟨n5, 2, none⟩ (.bool y.off)).setCell ⟨n5, 3, none⟩ (.int .i64 y.fuse) = X5 at M ⊢
        obtain ⟨e0, e1, e2, e3, ef⟩ := (M.out.get 5 rfl).four
        obtain ⟨a0, a1, af⟩ := (M.out.get 0 rfl).two
        obtain ⟨b0, b1, bf⟩ := (M.out.get 1 rfl).two
        go_wp2_with fail
        rcases h2 with hs | ⟨hcc, hs⟩
        · obtain ⟨j, hj, hl⟩ := hs.load
          rw [if_neg (by have := hne.out; omega)] at hl
          have hld := hid (fun v W (h : DiskV W v y) => hl ▸ load_any y v ⟨0, S⟩ ⟨S, S⟩ W h hrA.out hrB.out)
          rw [show rgV ⟨0, S⟩ = .agg #[.int .i64 0, .int .i64 (S : Nat)] from rfl, show rgV ⟨S, S⟩ = .agg #[.int .i64 (S : Nat), .int .i64 (S : Nat)] from rfl] at hld
          clear hl hs
          (with_reducible refine (hld.out _ _ (M.out.view 2 rfl)).mono ?_)
          rintro e6 w6 ⟨rfl, b6⟩
          replace M := hid (M.out.below b6)
          clear b6 hld
          clear e0 e1 e2 e3 ef a0 a1 af b0 b1 bf
          unfold imV
          try dsimp only
          go_upto_region 13 with fail
          replace M := hid (M.out.push [.int .u64 (n.epoch : Nat), .string n.pay] 56 w6.heap.size rfl)
          generalize w6.alloc (.cells #[.int .u64 (n.epoch : Nat), .string n.pay] 56) = X6 at M ⊢
          generalize w6.heap.size = g6 at M ⊢
          obtain ⟨m0, m1, mf⟩ := (M.out.get 4 rfl).two
          obtain ⟨g0, g1, gf⟩ := (M.out.get 6 rfl).two
          have hpp : (n.pay.toList == n.pay.toList) = true := by simp
          go_wp2_with fail
          go_ret
          exact ⟨rfl, M.out.bel⟩
        · exact absurd (show (0 : Int) = 15 from hcc) (by decide)
      · go_wp2_with fail
        (with_reducible refine (hcr.out _ _ _ (M.out.view 1 rfl) (hkp.out.below M.out.bel)).mono ?_)
        rintro e5 w5 hr
        obtain ⟨so5, sc5, po5, pc5, rfl, o5, b5⟩ := hr.open
        dsimp only at o5
        replace M := hid (M.out.res o5 b5)
        clear hr hcr o5 b5
        clear e0 e1 e2 e3 ef
        obtain ⟨e0, e1, e2, e3, ef⟩ := (M.out.get 5 rfl).four
        dsimp only
        go_upto_region 12 with fail
        clear e0 e1 e2 e3 ef
        replace M := hid ((((M.out.put 5 rfl (by decide) (by decide) 0 (.slice so5 y.secs.length sc5)).put 5 rfl (by decide) (by decide) 1 (.slice po5 y.pend.length pc5)).put 5 rfl (by decide) (by decide) 2 (.bool y.off)).put 5 rfl (by decide) (by decide) 3 (.int .i64 y.fuse))
        generalize (((w5.setCell ⟨n5, 0, none⟩ (.slice so5 y.secs.length sc5)).setCell ⟨n5, 1, none⟩ (.slice po5 y.pend.length pc5)).setCell ⟨n5, 2, none⟩ (.bool y.off)).setCell ⟨n5, 3, none⟩ (.int .i64 y.fuse) = X5 at M ⊢
        obtain ⟨e0, e1, e2, e3, ef⟩ := (M.out.get 5 rfl).four
        obtain ⟨a0, a1, af⟩ := (M.out.get 0 rfl).two
        obtain ⟨b0, b1, bf⟩ := (M.out.get 1 rfl).two
        go_wp2_with fail
        rcases h2 with hs | ⟨hcc, hs⟩
        · obtain ⟨j, hj, hl⟩ := hs.load
          rw [if_neg (by have := hne.out; omega)] at hl
          have hld := hid (fun v W (h : DiskV W v y) => hl ▸ load_any y v ⟨0, S⟩ ⟨S, S⟩ W h hrA.out hrB.out)
          rw [show rgV ⟨0, S⟩ = .agg #[.int .i64 0, .int .i64 (S : Nat)] from rfl, show rgV ⟨S, S⟩ = .agg #[.int .i64 (S : Nat), .int .i64 (S : Nat)] from rfl] at hld
          clear hl hs
          (with_reducible refine (hld.out _ _ (M.out.view 2 rfl)).mono ?_)
          rintro e6 w6 ⟨rfl, b6⟩
          replace M := hid (M.out.below b6)
          clear b6 hld
          clear e0 e1 e2 e3 ef a0 a1 af b0 b1 bf
          unfold imV
          try dsimp only
          go_upto_region 13 with fail
          replace M := hid (M.out.push [.int .u64 (n.epoch : Nat), .string n.pay] 56 w6.heap.size rfl)
          generalize w6.alloc (.cells #[.int .u64 (n.epoch : Nat), .string n.pay] 56) = X6 at M ⊢
          generalize w6.heap.size = g6 at M ⊢
          obtain ⟨m0, m1, mf⟩ := (M.out.get 4 rfl).two
          obtain ⟨g0, g1, gf⟩ := (M.out.get 6 rfl).two
          have hpp : (n.pay.toList == n.pay.toList) = true := by simp
          go_wp2_with fail
          go_ret
          exact ⟨rfl, M.out.bel⟩
        · obtain ⟨j, hj, hl⟩ := hs.load
          by_cases hz : m.epoch = 0
          · rw [if_pos hz] at hl
            obtain rfl : m = zeroIm := hs.zero hz
            have hld := hid (fun v W (h : DiskV W v y) => hl ▸ load_any y v ⟨0, S⟩ ⟨S, S⟩ W h hrA.out hrB.out)
            rw [show rgV ⟨0, S⟩ = .agg #[.int .i64 0, .int .i64 (S : Nat)] from rfl, show rgV ⟨S, S⟩ = .agg #[.int .i64 (S : Nat), .int .i64 (S : Nat)] from rfl] at hld
            clear hl hs
            (with_reducible refine (hld.out _ _ (M.out.view 2 rfl)).mono ?_)
            rintro e6 w6 ⟨rfl, b6⟩
            replace M := hid (M.out.below b6)
            clear b6 hld
            clear e0 e1 e2 e3 ef a0 a1 af b0 b1 bf
            unfold imV zeroIm
            try dsimp only
            go_upto_region 13 with fail
            replace M := hid (M.out.push [.int .u64 0, .string ⟨#[]⟩] 56 w6.heap.size rfl)
            generalize w6.alloc (.cells #[.int .u64 0, .string ⟨#[]⟩] 56) = X6 at M ⊢
            generalize w6.heap.size = g6 at M ⊢
            unfold zeroIm at M
            dsimp only at M
            obtain ⟨m0, m1, mf⟩ := (M.out.get 3 rfl).two
            go_wp2_with fail
            go_ret
            exact ⟨rfl, M.out.bel⟩
          · rw [if_neg hz] at hl
            have hld := hid (fun v W (h : DiskV W v y) => hl ▸ load_any y v ⟨0, S⟩ ⟨S, S⟩ W h hrA.out hrB.out)
            rw [show rgV ⟨0, S⟩ = .agg #[.int .i64 0, .int .i64 (S : Nat)] from rfl, show rgV ⟨S, S⟩ = .agg #[.int .i64 (S : Nat), .int .i64 (S : Nat)] from rfl] at hld
            clear hl hs
            (with_reducible refine (hld.out _ _ (M.out.view 2 rfl)).mono ?_)
            rintro e6 w6 ⟨rfl, b6⟩
            replace M := hid (M.out.below b6)
            clear b6 hld
            clear e0 e1 e2 e3 ef a0 a1 af b0 b1 bf
            unfold imV
            try dsimp only
            go_upto_region 13 with fail
            replace M := hid (M.out.push [.int .u64 (m.epoch : Nat), .string m.pay] 56 w6.heap.size rfl)
            generalize w6.alloc (.cells #[.int .u64 (m.epoch : Nat), .string m.pay] 56) = X6 at M ⊢
            generalize w6.heap.size = g6 at M ⊢
            obtain ⟨n0, n1, nf⟩ := (M.out.get 4 rfl).two
            obtain ⟨m0, m1, mf⟩ := (M.out.get 3 rfl).two
            obtain ⟨g0, g1, gf⟩ := (M.out.get 6 rfl).two
            have hpp : (m.pay.toList == m.pay.toList) = true := by simp
            have hnm : ((m.epoch : Int) == (n.epoch : Int)) = false := beq_eq_false_iff_ne.2 (by have := hne.out; omega)
            have hnm2 : (m.epoch == n.epoch) = false := beq_eq_false_iff_ne.2 (by have := hne.out; omega)
            have hmd : decide (0 < m.epoch) = true := by rw [decide_eq_true_iff]; omega
            go_wp2_with fail
            go_ret
            exact ⟨rfl, M.out.bel⟩
end Go.Proofs.Ytiagjjbcngchpaa.slotsOne
