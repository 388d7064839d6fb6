/-
  SlotsTurns: the walk.
-/
import Derived.Test.YtiagjjbcngchpaaSlotTwo
import Derived.Test.YtiagjjbcngchpaaRound
import Derived.Deep.DrawnRows
import Derived.Deep.RegionHeld3
namespace Go.Proofs.Ytiagjjbcngchpaa.slotsTurns
open Go.ChangeShapes Go.WideShapes Go.ChangeAt Go.RowKit
open Go.Proofs.Ytiagjjbcngchpaa.Mem Go.Proofs.Ytiagjjbcngchpaa.Rec Go.Proofs.Ytiagjjbcngchpaa.Sector Go.Proofs.Ytiagjjbcngchpaa.Wal Go.Proofs.Ytiagjjbcngchpaa.Slot
set_option linter.unusedVariables false
set_option linter.unusedSimpArgs false
set_option maxRecDepth 100000
set_option maxHeartbeats 8000000 in
theorem walk (a0 : Int) (v1 : Value) (l : List ByteArray) (w : World) (w0 : (Lit.int .i64 a0).wf = true) (w1 : StrsV w v1 l) (s1 : ∀ s ∈ l, s.size ≤ maxLen) :
    Calls Try.prog 7 #[.int .i64 a0, v1] w fun e w' => e = .returned (.bool true) ∧ Below w.heap.size w w' := by
  obtain ⟨vo, vcap, rfl, hv2, hv3⟩ := SlV.form w1
  have hvs := hid w1
  have hss := hid s1
  have hb0 := bounds_i64 w0
  unfold maxLen at hv3
  have hnl : (l.length : Int) ≤ 9223372036854775807 := by omega
  clear w0 w1 s1 hv2 hv3
  go_enter Try.func7, Try.ntmps7
  go_wp2_with fail
  refine (Slot.lives_any _).mono ?_
  rintro e w1 ⟨rfl, b1⟩
  go_wp2_with fail
  by_cases hsz : a0 < 1 ∨ 512 < a0
  · refine (saved_bad a0 _ hsz).mono ?_
    rintro e w2 ⟨rfl, b2⟩
    have hb := hid (bt b1 b2)
    clear b1 b2 hb0
    dsimp only
    go_wp2_with fail
    go_ret
    exact ⟨rfl, bt hb.out (by go_grown)⟩
  · obtain ⟨S, rfl⟩ : ∃ S : Nat, a0 = S := ⟨a0.toNat, by omega⟩
    have hS1 : 1 ≤ S := by omega
    have hS2 : S ≤ 512 := by omega
    have hKS := hid (Kept.start hS1 hS2)
    refine (saved_good S _ hS1 hS2).mono ?_
    rintro e w2 ⟨so, sc, po, pc, rfl, o2, b2⟩
    have hb := hid (bt b1 b2)
    have hs1 := hid b1.size
    have ho := hid o2
    clear b1 b2 hb0 hsz o2
    dsimp only
    by_cases h60 : 60 < l.length
    · have h61 : (l.length : Int) > 60 := by omega
      go_wp2_with fail
      go_ret
      exact ⟨rfl, bt hb.out (by go_grown)⟩
    · have h61 : ¬ (l.length : Int) > 60 := by omega
      go_upto_region 7 with fail
      have M := hid (((((((Bag.of hb.out).disk ho.out hs1.out).push [.int .i64 0, .int .i64 (S : Nat)] 27 w2.heap.size rfl).push [.int .i64 (S : Nat), .int .i64 (S : Nat)] 27 (w2.heap.size + 1) (by simp)).push [.slice so (fresh S).secs.length sc, .slice po (fresh S).pend.length pc, .bool (fresh S).off, .int .i64 (fresh S).fuse] 25 (w2.heap.size + 2) (by simp)).push [.int .u64 0, .string ⟨#[]⟩] 56 (w2.heap.size + 3) (by simp)).push [.int .u64 0, .string ⟨#[]⟩] 56 (w2.heap.size + 4) (by simp))
      generalize ((((w2.alloc (.cells #[.int .i64 0, .int .i64 (S : Nat)] 27)).alloc (.cells #[.int .i64 (S : Nat), .int .i64 (S : Nat)] 27)).alloc (.cells #[.slice so (fresh S).secs.length sc, .slice po (fresh S).pend.length pc, .bool (fresh S).off, .int .i64 (fresh S).fuse] 25)).alloc (.cells #[.int .u64 0, .string ⟨#[]⟩] 56)).alloc (.cells #[.int .u64 0, .string ⟨#[]⟩] 56) = X0 at M ⊢
      generalize w2.heap.size = n at M ⊢
      clear hb ho hs1
      have hrA := hid (show Rg.has ⟨0, S⟩ from ⟨by simp, by simp, by show (-9223372036854775808 : Int) ≤ (S : Int); omega, by show (S : Int) ≤ 9223372036854775807; omega⟩)
      have hrB := hid (show Rg.has ⟨S, S⟩ from ⟨by show (-9223372036854775808 : Int) ≤ (S : Int); omega, by show (S : Int) ≤ 9223372036854775807; omega, by show (-9223372036854775808 : Int) ≤ (S : Int); omega, by show (S : Int) ≤ 9223372036854775807; omega⟩)
      generalize fresh S = dd at hKS M ⊢
      go_wp2_with fail
      go_loopw [11, 45] (fun cn i wr => ∃ (k : Nat) (d : Disk) (last : Im) (c : Nat) (so : Option Addr) (sc : Nat) (po : Option Addr) (pc : Nat), k ≤ l.length ∧ i = .int .i64 k ∧ cn = .int .i64 c ∧ c ≤ k ∧ Hid (Kept d S last c (10 * k)) ∧ Hid last.has ∧ Hid (Bag w wr [⟨n, [.int .i64 0, .int .i64 (S : Nat)], 27⟩, ⟨n + 1, [.int .i64 (S : Nat), .int .i64 (S : Nat)], 27⟩, ⟨n + 2, [.slice so d.secs.length sc, .slice po d.pend.length pc, .bool d.off, .int .i64 d.fuse], 25⟩, ⟨n + 3, [.int .u64 0, .string ⟨#[]⟩], 56⟩, ⟨n + 4, [.int .u64 (last.epoch : Nat), .string last.pay], 56⟩] [⟨.slice so d.secs.length sc, .slice po d.pend.length pc, d⟩])) (fun _ i _ => l.length - (intOf i).toNat)
      case atStart => exact ⟨0, dd, zeroIm, 0, so, sc, po, pc, by omega, rfl, rfl, by omega, hKS, hid ⟨by decide, by decide⟩, M⟩
      case round =>
        clear M hKS
        obtain ⟨k, d, last, c, so, sc, po, pc, hk, rfl, rfl, hck, hK, hlh, M⟩ := hrel
        by_cases hlt : k < l.length
        · obtain ⟨tb, toff, tcap', hv, _, _, htb, htc⟩ := StrsV.open hvs.out (by omega)
          simp only [Value.slice.injEq] at hv
          obtain ⟨rfl, -, rfl⟩ := hv
          have tc := (M.out.bel.cell (p := ⟨tb, toff + k, none⟩) htb).trans (htc k hlt)
          have hki : (k : Int) < (l.length : Int) := by omega
          have hk6 : (k : Int) ≤ 60 := by omega
          have hk0 : (0 : Int) ≤ (k : Int) := by omega
          have hc6 : (c : Int) ≤ 60 := by omega
          have hc0 : (0 : Int) ≤ (c : Int) := by omega
          have hps := hss.out l[k] (List.getElem_mem hlt)
          clear htc
          generalize l[k] = p at tc hps
          have w1 : IntKind.u64.wrap ((k : Int) + 1) = (k : Int) + 1 := by rw [IntWalk.u64_in _ (by omega)]
          have w2 : IntKind.u64.wrap (10 * ((k : Int) + 1)) = 10 * ((k : Int) + 1) := by rw [IntWalk.u64_in _ (by omega)]
          obtain ⟨m, hm⟩ : ∃ m : Im, m = ⟨10 * (k + 1), p⟩ := ⟨_, rfl⟩
          have hmh := hid (show m.has by rw [hm]; exact ⟨by show 10 * (k + 1) < _; omega, by unfold maxLen at hps; exact hps⟩)
          have hme := hid (show m.epoch = 10 * (k + 1) by rw [hm])
          have hmore := hid (hK.out.more (m := m) hmh.out.1 (by rw [hme.out]; omega))
          have hf := hid hK.out.fuse
          have hsv := hid (fun v W (h : DiskV W v d) => save_any d v ⟨0, S⟩ ⟨S, S⟩ m W h (by rw [hf.out]; decide) hrA.out hrB.out hmh.out)
          rw [show rgV ⟨0, S⟩ = .agg #[.int .i64 0, .int .i64 (S : Nat)] from rfl, show rgV ⟨S, S⟩ = .agg #[.int .i64 (S : Nat), .int .i64 (S : Nat)] from rfl, show imV m = .agg #[.int .u64 (m.epoch : Nat), .string m.pay] from rfl] at hsv
          go_upto_region 11 with fail
          clear tc
          have hE : (10 * ((k : Int) + 1)) = ((m.epoch : Nat) : Int) := by have := hme.out; omega
          have hP : p = m.pay := by rw [hm]
          rw [hE, hP]
          clear hE hP hm hps w1 w2
          replace M := hid (M.out.push [.int .u64 (m.epoch : Nat), .string m.pay] 56 wr.heap.size rfl)
          generalize wr.alloc (.cells #[.int .u64 (m.epoch : Nat), .string m.pay] 56) = X4 at M ⊢
          generalize wr.heap.size = n9 at M ⊢
          obtain ⟨a0, a1, af⟩ := (M.out.get 0 rfl).two
          obtain ⟨b0, b1, bf⟩ := (M.out.get 1 rfl).two
          obtain ⟨d0, d1, d2, d3, df⟩ := (M.out.get 2 rfl).four
          obtain ⟨m0, m1, mf⟩ := (M.out.get 5 rfl).two
          go_wp2_with fail
          clear a0 a1 af b0 b1 bf d0 d1 d2 d3 df m0 m1 mf
          rcases hmore.out with ⟨h1, h2⟩ | ⟨e, h1, h2, h3, h4⟩
          · clear hmore
            rcases h2 with h2 | h2
            all_goals
              have hE := hid (show saveE d ⟨0, S⟩ ⟨S, S⟩ m = (d, _) from Prod.ext h1 h2)
              clear h1 h2
              replace hsv := hid (fun v W h => hE.out ▸ hsv.out v W h)
              (with_reducible refine (hsv.out _ _ (M.out.view 0 rfl)).mono ?_)
              rintro e3 w3 hr
              obtain ⟨so4, sc4, po4, pc4, rfl, o4, b4⟩ := hr.open
              dsimp only at o4
              replace M := hid (M.out.res o4 b4)
              clear hr hsv o4 b4 hE
              dsimp only
              go_upto_region 12 with fail
              replace M := hid (M.out.push [.slice so4 d.secs.length sc4, .slice po4 d.pend.length pc4, .bool d.off, .int .i64 d.fuse] 25 w3.heap.size rfl)
              generalize w3.alloc (.cells #[.slice so4 d.secs.length sc4, .slice po4 d.pend.length pc4, .bool d.off, .int .i64 d.fuse] 25) = X5 at M ⊢
              generalize w3.heap.size = n5 at M ⊢
              go_wp2_with fail
              go_roundw
              case rel => exact ⟨k + 1, d, last, c, so, sc, po, pc, by omega, by go_num, rfl, by omega, hid (hK.out.rise (by omega)), hlh, hid (M.out.cut 5 0 1)⟩
              case measure => simp [intOf]; omega
          · have hE := hid h1
            have hK2 := hid h2
            have hL := hid h3
            have hS2 := hid h4
            clear hmore h1 h2 h3 h4
            replace hsv := hid (fun v W h => hE.out ▸ hsv.out v W h)
            have hf2 := hid hK2.out.fuse
            have hld := hid (fun v W (h : DiskV W v e) => hL.out ▸ load_any e v ⟨0, S⟩ ⟨S, S⟩ W h hrA.out hrB.out)
            have hsv2 := hid (fun v W (h : DiskV W v e) => hS2.out ▸ save_any e v ⟨0, S⟩ ⟨S, S⟩ m W h (by rw [hf2.out]; decide) hrA.out hrB.out hmh.out)
            rw [show rgV ⟨0, S⟩ = .agg #[.int .i64 0, .int .i64 (S : Nat)] from rfl, show rgV ⟨S, S⟩ = .agg #[.int .i64 (S : Nat), .int .i64 (S : Nat)] from rfl] at hld hsv2
            rw [show imV m = .agg #[.int .u64 (m.epoch : Nat), .string m.pay] from rfl] at hsv2
            (with_reducible refine (hsv.out _ _ (M.out.view 0 rfl)).mono ?_)
            rintro e3 w3 hr
            obtain ⟨so4, sc4, po4, pc4, rfl, o4, b4⟩ := hr.open
            dsimp only at o4
            replace M := hid (M.out.res o4 b4)
            clear hr hsv o4 b4 hE
            dsimp only
            go_upto_region 12 with fail
            replace M := hid (M.out.push [.slice so4 e.secs.length sc4, .slice po4 e.pend.length pc4, .bool e.off, .int .i64 e.fuse] 25 w3.heap.size rfl)
            generalize w3.alloc (.cells #[.slice so4 e.secs.length sc4, .slice po4 e.pend.length pc4, .bool e.off, .int .i64 e.fuse] 25) = X5 at M ⊢
            generalize w3.heap.size = k4 at M ⊢
            obtain ⟨a0, a1, af⟩ := (M.out.get 0 rfl).two
            obtain ⟨b0, b1, bf⟩ := (M.out.get 1 rfl).two
            obtain ⟨d0, d1, d2, d3, df⟩ := (M.out.get 6 rfl).four
            go_wp2_with fail
            clear a0 a1 af b0 b1 bf d0 d1 d2 d3 df
            (with_reducible refine (hld.out _ _ (M.out.view 1 rfl)).mono ?_)
            rintro e5 w5 ⟨rfl, b5⟩
            replace M := hid (M.out.below b5)
            clear b5 hld hL
            unfold imV
            try dsimp only
            go_upto_region 14 with fail
            replace M := hid (M.out.push [.int .u64 (m.epoch : Nat), .string m.pay] 56 w5.heap.size rfl)
            generalize w5.alloc (.cells #[.int .u64 (m.epoch : Nat), .string m.pay] 56) = X6 at M ⊢
            generalize w5.heap.size = g5 at M ⊢
            obtain ⟨a0, a1, af⟩ := (M.out.get 0 rfl).two
            obtain ⟨b0, b1, bf⟩ := (M.out.get 1 rfl).two
            obtain ⟨d0, d1, d2, d3, df⟩ := (M.out.get 6 rfl).four
            obtain ⟨m0, m1, mf⟩ := (M.out.get 5 rfl).two
            obtain ⟨q0, q1, qf⟩ := (M.out.get 7 rfl).two
            have hmod : ((c % 2 : Nat) : Int) = (c : Int) % 2 := by omega
            have hpp : (m.pay.toList == m.pay.toList) = true := by simp
            go_wp2_with fail
            clear a0 a1 af b0 b1 bf d0 d1 d2 d3 df m0 m1 mf q0 q1 qf hmod hpp
            (with_reducible refine (hsv2.out _ _ (M.out.view 1 rfl)).mono ?_)
            rintro e6 w6 hr
            obtain ⟨so6, sc6, po6, pc6, rfl, o6, b6⟩ := hr.open
            dsimp only at o6
            replace M := hid (M.out.res o6 b6)
            clear hr hsv2 o6 b6 hS2
            dsimp only
            go_upto_region 17 with fail
            replace M := hid (M.out.push [.slice so6 e.secs.length sc6, .slice po6 e.pend.length pc6, .bool e.off, .int .i64 e.fuse] 25 w6.heap.size rfl)
            generalize w6.alloc (.cells #[.slice so6 e.secs.length sc6, .slice po6 e.pend.length pc6, .bool e.off, .int .i64 e.fuse] 25) = X8 at M ⊢
            generalize w6.heap.size = k8 at M ⊢
            go_upto_region 19 with fail
            have hcp : IntKind.i64.wrap ((c : Int) + 1) = (c : Int) + 1 := by rw [IntWalk.i64_in _ (by omega)]
            replace M := hid M.out.drew
            refine wp_region_held_drew (S := (fun W => W.cell? ⟨k4, 0, none⟩ = some (.slice so4 e.secs.length sc4) ∧ W.cell? ⟨k4, 1, none⟩ = some (.slice po4 e.pend.length pc4) ∧ W.cell? ⟨k4, 2, none⟩ = some (.bool e.off) ∧ W.cell? ⟨k4, 3, none⟩ = some (.int .i64 e.fuse) ∧ W.cell? ⟨n9, 0, none⟩ = some (.int .u64 (m.epoch : Nat)) ∧ W.cell? ⟨n9, 1, none⟩ = some (.string m.pay))) (by kernel_rfl) ⟨(M.out.get 6 rfl).four.1, (M.out.get 6 rfl).four.2.1, (M.out.get 6 rfl).four.2.2.1, (M.out.get 6 rfl).four.2.2.2.1, (M.out.get 5 rfl).two.1, (M.out.get 5 rfl).two.2.1⟩ (fun hHeld => ?_)
            generalize X8.drew = X9 at M hHeld ⊢
            refine wpAnyH_take (i := 0) (v := ?_) rfl (by kernel_rfl) (by kernel_rfl) (by kernel_rfl) (fun _ _ _ h => h) (Or.inl ⟨by rfl, ?_⟩) (by assumption) ?_; rotate_left 1; (intro w hSw; (try dsimp only at hSw); go_simp; try with_reducible rfl); (try simp only [Act.put, List.getElem_toArray, List.getElem_cons_zero, List.getElem_cons_succ, List.setIfInBounds_toArray, List.set_cons_zero, List.set_cons_succ])
            refine wpAnyH_take (i := 1) (v := ?_) rfl (by kernel_rfl) (by kernel_rfl) (by kernel_rfl) (fun _ _ _ h => h) (Or.inl ⟨by rfl, ?_⟩) (by assumption) ?_; rotate_left 1; (intro w hSw; (try dsimp only at hSw); go_simp; try with_reducible rfl); (try simp only [Act.put, List.getElem_toArray, List.getElem_cons_zero, List.getElem_cons_succ, List.setIfInBounds_toArray, List.set_cons_zero, List.set_cons_succ])
            refine wpAnyH_take (i := 2) (v := ?_) rfl (by kernel_rfl) (by kernel_rfl) (by kernel_rfl) (fun _ _ _ h => h) (Or.inl ⟨by rfl, ?_⟩) (by assumption) ?_; rotate_left 1; (intro w hSw; (try dsimp only at hSw); go_simp; try with_reducible rfl); (try simp only [Act.put, List.getElem_toArray, List.getElem_cons_zero, List.getElem_cons_succ, List.setIfInBounds_toArray, List.set_cons_zero, List.set_cons_succ])
            refine wpAnyH_take (i := 3) (v := ?_) rfl (by kernel_rfl) (by kernel_rfl) (by kernel_rfl) (fun _ _ _ h => h) (Or.inl ⟨by rfl, ?_⟩) (by assumption) ?_; rotate_left 1; (intro w hSw; (try dsimp only at hSw); go_simp; try with_reducible rfl); (try simp only [Act.put, List.getElem_toArray, List.getElem_cons_zero, List.getElem_cons_succ, List.setIfInBounds_toArray, List.set_cons_zero, List.set_cons_succ])
            refine wpAnyH_ready (rs := [4]) (by kernel_rfl) (by simp) ?_
            refine AllReadyH.cons rfl (fun K hK => ?_) AllReadyH.nil
            obtain ⟨d0, d1, d2, d3, df⟩ := (M.out.get 2 rfl).four
            go_simp
            clear d0 d1 d2 d3 df
            replace M := hid ((((M.out.put 2 rfl (by decide) (by decide) 0 (.slice so4 e.secs.length sc4)).put 2 rfl (by decide) (by decide) 1 (.slice po4 e.pend.length pc4)).put 2 rfl (by decide) (by decide) 2 (.bool e.off)).put 2 rfl (by decide) (by decide) 3 (.int .i64 e.fuse))
            refine hK.out _ _ (⟨(M.out.get 6 rfl).four.1, (M.out.get 6 rfl).four.2.1, (M.out.get 6 rfl).four.2.2.1, (M.out.get 6 rfl).four.2.2.2.1, (M.out.get 5 rfl).two.1, (M.out.get 5 rfl).two.2.1⟩) (fun hHeldN => ?_)
            clear hK K hHeld
            have hHeld := hHeldN
            clear hHeldN
            (try simp only [Act.put, List.getElem_toArray, List.getElem_cons_zero, List.getElem_cons_succ, List.setIfInBounds_toArray, List.set_cons_zero, List.set_cons_succ])
            generalize (((X9.setCell ⟨n + 2, 0, none⟩ (.slice so4 e.secs.length sc4)).setCell ⟨n + 2, 1, none⟩ (.slice po4 e.pend.length pc4)).setCell ⟨n + 2, 2, none⟩ (.bool e.off)).setCell ⟨n + 2, 3, none⟩ (.int .i64 e.fuse) = Y9 at M hHeld ⊢
            refine wpAnyH_ready (rs := [5]) (by kernel_rfl) (by simp) ?_
            refine AllReadyH.cons rfl (fun K hK => ?_) AllReadyH.nil
            obtain ⟨d0, d1, df⟩ := (M.out.get 4 rfl).two
            go_simp
            clear d0 d1 df
            replace M := hid ((M.out.put 4 rfl (by decide) (by decide) 0 (.int .u64 (m.epoch : Nat))).put 4 rfl (by decide) (by decide) 1 (.string m.pay))
            refine hK.out _ _ (⟨(M.out.get 6 rfl).four.1, (M.out.get 6 rfl).four.2.1, (M.out.get 6 rfl).four.2.2.1, (M.out.get 6 rfl).four.2.2.2.1, (M.out.get 5 rfl).two.1, (M.out.get 5 rfl).two.2.1⟩) (fun hHeldN => ?_)
            clear hK K hHeld
            have hHeld := hHeldN
            clear hHeldN
            (try simp only [Act.put, List.getElem_toArray, List.getElem_cons_zero, List.getElem_cons_succ, List.setIfInBounds_toArray, List.set_cons_zero, List.set_cons_succ])
            generalize (Y9.setCell ⟨n + 4, 0, none⟩ (.int .u64 (m.epoch : Nat))).setCell ⟨n + 4, 1, none⟩ (.string m.pay) = Z9 at M hHeld ⊢
            refine wpAnyH_take (i := 6) (v := ?_) rfl (by kernel_rfl) (by kernel_rfl) (by kernel_rfl) (fun _ _ _ h => h) (Or.inl ⟨by rfl, ?_⟩) (by assumption) ?_; rotate_left 1; (intro w hSw; (try dsimp only at hSw); go_simp; try with_reducible rfl); (try simp only [Act.put, List.getElem_toArray, List.getElem_cons_zero, List.getElem_cons_succ, List.setIfInBounds_toArray, List.set_cons_zero, List.set_cons_succ])
            refine wpAnyH_done (by kernel_rfl) ?_ _
            go_wp2_with fail
            go_roundw
            case rel => exact ⟨k + 1, e, m, c + 1, so4, sc4, po4, pc4, by omega, by go_num, by go_num, by omega, hid (hK2.out.rise (by have := hme.out; omega)), hmh, hid (M.out.cut 5 1 1)⟩
            case measure => simp [intOf]; omega
        · obtain rfl : k = l.length := by omega
          have hz := hid hK.out.zero
          have hl0 := hid hK.out.load
          have hld := hid (fun v W (h : DiskV W v d) => hl0.out ▸ load_any d v ⟨0, S⟩ ⟨S, S⟩ W h hrA.out hrB.out)
          rw [show rgV ⟨0, S⟩ = .agg #[.int .i64 0, .int .i64 (S : Nat)] from rfl, show rgV ⟨S, S⟩ = .agg #[.int .i64 (S : Nat), .int .i64 (S : Nat)] from rfl] at hld
          clear hl0 hK hvs hss
          obtain ⟨a0, a1, af⟩ := (M.out.get 0 rfl).two
          obtain ⟨b0, b1, bf⟩ := (M.out.get 1 rfl).two
          obtain ⟨d0, d1, d2, d3, df⟩ := (M.out.get 2 rfl).four
          go_wp2_with fail
          clear a0 a1 af b0 b1 bf d0 d1 d2 d3 df
          by_cases hc : c = 0
          · subst hc
            obtain rfl : last = zeroIm := hz.out rfl
            rw [if_pos rfl] at hld
            (with_reducible refine (hld.out _ _ (M.out.view 0 rfl)).mono ?_)
            rintro e5 w5 ⟨rfl, b5⟩
            replace M := hid (M.out.below b5)
            clear b5 hld hz hlh
            unfold imV zeroIm
            try dsimp only
            go_upto_region 22 with fail
            replace M := hid (M.out.push [.int .u64 0, .string ⟨#[]⟩] 56 w5.heap.size rfl)
            unfold zeroIm at M
            generalize w5.alloc (.cells #[.int .u64 0, .string ⟨#[]⟩] 56) = X6 at M ⊢
            generalize w5.heap.size = g5 at M ⊢
            obtain ⟨m0, m1, mf⟩ := (M.out.get 4 rfl).two
            obtain ⟨q0, q1, qf⟩ := (M.out.get 5 rfl).two
            go_wp2_with fail
            go_ret
            exact ⟨rfl, M.out.bel⟩
          · have hcd : decide (0 < c) = true := by rw [decide_eq_true_iff]; omega
            rw [if_neg hc] at hld
            (with_reducible refine (hld.out _ _ (M.out.view 0 rfl)).mono ?_)
            rintro e5 w5 ⟨rfl, b5⟩
            replace M := hid (M.out.below b5)
            clear b5 hld hz
            unfold imV
            try dsimp only
            go_upto_region 22 with fail
            replace M := hid (M.out.push [.int .u64 (last.epoch : Nat), .string last.pay] 56 w5.heap.size rfl)
            generalize w5.alloc (.cells #[.int .u64 (last.epoch : Nat), .string last.pay] 56) = X6 at M ⊢
            generalize w5.heap.size = g5 at M ⊢
            obtain ⟨m0, m1, mf⟩ := (M.out.get 4 rfl).two
            obtain ⟨q0, q1, qf⟩ := (M.out.get 5 rfl).two
            have hpp : (last.pay.toList == last.pay.toList) = true := by simp
            go_wp2_with fail
            go_ret
            exact ⟨rfl, M.out.bel⟩
end Go.Proofs.Ytiagjjbcngchpaa.slotsTurns
