/-
  wire's calls: contracts. Written by wip/wiretopgen.py.
-/
import Derived.Test.YtldlkoiekdlmhaaPkWireRefE
import Derived.Test.YtldlkoiekdlmhaaChPack
import Derived.Deep.RegionHeld3
import Derived.Deep.RegionWith
import Derived.WalkArith
namespace Go.Proofs.Ytldlkoiekdlmhaa.Wi
open Go.ChangeShapes Go.WideShapes Go.ChangeAt Go.RowKit
open Go.Proofs.Ytldlkoiekdlmhaa.Mem
open Go.Proofs.Ytldlkoiekdlmhaa.Lik (Kept)
open Go.Proofs.Ytldlkoiekdlmhaa.Crc hiding hid bt
set_option linter.unusedVariables false
set_option linter.unusedSimpArgs false
set_option maxRecDepth 100000
theorem wpAnyH_mono {P : Program} {md : Region.Mode} {ops : Array Oper} {Q : Exit → Act → World → Prop} {S0 S1 : World → Prop} (h : ∀ w, S1 w → S0 w) :
    ∀ {fuel : Nat} {listed : Array Bool} {a : Act} {w : World}, wpAnyH P md ops Q S1 fuel listed a w → wpAnyH P md ops Q S0 fuel listed a w
  | 0, _, _, _, H => H
  | fuel + 1, _, _, _, H => ⟨H.1, fun i hi => wpOp_mono (fun a' w' h' => ⟨h _ h'.1, wpAnyH_mono h h'.2⟩) (H.2 i hi)⟩
theorem convOne1 (w : World) (g : Nat) (h : Blk w g [.int .u8 1] 5) : (convert 49 9 (.slice (some ⟨g, 0, none⟩) 1 1)).run Try.prog w = .ok (.string (bs [1])) w := convOne w g 1 h
/-- what Pack answers of one change -/
def Pk1 (c : Ch) (t : ByteArray) (z : Int) : Prop := z = 0 ∧ cR c ∧ t = bs (packE [c]) ∨ z ≠ 0 ∧ ¬ cR c ∧ t = ⟨#[]⟩
def Pk1A (c : Ch) (e : Ending) : Prop := ∃ t z, e = .returned (.tuple #[.string t, .int .i64 z]) ∧ Pk1 c t z
set_option maxHeartbeats 16000000 in
theorem pack1_ref (c : Ch) (g : Nat) (w : World) (h : Blk w g [.int .u8 (c.k : Nat), .string c.i, .string c.t, .string c.ut, .string c.ui] 28) (hk : c.k < 256) (hz : c.i.size ≤ 16777216 ∧ c.t.size ≤ 16777216 ∧ c.ut.size ≤ 16777216 ∧ c.ui.size ≤ 16777216) : Calls Try.prog 21 #[.slice (some ⟨g, 0, none⟩) 1 1] w fun e w' => Pk1A c e ∧ Below w.heap.size w w' := by
  have G := hid h
  have bw := hid (Below.refl w.heap.size w)
  clear h
  go_enter Try.func21, Try.ntmps21
  go_upto_region 3 with fail
  go_wp2_with fail
  go_loopw [16] (fun i wr => ∃ j : Nat, j ≤ 1 ∧ i = .int .i64 j ∧ Hid (j = 1 → chR c) ∧ Hid (Blk wr g [.int .u8 (c.k : Nat), .string c.i, .string c.t, .string c.ut, .string c.ui] 28) ∧ Hid (Below w.heap.size w wr)) (fun i _ => 1 - (intOf i).toNat)
  case atStart => exact ⟨0, by omega, rfl, hid (fun h => by cases h), G, bw⟩
  case round =>
    clear G bw
    obtain ⟨j, hj, rfl, hR, G, bw⟩ := hrel
    by_cases hj1 : j < 1
    · obtain rfl : j = 0 := by omega
      obtain ⟨k0, k1, k2, k3, k4, kf⟩ := five G.out
      clear hR
      go_upto_region 6 with fail
      clear k0 k1 k2 k3 k4 kf
      have K := hid (Blk.new wr [.int .u8 (c.k : Nat), .string c.i, .string c.t, .string c.ut, .string c.ui] 28)
      replace G := hid (G.out.alloc (.cells #[.int .u8 (c.k : Nat), .string c.i, .string c.t, .string c.ut, .string c.ui] 28))
      replace bw := hid (bw.out.alloc bw.out.size (.cells #[.int .u8 (c.k : Nat), .string c.i, .string c.t, .string c.ut, .string c.ui] 28))
      change Hid (Blk (wr.alloc (.cells #[.int .u8 (c.k : Nat), .string c.i, .string c.t, .string c.ut, .string c.ui] 28)) _ _ _) at K
      generalize wr.alloc (.cells #[.int .u8 (c.k : Nat), .string c.i, .string c.t, .string c.ut, .string c.ui] 28) = XK at K G bw ⊢
      obtain ⟨pb, hpb⟩ : ∃ pb, wr.heap.size = pb := ⟨_, rfl⟩
      rw [hpb] at K ⊢
      clear hpb
      obtain ⟨k0, k1, k2, k3, k4, kf⟩ := five K.out
      go_wp2_with fail
      refine (right_ref c _ hk).mono ?_
      rintro e w3 ⟨rfl, q3⟩
      replace G := hid (G.out.below q3 G.out.lt)
      replace bw := hid (bw.out.trans (q3.mono bw.out.size))
      clear q3 k0 k1 k2 k3 k4 kf K
      by_cases hr : chR c
      · rw [decide_eq_true hr]
        have hr' := hid hr
        clear hr
        go_wp2_with fail
        go_roundw
        case rel => exact ⟨1, by omega, by go_num, hid (fun _ => hr'.out), G, bw⟩
        case measure => simp [intOf]
      · rw [decide_eq_false hr]
        have hfin := hid (show Pk1 c ⟨#[]⟩ 5 from .inr ⟨by decide, fun h => hr h.1, rfl⟩)
        clear hr
        go_wp2_with fail
        go_ret2
        exact ⟨⟨_, _, rfl, hfin.out⟩, bw.out⟩
    · obtain rfl : j = 1 := by omega
      have hR1 := hid (hR.out rfl)
      clear hR
      have hji : ¬ (1 : Int) < 1 := by decide
      go_wp2_with fail
      go_loopw [26] (fun i wr => ∃ j : Nat, j ≤ 1 ∧ i = .int .i64 j ∧ Hid (j = 1 → chS c) ∧ Hid (Blk wr g [.int .u8 (c.k : Nat), .string c.i, .string c.t, .string c.ut, .string c.ui] 28) ∧ Hid (Below w.heap.size w wr)) (fun i _ => 1 - (intOf i).toNat)
      case atStart => exact ⟨0, by omega, rfl, hid (fun h => by cases h), G, bw⟩
      case round =>
        clear G bw
        rename_i wr0 _
        obtain ⟨j, hj, rfl, hR, G, bw⟩ := hrel
        by_cases hj1 : j < 1
        · obtain rfl : j = 0 := by omega
          obtain ⟨k0, k1, k2, k3, k4, kf⟩ := five G.out
          clear hR
          go_upto_region 12 with fail
          clear k0 k1 k2 k3 k4 kf
          have K := hid (Blk.new wr [.int .u8 (c.k : Nat), .string c.i, .string c.t, .string c.ut, .string c.ui] 28)
          replace G := hid (G.out.alloc (.cells #[.int .u8 (c.k : Nat), .string c.i, .string c.t, .string c.ut, .string c.ui] 28))
          replace bw := hid (bw.out.alloc bw.out.size (.cells #[.int .u8 (c.k : Nat), .string c.i, .string c.t, .string c.ut, .string c.ui] 28))
          change Hid (Blk (wr.alloc (.cells #[.int .u8 (c.k : Nat), .string c.i, .string c.t, .string c.ut, .string c.ui] 28)) _ _ _) at K
          generalize wr.alloc (.cells #[.int .u8 (c.k : Nat), .string c.i, .string c.t, .string c.ut, .string c.ui] 28) = XK at K G bw ⊢
          obtain ⟨pb, hpb⟩ : ∃ pb, wr.heap.size = pb := ⟨_, rfl⟩
          rw [hpb] at K ⊢
          clear hpb
          obtain ⟨k0, k1, k2, k3, k4, kf⟩ := five K.out
          by_cases hs : chS c
          · have a1 : ¬ (2048 : Int) < (c.i.size : Int) := by have := hs.1; omega
            have a2 : ¬ (2048 : Int) < (c.t.size : Int) := by have := hs.2.1; omega
            have a3 : ¬ (2048 : Int) < (c.ut.size : Int) := by have := hs.2.2.1; omega
            have a4 : ¬ (2048 : Int) < (c.ui.size : Int) := by have := hs.2.2.2; omega
            have hs' := hid hs
            clear hs
            go_wp2_with fail
            go_roundw
            case rel => exact ⟨1, by omega, by go_num, hid (fun _ => hs'.out), G, bw⟩
            case measure => simp [intOf]
          · have hfin := hid (show Pk1 c ⟨#[]⟩ 3 from .inr ⟨by decide, fun h => hs h.2, rfl⟩)
            have hor : (2048 : Int) < (c.i.size : Int) ∨ ¬ (2048 : Int) < (c.i.size : Int) ∧ ((2048 : Int) < (c.t.size : Int) ∨ ¬ (2048 : Int) < (c.t.size : Int) ∧ ((2048 : Int) < (c.ut.size : Int) ∨ ¬ (2048 : Int) < (c.ut.size : Int) ∧ (2048 : Int) < (c.ui.size : Int))) := by
              unfold chS at hs
              omega
            clear hs
            rcases hor with a1 | ⟨a1, a2 | ⟨a2, a3 | ⟨a3, a4⟩⟩⟩
            all_goals
              go_wp2_with fail
              go_ret2
              exact ⟨⟨_, _, rfl, hfin.out⟩, bw.out⟩
        · obtain rfl : j = 1 := by omega
          have hS1 := hid (hR.out rfl)
          clear hR
          have hji : ¬ (1 : Int) < 1 := by decide
          go_wp2_with fail
          rw [convOne1 _ _ (Blk.new wr [.int .u8 1] 5)]
          replace G := hid (G.out.alloc (.cells #[.int .u8 1] 5))
          replace bw := hid (bw.out.alloc bw.out.size (.cells #[.int .u8 1] 5))
          generalize wr.alloc (.cells #[.int .u8 1] 5) = Y at G bw ⊢
          go_wp2_with fail
          go_loopw [8, 62] (fun v i wr => ∃ j : Nat, j ≤ 1 ∧ i = .int .i64 j ∧ v = .string (bs (pk [c] j)) ∧ Hid (Blk wr g [.int .u8 (c.k : Nat), .string c.i, .string c.t, .string c.ut, .string c.ui] 28) ∧ Hid (Below w.heap.size w wr)) (fun _ i _ => 1 - (intOf i).toNat)
          case atStart => exact ⟨0, by omega, rfl, rfl, G, bw⟩
          case round =>
            clear G bw
            obtain ⟨j, hj, rfl, rfl, G, bw⟩ := hrel
            by_cases hj1 : j < 1
            · obtain rfl : j = 0 := by omega
              obtain ⟨k0, k1, k2, k3, k4, kf⟩ := five G.out
              go_upto_region 19 with fail
              clear k0 k1 k2 k3 k4 kf
              have K := hid (Blk.new wr [.int .u8 (c.k : Nat), .string c.i, .string c.t, .string c.ut, .string c.ui] 28)
              replace G := hid (G.out.alloc (.cells #[.int .u8 (c.k : Nat), .string c.i, .string c.t, .string c.ut, .string c.ui] 28))
              replace bw := hid (bw.out.alloc bw.out.size (.cells #[.int .u8 (c.k : Nat), .string c.i, .string c.t, .string c.ut, .string c.ui] 28))
              change Hid (Blk (wr.alloc (.cells #[.int .u8 (c.k : Nat), .string c.i, .string c.t, .string c.ut, .string c.ui] 28)) _ _ _) at K
              generalize wr.alloc (.cells #[.int .u8 (c.k : Nat), .string c.i, .string c.t, .string c.ut, .string c.ui] 28) = XK at K G bw ⊢
              obtain ⟨pb, hpb⟩ : ∃ pb, wr.heap.size = pb := ⟨_, rfl⟩
              rw [hpb] at K ⊢
              clear hpb
              obtain ⟨k0, k1, k2, k3, k4, kf⟩ := five K.out
              have hnew0 : bs (pk [c] 0) ++ (bs [UInt8.ofNat c.k] ++ bs (txt c.i) ++ bs (txt c.t) ++ bs (txt c.ut) ++ bs (txt c.ui)) = bs (pk [c] 1) := by
                rw [app_bs, app_bs, app_bs, app_bs, app_bs]
                unfold pk chE
                simp
              have q1 : (bs (txt c.i)).size ≤ 2052 := by rw [bs_size, txt_len]; have := hS1.out.1; omega
              have q2 : (bs (txt c.t)).size ≤ 2052 := by rw [bs_size, txt_len]; have := hS1.out.2.1; omega
              have q3 : (bs (txt c.ut)).size ≤ 2052 := by rw [bs_size, txt_len]; have := hS1.out.2.2.1; omega
              have q4 : (bs (txt c.ui)).size ≤ 2052 := by rw [bs_size, txt_len]; have := hS1.out.2.2.2; omega
              have hti := hid (fun W => text_ref c.i W hz.1)
              have htt := hid (fun W => text_ref c.t W hz.2.1)
              have htu := hid (fun W => text_ref c.ut W hz.2.2.1)
              have htv := hid (fun W => text_ref c.ui W hz.2.2.2)
              have hc1 : ∀ (b : Nat) (W' : World), W'.cell? ⟨b, 0, none⟩ = some (.int .u8 (c.k : Nat)) → (convert 49 9 (.slice (some ⟨b, 0, none⟩) 1 1)).run Try.prog W' = .ok (.string (bs [UInt8.ofNat c.k])) W' := fun b W' c0 =>
                (run_convert_bytes_arg W' 49 5 Try.underlying49 Try.underlying5 b 0 1 1 [(c.k : Int)] rfl (fun i hi => match i, hi with
                  | 0, _ => c0) 9 Try.underlying9).trans rfl
              have s0 : (bs (pk [c] 0)).size = 1 := rfl
              have s1 : (bs [UInt8.ofNat c.k]).size = 1 := rfl
              generalize bs [UInt8.ofNat c.k] = B1 at hc1 hnew0 s1
              generalize bs (txt c.i) = Ti at hti hnew0 q1
              generalize bs (txt c.t) = Tt at htt hnew0 q2
              generalize bs (txt c.ut) = Tu at htu hnew0 q3
              generalize bs (txt c.ui) = Tv at htv hnew0 q4
              generalize bs (pk [c] 0) = A0 at hnew0 s0 ⊢
              have hnew := hid hnew0
              have u1 : ¬ 9223372036854775807 < 1 + Ti.size := by omega
              have u2 : ¬ 9223372036854775807 < 1 + Ti.size + Tt.size := by omega
              have u3 : ¬ 9223372036854775807 < 1 + Ti.size + Tt.size + Tu.size := by omega
              have u4 : ¬ 9223372036854775807 < 1 + Ti.size + Tt.size + Tu.size + Tv.size := by omega
              have u5 : ¬ 9223372036854775807 < 1 + (1 + Ti.size + Tt.size + Tu.size + Tv.size) := by omega
              clear hnew0 q1 q2 q3 q4
              have KK := hid K.out.drew
              replace G := hid G.out.drew
              replace bw := hid bw.out.drew
              clear K k0 k1 k2 k3 k4 kf
              obtain ⟨d0, d1, d2, d3, d4, df⟩ := five KK.out
              refine wp_region_held_drew (S := (fun W : World => (W.cell? ⟨pb, 0, none⟩ = some (.int .u8 (c.k : Nat)) ∧ W.cell? ⟨pb, 1, none⟩ = some (.string c.i) ∧ W.cell? ⟨pb, 2, none⟩ = some (.string c.t) ∧ W.cell? ⟨pb, 3, none⟩ = some (.string c.ut) ∧ W.cell? ⟨pb, 4, none⟩ = some (.string c.ui)))) (by kernel_rfl) ⟨d0, d1, d2, d3, d4⟩ (fun hHeld => ?_)
              clear d0 d1 d2 d3 d4 df
              generalize XK.drew = w0 at KK G bw hHeld ⊢
              refine wpAnyH_take (i := 0) (v := ?_) rfl (by kernel_rfl) (by kernel_rfl) (by kernel_rfl) (fun _ _ _ h => h) (Or.inl ⟨by rfl, ?_⟩) (by assumption) ?_; rotate_left 1; (intro w hSw; (try dsimp only at hSw); go_simp; try with_reducible rfl); (try simp only [Act.put, List.getElem_toArray, List.getElem_cons_zero, List.getElem_cons_succ, List.setIfInBounds_toArray, List.set_cons_zero, List.set_cons_succ])
              refine wpAnyH_take (i := 1) (v := ?_) rfl (by kernel_rfl) (by kernel_rfl) (by kernel_rfl) (fun _ _ _ h => h) (Or.inl ⟨by rfl, ?_⟩) (by assumption) ?_; rotate_left 1; (intro w hSw; (try dsimp only at hSw); go_simp; try with_reducible rfl); (try simp only [Act.put, List.getElem_toArray, List.getElem_cons_zero, List.getElem_cons_succ, List.setIfInBounds_toArray, List.set_cons_zero, List.set_cons_succ])
              refine wpAnyH_take (i := 2) (v := ?_) rfl (by kernel_rfl) (by kernel_rfl) (by kernel_rfl) (fun _ _ _ h => h) (Or.inl ⟨by rfl, ?_⟩) (by assumption) ?_; rotate_left 1; (intro w hSw; (try dsimp only at hSw); go_simp; try with_reducible rfl); (try simp only [Act.put, List.getElem_toArray, List.getElem_cons_zero, List.getElem_cons_succ, List.setIfInBounds_toArray, List.set_cons_zero, List.set_cons_succ])
              refine wpAnyH_take (i := 5) (v := ?_) rfl (by kernel_rfl) (by kernel_rfl) (by kernel_rfl) (fun _ _ _ h => h) (Or.inl ⟨by rfl, ?_⟩) (by assumption) ?_; rotate_left 1; (intro w hSw; (try dsimp only at hSw); go_simp; try with_reducible rfl); (try simp only [Act.put, List.getElem_toArray, List.getElem_cons_zero, List.getElem_cons_succ, List.setIfInBounds_toArray, List.set_cons_zero, List.set_cons_succ])
              refine wpAnyH_take (i := 6) (v := ?_) rfl (by kernel_rfl) (by kernel_rfl) (by kernel_rfl) (fun _ _ _ h => h) (Or.inl ⟨by rfl, ?_⟩) (by assumption) ?_; rotate_left 1; (intro w hSw; (try dsimp only at hSw); go_simp; try with_reducible rfl); (try simp only [Act.put, List.getElem_toArray, List.getElem_cons_zero, List.getElem_cons_succ, List.setIfInBounds_toArray, List.set_cons_zero, List.set_cons_succ])
              refine wpAnyH_take (i := 9) (v := ?_) rfl (by kernel_rfl) (by kernel_rfl) (by kernel_rfl) (fun _ _ _ h => h) (Or.inl ⟨by rfl, ?_⟩) (by assumption) ?_; rotate_left 1; (intro w hSw; (try dsimp only at hSw); go_simp; try with_reducible rfl); (try simp only [Act.put, List.getElem_toArray, List.getElem_cons_zero, List.getElem_cons_succ, List.setIfInBounds_toArray, List.set_cons_zero, List.set_cons_succ])
              refine wpAnyH_take (i := 10) (v := ?_) rfl (by kernel_rfl) (by kernel_rfl) (by kernel_rfl) (fun _ _ _ h => h) (Or.inl ⟨by rfl, ?_⟩) (by assumption) ?_; rotate_left 1; (intro w hSw; (try dsimp only at hSw); go_simp; try with_reducible rfl); (try simp only [Act.put, List.getElem_toArray, List.getElem_cons_zero, List.getElem_cons_succ, List.setIfInBounds_toArray, List.set_cons_zero, List.set_cons_succ])
              refine wpAnyH_take (i := 13) (v := ?_) rfl (by kernel_rfl) (by kernel_rfl) (by kernel_rfl) (fun _ _ _ h => h) (Or.inl ⟨by rfl, ?_⟩) (by assumption) ?_; rotate_left 1; (intro w hSw; (try dsimp only at hSw); go_simp; try with_reducible rfl); (try simp only [Act.put, List.getElem_toArray, List.getElem_cons_zero, List.getElem_cons_succ, List.setIfInBounds_toArray, List.set_cons_zero, List.set_cons_succ])
              refine wpAnyH_take (i := 14) (v := ?_) rfl (by kernel_rfl) (by kernel_rfl) (by kernel_rfl) (fun _ _ _ h => h) (Or.inl ⟨by rfl, ?_⟩) (by assumption) ?_; rotate_left 1; (intro w hSw; (try dsimp only at hSw); go_simp; try with_reducible rfl); (try simp only [Act.put, List.getElem_toArray, List.getElem_cons_zero, List.getElem_cons_succ, List.setIfInBounds_toArray, List.set_cons_zero, List.set_cons_succ])
              refine wpAnyH_take (i := 15) (v := ?_) rfl (by kernel_rfl) (by kernel_rfl) (by kernel_rfl) (fun _ _ _ h => h) (Or.inl ⟨by rfl, ?_⟩) (by assumption) ?_; rotate_left 1; (intro w hSw; (try dsimp only at hSw); go_simp; try with_reducible rfl); (try simp only [Act.put, List.getElem_toArray, List.getElem_cons_zero, List.getElem_cons_succ, List.setIfInBounds_toArray, List.set_cons_zero, List.set_cons_succ])
              refine wpAnyH_take (i := 18) (v := ?_) rfl (by kernel_rfl) (by kernel_rfl) (by kernel_rfl) (fun _ _ _ h => h) (Or.inl ⟨by rfl, ?_⟩) (by assumption) ?_; rotate_left 1; (intro w hSw; (try dsimp only at hSw); go_simp; try with_reducible rfl); (try simp only [Act.put, List.getElem_toArray, List.getElem_cons_zero, List.getElem_cons_succ, List.setIfInBounds_toArray, List.set_cons_zero, List.set_cons_succ])
              refine wpAnyH_take (i := 19) (v := ?_) rfl (by kernel_rfl) (by kernel_rfl) (by kernel_rfl) (fun _ _ _ h => h) (Or.inl ⟨by rfl, ?_⟩) (by assumption) ?_; rotate_left 1; (intro w hSw; (try dsimp only at hSw); go_simp; try with_reducible rfl); (try simp only [Act.put, List.getElem_toArray, List.getElem_cons_zero, List.getElem_cons_succ, List.setIfInBounds_toArray, List.set_cons_zero, List.set_cons_succ])
              refine wpAnyH_take (i := 20) (v := ?_) rfl (by kernel_rfl) (by kernel_rfl) (by kernel_rfl) (fun _ _ _ h => h) (Or.inl ⟨by rfl, ?_⟩) (by assumption) ?_; rotate_left 1; (intro w hSw; (try dsimp only at hSw); go_simp; try with_reducible rfl); (try simp only [Act.put, List.getElem_toArray, List.getElem_cons_zero, List.getElem_cons_succ, List.setIfInBounds_toArray, List.set_cons_zero, List.set_cons_succ])
              refine wpAnyH_ready (rs := [3, 7]) (by kernel_rfl) (by simp) ?_
              refine AllReadyH.cons rfl (fun K hK => ?_) ?_
              · skip
                go_simp
                have Q := hid (Blk.new w0 [.int .u8 (c.k : Nat)] 5)
                replace KK := hid (KK.out.alloc (.cells #[.int .u8 (c.k : Nat)] 5))
                replace G := hid (G.out.alloc (.cells #[.int .u8 (c.k : Nat)] 5))
                replace bw := hid (bw.out.alloc bw.out.size (.cells #[.int .u8 (c.k : Nat)] 5))
                change Hid (Blk (w0.alloc (.cells #[.int .u8 (c.k : Nat)] 5)) _ _ _) at Q
                obtain ⟨g1, hg1⟩ : ∃ g, w0.heap.size = g := ⟨_, rfl⟩
                rw [hg1] at Q ⊢
                clear hg1
                generalize w0.alloc (.cells #[.int .u8 (c.k : Nat)] 5) = w0b at KK G bw Q ⊢
                obtain ⟨d0, d1, d2, d3, d4, df⟩ := five KK.out
                have e0 := Q.out.cell 0 (by simp)
                refine hK.out _ _ ⟨d0, d1, d2, d3, d4⟩ (fun hHeldN => ?_)
                clear hK K hHeld
                have hHeld := hHeldN
                clear hHeldN
                (try simp only [Act.put, List.getElem_toArray, List.getElem_cons_zero, List.getElem_cons_succ, List.setIfInBounds_toArray, List.set_cons_zero, List.set_cons_succ])
                have hcv1 := hc1 g1
                refine wpAnyH_mono (S1 := (fun W : World => ((W.cell? ⟨pb, 0, none⟩ = some (.int .u8 (c.k : Nat)) ∧ W.cell? ⟨pb, 1, none⟩ = some (.string c.i) ∧ W.cell? ⟨pb, 2, none⟩ = some (.string c.t) ∧ W.cell? ⟨pb, 3, none⟩ = some (.string c.ut) ∧ W.cell? ⟨pb, 4, none⟩ = some (.string c.ui)) ∧ W.cell? ⟨g1, 0, none⟩ = some (.int .u8 (c.k : Nat))))) (fun _ h => h.1) ?_
                have hHeld1 : (fun W : World => ((W.cell? ⟨pb, 0, none⟩ = some (.int .u8 (c.k : Nat)) ∧ W.cell? ⟨pb, 1, none⟩ = some (.string c.i) ∧ W.cell? ⟨pb, 2, none⟩ = some (.string c.t) ∧ W.cell? ⟨pb, 3, none⟩ = some (.string c.ut) ∧ W.cell? ⟨pb, 4, none⟩ = some (.string c.ui)) ∧ W.cell? ⟨g1, 0, none⟩ = some (.int .u8 (c.k : Nat)))) w0b := ⟨⟨d0, d1, d2, d3, d4⟩, e0⟩
                clear hHeld
                have hHeld := hHeld1
                clear hHeld1
                clear d0 d1 d2 d3 d4 df e0
                refine wpAnyH_take (i := 4) (v := ?_) rfl (by kernel_rfl) (by kernel_rfl) (by kernel_rfl) (fun _ _ _ h => h) (Or.inl ⟨by rfl, ?_⟩) (by assumption) ?_; rotate_left 1; (intro w hSw; (try dsimp only at hSw); go_simp; try with_reducible rfl); (try simp only [Act.put, List.getElem_toArray, List.getElem_cons_zero, List.getElem_cons_succ, List.setIfInBounds_toArray, List.set_cons_zero, List.set_cons_succ])
                refine wpAnyH_ready (rs := [7]) (by kernel_rfl) (by simp) ?_
                refine AllReadyH.cons rfl (fun K hK => ?_) AllReadyH.nil
                go_simp
                (with_reducible refine (hti.out _).mono ?_)
                rintro e w0ba ⟨rfl, b1⟩
                go_wp2_with fail
                replace KK := hid (KK.out.below b1 KK.out.lt)
                replace G := hid (G.out.below b1 G.out.lt)
                replace bw := hid (bw.out.trans (b1.mono bw.out.size))
                replace Q := hid (Q.out.below b1 Q.out.lt)
                clear b1
                obtain ⟨d0, d1, d2, d3, d4, df⟩ := five KK.out
                have e0 := Q.out.cell 0 (by simp)
                refine hK.out _ _ ⟨⟨d0, d1, d2, d3, d4⟩, e0⟩ (fun hHeldN => ?_)
                clear hK K hHeld
                have hHeld := hHeldN
                clear hHeldN
                (try simp only [Act.put, List.getElem_toArray, List.getElem_cons_zero, List.getElem_cons_succ, List.setIfInBounds_toArray, List.set_cons_zero, List.set_cons_succ])
                clear d0 d1 d2 d3 d4 df e0
                refine wpAnyH_take (i := 8) (v := ?_) rfl (by kernel_rfl) (by kernel_rfl) (by kernel_rfl) (fun _ _ _ h => h) (Or.inl ⟨by rfl, ?_⟩) (by assumption) ?_; rotate_left 1; (intro w hSw; (try dsimp only at hSw); go_simp; try with_reducible rfl); (try simp only [Act.put, List.getElem_toArray, List.getElem_cons_zero, List.getElem_cons_succ, List.setIfInBounds_toArray, List.set_cons_zero, List.set_cons_succ])
                refine wpAnyH_ready (rs := [11]) (by kernel_rfl) (by simp) ?_
                refine AllReadyH.cons rfl (fun K hK => ?_) AllReadyH.nil
                go_simp
                (with_reducible refine (htt.out _).mono ?_)
                rintro e w0baa ⟨rfl, b1⟩
                go_wp2_with fail
                replace KK := hid (KK.out.below b1 KK.out.lt)
                replace G := hid (G.out.below b1 G.out.lt)
                replace bw := hid (bw.out.trans (b1.mono bw.out.size))
                replace Q := hid (Q.out.below b1 Q.out.lt)
                clear b1
                obtain ⟨d0, d1, d2, d3, d4, df⟩ := five KK.out
                have e0 := Q.out.cell 0 (by simp)
                refine hK.out _ _ ⟨⟨d0, d1, d2, d3, d4⟩, e0⟩ (fun hHeldN => ?_)
                clear hK K hHeld
                have hHeld := hHeldN
                clear hHeldN
                (try simp only [Act.put, List.getElem_toArray, List.getElem_cons_zero, List.getElem_cons_succ, List.setIfInBounds_toArray, List.set_cons_zero, List.set_cons_succ])
                clear d0 d1 d2 d3 d4 df e0
                refine wpAnyH_take (i := 12) (v := ?_) rfl (by kernel_rfl) (by kernel_rfl) (by kernel_rfl) (fun _ _ _ h => h) (Or.inl ⟨by rfl, ?_⟩) (by assumption) ?_; rotate_left 1; (intro w hSw; (try dsimp only at hSw); go_simp; try with_reducible rfl); (try simp only [Act.put, List.getElem_toArray, List.getElem_cons_zero, List.getElem_cons_succ, List.setIfInBounds_toArray, List.set_cons_zero, List.set_cons_succ])
                refine wpAnyH_ready (rs := [16]) (by kernel_rfl) (by simp) ?_
                refine AllReadyH.cons rfl (fun K hK => ?_) AllReadyH.nil
                go_simp
                (with_reducible refine (htu.out _).mono ?_)
                rintro e w0baaa ⟨rfl, b1⟩
                go_wp2_with fail
                replace KK := hid (KK.out.below b1 KK.out.lt)
                replace G := hid (G.out.below b1 G.out.lt)
                replace bw := hid (bw.out.trans (b1.mono bw.out.size))
                replace Q := hid (Q.out.below b1 Q.out.lt)
                clear b1
                obtain ⟨d0, d1, d2, d3, d4, df⟩ := five KK.out
                have e0 := Q.out.cell 0 (by simp)
                refine hK.out _ _ ⟨⟨d0, d1, d2, d3, d4⟩, e0⟩ (fun hHeldN => ?_)
                clear hK K hHeld
                have hHeld := hHeldN
                clear hHeldN
                (try simp only [Act.put, List.getElem_toArray, List.getElem_cons_zero, List.getElem_cons_succ, List.setIfInBounds_toArray, List.set_cons_zero, List.set_cons_succ])
                clear d0 d1 d2 d3 d4 df e0
                refine wpAnyH_take (i := 17) (v := ?_) rfl (by kernel_rfl) (by kernel_rfl) (by kernel_rfl) (fun _ _ _ h => h) (Or.inl ⟨by rfl, ?_⟩) (by assumption) ?_; rotate_left 1; (intro w hSw; (try dsimp only at hSw); go_simp; try with_reducible rfl); (try simp only [Act.put, List.getElem_toArray, List.getElem_cons_zero, List.getElem_cons_succ, List.setIfInBounds_toArray, List.set_cons_zero, List.set_cons_succ])
                refine wpAnyH_ready (rs := [21]) (by kernel_rfl) (by simp) ?_
                refine AllReadyH.cons rfl (fun K hK => ?_) AllReadyH.nil
                go_simp
                (with_reducible refine (htv.out _).mono ?_)
                rintro e w0baaaa ⟨rfl, b1⟩
                go_wp2_with fail
                replace KK := hid (KK.out.below b1 KK.out.lt)
                replace G := hid (G.out.below b1 G.out.lt)
                replace bw := hid (bw.out.trans (b1.mono bw.out.size))
                replace Q := hid (Q.out.below b1 Q.out.lt)
                clear b1
                obtain ⟨d0, d1, d2, d3, d4, df⟩ := five KK.out
                have e0 := Q.out.cell 0 (by simp)
                refine hK.out _ _ ⟨⟨d0, d1, d2, d3, d4⟩, e0⟩ (fun hHeldN => ?_)
                clear hK K hHeld
                have hHeld := hHeldN
                clear hHeldN
                (try simp only [Act.put, List.getElem_toArray, List.getElem_cons_zero, List.getElem_cons_succ, List.setIfInBounds_toArray, List.set_cons_zero, List.set_cons_succ])
                clear d0 d1 d2 d3 d4 df e0
                refine wpAnyH_take (i := 22) (v := ?_) rfl (by kernel_rfl) (by kernel_rfl) (by kernel_rfl) (fun _ _ _ h => h) (Or.inl ⟨by rfl, ?_⟩) (by assumption) ?_; rotate_left 1; (intro w hSw; (try dsimp only at hSw); go_simp; try with_reducible rfl); (try simp only [Act.put, List.getElem_toArray, List.getElem_cons_zero, List.getElem_cons_succ, List.setIfInBounds_toArray, List.set_cons_zero, List.set_cons_succ])
                refine wpAnyH_take (i := 23) (v := ?_) rfl (by kernel_rfl) (by kernel_rfl) (by kernel_rfl) (fun _ _ _ h => h) (Or.inl ⟨by rfl, ?_⟩) (by assumption) ?_; rotate_left 1; (intro w hSw; (try dsimp only at hSw); go_simp; try with_reducible rfl); (try simp only [Act.put, List.getElem_toArray, List.getElem_cons_zero, List.getElem_cons_succ, List.setIfInBounds_toArray, List.set_cons_zero, List.set_cons_succ])
                refine wpAnyH_take (i := 24) (v := ?_) rfl (by kernel_rfl) (by kernel_rfl) (by kernel_rfl) (fun _ _ _ h => h) (Or.inl ⟨by rfl, ?_⟩) (by assumption) ?_; rotate_left 1; (intro w hSw; (try dsimp only at hSw); go_simp; try with_reducible rfl); (try simp only [Act.put, List.getElem_toArray, List.getElem_cons_zero, List.getElem_cons_succ, List.setIfInBounds_toArray, List.set_cons_zero, List.set_cons_succ])
                refine wpAnyH_done (by kernel_rfl) ?_ _
                clear hHeld
                go_wp2_with fail
                go_roundw
                case rel => exact ⟨1, by omega, by go_num, by rw [hnew.out], G, bw⟩
                case measure => simp [intOf]
              refine AllReadyH.cons rfl (fun K hK => ?_) AllReadyH.nil
              go_simp
              (with_reducible refine (hti.out _).mono ?_)
              rintro e w0a ⟨rfl, b1⟩
              go_wp2_with fail
              replace KK := hid (KK.out.below b1 KK.out.lt)
              replace G := hid (G.out.below b1 G.out.lt)
              replace bw := hid (bw.out.trans (b1.mono bw.out.size))
              clear b1
              obtain ⟨d0, d1, d2, d3, d4, df⟩ := five KK.out
              refine hK.out _ _ ⟨d0, d1, d2, d3, d4⟩ (fun hHeldN => ?_)
              clear hK K hHeld
              have hHeld := hHeldN
              clear hHeldN
              (try simp only [Act.put, List.getElem_toArray, List.getElem_cons_zero, List.getElem_cons_succ, List.setIfInBounds_toArray, List.set_cons_zero, List.set_cons_succ])
              clear d0 d1 d2 d3 d4 df
              refine wpAnyH_ready (rs := [3, 11]) (by kernel_rfl) (by simp) ?_
              refine AllReadyH.cons rfl (fun K hK => ?_) ?_
              · skip
                go_simp
                have Q := hid (Blk.new w0a [.int .u8 (c.k : Nat)] 5)
                replace KK := hid (KK.out.alloc (.cells #[.int .u8 (c.k : Nat)] 5))
                replace G := hid (G.out.alloc (.cells #[.int .u8 (c.k : Nat)] 5))
                replace bw := hid (bw.out.alloc bw.out.size (.cells #[.int .u8 (c.k : Nat)] 5))
                change Hid (Blk (w0a.alloc (.cells #[.int .u8 (c.k : Nat)] 5)) _ _ _) at Q
                obtain ⟨g1, hg1⟩ : ∃ g, w0a.heap.size = g := ⟨_, rfl⟩
                rw [hg1] at Q ⊢
                clear hg1
                generalize w0a.alloc (.cells #[.int .u8 (c.k : Nat)] 5) = w0ab at KK G bw Q ⊢
                obtain ⟨d0, d1, d2, d3, d4, df⟩ := five KK.out
                have e0 := Q.out.cell 0 (by simp)
                refine hK.out _ _ ⟨d0, d1, d2, d3, d4⟩ (fun hHeldN => ?_)
                clear hK K hHeld
                have hHeld := hHeldN
                clear hHeldN
                (try simp only [Act.put, List.getElem_toArray, List.getElem_cons_zero, List.getElem_cons_succ, List.setIfInBounds_toArray, List.set_cons_zero, List.set_cons_succ])
                have hcv1 := hc1 g1
                refine wpAnyH_mono (S1 := (fun W : World => ((W.cell? ⟨pb, 0, none⟩ = some (.int .u8 (c.k : Nat)) ∧ W.cell? ⟨pb, 1, none⟩ = some (.string c.i) ∧ W.cell? ⟨pb, 2, none⟩ = some (.string c.t) ∧ W.cell? ⟨pb, 3, none⟩ = some (.string c.ut) ∧ W.cell? ⟨pb, 4, none⟩ = some (.string c.ui)) ∧ W.cell? ⟨g1, 0, none⟩ = some (.int .u8 (c.k : Nat))))) (fun _ h => h.1) ?_
                have hHeld1 : (fun W : World => ((W.cell? ⟨pb, 0, none⟩ = some (.int .u8 (c.k : Nat)) ∧ W.cell? ⟨pb, 1, none⟩ = some (.string c.i) ∧ W.cell? ⟨pb, 2, none⟩ = some (.string c.t) ∧ W.cell? ⟨pb, 3, none⟩ = some (.string c.ut) ∧ W.cell? ⟨pb, 4, none⟩ = some (.string c.ui)) ∧ W.cell? ⟨g1, 0, none⟩ = some (.int .u8 (c.k : Nat)))) w0ab := ⟨⟨d0, d1, d2, d3, d4⟩, e0⟩
                clear hHeld
                have hHeld := hHeld1
                clear hHeld1
                clear d0 d1 d2 d3 d4 df e0
                refine wpAnyH_take (i := 4) (v := ?_) rfl (by kernel_rfl) (by kernel_rfl) (by kernel_rfl) (fun _ _ _ h => h) (Or.inl ⟨by rfl, ?_⟩) (by assumption) ?_; rotate_left 1; (intro w hSw; (try dsimp only at hSw); go_simp; try with_reducible rfl); (try simp only [Act.put, List.getElem_toArray, List.getElem_cons_zero, List.getElem_cons_succ, List.setIfInBounds_toArray, List.set_cons_zero, List.set_cons_succ])
                refine wpAnyH_take (i := 8) (v := ?_) rfl (by kernel_rfl) (by kernel_rfl) (by kernel_rfl) (fun _ _ _ h => h) (Or.inl ⟨by rfl, ?_⟩) (by assumption) ?_; rotate_left 1; (intro w hSw; (try dsimp only at hSw); go_simp; try with_reducible rfl); (try simp only [Act.put, List.getElem_toArray, List.getElem_cons_zero, List.getElem_cons_succ, List.setIfInBounds_toArray, List.set_cons_zero, List.set_cons_succ])
                refine wpAnyH_ready (rs := [11]) (by kernel_rfl) (by simp) ?_
                refine AllReadyH.cons rfl (fun K hK => ?_) AllReadyH.nil
                go_simp
                (with_reducible refine (htt.out _).mono ?_)
                rintro e w0aba ⟨rfl, b1⟩
                go_wp2_with fail
                replace KK := hid (KK.out.below b1 KK.out.lt)
                replace G := hid (G.out.below b1 G.out.lt)
                replace bw := hid (bw.out.trans (b1.mono bw.out.size))
                replace Q := hid (Q.out.below b1 Q.out.lt)
                clear b1
                obtain ⟨d0, d1, d2, d3, d4, df⟩ := five KK.out
                have e0 := Q.out.cell 0 (by simp)
                refine hK.out _ _ ⟨⟨d0, d1, d2, d3, d4⟩, e0⟩ (fun hHeldN => ?_)
                clear hK K hHeld
                have hHeld := hHeldN
                clear hHeldN
                (try simp only [Act.put, List.getElem_toArray, List.getElem_cons_zero, List.getElem_cons_succ, List.setIfInBounds_toArray, List.set_cons_zero, List.set_cons_succ])
                clear d0 d1 d2 d3 d4 df e0
                refine wpAnyH_take (i := 12) (v := ?_) rfl (by kernel_rfl) (by kernel_rfl) (by kernel_rfl) (fun _ _ _ h => h) (Or.inl ⟨by rfl, ?_⟩) (by assumption) ?_; rotate_left 1; (intro w hSw; (try dsimp only at hSw); go_simp; try with_reducible rfl); (try simp only [Act.put, List.getElem_toArray, List.getElem_cons_zero, List.getElem_cons_succ, List.setIfInBounds_toArray, List.set_cons_zero, List.set_cons_succ])
                refine wpAnyH_ready (rs := [16]) (by kernel_rfl) (by simp) ?_
                refine AllReadyH.cons rfl (fun K hK => ?_) AllReadyH.nil
                go_simp
                (with_reducible refine (htu.out _).mono ?_)
                rintro e w0abaa ⟨rfl, b1⟩
                go_wp2_with fail
                replace KK := hid (KK.out.below b1 KK.out.lt)
                replace G := hid (G.out.below b1 G.out.lt)
                replace bw := hid (bw.out.trans (b1.mono bw.out.size))
                replace Q := hid (Q.out.below b1 Q.out.lt)
                clear b1
                obtain ⟨d0, d1, d2, d3, d4, df⟩ := five KK.out
                have e0 := Q.out.cell 0 (by simp)
                refine hK.out _ _ ⟨⟨d0, d1, d2, d3, d4⟩, e0⟩ (fun hHeldN => ?_)
                clear hK K hHeld
                have hHeld := hHeldN
                clear hHeldN
                (try simp only [Act.put, List.getElem_toArray, List.getElem_cons_zero, List.getElem_cons_succ, List.setIfInBounds_toArray, List.set_cons_zero, List.set_cons_succ])
                clear d0 d1 d2 d3 d4 df e0
                refine wpAnyH_take (i := 17) (v := ?_) rfl (by kernel_rfl) (by kernel_rfl) (by kernel_rfl) (fun _ _ _ h => h) (Or.inl ⟨by rfl, ?_⟩) (by assumption) ?_; rotate_left 1; (intro w hSw; (try dsimp only at hSw); go_simp; try with_reducible rfl); (try simp only [Act.put, List.getElem_toArray, List.getElem_cons_zero, List.getElem_cons_succ, List.setIfInBounds_toArray, List.set_cons_zero, List.set_cons_succ])
                refine wpAnyH_ready (rs := [21]) (by kernel_rfl) (by simp) ?_
                refine AllReadyH.cons rfl (fun K hK => ?_) AllReadyH.nil
                go_simp
                (with_reducible refine (htv.out _).mono ?_)
                rintro e w0abaaa ⟨rfl, b1⟩
                go_wp2_with fail
                replace KK := hid (KK.out.below b1 KK.out.lt)
                replace G := hid (G.out.below b1 G.out.lt)
                replace bw := hid (bw.out.trans (b1.mono bw.out.size))
                replace Q := hid (Q.out.below b1 Q.out.lt)
                clear b1
                obtain ⟨d0, d1, d2, d3, d4, df⟩ := five KK.out
                have e0 := Q.out.cell 0 (by simp)
                refine hK.out _ _ ⟨⟨d0, d1, d2, d3, d4⟩, e0⟩ (fun hHeldN => ?_)
                clear hK K hHeld
                have hHeld := hHeldN
                clear hHeldN
                (try simp only [Act.put, List.getElem_toArray, List.getElem_cons_zero, List.getElem_cons_succ, List.setIfInBounds_toArray, List.set_cons_zero, List.set_cons_succ])
                clear d0 d1 d2 d3 d4 df e0
                refine wpAnyH_take (i := 22) (v := ?_) rfl (by kernel_rfl) (by kernel_rfl) (by kernel_rfl) (fun _ _ _ h => h) (Or.inl ⟨by rfl, ?_⟩) (by assumption) ?_; rotate_left 1; (intro w hSw; (try dsimp only at hSw); go_simp; try with_reducible rfl); (try simp only [Act.put, List.getElem_toArray, List.getElem_cons_zero, List.getElem_cons_succ, List.setIfInBounds_toArray, List.set_cons_zero, List.set_cons_succ])
                refine wpAnyH_take (i := 23) (v := ?_) rfl (by kernel_rfl) (by kernel_rfl) (by kernel_rfl) (fun _ _ _ h => h) (Or.inl ⟨by rfl, ?_⟩) (by assumption) ?_; rotate_left 1; (intro w hSw; (try dsimp only at hSw); go_simp; try with_reducible rfl); (try simp only [Act.put, List.getElem_toArray, List.getElem_cons_zero, List.getElem_cons_succ, List.setIfInBounds_toArray, List.set_cons_zero, List.set_cons_succ])
                refine wpAnyH_take (i := 24) (v := ?_) rfl (by kernel_rfl) (by kernel_rfl) (by kernel_rfl) (fun _ _ _ h => h) (Or.inl ⟨by rfl, ?_⟩) (by assumption) ?_; rotate_left 1; (intro w hSw; (try dsimp only at hSw); go_simp; try with_reducible rfl); (try simp only [Act.put, List.getElem_toArray, List.getElem_cons_zero, List.getElem_cons_succ, List.setIfInBounds_toArray, List.set_cons_zero, List.set_cons_succ])
                refine wpAnyH_done (by kernel_rfl) ?_ _
                clear hHeld
                go_wp2_with fail
                go_roundw
                case rel => exact ⟨1, by omega, by go_num, by rw [hnew.out], G, bw⟩
                case measure => simp [intOf]
              refine AllReadyH.cons rfl (fun K hK => ?_) AllReadyH.nil
              go_simp
              (with_reducible refine (htt.out _).mono ?_)
              rintro e w0aa ⟨rfl, b1⟩
              go_wp2_with fail
              replace KK := hid (KK.out.below b1 KK.out.lt)
              replace G := hid (G.out.below b1 G.out.lt)
              replace bw := hid (bw.out.trans (b1.mono bw.out.size))
              clear b1
              obtain ⟨d0, d1, d2, d3, d4, df⟩ := five KK.out
              refine hK.out _ _ ⟨d0, d1, d2, d3, d4⟩ (fun hHeldN => ?_)
              clear hK K hHeld
              have hHeld := hHeldN
              clear hHeldN
              (try simp only [Act.put, List.getElem_toArray, List.getElem_cons_zero, List.getElem_cons_succ, List.setIfInBounds_toArray, List.set_cons_zero, List.set_cons_succ])
              clear d0 d1 d2 d3 d4 df
              refine wpAnyH_ready (rs := [3, 16]) (by kernel_rfl) (by simp) ?_
              refine AllReadyH.cons rfl (fun K hK => ?_) ?_
              · skip
                go_simp
                have Q := hid (Blk.new w0aa [.int .u8 (c.k : Nat)] 5)
                replace KK := hid (KK.out.alloc (.cells #[.int .u8 (c.k : Nat)] 5))
                replace G := hid (G.out.alloc (.cells #[.int .u8 (c.k : Nat)] 5))
                replace bw := hid (bw.out.alloc bw.out.size (.cells #[.int .u8 (c.k : Nat)] 5))
                change Hid (Blk (w0aa.alloc (.cells #[.int .u8 (c.k : Nat)] 5)) _ _ _) at Q
                obtain ⟨g1, hg1⟩ : ∃ g, w0aa.heap.size = g := ⟨_, rfl⟩
                rw [hg1] at Q ⊢
                clear hg1
                generalize w0aa.alloc (.cells #[.int .u8 (c.k : Nat)] 5) = w0aab at KK G bw Q ⊢
                obtain ⟨d0, d1, d2, d3, d4, df⟩ := five KK.out
                have e0 := Q.out.cell 0 (by simp)
                refine hK.out _ _ ⟨d0, d1, d2, d3, d4⟩ (fun hHeldN => ?_)
                clear hK K hHeld
                have hHeld := hHeldN
                clear hHeldN
                (try simp only [Act.put, List.getElem_toArray, List.getElem_cons_zero, List.getElem_cons_succ, List.setIfInBounds_toArray, List.set_cons_zero, List.set_cons_succ])
                have hcv1 := hc1 g1
                refine wpAnyH_mono (S1 := (fun W : World => ((W.cell? ⟨pb, 0, none⟩ = some (.int .u8 (c.k : Nat)) ∧ W.cell? ⟨pb, 1, none⟩ = some (.string c.i) ∧ W.cell? ⟨pb, 2, none⟩ = some (.string c.t) ∧ W.cell? ⟨pb, 3, none⟩ = some (.string c.ut) ∧ W.cell? ⟨pb, 4, none⟩ = some (.string c.ui)) ∧ W.cell? ⟨g1, 0, none⟩ = some (.int .u8 (c.k : Nat))))) (fun _ h => h.1) ?_
                have hHeld1 : (fun W : World => ((W.cell? ⟨pb, 0, none⟩ = some (.int .u8 (c.k : Nat)) ∧ W.cell? ⟨pb, 1, none⟩ = some (.string c.i) ∧ W.cell? ⟨pb, 2, none⟩ = some (.string c.t) ∧ W.cell? ⟨pb, 3, none⟩ = some (.string c.ut) ∧ W.cell? ⟨pb, 4, none⟩ = some (.string c.ui)) ∧ W.cell? ⟨g1, 0, none⟩ = some (.int .u8 (c.k : Nat)))) w0aab := ⟨⟨d0, d1, d2, d3, d4⟩, e0⟩
                clear hHeld
                have hHeld := hHeld1
                clear hHeld1
                clear d0 d1 d2 d3 d4 df e0
                refine wpAnyH_take (i := 4) (v := ?_) rfl (by kernel_rfl) (by kernel_rfl) (by kernel_rfl) (fun _ _ _ h => h) (Or.inl ⟨by rfl, ?_⟩) (by assumption) ?_; rotate_left 1; (intro w hSw; (try dsimp only at hSw); go_simp; try with_reducible rfl); (try simp only [Act.put, List.getElem_toArray, List.getElem_cons_zero, List.getElem_cons_succ, List.setIfInBounds_toArray, List.set_cons_zero, List.set_cons_succ])
                refine wpAnyH_take (i := 8) (v := ?_) rfl (by kernel_rfl) (by kernel_rfl) (by kernel_rfl) (fun _ _ _ h => h) (Or.inl ⟨by rfl, ?_⟩) (by assumption) ?_; rotate_left 1; (intro w hSw; (try dsimp only at hSw); go_simp; try with_reducible rfl); (try simp only [Act.put, List.getElem_toArray, List.getElem_cons_zero, List.getElem_cons_succ, List.setIfInBounds_toArray, List.set_cons_zero, List.set_cons_succ])
                refine wpAnyH_take (i := 12) (v := ?_) rfl (by kernel_rfl) (by kernel_rfl) (by kernel_rfl) (fun _ _ _ h => h) (Or.inl ⟨by rfl, ?_⟩) (by assumption) ?_; rotate_left 1; (intro w hSw; (try dsimp only at hSw); go_simp; try with_reducible rfl); (try simp only [Act.put, List.getElem_toArray, List.getElem_cons_zero, List.getElem_cons_succ, List.setIfInBounds_toArray, List.set_cons_zero, List.set_cons_succ])
                refine wpAnyH_ready (rs := [16]) (by kernel_rfl) (by simp) ?_
                refine AllReadyH.cons rfl (fun K hK => ?_) AllReadyH.nil
                go_simp
                (with_reducible refine (htu.out _).mono ?_)
                rintro e w0aaba ⟨rfl, b1⟩
                go_wp2_with fail
                replace KK := hid (KK.out.below b1 KK.out.lt)
                replace G := hid (G.out.below b1 G.out.lt)
                replace bw := hid (bw.out.trans (b1.mono bw.out.size))
                replace Q := hid (Q.out.below b1 Q.out.lt)
                clear b1
                obtain ⟨d0, d1, d2, d3, d4, df⟩ := five KK.out
                have e0 := Q.out.cell 0 (by simp)
                refine hK.out _ _ ⟨⟨d0, d1, d2, d3, d4⟩, e0⟩ (fun hHeldN => ?_)
                clear hK K hHeld
                have hHeld := hHeldN
                clear hHeldN
                (try simp only [Act.put, List.getElem_toArray, List.getElem_cons_zero, List.getElem_cons_succ, List.setIfInBounds_toArray, List.set_cons_zero, List.set_cons_succ])
                clear d0 d1 d2 d3 d4 df e0
                refine wpAnyH_take (i := 17) (v := ?_) rfl (by kernel_rfl) (by kernel_rfl) (by kernel_rfl) (fun _ _ _ h => h) (Or.inl ⟨by rfl, ?_⟩) (by assumption) ?_; rotate_left 1; (intro w hSw; (try dsimp only at hSw); go_simp; try with_reducible rfl); (try simp only [Act.put, List.getElem_toArray, List.getElem_cons_zero, List.getElem_cons_succ, List.setIfInBounds_toArray, List.set_cons_zero, List.set_cons_succ])
                refine wpAnyH_ready (rs := [21]) (by kernel_rfl) (by simp) ?_
                refine AllReadyH.cons rfl (fun K hK => ?_) AllReadyH.nil
                go_simp
                (with_reducible refine (htv.out _).mono ?_)
                rintro e w0aabaa ⟨rfl, b1⟩
                go_wp2_with fail
                replace KK := hid (KK.out.below b1 KK.out.lt)
                replace G := hid (G.out.below b1 G.out.lt)
                replace bw := hid (bw.out.trans (b1.mono bw.out.size))
                replace Q := hid (Q.out.below b1 Q.out.lt)
                clear b1
                obtain ⟨d0, d1, d2, d3, d4, df⟩ := five KK.out
                have e0 := Q.out.cell 0 (by simp)
                refine hK.out _ _ ⟨⟨d0, d1, d2, d3, d4⟩, e0⟩ (fun hHeldN => ?_)
                clear hK K hHeld
                have hHeld := hHeldN
                clear hHeldN
                (try simp only [Act.put, List.getElem_toArray, List.getElem_cons_zero, List.getElem_cons_succ, List.setIfInBounds_toArray, List.set_cons_zero, List.set_cons_succ])
                clear d0 d1 d2 d3 d4 df e0
                refine wpAnyH_take (i := 22) (v := ?_) rfl (by kernel_rfl) (by kernel_rfl) (by kernel_rfl) (fun _ _ _ h => h) (Or.inl ⟨by rfl, ?_⟩) (by assumption) ?_; rotate_left 1; (intro w hSw; (try dsimp only at hSw); go_simp; try with_reducible rfl); (try simp only [Act.put, List.getElem_toArray, List.getElem_cons_zero, List.getElem_cons_succ, List.setIfInBounds_toArray, List.set_cons_zero, List.set_cons_succ])
                refine wpAnyH_take (i := 23) (v := ?_) rfl (by kernel_rfl) (by kernel_rfl) (by kernel_rfl) (fun _ _ _ h => h) (Or.inl ⟨by rfl, ?_⟩) (by assumption) ?_; rotate_left 1; (intro w hSw; (try dsimp only at hSw); go_simp; try with_reducible rfl); (try simp only [Act.put, List.getElem_toArray, List.getElem_cons_zero, List.getElem_cons_succ, List.setIfInBounds_toArray, List.set_cons_zero, List.set_cons_succ])
                refine wpAnyH_take (i := 24) (v := ?_) rfl (by kernel_rfl) (by kernel_rfl) (by kernel_rfl) (fun _ _ _ h => h) (Or.inl ⟨by rfl, ?_⟩) (by assumption) ?_; rotate_left 1; (intro w hSw; (try dsimp only at hSw); go_simp; try with_reducible rfl); (try simp only [Act.put, List.getElem_toArray, List.getElem_cons_zero, List.getElem_cons_succ, List.setIfInBounds_toArray, List.set_cons_zero, List.set_cons_succ])
                refine wpAnyH_done (by kernel_rfl) ?_ _
                clear hHeld
                go_wp2_with fail
                go_roundw
                case rel => exact ⟨1, by omega, by go_num, by rw [hnew.out], G, bw⟩
                case measure => simp [intOf]
              refine AllReadyH.cons rfl (fun K hK => ?_) AllReadyH.nil
              go_simp
              (with_reducible refine (htu.out _).mono ?_)
              rintro e w0aaa ⟨rfl, b1⟩
              go_wp2_with fail
              replace KK := hid (KK.out.below b1 KK.out.lt)
              replace G := hid (G.out.below b1 G.out.lt)
              replace bw := hid (bw.out.trans (b1.mono bw.out.size))
              clear b1
              obtain ⟨d0, d1, d2, d3, d4, df⟩ := five KK.out
              refine hK.out _ _ ⟨d0, d1, d2, d3, d4⟩ (fun hHeldN => ?_)
              clear hK K hHeld
              have hHeld := hHeldN
              clear hHeldN
              (try simp only [Act.put, List.getElem_toArray, List.getElem_cons_zero, List.getElem_cons_succ, List.setIfInBounds_toArray, List.set_cons_zero, List.set_cons_succ])
              clear d0 d1 d2 d3 d4 df
              refine wpAnyH_ready (rs := [3, 21]) (by kernel_rfl) (by simp) ?_
              refine AllReadyH.cons rfl (fun K hK => ?_) ?_
              · skip
                go_simp
                have Q := hid (Blk.new w0aaa [.int .u8 (c.k : Nat)] 5)
                replace KK := hid (KK.out.alloc (.cells #[.int .u8 (c.k : Nat)] 5))
                replace G := hid (G.out.alloc (.cells #[.int .u8 (c.k : Nat)] 5))
                replace bw := hid (bw.out.alloc bw.out.size (.cells #[.int .u8 (c.k : Nat)] 5))
                change Hid (Blk (w0aaa.alloc (.cells #[.int .u8 (c.k : Nat)] 5)) _ _ _) at Q
                obtain ⟨g1, hg1⟩ : ∃ g, w0aaa.heap.size = g := ⟨_, rfl⟩
                rw [hg1] at Q ⊢
                clear hg1
                generalize w0aaa.alloc (.cells #[.int .u8 (c.k : Nat)] 5) = w0aaab at KK G bw Q ⊢
                obtain ⟨d0, d1, d2, d3, d4, df⟩ := five KK.out
                have e0 := Q.out.cell 0 (by simp)
                refine hK.out _ _ ⟨d0, d1, d2, d3, d4⟩ (fun hHeldN => ?_)
                clear hK K hHeld
                have hHeld := hHeldN
                clear hHeldN
                (try simp only [Act.put, List.getElem_toArray, List.getElem_cons_zero, List.getElem_cons_succ, List.setIfInBounds_toArray, List.set_cons_zero, List.set_cons_succ])
                have hcv1 := hc1 g1
                refine wpAnyH_mono (S1 := (fun W : World => ((W.cell? ⟨pb, 0, none⟩ = some (.int .u8 (c.k : Nat)) ∧ W.cell? ⟨pb, 1, none⟩ = some (.string c.i) ∧ W.cell? ⟨pb, 2, none⟩ = some (.string c.t) ∧ W.cell? ⟨pb, 3, none⟩ = some (.string c.ut) ∧ W.cell? ⟨pb, 4, none⟩ = some (.string c.ui)) ∧ W.cell? ⟨g1, 0, none⟩ = some (.int .u8 (c.k : Nat))))) (fun _ h => h.1) ?_
                have hHeld1 : (fun W : World => ((W.cell? ⟨pb, 0, none⟩ = some (.int .u8 (c.k : Nat)) ∧ W.cell? ⟨pb, 1, none⟩ = some (.string c.i) ∧ W.cell? ⟨pb, 2, none⟩ = some (.string c.t) ∧ W.cell? ⟨pb, 3, none⟩ = some (.string c.ut) ∧ W.cell? ⟨pb, 4, none⟩ = some (.string c.ui)) ∧ W.cell? ⟨g1, 0, none⟩ = some (.int .u8 (c.k : Nat)))) w0aaab := ⟨⟨d0, d1, d2, d3, d4⟩, e0⟩
                clear hHeld
                have hHeld := hHeld1
                clear hHeld1
                clear d0 d1 d2 d3 d4 df e0
                refine wpAnyH_take (i := 4) (v := ?_) rfl (by kernel_rfl) (by kernel_rfl) (by kernel_rfl) (fun _ _ _ h => h) (Or.inl ⟨by rfl, ?_⟩) (by assumption) ?_; rotate_left 1; (intro w hSw; (try dsimp only at hSw); go_simp; try with_reducible rfl); (try simp only [Act.put, List.getElem_toArray, List.getElem_cons_zero, List.getElem_cons_succ, List.setIfInBounds_toArray, List.set_cons_zero, List.set_cons_succ])
                refine wpAnyH_take (i := 8) (v := ?_) rfl (by kernel_rfl) (by kernel_rfl) (by kernel_rfl) (fun _ _ _ h => h) (Or.inl ⟨by rfl, ?_⟩) (by assumption) ?_; rotate_left 1; (intro w hSw; (try dsimp only at hSw); go_simp; try with_reducible rfl); (try simp only [Act.put, List.getElem_toArray, List.getElem_cons_zero, List.getElem_cons_succ, List.setIfInBounds_toArray, List.set_cons_zero, List.set_cons_succ])
                refine wpAnyH_take (i := 12) (v := ?_) rfl (by kernel_rfl) (by kernel_rfl) (by kernel_rfl) (fun _ _ _ h => h) (Or.inl ⟨by rfl, ?_⟩) (by assumption) ?_; rotate_left 1; (intro w hSw; (try dsimp only at hSw); go_simp; try with_reducible rfl); (try simp only [Act.put, List.getElem_toArray, List.getElem_cons_zero, List.getElem_cons_succ, List.setIfInBounds_toArray, List.set_cons_zero, List.set_cons_succ])
                refine wpAnyH_take (i := 17) (v := ?_) rfl (by kernel_rfl) (by kernel_rfl) (by kernel_rfl) (fun _ _ _ h => h) (Or.inl ⟨by rfl, ?_⟩) (by assumption) ?_; rotate_left 1; (intro w hSw; (try dsimp only at hSw); go_simp; try with_reducible rfl); (try simp only [Act.put, List.getElem_toArray, List.getElem_cons_zero, List.getElem_cons_succ, List.setIfInBounds_toArray, List.set_cons_zero, List.set_cons_succ])
                refine wpAnyH_ready (rs := [21]) (by kernel_rfl) (by simp) ?_
                refine AllReadyH.cons rfl (fun K hK => ?_) AllReadyH.nil
                go_simp
                (with_reducible refine (htv.out _).mono ?_)
                rintro e w0aaaba ⟨rfl, b1⟩
                go_wp2_with fail
                replace KK := hid (KK.out.below b1 KK.out.lt)
                replace G := hid (G.out.below b1 G.out.lt)
                replace bw := hid (bw.out.trans (b1.mono bw.out.size))
                replace Q := hid (Q.out.below b1 Q.out.lt)
                clear b1
                obtain ⟨d0, d1, d2, d3, d4, df⟩ := five KK.out
                have e0 := Q.out.cell 0 (by simp)
                refine hK.out _ _ ⟨⟨d0, d1, d2, d3, d4⟩, e0⟩ (fun hHeldN => ?_)
                clear hK K hHeld
                have hHeld := hHeldN
                clear hHeldN
                (try simp only [Act.put, List.getElem_toArray, List.getElem_cons_zero, List.getElem_cons_succ, List.setIfInBounds_toArray, List.set_cons_zero, List.set_cons_succ])
                clear d0 d1 d2 d3 d4 df e0
                refine wpAnyH_take (i := 22) (v := ?_) rfl (by kernel_rfl) (by kernel_rfl) (by kernel_rfl) (fun _ _ _ h => h) (Or.inl ⟨by rfl, ?_⟩) (by assumption) ?_; rotate_left 1; (intro w hSw; (try dsimp only at hSw); go_simp; try with_reducible rfl); (try simp only [Act.put, List.getElem_toArray, List.getElem_cons_zero, List.getElem_cons_succ, List.setIfInBounds_toArray, List.set_cons_zero, List.set_cons_succ])
                refine wpAnyH_take (i := 23) (v := ?_) rfl (by kernel_rfl) (by kernel_rfl) (by kernel_rfl) (fun _ _ _ h => h) (Or.inl ⟨by rfl, ?_⟩) (by assumption) ?_; rotate_left 1; (intro w hSw; (try dsimp only at hSw); go_simp; try with_reducible rfl); (try simp only [Act.put, List.getElem_toArray, List.getElem_cons_zero, List.getElem_cons_succ, List.setIfInBounds_toArray, List.set_cons_zero, List.set_cons_succ])
                refine wpAnyH_take (i := 24) (v := ?_) rfl (by kernel_rfl) (by kernel_rfl) (by kernel_rfl) (fun _ _ _ h => h) (Or.inl ⟨by rfl, ?_⟩) (by assumption) ?_; rotate_left 1; (intro w hSw; (try dsimp only at hSw); go_simp; try with_reducible rfl); (try simp only [Act.put, List.getElem_toArray, List.getElem_cons_zero, List.getElem_cons_succ, List.setIfInBounds_toArray, List.set_cons_zero, List.set_cons_succ])
                refine wpAnyH_done (by kernel_rfl) ?_ _
                clear hHeld
                go_wp2_with fail
                go_roundw
                case rel => exact ⟨1, by omega, by go_num, by rw [hnew.out], G, bw⟩
                case measure => simp [intOf]
              refine AllReadyH.cons rfl (fun K hK => ?_) AllReadyH.nil
              go_simp
              (with_reducible refine (htv.out _).mono ?_)
              rintro e w0aaaa ⟨rfl, b1⟩
              go_wp2_with fail
              replace KK := hid (KK.out.below b1 KK.out.lt)
              replace G := hid (G.out.below b1 G.out.lt)
              replace bw := hid (bw.out.trans (b1.mono bw.out.size))
              clear b1
              obtain ⟨d0, d1, d2, d3, d4, df⟩ := five KK.out
              refine hK.out _ _ ⟨d0, d1, d2, d3, d4⟩ (fun hHeldN => ?_)
              clear hK K hHeld
              have hHeld := hHeldN
              clear hHeldN
              (try simp only [Act.put, List.getElem_toArray, List.getElem_cons_zero, List.getElem_cons_succ, List.setIfInBounds_toArray, List.set_cons_zero, List.set_cons_succ])
              clear d0 d1 d2 d3 d4 df
              refine wpAnyH_ready (rs := [3]) (by kernel_rfl) (by simp) ?_
              refine AllReadyH.cons rfl (fun K hK => ?_) AllReadyH.nil
              go_simp
              have Q := hid (Blk.new w0aaaa [.int .u8 (c.k : Nat)] 5)
              replace KK := hid (KK.out.alloc (.cells #[.int .u8 (c.k : Nat)] 5))
              replace G := hid (G.out.alloc (.cells #[.int .u8 (c.k : Nat)] 5))
              replace bw := hid (bw.out.alloc bw.out.size (.cells #[.int .u8 (c.k : Nat)] 5))
              change Hid (Blk (w0aaaa.alloc (.cells #[.int .u8 (c.k : Nat)] 5)) _ _ _) at Q
              obtain ⟨g1, hg1⟩ : ∃ g, w0aaaa.heap.size = g := ⟨_, rfl⟩
              rw [hg1] at Q ⊢
              clear hg1
              generalize w0aaaa.alloc (.cells #[.int .u8 (c.k : Nat)] 5) = w0aaaab at KK G bw Q ⊢
              obtain ⟨d0, d1, d2, d3, d4, df⟩ := five KK.out
              have e0 := Q.out.cell 0 (by simp)
              refine hK.out _ _ ⟨d0, d1, d2, d3, d4⟩ (fun hHeldN => ?_)
              clear hK K hHeld
              have hHeld := hHeldN
              clear hHeldN
              (try simp only [Act.put, List.getElem_toArray, List.getElem_cons_zero, List.getElem_cons_succ, List.setIfInBounds_toArray, List.set_cons_zero, List.set_cons_succ])
              have hcv1 := hc1 g1
              refine wpAnyH_mono (S1 := (fun W : World => ((W.cell? ⟨pb, 0, none⟩ = some (.int .u8 (c.k : Nat)) ∧ W.cell? ⟨pb, 1, none⟩ = some (.string c.i) ∧ W.cell? ⟨pb, 2, none⟩ = some (.string c.t) ∧ W.cell? ⟨pb, 3, none⟩ = some (.string c.ut) ∧ W.cell? ⟨pb, 4, none⟩ = some (.string c.ui)) ∧ W.cell? ⟨g1, 0, none⟩ = some (.int .u8 (c.k : Nat))))) (fun _ h => h.1) ?_
              have hHeld1 : (fun W : World => ((W.cell? ⟨pb, 0, none⟩ = some (.int .u8 (c.k : Nat)) ∧ W.cell? ⟨pb, 1, none⟩ = some (.string c.i) ∧ W.cell? ⟨pb, 2, none⟩ = some (.string c.t) ∧ W.cell? ⟨pb, 3, none⟩ = some (.string c.ut) ∧ W.cell? ⟨pb, 4, none⟩ = some (.string c.ui)) ∧ W.cell? ⟨g1, 0, none⟩ = some (.int .u8 (c.k : Nat)))) w0aaaab := ⟨⟨d0, d1, d2, d3, d4⟩, e0⟩
              clear hHeld
              have hHeld := hHeld1
              clear hHeld1
              clear d0 d1 d2 d3 d4 df e0
              refine wpAnyH_take (i := 4) (v := ?_) rfl (by kernel_rfl) (by kernel_rfl) (by kernel_rfl) (fun _ _ _ h => h) (Or.inl ⟨by rfl, ?_⟩) (by assumption) ?_; rotate_left 1; (intro w hSw; (try dsimp only at hSw); go_simp; try with_reducible rfl); (try simp only [Act.put, List.getElem_toArray, List.getElem_cons_zero, List.getElem_cons_succ, List.setIfInBounds_toArray, List.set_cons_zero, List.set_cons_succ])
              refine wpAnyH_take (i := 8) (v := ?_) rfl (by kernel_rfl) (by kernel_rfl) (by kernel_rfl) (fun _ _ _ h => h) (Or.inl ⟨by rfl, ?_⟩) (by assumption) ?_; rotate_left 1; (intro w hSw; (try dsimp only at hSw); go_simp; try with_reducible rfl); (try simp only [Act.put, List.getElem_toArray, List.getElem_cons_zero, List.getElem_cons_succ, List.setIfInBounds_toArray, List.set_cons_zero, List.set_cons_succ])
              refine wpAnyH_take (i := 12) (v := ?_) rfl (by kernel_rfl) (by kernel_rfl) (by kernel_rfl) (fun _ _ _ h => h) (Or.inl ⟨by rfl, ?_⟩) (by assumption) ?_; rotate_left 1; (intro w hSw; (try dsimp only at hSw); go_simp; try with_reducible rfl); (try simp only [Act.put, List.getElem_toArray, List.getElem_cons_zero, List.getElem_cons_succ, List.setIfInBounds_toArray, List.set_cons_zero, List.set_cons_succ])
              refine wpAnyH_take (i := 17) (v := ?_) rfl (by kernel_rfl) (by kernel_rfl) (by kernel_rfl) (fun _ _ _ h => h) (Or.inl ⟨by rfl, ?_⟩) (by assumption) ?_; rotate_left 1; (intro w hSw; (try dsimp only at hSw); go_simp; try with_reducible rfl); (try simp only [Act.put, List.getElem_toArray, List.getElem_cons_zero, List.getElem_cons_succ, List.setIfInBounds_toArray, List.set_cons_zero, List.set_cons_succ])
              refine wpAnyH_take (i := 22) (v := ?_) rfl (by kernel_rfl) (by kernel_rfl) (by kernel_rfl) (fun _ _ _ h => h) (Or.inl ⟨by rfl, ?_⟩) (by assumption) ?_; rotate_left 1; (intro w hSw; (try dsimp only at hSw); go_simp; try with_reducible rfl); (try simp only [Act.put, List.getElem_toArray, List.getElem_cons_zero, List.getElem_cons_succ, List.setIfInBounds_toArray, List.set_cons_zero, List.set_cons_succ])
              refine wpAnyH_take (i := 23) (v := ?_) rfl (by kernel_rfl) (by kernel_rfl) (by kernel_rfl) (fun _ _ _ h => h) (Or.inl ⟨by rfl, ?_⟩) (by assumption) ?_; rotate_left 1; (intro w hSw; (try dsimp only at hSw); go_simp; try with_reducible rfl); (try simp only [Act.put, List.getElem_toArray, List.getElem_cons_zero, List.getElem_cons_succ, List.setIfInBounds_toArray, List.set_cons_zero, List.set_cons_succ])
              refine wpAnyH_take (i := 24) (v := ?_) rfl (by kernel_rfl) (by kernel_rfl) (by kernel_rfl) (fun _ _ _ h => h) (Or.inl ⟨by rfl, ?_⟩) (by assumption) ?_; rotate_left 1; (intro w hSw; (try dsimp only at hSw); go_simp; try with_reducible rfl); (try simp only [Act.put, List.getElem_toArray, List.getElem_cons_zero, List.getElem_cons_succ, List.setIfInBounds_toArray, List.set_cons_zero, List.set_cons_succ])
              refine wpAnyH_done (by kernel_rfl) ?_ _
              clear hHeld
              go_wp2_with fail
              go_roundw
              case rel => exact ⟨1, by omega, by go_num, by rw [hnew.out], G, bw⟩
              case measure => simp [intOf]
            · obtain rfl : j = 1 := by omega
              have hji : ¬ (1 : Int) < 1 := by decide
              have hfin := hid (show Pk1 c (bs (pk [c] 1)) 0 from .inl ⟨rfl, ⟨hR1.out, hS1.out⟩, by rw [show (1 : Nat) = [c].length from rfl, pk_all]⟩)
              go_wp2_with fail
              go_ret2
              exact ⟨⟨_, _, rfl, hfin.out⟩, bw.out⟩
end Go.Proofs.Ytldlkoiekdlmhaa.Wi
