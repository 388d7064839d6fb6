/-
  RecordTurned: the walk.
-/
import Derived.Test.YtocoodccobipiaaRecLives
import Derived.Test.YtocoodccobipiaaRecArgs
import Derived.Test.YtocoodccobipiaaRecTurn
import Derived.Test.YtocoodccobipiaaCrcFlp
import Derived.Test.YtocoodccobipiaaSectorCopyRef
namespace Go.Proofs.Ytocoodccobipiaa.recordTurned
open Go.ChangeShapes Go.WideShapes Go.ChangeAt Go.RowKit
open Go.Proofs.Ytocoodccobipiaa.Mem Go.Proofs.Ytocoodccobipiaa.Rec
set_option linter.unusedVariables false
set_option maxRecDepth 100000
theorem row_some {W : World} {base n q cap : Nat} {e : TypeId} {so : Option Addr} {xs : List Value} (h : W.ownsRow base e 1 (.slice so n cap) n xs) (hq : q < n) : ∃ g, so = some ⟨g, 0, none⟩ ∧ base ≤ g := by
  rcases h.2 with ⟨h1, _⟩ | ⟨g, cap', cur, hv, hb, _⟩
  · simp only [Value.slice.injEq] at h1
    omega
  · simp only [Value.slice.injEq] at hv
    exact ⟨g, hv.1, hb⟩
theorem strC_set (L : List ByteArray) (q : Nat) (T : ByteArray) : (strC L).set q (.string T) = strC (L.set q T) := by simp [strC, List.map_set]
set_option maxHeartbeats 4000000 in
theorem walk (f : Fr) (i bit : Int) (w : World) (h : f.has) (wi : (Lit.int .i64 i).wf = true) (wb : (Lit.int .i64 bit).wf = true) : Calls Try.prog 8 #[frV f, .int .i64 i, .int .i64 bit] w fun e w' => e = .returned (.bool true) ∧ Below w.heap.size w w' := by
  have hsec := hid (fun w => secs_any f w h)
  have htn := hid (fun hc => join_turned f (h.okn hc) hc)
  have htl := hid (tail_no f)
  have hsl := hid (sec_len f)
  have hfl := hid (secsL_len f)
  obtain ⟨k, ep, sq, p⟩ := f
  obtain ⟨o0, o1, o2, o3⟩ := h
  dsimp only at o0 o1 o2 o3
  have ho3 := hid o3
  unfold frV
  dsimp only
  clear o0 o1 o2 o3
  have wi' := hid wi
  have wb' := hid wb
  clear wi wb
  go_enter Try.func8, Try.ntmps8
  go_wp2_with fail
  have F0 := Blk.new w [.int .u8 k, .int .u64 ep, .int .u64 sq, .string p] 45
  refine (lives_any _).mono ?_
  rintro e w1 ⟨rfl, b1⟩
  have F1 := F0.below b1 F0.lt
  have hB1 := hid ((show Below w.heap.size w _ from by go_grown).trans (b1.mono (by simp)))
  obtain ⟨c0, c1, c2, c3, cf⟩ := F1.four
  clear F0 F1 b1
  go_wp2_with fail
  refine (hsec.out _).mono ?_
  rintro e w2 ⟨ao, n, cap, hn, rfl, hown, b2⟩
  have hB2 := hid (bt hB1.out b2)
  have hsv := hid (SecTold.strs hown hn)
  have hnh := hid hn
  clear hn c0 c1 c2 c3 cf hB1 b2 hown hsec
  by_cases hc : fchk k p.size = 0
  · have he : sectorsE ⟨k, ep, sq, p⟩ = (secsL ⟨k, ep, sq, p⟩, 0) := by unfold sectorsE; rw [if_pos hc]
    rw [he] at hnh hsv ⊢
    have htn2 := hid (htn.out hc)
    have hl16 : Hid ((secsL ⟨k, ep, sq, p⟩).length * 16 ≤ 140737488355328) := hid (by rw [secsL_len]; have := (fchk_zero hc).2; dsimp only at this ⊢; unfold pcs; omega)
    clear hc he htn
    generalize secsL ⟨k, ep, sq, p⟩ = L at *
    dsimp only at hnh hsv
    have hLl : Hid (L.length = n) := hid hnh.out.symm
    have hnm : n ≤ 9223372036854775807 := by have := hsv.out.len; unfold maxLen at this; have := hLl.out; omega
    clear hnh
    obtain ⟨s, t, rfl⟩ : ∃ s t, L = s :: t := by
      cases L with
      | nil => exact absurd hfl.out (by simp)
      | cons s t => exact ⟨s, t, rfl⟩
    obtain ⟨m, hm⟩ : ∃ m, t.length = m := ⟨_, rfl⟩
    obtain rfl : n = m + 1 := by have := hLl.out; simp only [List.length_cons] at this; omega
    have htm : Hid (t.length = m) := hid hm
    have hsv2 := hsv.out
    rw [← hm] at hsv2
    obtain ⟨tb, toff, rfl, tl1, tl2, tl3, tl4, tl5, tl6⟩ := strs_tail hsv2
    rw [hm] at tl3 tl5
    have htl2 : Hid (∀ j (h : j < t.length), headE t[j].data.toList = (zeroHd, 14)) := hid fun j h => htl.out j (by simpa using h)
    have t5 := hid tl5
    have t6 := hid tl6
    have hm63 : m ≤ 9223372036854775806 := by omega
    clear hsv2 hm hfl hLl tl1 tl2 tl5 tl6 htl tl4 hnm
    by_cases hcap : cap = 1
    · obtain rfl : m = 0 := by omega
      clear t5 t6 htl2
      subst hcap
      go_wp2_with fail
      go_loopw [33] (fun i wr => i = .int .i64 0 ∧ wr = w2) (fun _ _ => 0)
      case atStart => exact ⟨rfl, rfl⟩
      case round =>
        obtain ⟨rfl, hw⟩ := hrel
        replace hw := hw.symm
        subst hw
        have hbw := hid (Below.refl w2.heap.size w2)
        have hbi : Hid (bit ≤ 9223372036854775807) := hid (bounds_i64 wb'.out).2
        by_cases hi0 : i < 0
        · go_wp2_with fail
          go_ret
          exact ⟨rfl, (bt hB2.out hbw.out)⟩
        · by_cases hi1 : (1 : Int) ≤ i
          · go_wp2_with fail
            go_ret
            exact ⟨rfl, (bt hB2.out hbw.out)⟩
          · obtain ⟨q, rfl⟩ : ∃ q : Nat, i = q := ⟨i.toNat, by omega⟩
            have hq : q < (s :: t).length := by have := htm.out; simp only [List.length_cons]; omega
            have hqn : (q : Int) < (1 : Int) := by omega
            have hq0 : ¬ (q : Int) < 0 := by omega
            clear hi0 hi1
            obtain ⟨b, off, cap', hv, _, _, hb, hcc⟩ := (hsv.out.below hbw.out).open (by simp)
            simp only [Value.slice.injEq] at hv
            obtain ⟨hv1, -, -⟩ := hv
            cases hv1
            have x0 := hcc q hq
            have hs64 := hid (hsl.out q hq)
            have htq := hid (fun p hp => htn2.out q p hq hp)
            have hql := hid hq
            clear hcc hb hsl htn2 
            generalize (s :: t)[q] = S at x0 hs64 htq
            clear hq
            go_wp2_with fail
            by_cases hbit : bit < 0 ∨ (S.size : Int) ≤ bit / 8
            · refine (Crc.flip_no S bit _ (by rw [hs64.out]; decide) hbit hbi.out).mono ?_
              rintro e w4 ⟨rfl, rfl⟩
              clear hbit x0
              go_wp2_with fail
              go_ret
              exact ⟨rfl, bt hB2.out hbw.out⟩
            · obtain ⟨pb, rfl⟩ : ∃ pb : Nat, bit = pb := ⟨bit.toNat, by omega⟩
              have hpb : pb / 8 < S.size := by omega
              have hT := hid (htq.out pb (by rw [hs64.out] at hpb; exact hpb))
              refine (Crc.flip_yes S pb _ (by rw [hs64.out]; decide) hpb).mono ?_
              rintro e w4 ⟨rfl, b4⟩
              rw [show (⟨(CrcMath.flip S.data.toList pb).toArray⟩ : ByteArray) = bs (CrcMath.flip S.data.toList pb) from rfl]
              generalize bs (CrcMath.flip S.data.toList pb) = T at hT ⊢
              have hb4 := hid (bt hbw.out b4)
              have hsv4 := hid (hsv.out.below hb4.out)
              have hz4 : Hid (w2.heap.size ≤ w4.heap.size) := hid hb4.out.size
              clear hbit hpb x0 b4 hbw hs64 htq hbi hsv wb' wi'
              obtain ⟨so, sc, W1, hrun, ho1, hb1⟩ := Sector.app_strs (s :: t) _ w4 hsv4.out hl16.out
              have hrun' := hid hrun
              obtain ⟨g, rfl, hg⟩ := row_some ho1 hql.out
              have ho1' := hid ho1
              have hW1 := hid (bt (bt hB2.out hb4.out) hb1)
              have hgw : Hid (w.heap.size ≤ g) := hid (by have := hB2.out.size; have := hz4.out; omega)
              have hnn : Hid ((s :: t).length = 1) := hid (by have := htm.out; simp only [List.length_cons]; omega)
              clear hrun ho1 hb1 hg hsv4 hb4 hz4 hl16
              generalize hL : s :: t = L at *
              generalize hN : L.length = N at hrun' ho1' hql
              have hLN := hid hN
              clear hN
              go_upto_region 19 with (at_builtin; refine Sector.wpList_app rfl (.tmp 64) (.tmp 65) _ _ rfl _ _ _ _ rfl rfl hrun'.out ?_)
              clear hrun'
              have hqN : (q : Int) < (N : Int) := by have := hql.out; omega
              have gq0 : (0 : Int) ≤ (q : Int) := by omega
              have y0 : W1.cell? ⟨g, q, none⟩ = some (.string (L[q]'(by rw [hLN.out]; exact hql.out))) := by
                rw [ho1'.out.cellAt q (by rw [Nat.mul_one]; exact hql.out)]
                have hqL : q < L.length := by rw [hLN.out]; exact hql.out
                rw [← strC_get L q hqL]
                exact List.getElem?_eq_getElem (by rw [strC_len]; exact hqL)
              have yf : W1.frozen? ⟨g, q, none⟩ = false := ho1'.out.frozenAt q
              have hst := hid (ho1'.out.stored q (.string T)).1
              go_wp2_with fail
              have hsj : StrsV (W1.setCell ⟨g, q, none⟩ (.string T)) (.slice (some ⟨g, 0, none⟩) N sc) (L.set q T) := by
                have h1 := SlV.own hst.out
                rw [strC_set] at h1
                unfold StrsV
                rw [List.length_set, hLN.out]
                exact h1
              have hF := hid (hW1.out.setCell (p := ⟨g, q, none⟩) hgw.out (.string T))
              refine (join_any _ _ _ hsj).mono ?_
              rw [hT.out]
              rintro e w6 ⟨rfl, b6⟩
              have hF2 := hid (bt hF.out b6)
              clear b6 hF hsj hst yf y0
              unfold frV zeroFr
              dsimp only
              go_wp2_with fail
              go_ret
              exact ⟨rfl, hF2.out.alloc hF2.out.size _⟩
    · have hts := hid t5.out
      clear t5 t6
      have hcap' : ¬ (cap : Int) = 1 := by omega
      go_wp2_with fail
      go_loopw [33] (fun i wr => ∃ j : Nat, j ≤ m ∧ i = .int .i64 j ∧ Hid (Below w2.heap.size w2 wr)) (fun i _ => m - (intOf i).toNat)
      case atStart => exact ⟨0, by omega, rfl, hid (Below.refl _ _)⟩
      case round =>
        obtain ⟨j, hj, rfl, hbw⟩ := hrel
        by_cases hlt : j < m
        · have hjt : j < t.length := by rw [htm.out]; exact hlt
          obtain ⟨b, off, cap', hv, _, _, hb, hcc⟩ := (hts.out.below hbw.out).open (by rw [htm.out]; omega)
          simp only [Value.slice.injEq] at hv
          obtain ⟨hv1, -, -⟩ := hv
          cases hv1
          have x0 := hcc j hjt
          have hjn : (j : Int) < (m : Int) := by omega
          have hj0 : (0 : Int) ≤ (j : Int) := by omega
          have hhd := hid (htl2.out j hjt)
          clear hcc hb
          go_wp2_with fail
          refine (hd_any _ _).mono ?_
          rw [hhd.out]
          rintro e wq ⟨rfl, bq⟩
          have hbq := hid (bt hbw.out bq)
          have hzq : Hid (w2.heap.size ≤ wq.heap.size) := hid (Nat.le_trans hbw.out.size bq.size)
          clear bq
          unfold hdV zeroHd
          dsimp only
          go_wp2_with fail
          go_roundw
          case rel => exact ⟨j + 1, by omega, by go_num, hid (hbq.out.alloc hzq.out _)⟩
          case measure => simp [intOf]; omega
        · obtain rfl : j = m := by omega
          have hbi : Hid (bit ≤ 9223372036854775807) := hid (bounds_i64 wb'.out).2
          by_cases hi0 : i < 0
          · go_wp2_with fail
            go_ret
            exact ⟨rfl, (bt hB2.out hbw.out)⟩
          · by_cases hi1 : (j + 1 : Int) ≤ i
            · go_wp2_with fail
              go_ret
              exact ⟨rfl, (bt hB2.out hbw.out)⟩
            · obtain ⟨q, rfl⟩ : ∃ q : Nat, i = q := ⟨i.toNat, by omega⟩
              have hq : q < (s :: t).length := by have := htm.out; simp only [List.length_cons]; omega
              have hqn : (q : Int) < (j + 1 : Int) := by omega
              have hq0 : ¬ (q : Int) < 0 := by omega
              clear hi0 hi1
              obtain ⟨b, off, cap', hv, _, _, hb, hcc⟩ := (hsv.out.below hbw.out).open (by simp)
              simp only [Value.slice.injEq] at hv
              obtain ⟨hv1, -, -⟩ := hv
              cases hv1
              have x0 := hcc q hq
              have hs64 := hid (hsl.out q hq)
              have htq := hid (fun p hp => htn2.out q p hq hp)
              have hql := hid hq
              clear hcc hb hsl htn2 
              generalize (s :: t)[q] = S at x0 hs64 htq
              clear hq
              go_wp2_with fail
              by_cases hbit : bit < 0 ∨ (S.size : Int) ≤ bit / 8
              · refine (Crc.flip_no S bit _ (by rw [hs64.out]; decide) hbit hbi.out).mono ?_
                rintro e w4 ⟨rfl, rfl⟩
                clear hbit x0
                go_wp2_with fail
                go_ret
                exact ⟨rfl, bt hB2.out hbw.out⟩
              · obtain ⟨pb, rfl⟩ : ∃ pb : Nat, bit = pb := ⟨bit.toNat, by omega⟩
                have hpb : pb / 8 < S.size := by omega
                have hT := hid (htq.out pb (by rw [hs64.out] at hpb; exact hpb))
                refine (Crc.flip_yes S pb _ (by rw [hs64.out]; decide) hpb).mono ?_
                rintro e w4 ⟨rfl, b4⟩
                rw [show (⟨(CrcMath.flip S.data.toList pb).toArray⟩ : ByteArray) = bs (CrcMath.flip S.data.toList pb) from rfl]
                generalize bs (CrcMath.flip S.data.toList pb) = T at hT ⊢
                have hb4 := hid (bt hbw.out b4)
                have hsv4 := hid (hsv.out.below hb4.out)
                have hz4 : Hid (w2.heap.size ≤ w4.heap.size) := hid hb4.out.size
                clear hbit hpb x0 b4 hbw hs64 htq hbi hsv wb' wi'
                obtain ⟨so, sc, W1, hrun, ho1, hb1⟩ := Sector.app_strs (s :: t) _ w4 hsv4.out hl16.out
                have hrun' := hid hrun
                obtain ⟨g, rfl, hg⟩ := row_some ho1 hql.out
                have ho1' := hid ho1
                have hW1 := hid (bt (bt hB2.out hb4.out) hb1)
                have hgw : Hid (w.heap.size ≤ g) := hid (by have := hB2.out.size; have := hz4.out; omega)
                have hnn : Hid ((s :: t).length = j + 1) := hid (by have := htm.out; simp only [List.length_cons]; omega)
                clear hrun ho1 hb1 hg hsv4 hb4 hz4 hl16
                generalize hL : s :: t = L at *
                generalize hN : L.length = N at hrun' ho1' hql
                have hLN := hid hN
                clear hN
                go_upto_region 19 with (at_builtin; refine Sector.wpList_app rfl (.tmp 64) (.tmp 65) _ _ rfl _ _ _ _ rfl rfl hrun'.out ?_)
                clear hrun'
                have hqN : (q : Int) < (N : Int) := by have := hql.out; omega
                have gq0 : (0 : Int) ≤ (q : Int) := by omega
                have y0 : W1.cell? ⟨g, q, none⟩ = some (.string (L[q]'(by rw [hLN.out]; exact hql.out))) := by
                  rw [ho1'.out.cellAt q (by rw [Nat.mul_one]; exact hql.out)]
                  have hqL : q < L.length := by rw [hLN.out]; exact hql.out
                  rw [← strC_get L q hqL]
                  exact List.getElem?_eq_getElem (by rw [strC_len]; exact hqL)
                have yf : W1.frozen? ⟨g, q, none⟩ = false := ho1'.out.frozenAt q
                have hst := hid (ho1'.out.stored q (.string T)).1
                go_wp2_with fail
                have hsj : StrsV (W1.setCell ⟨g, q, none⟩ (.string T)) (.slice (some ⟨g, 0, none⟩) N sc) (L.set q T) := by
                  have h1 := SlV.own hst.out
                  rw [strC_set] at h1
                  unfold StrsV
                  rw [List.length_set, hLN.out]
                  exact h1
                have hF := hid (hW1.out.setCell (p := ⟨g, q, none⟩) hgw.out (.string T))
                refine (join_any _ _ _ hsj).mono ?_
                rw [hT.out]
                rintro e w6 ⟨rfl, b6⟩
                have hF2 := hid (bt hF.out b6)
                clear b6 hF hsj hst yf y0
                unfold frV zeroFr
                dsimp only
                go_wp2_with fail
                go_ret
                exact ⟨rfl, hF2.out.alloc hF2.out.size _⟩
  · have he : sectorsE ⟨k, ep, sq, p⟩ = ([], fchk k p.size) := by unfold sectorsE; rw [if_neg hc]
    have hq : (fchk k p.size != 0) = true := by simpa using hc
    rw [he] at hnh hsv ⊢
    generalize fchk k p.size = c at hq ⊢
    have hn0 : n = 0 := hnh.out
    clear hc he htn hsv hnh htl hsl hfl
    subst hn0
    go_wp2_with fail
    go_ret
    exact ⟨rfl, hB2.out⟩
end Go.Proofs.Ytocoodccobipiaa.recordTurned
