/-
  lictorlaw12.EvalPatterns: it returns true, of texts that are not too long.
-/
import Derived.Test.YtocibbnenelniaaLikLike
namespace Go.Proofs.Ytocibbnenelniaa.Lik
open Go.ChangeShapes Go.WideShapes Go.ChangeAt Go.RowKit
open Go.Proofs.Ytocibbnenelniaa.Mem
set_option linter.unusedVariables false
set_option linter.unusedSimpArgs false
set_option maxRecDepth 100000
theorem lk (s p : ByteArray) (b : Bool) (w : World) (h : likeB s.data.toList p.data.toList = b) (hs : s.size ≤ 4194304) (hp : p.size ≤ 4194304) (hm : Max w) :
    Calls Try.prog 4 #[.string s, .string p] w fun e w' => e = .returned (.bool b) ∧ Below w.heap.size w w' := by
  have := like_any s.data.toList p.data.toList w (by rw [← Lib.size_eq]; omega) (by rw [← Lib.size_eq]; omega) hm
  rw [← bs_of, ← bs_of, h] at this
  exact this
theorem c_yes (w : World) (hm : Max w) : Calls Try.prog 4 #[.string ⟨#[97, 98]⟩, .string ⟨#[97, 42]⟩] w fun e w' => e = .returned (.bool true) ∧ Below w.heap.size w w' :=
  lk ⟨#[97, 98]⟩ ⟨#[97, 42]⟩ true w like1 (by decide) (by decide) hm
theorem c_no (w : World) (hm : Max w) : Calls Try.prog 4 #[.string ⟨#[97, 98]⟩, .string ⟨#[97, 92, 42]⟩] w fun e w' => e = .returned (.bool false) ∧ Below w.heap.size w w' :=
  lk ⟨#[97, 98]⟩ ⟨#[97, 92, 42]⟩ false w like2 (by decide) (by decide) hm
theorem app_data (s t : ByteArray) : (s ++ t).data.toList = s.data.toList ++ t.data.toList := by simp
theorem app_size (s t : ByteArray) : (s ++ t).size = s.size + t.size := by
  rw [Lib.size_eq, app_data, List.length_append, ← Lib.size_eq, ← Lib.size_eq]
theorem take_more (s : ByteArray) (k : Nat) (h : k < s.size) : s.data.toList.take (k + 1) = s.data.toList.take k ++ [s[k]] := by
  rw [List.take_succ_eq_append_getElem (by rw [← Lib.size_eq]; exact h)]; rfl
theorem one_data (s : ByteArray) (k : Nat) (h : k < s.size) : (s.extract k (k + 1)).data.toList = [s[k]] := by
  rw [Lib.extract_data, drop_one s k h, show k + 1 - k = 1 by omega]
  rfl
set_option maxHeartbeats 4000000 in
theorem patterns_walk (a b c : ByteArray) (w : World) (ha : a.size ≤ 1048576) (hb : b.size ≤ 1048576) (hc : c.size ≤ 1048576) (hm : Max w) :
    Calls Try.prog 3 #[.string a, .string b, .string c] w fun e w' => e = .returned (.bool true) ∧ Below w.heap.size w w' := by
  have hm0 := hid hm
  clear hm
  have hbi : (b.size : Int) ≤ 1048576 := by omega
  go_enter Try.func3, Try.ntmps3
  go_wp2_with fail
  refine (c_yes _ hm0.out).mono ?_
  rintro e w1 ⟨rfl, b1⟩
  have hm1 := hid (hm0.out.below b1)
  have B1 := hid b1
  clear b1
  go_wp2_with fail
  refine (c_no _ hm1.out).mono ?_
  rintro e w2 ⟨rfl, b2⟩
  have hm2 := hid (hm1.out.below b2)
  have B2 := hid (bt B1.out b2)
  clear b2 hm1 B1
  go_wp2_with fail
  go_loop [7, 8] (fun pv iv => ∃ (k : Nat) (pl : ByteArray), k ≤ b.size ∧ iv = .int .i64 k ∧ pv = .string pl ∧ Hid (pl.data.toList = bare (b.data.toList.take k))) (fun _ iv => b.size - (intOf iv).toNat)
  case atStart => exact ⟨0, ⟨#[]⟩, Nat.zero_le _, rfl, rfl, hid (by simp [bare])⟩
  case round =>
    obtain ⟨k, pl, hk, rfl, rfl, hP⟩ := hrel
    have hpz : pl.size ≤ k := by
      rw [Lib.size_eq, hP.out]
      refine Nat.le_trans (bare_len _) ?_
      simp; omega
    by_cases hlt : k < b.size
    · have hki : (k : Int) < b.size := by omega
      have hk0 : (0 : Int) ≤ (k : Int) := by omega
      have htk := hid (take_more b k hlt)
      have hone := hid (one_data b k hlt)
      by_cases h1 : b[k] = 42
      · have h1i : ((b[k].toNat : Int) != 42) = false := by rw [h1]; rfl
        have hP2 := hid (show pl.data.toList = bare (b.data.toList.take (k + 1)) from by rw [htk.out, bare_snoc, hP.out, h1]; simp)
        clear h1
        go_wp2
        go_round
        case rel => exact ⟨k + 1, pl, by omega, by go_num, rfl, hP2⟩
        case measure => simp [intOf]; omega
      · have h1i : ((b[k].toNat : Int) != 42) = true := by
          rw [bne_iff_ne]
          intro q
          exact h1 (UInt8.toNat_inj.1 (by simpa using (Int.ofNat.inj q : b[k].toNat = 42)))
        by_cases h2 : b[k] = 92
        · have h2i : ((b[k].toNat : Int) != 92) = false := by rw [h2]; rfl
          have hP2 := hid (show pl.data.toList = bare (b.data.toList.take (k + 1)) from by rw [htk.out, bare_snoc, hP.out, h2]; simp)
          clear h1 h2
          go_wp2
          go_round
          case rel => exact ⟨k + 1, pl, by omega, by go_num, rfl, hP2⟩
          case measure => simp [intOf]; omega
        · have h2i : ((b[k].toNat : Int) != 92) = true := by
            rw [bne_iff_ne]
            intro q
            exact h2 (UInt8.toNat_inj.1 (by simpa using (Int.ofNat.inj q : b[k].toNat = 92)))
          have hP2 := hid (show (pl ++ b.extract k (k + 1)).data.toList = bare (b.data.toList.take (k + 1)) from by rw [app_data, hone.out, htk.out, bare_snoc, hP.out, if_pos ⟨h1, h2⟩])
          have hsum : pl.size + (min (k + 1) b.size - k) ≤ 9223372036854775807 := by omega
          have z1 : (k : Int) + 1 ≤ b.size := by omega
          have z2 : ((k : Int) + 1).toNat = k + 1 := by omega
          have z3 : (0 : Int) ≤ (k : Int) + 1 := by omega
          have z4 : (k : Int) ≤ (k : Int) + 1 := by omega
          clear h1 h2
          go_wp2
          go_round
          case rel => exact ⟨k + 1, _, by omega, by go_num, rfl, hP2⟩
          case measure => simp [intOf]; omega
    · have hke : k = b.size := by omega
      have hB := hid (show Bare pl.data.toList from by rw [hP.out]; exact bare_bare _)
      have hki : (b.size : Int) ≤ k := by omega
      have hpb : pl.size ≤ 1048576 := by omega
      clear hP hke
      have s1 : a.size + pl.size ≤ 9223372036854775807 := by omega
      have s2 : a.size + pl.size + c.size ≤ 9223372036854775807 := by omega
      have s3 : 1 + pl.size ≤ 9223372036854775807 := by omega
      have s4 : 1 + pl.size + 1 ≤ 9223372036854775807 := by omega
      have s5 : pl.size + c.size ≤ 9223372036854775807 := by omega
      have s6 : pl.size + 2 ≤ 9223372036854775807 := by omega
      have s7 : 1 + a.size ≤ 9223372036854775807 := by omega
      have k1 := hid (show likeB (a ++ pl ++ c).data.toList (((⟨#[42]⟩ : ByteArray) ++ pl) ++ ⟨#[42]⟩).data.toList = true from by
        rw [app_data, app_data, app_data, app_data]
        exact like_stars _ _ _ hB.out)
      have k2 := hid (like_self pl.data.toList hB.out)
      have k3 := hid (like_star a.data.toList)
      have k4 := hid (like_plain a.data.toList pl.data.toList hB.out)
      have k5 := hid (show likeB (pl ++ c).data.toList (pl ++ ⟨#[42, 42]⟩).data.toList = true from by
        rw [app_data, app_data]
        exact like_two _ _ hB.out)
      have k6 := hid (show likeB ((⟨#[42]⟩ : ByteArray) ++ a).data.toList [92, 42, 42] = true from by
        rw [app_data]
        exact like_esc_star _)
      have e1 : ((a.toList == pl.toList) : Bool) = (a.data.toList == pl.data.toList) := by rw [Lib.toList_data, Lib.toList_data]
      obtain ⟨t, ht⟩ : ∃ t, (a.toList == pl.toList) = t := ⟨_, rfl⟩
      have k7 := hid (show likeB a.data.toList pl.data.toList = t from by rw [k4.out, ← e1, ht])
      have ht' := hid ht
      clear e1 k4 ht
      go_wp2_with fail
      refine (lk _ _ true _ k1.out (by rw [app_size, app_size]; omega) (by rw [app_size, app_size]; show 1 + pl.size + 1 ≤ _; omega) hm2.out).mono ?_
      rintro e w3 ⟨rfl, b3⟩
      have hm3 := hid (hm2.out.below b3)
      have B3 := hid (bt B2.out b3)
      clear b3 hm2 B2
      go_wp2_with fail
      refine (lk _ _ true _ k2.out (by omega) (by omega) hm3.out).mono ?_
      rintro e w4 ⟨rfl, b4⟩
      have hm4 := hid (hm3.out.below b4)
      have B4 := hid (bt B3.out b4)
      clear b4 hm3 B3
      go_wp2_with fail
      refine (lk _ _ true _ k3.out (by omega) (by decide) hm4.out).mono ?_
      rintro e w5 ⟨rfl, b5⟩
      have hm5 := hid (hm4.out.below b5)
      have B5 := hid (bt B4.out b5)
      clear b5 hm4 B4
      go_wp2_with fail
      refine (lk _ _ t _ k7.out (by omega) (by omega) hm5.out).mono ?_
      rintro e w6 ⟨rfl, b6⟩
      have hm6 := hid (hm5.out.below b6)
      have B6 := hid (bt B5.out b6)
      have ht := ht'.out
      clear b6 hm5 B5 k7 ht'
      cases t
      all_goals go_wp2_with fail
      all_goals
        clear ht
        refine (lk _ _ true _ k5.out (by rw [app_size]; omega) (by rw [app_size]; show pl.size + 2 ≤ _; omega) hm6.out).mono ?_
        rintro e w7 ⟨rfl, b7⟩
        have hm7 := hid (hm6.out.below b7)
        have B7 := hid (bt B6.out b7)
        clear b7 hm6 B6
        go_wp2_with fail
        refine (lk _ _ true _ k6.out (by rw [app_size]; show 1 + a.size ≤ _; omega) (by decide) hm7.out).mono ?_
        rintro e w8 ⟨rfl, b8⟩
        have B8 := hid (bt B7.out b8)
        clear b8 hm7 B7
        go_wp2
        go_ret
        exact ⟨rfl, B8.out⟩
end Go.Proofs.Ytocibbnenelniaa.Lik
