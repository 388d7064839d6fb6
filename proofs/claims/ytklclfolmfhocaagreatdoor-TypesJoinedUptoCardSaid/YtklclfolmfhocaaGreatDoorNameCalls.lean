/-
  value.Name, TypeName, and the document's: contracts.
-/
import Derived.Test.YtklclfolmfhocaaGreatDoorRows
import Derived.Test.YtklclfolmfhocaaGreatDoorNameMath
import Derived.Test.YtklclfolmfhocaaGreatDoorMem
import Derived.WalkKit
import Derived.ProofKit
import Derived.OpenShut
import Derived.Handy
import Derived.Outline
namespace Go.Proofs.YtklclfolmfhocaaGreatDoor.Nam
open Go.ChangeShapes Go.WideShapes Go.ChangeAt Go.RowKit
open Go.Proofs.YtklclfolmfhocaaGreatDoor.Mem
set_option linter.unusedVariables false
set_option linter.unusedSimpArgs false
set_option maxRecDepth 100000
theorem dig_any (b : Nat) (w : World) : Calls Tryz.prog 147 #[.int .u8 (b : Nat)] w fun e w' => e = .returned (.bool (dig b)) ∧ w' = w := by
  have hd := hid (show dig b = (decide ((48 : Int) ≤ (b : Int)) && decide ((b : Int) ≤ 57)) by unfold dig; congr 1 <;> (rw [decide_eq_decide]; omega))
  by_cases h1 : (48 : Int) ≤ (b : Int) <;> by_cases h2 : (b : Int) ≤ 57
  all_goals
    go_enter Tryz.func147, Tryz.ntmps147
    go_wp2_with fail
    go_ret
    refine ⟨?_, rfl⟩
    rw [hd.out]
    simp [h1, h2]
theorem ltr_any (b : Nat) (w : World) : Calls Tryz.prog 149 #[.int .u8 (b : Nat)] w fun e w' => e = .returned (.bool (ltr b)) ∧ w' = w := by
  have hd := hid (show ltr b = ((decide ((65 : Int) ≤ (b : Int)) && decide ((b : Int) ≤ 90)) || (decide ((97 : Int) ≤ (b : Int)) && decide ((b : Int) ≤ 122))) by unfold ltr; congr 1 <;> congr 1 <;> (rw [decide_eq_decide]; omega))
  by_cases h1 : (65 : Int) ≤ (b : Int) <;> by_cases h2 : (b : Int) ≤ 90 <;> by_cases h3 : (97 : Int) ≤ (b : Int) <;> by_cases h4 : (b : Int) ≤ 122
  all_goals
    go_enter Tryz.func149, Tryz.ntmps149
    go_wp2_with fail
    go_ret
    refine ⟨?_, rfl⟩
    rw [hd.out]
    simp [h1, h2, h3, h4]
theorem res_any (s : ByteArray) (w : World) : Calls Tryz.prog 148 #[.string s] w fun e w' => e = .returned (.bool (decide (s.data.toList ∈ wordsL))) ∧ w' = w := by
  go_enter Tryz.func148, Tryz.ntmps148
  go_wp2_with fail
  all_goals
    simp only [ByteArray.toList_eq, beq_iff_eq, beq_eq_false_iff_ne] at *
    first
      | contradiction
      | (go_ret
         refine ⟨?_, rfl⟩
         simp_all [wordsL])
set_option maxHeartbeats 1000000 in
theorem name_any (s : ByteArray) (w : World) (hs : s.size ≤ 140737488355328) : Calls Tryz.prog 111 #[.string s] w fun e w' => e = .returned (.bool (nameB s)) ∧ w' = w := by
  have hr := hid (fun W => res_any s W)
  have hsi : (s.size : Int) ≤ 140737488355328 := by omega
  by_cases h0 : s.size = 0
  · have hn := hid (nameB_nil h0)
    have e0 : (s.toList == []) = true := by rw [ByteArray.toList_eq, nil_of h0]; rfl
    clear h0
    go_enter Tryz.func111, Tryz.ntmps111
    go_wp2_with fail
    go_ret
    exact ⟨by rw [hn.out]; rfl, rfl⟩
  · have e0 : (s.toList == []) = false := by
      rw [ByteArray.toList_eq, beq_eq_false_iff_ne]
      intro e
      exact h0 (show s.data.toList.length = 0 by rw [e]; rfl)
    have hp : 0 < s.size := by omega
    have hpi : (0 : Int) < (s.size : Int) := by omega
    by_cases h1 : 64 < s.size
    · have hn := hid (nameB_long h1)
      have h1i : (64 : Int) < (s.size : Int) := by omega
      clear h0 h1
      go_enter Tryz.func111, Tryz.ntmps111
      go_wp2_with fail
      go_ret
      exact ⟨by rw [hn.out]; rfl, rfl⟩
    · have h1i : ¬ (64 : Int) < (s.size : Int) := by omega
      have hd := hid (fun W => dig_any s[0].toNat W)
      have hyes := hid (fun h2 h3 h4 => nameB_yes hp (Nat.le_of_not_lt h1) h2 h3 h4)
      have hno := hid (fun h => nameB_dig (s := s) hp h)
      have hb := hid (fun (i : Nat) (hi : i < s.size) W => dig_any s[i].toNat W)
      have hl := hid (fun (i : Nat) (hi : i < s.size) W => ltr_any s[i].toNat W)
      clear h0
      go_enter Tryz.func111, Tryz.ntmps111
      go_wp2_with fail
      refine (hd.out _).mono ?_
      rintro e w1 ⟨rfl, rfl⟩
      generalize s[0].toNat = b0 at hyes hno ⊢
      clear hd
      cases hd : dig b0 with
      | true =>
        have hn := hid (hno.out hd)
        clear hyes hno hd
        go_wp2_with fail
        go_ret
        exact ⟨by rw [hn.out]; rfl, rfl⟩
      | false =>
        replace hyes := hid (fun h2 h4 => hyes.out h2 hd h4)
        clear hno hd
        go_wp2_with fail
        refine (hr.out _).mono ?_
        rintro e w1 ⟨rfl, rfl⟩
        clear hr
        by_cases h2 : s.data.toList ∈ wordsL
        · have hn := hid (nameB_res h2)
          rw [decide_eq_true h2]
          clear hyes h2
          go_wp2_with fail
          go_ret
          exact ⟨by rw [hn.out]; rfl, rfl⟩
        · replace hyes := hid (fun h4 => hyes.out h2 h4)
          rw [decide_eq_false h2]
          clear h2
          go_wp2_with fail
          go_loop [22] (fun i => ∃ k : Nat, k ≤ s.size ∧ i = .int .i64 k ∧ Hid (∀ j (h : j < s.size), j < k → chr s[j].toNat = true)) (fun i => s.size - (intOf i).toNat)
          case atStart => exact ⟨0, by omega, rfl, hid (fun j _ h => absurd h (by omega))⟩
          case round =>
            obtain ⟨k, hk, rfl, hall⟩ := hrel
            by_cases hlt : k < s.size
            · have hki : (k : Int) < (s.size : Int) := by omega
              have hbk := hid (hb.out k hlt)
              have hlk := hid (hl.out k hlt)
              have hno := hid (fun h => nameB_chr (i := k) hlt h)
              have hall2 := hid (show chr s[k].toNat = true → ∀ j (h : j < s.size), j < k + 1 → chr s[j].toNat = true from fun hc j h hj => by
                by_cases e : j = k
                · subst e; exact hc
                · exact hall.out j h (by omega))
              have hx := hid (show chr s[k].toNat = (dig s[k].toNat || ltr s[k].toNat || decide (((s[k].toNat : Nat) : Int) = 95)) by unfold chr; congr 1; rw [decide_eq_decide]; omega)
              obtain ⟨b, hbq⟩ : ∃ b, s[k].toNat = b := ⟨_, rfl⟩
              rw [hbq] at hbk hlk hno hall2 hx
              clear hb hl hyes hall
              go_wp2_with fail
              refine (hbk.out _).mono ?_
              rintro e w2 ⟨rfl, rfl⟩
              clear hbk
              cases hd : dig b with
              | true =>
                have hc := hid (hall2.out (by rw [hx.out, hd]; rfl))
                clear hall2 hno hx hlk
                go_wp2_with fail
                go_round
                case rel => exact ⟨k + 1, by omega, by go_num, hc⟩
                case measure => simp [intOf]; omega
              | false =>
                rw [hd] at hx
                go_wp2_with fail
                refine (hlk.out _).mono ?_
                rintro e w2 ⟨rfl, rfl⟩
                clear hlk
                cases hl : ltr b with
                | true =>
                  have hc := hid (hall2.out (by rw [hx.out, hl]; rfl))
                  clear hall2 hno hx
                  go_wp2_with fail
                  go_round
                  case rel => exact ⟨k + 1, by omega, by go_num, hc⟩
                  case measure => simp [intOf]; omega
                | false =>
                  rw [hl] at hx
                  by_cases h95 : (b : Int) = 95
                  · have hc := hid (hall2.out (by rw [hx.out]; simp [h95]))
                    have e95 : ((b : Int) != 95) = false := by simp [h95]
                    clear hall2 hno hx h95
                    go_wp2_with fail
                    go_round
                    case rel => exact ⟨k + 1, by omega, by go_num, hc⟩
                    case measure => simp [intOf]; omega
                  · have hn := hid (hno.out (by rw [hx.out]; simp [h95]))
                    have e95 : ((b : Int) != 95) = true := by simp [h95]
                    clear hall2 hno hx
                    go_wp2_with fail
                    go_ret
                    exact ⟨by rw [hn.out]; rfl, rfl⟩
            · have hki : ¬ (k : Int) < (s.size : Int) := by omega
              have hn := hid (hyes.out (fun i hi => hall.out i hi (by omega)))
              clear hyes hall hb hl
              go_wp2_with fail
              go_ret
              exact ⟨by rw [hn.out]; rfl, rfl⟩
/-! ### the document's -/
def wordsB : List ByteArray := wordsL.map fun l => ⟨l.toArray⟩
theorem wordsB_mem {s : ByteArray} {k : Nat} (hk : k < 19) (h : (wordsB[k]'hk).toList = s.toList) : s.data.toList ∈ wordsL := by
  rw [ByteArray.toList_eq, ByteArray.toList_eq] at h
  rw [← h]
  have : (wordsB[k]'hk).data.toList = wordsL[k]'hk := by simp [wordsB]; rfl
  rw [this]
  exact List.getElem_mem _
theorem wordsB_not {s : ByteArray} (h : ∀ k (hk : k < 19), (wordsB[k]'hk).toList ≠ s.toList) : s.data.toList ∉ wordsL := by
  intro hm
  obtain ⟨k, hk, he⟩ := List.getElem_of_mem hm
  refine h k hk ?_
  rw [ByteArray.toList_eq, ByteArray.toList_eq, ← he]
  simp [wordsB]
def Inv (s : ByteArray) (k : Nat) : Prop := (∀ j (h : j < s.size), j < k → chr s[j].toNat = true) ∧ (0 < k → ∀ h : 0 < s.size, dig s[0].toNat = false)
theorem Inv.succ {s : ByteArray} {k b : Nat} (h : Inv s k) (hk : k < s.size) (hb : s[k].toNat = b) (hc : 65 ≤ b ∧ b ≤ 90 ∨ 97 ≤ b ∧ b ≤ 122 ∨ b = 95 ∨ (48 ≤ b ∧ b ≤ 57 ∧ k ≠ 0)) : Inv s (k + 1) := by
  refine ⟨fun j hj hjk => ?_, fun _ h0 => ?_⟩
  · by_cases e : j = k
    · subst e
      rw [hb]
      unfold chr dig ltr
      simp
      omega
    · exact h.1 j hj (by omega)
  · by_cases e : k = 0
    · subst e
      rw [hb]
      unfold dig
      simp
      omega
    · exact h.2 (by omega) h0
theorem Inv.stop {s : ByteArray} {k b : Nat} (hk : k < s.size) (hb : s[k].toNat = b) (hc : ¬ (65 ≤ b ∧ b ≤ 90 ∨ 97 ≤ b ∧ b ≤ 122 ∨ b = 95 ∨ (48 ≤ b ∧ b ≤ 57 ∧ k ≠ 0))) : nameB s = false := by
  by_cases hd : 48 ≤ b ∧ b ≤ 57
  · obtain rfl : k = 0 := by omega
    exact nameB_dig hk (by rw [hb]; unfold dig; simp [hd])
  · refine nameB_chr hk ?_
    rw [hb]
    unfold chr dig ltr
    simp
    omega
end Go.Proofs.YtklclfolmfhocaaGreatDoor.Nam
