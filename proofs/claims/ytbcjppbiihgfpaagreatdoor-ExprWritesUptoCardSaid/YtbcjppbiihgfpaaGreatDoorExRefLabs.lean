/-
  lictorref08.labels: its contract.
-/
import Derived.Test.YtbcjppbiihgfpaaGreatDoorExRefText
namespace Go.Proofs.YtbcjppbiihgfpaaGreatDoor.Ex
open Go.ChangeShapes Go.WideShapes Go.ChangeAt Go.RowKit
open Go.Proofs.YtbcjppbiihgfpaaGreatDoor.Mem
set_option linter.unusedVariables false
set_option linter.unusedSimpArgs false
set_option maxRecDepth 100000
set_option maxHeartbeats 8000000 in
theorem labels_any (l : List ByteArray) (v : Value) (w : World) (h : StrsV w v l) (hz : ∀ y ∈ l, y.size ≤ 140737488355328) :
    Calls Tryz.prog 127 #[v] w fun e w' => e = .returned (.bool (namesB l)) ∧ Below w.heap.size w w' := by
  have hl : l.length ≤ 9223372036854775807 := by have := SlV.len h; unfold maxLen at this; omega
  obtain ⟨ao, cap, rfl, hcap, _⟩ := h.form
  have cM := hid (fun (s : ByteArray) (hs : s ∈ l) W => label_any s W (hz s hs))
  have h' := hid h
  have i2 : (l.length : Int) ≤ 9223372036854775807 := by omega
  have i3 : (l.length : Int) ≤ (cap : Int) := by omega
  have hR := hid (namesAt_zero l)
  generalize namesB l = R at hR ⊢
  obtain ⟨n, hn⟩ : ∃ n, l.length = n := ⟨_, rfl⟩
  rw [hn] at i2 i3 hl hcap ⊢
  replace hn := hid hn
  clear h hz
  go_enter Tryz.func127, Tryz.ntmps127
  go_wp2_with fail
  go_loopw [3, 4, 6, 9] (fun q3 q4 q6 i wr => ∃ k : Nat, k ≤ n ∧ i = .int .i64 k ∧ Hid (R = namesAt l k) ∧ Hid (Below w.heap.size w wr)) (fun _ _ _ i _ => n - (intOf i).toNat)
  case atStart => exact ⟨0, by omega, rfl, hid hR.out.symm, hid (Below.refl _ _)⟩
  case round =>
    obtain ⟨k, hk, rfl, hr, bw⟩ := hrel
    rename_i wr _
    by_cases hkl : k < n
    · have hki : (k : Int) < (n : Int) := by omega
      have hkc : (k : Int) ≤ (cap : Int) := by omega
      have hkl2 : k < l.length := by have := hn.out; omega
      obtain ⟨xb, xo, xc, e, -, -, -, hc⟩ := (h'.out.below bw.out).open (by omega)
      rw [hn.out] at e
      simp only [Value.slice.injEq] at e
      obtain ⟨rfl, -, rfl⟩ := e
      have xf := hc k hkl2
      have hst := hid (hr.out.trans (namesAt_step l k hkl2))
      have dM := hid (cM.out l[k] (List.getElem_mem hkl2))
      have hyes := hid (fun (j : Nat) (hj : j < k) (y : ByteArray) => hasB_yes (l.take k) y j (by rw [List.length_take]; omega))
      generalize l[k] = y at xf hst dM
      generalize nmB y = mb at hst dM
      replace hyes := hid (fun (j : Nat) (hj : j < k) => hyes.out j hj y)
      have htk := hid (show l.take k = l.take k from rfl)
      have hstp := hid (fun (j : Nat) (hj : j < k) => hasB_take l y j (by omega))
      have hgt := hid (fun (j : Nat) (hj : j < k) => (List.getElem_take (xs := l) (j := k) (i := j) (h := by rw [List.length_take]; omega)))
      clear hc hr
      cases mb with
      | false =>
        have hfin := hid (show R = false by rw [hst.out]; rfl)
        clear hst hyes hstp hgt
        go_wp2_with fail
        refine (dM.out _).mono ?_
        rintro e w1 ⟨rfl, b1⟩
        replace bw := hid (bt bw.out b1)
        clear b1 dM xf
        go_wp2_with fail
        go_ret
        exact ⟨by rw [hfin.out]; rfl, bw.out⟩
      | true =>
        go_wp2_with fail
        refine (dM.out _).mono ?_
        rintro e w1 ⟨rfl, b1⟩
        replace bw := hid (bt bw.out b1)
        clear b1 dM xf
        go_wp2_with fail
        go_loopw [6, 21] (fun q i wr => ∃ j : Nat, j ≤ k ∧ i = .int .i64 j ∧ Hid (hasB (l.take j) y = false) ∧ Hid (Below w.heap.size w wr)) (fun _ i _ => k - (intOf i).toNat)
        case atStart => exact ⟨0, by omega, rfl, hid rfl, bw⟩
        case round =>
          obtain ⟨j, hj, rfl, hno, bw2⟩ := hrel
          by_cases hjk : j < k
          · have hji : (j : Int) < (k : Int) := by omega
            have hjl : j < l.length := by omega
            obtain ⟨xb2, xo2, xc2, e2, -, -, -, hc2⟩ := (h'.out.below bw2.out).open (by omega)
            simp only [Value.slice.injEq] at e2
            obtain ⟨e2, -, -⟩ := e2
            injection e2 with e2
            injection e2 with e2 e3 e4
            subst e2 e3
            have xf2 := hc2 j hjl
            have hstep := hid (hstp.out j hjk)
            have hyes2 := hid (show (l[j].toList == y.toList) = true → hasB (l.take k) y = true from fun hh => hyes.out j hjk (by rw [hgt.out j hjk]; exact hh))
            generalize l[j] = z at xf2 hstep hyes2
            clear hc2
            cases hb : (z.toList == y.toList) with
            | true =>
              have hall := hid (hyes2.out hb)
              have hfin := hid (show R = false by rw [hst.out, hall.out]; rfl)
              clear hstep hyes2 hno hst hall
              go_wp2_with fail
              go_ret
              exact ⟨by rw [hfin.out]; rfl, bw2.out⟩
            | false =>
              have hno2 := hid (show hasB (l.take (j + 1)) y = false by rw [hstep.out, hno.out, hb]; rfl)
              clear hstep hyes2 hno hst
              go_wp2_with fail
              go_roundw
              case rel => exact ⟨j + 1, by omega, by go_num, hno2, bw2⟩
              case measure => simp [intOf]; omega
          · have hji : ¬ (j : Int) < (k : Int) := by omega
            obtain rfl : j = k := by omega
            replace hst := hid (show R = namesAt l (j + 1) by rw [hst.out, hno.out]; simp)
            clear hno hyes hstp hgt
            go_wp2_with fail
            go_roundw
            case rel => exact ⟨j + 1, by omega, by go_num, hst, bw2⟩
            case measure => simp [intOf]; omega
    · have hki : ¬ (k : Int) < (n : Int) := by omega
      have hfin := hid (show R = true by rw [hr.out]; exact namesAt_end l k (by have := hn.out; omega))
      clear hr
      go_wp2_with fail
      go_ret
      exact ⟨by rw [hfin.out]; rfl, bw.out⟩
end Go.Proofs.YtbcjppbiihgfpaaGreatDoor.Ex
