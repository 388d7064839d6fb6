/-
  expr.textRight, nameRight, slices.Contains at []string: contracts.
-/
import Derived.Test.YtbcjppbiihgfpaaGreatDoorExNode
import Derived.Test.YtbcjppbiihgfpaaGreatDoorEvOrc
import Derived.Test.YtbcjppbiihgfpaaGreatDoorValTold
namespace Go.Proofs.YtbcjppbiihgfpaaGreatDoor.Ex
open Go.ChangeShapes Go.WideShapes Go.ChangeAt Go.RowKit
open Go.Proofs.YtbcjppbiihgfpaaGreatDoor.Mem
set_option linter.unusedVariables false
set_option linter.unusedSimpArgs false
set_option maxRecDepth 100000
/-- what a call finds -/
structure Sta (w : World) : Prop where
  ml : ∃ m, w.cell? ⟨5, 0, none⟩ = some (.int .i64 m)
  laid : Ev.Laid w
theorem Sta.below {w w' : World} (h : Sta w) (b : Below w.heap.size w w') : Sta w' :=
  ⟨by obtain ⟨m, hm⟩ := h.ml; exact ⟨m, (b.cell (World.block_lt_of_cell? _ _ hm)).trans hm⟩, h.laid.below b⟩
theorem Sta.tabs {w : World} (h : Sta w) : Tok.Tabs w := h.laid.tabs
theorem check_tx (s : ByteArray) : (Tok.checkE s == 0) = txB s := by
  unfold Tok.checkE txB Nam.utfB
  cases Lib.validD s.data.toList with
  | true =>
    rw [if_pos rfl, Bool.true_and]
    by_cases h : 256 < s.size
    · rw [if_pos h, decide_eq_false (by omega)]; rfl
    · rw [if_neg h, decide_eq_true (by omega)]; rfl
  | false => rfl
theorem uid_ud (t s : ByteArray) : (Nam.uidE t s == 0) = uidB t s := by
  unfold Nam.uidE uidB
  cases Nam.typeB t with
  | false => rfl
  | true =>
    cases Nam.utfB s with
    | false => rfl
    | true =>
      by_cases h : 64 < s.size
      · simp [h]
      · simp [h, show s.size ≤ 64 by omega]
set_option maxHeartbeats 4000000 in
theorem text_any (s : ByteArray) (w : World) (hs : s.size ≤ 140737488355328) (hw : Sta w) :
    Calls Tryz.prog 117 #[.string s] w fun e w' => e = .returned (.bool (txB s)) ∧ Below w.heap.size w w' := by
  have hq := hid (Tok.quote_any Ev.valid_told s w hs hw.tabs)
  have hR := hid (check_tx s).symm
  generalize (if Tok.checkE s = 0 then Tok.quoteL s.data.toList else []) = q at hq
  generalize txB s = R at *
  generalize Tok.checkE s = c at *
  clear hs hw
  go_enter Tryz.func117, Tryz.ntmps117
  go_wp2_with fail
  refine hq.out.mono ?_
  rintro e w1 ⟨rfl, b1⟩
  have b1 := hid b1
  clear hq
  go_wp2_with fail
  go_ret
  exact ⟨by rw [hR.out]; rfl, b1.out⟩
set_option maxHeartbeats 4000000 in
theorem nameRight_any (s : ByteArray) (w : World) (hs : s.size ≤ 140737488355328) (hw : Sta w) :
    Calls Tryz.prog 121 #[.string s] w fun e w' => e = .returned (.bool (nmB s)) ∧ Below w.heap.size w w' := by
  have hq := hid (text_any s w hs hw)
  have hR := hid (show nmB s = (!decide (s.size = 0) && (decide (s.size ≤ 64) && txB s)) from rfl)
  have h0 := size_beq s
  have hsi : (s.size : Int) ≤ 140737488355328 := by omega
  generalize nmB s = R at *
  generalize txB s = tb at *
  clear hs hw
  by_cases he : s.size = 0
  · rw [decide_eq_true he] at h0 hR
    clear hq he
    go_enter Tryz.func121, Tryz.ntmps121
    go_wp2_with fail
    go_ret
    exact ⟨by rw [hR.out]; rfl, Below.refl _ _⟩
  · rw [decide_eq_false he] at h0 hR
    by_cases h1 : s.size ≤ 64
    · have h1i : (s.size : Int) ≤ 64 := by omega
      rw [decide_eq_true h1] at hR
      clear he h1
      go_enter Tryz.func121, Tryz.ntmps121
      go_wp2_with fail
      refine hq.out.mono ?_
      rintro e w1 ⟨rfl, b1⟩
      have b1 := hid b1
      clear hq
      go_wp2_with fail
      go_ret
      exact ⟨by rw [hR.out]; rfl, b1.out⟩
    · have h1i : ¬ (s.size : Int) ≤ 64 := by omega
      rw [decide_eq_false h1] at hR
      clear he h1 hq
      go_enter Tryz.func121, Tryz.ntmps121
      go_wp2_with fail
      go_ret
      exact ⟨by rw [hR.out]; rfl, Below.refl _ _⟩
set_option maxHeartbeats 4000000 in
theorem names_any (l : List ByteArray) (v : Value) (w : World) (h : StrsV w v l) (hz : ∀ y ∈ l, y.size ≤ 140737488355328) (hw : Sta w) :
    Calls Tryz.prog 120 #[v] w fun e w' => e = .returned (.bool (namesB l)) ∧ Below w.heap.size w w' := by
  have hl : l.length ≤ 9223372036854775807 := by have := SlV.len h; unfold maxLen at this; omega
  obtain ⟨ao, cap, rfl, hcap, _⟩ := h.form
  have cM := hid (fun (s : ByteArray) (hs : s ∈ l) W (b : Below w.heap.size w W) => nameRight_any s W (hz s hs) (hw.below b))
  have cC := hid (fun (k : Nat) (hk : k ≤ l.length) (s : ByteArray) W (b : Below w.heap.size w W) => contains_any (l.take k) (.slice (if k = 0 ∧ False then none else ao) k cap) s W (by
    obtain ⟨ao', cap', h1, h2, h3, h4, h5, h6⟩ := h.below b
    simp only [Value.slice.injEq] at h1
    obtain ⟨rfl, -, rfl⟩ := h1
    have hlen : (l.take k).length = k := by rw [List.length_take]; omega
    refine ⟨ao, cap, by rw [hlen]; simp, by rw [hlen]; omega, h3, h4, fun e => ?_, fun a ha j hj => ?_⟩
    · rw [hlen] at e; subst e; rfl
    · have hj2 : j < l.length := by rw [strC_len, hlen] at hj; omega
      rw [h6 a ha j (by rw [strC_len]; exact hj2), strC_get l j hj2, strC_get _ j (by rw [strC_len] at hj; exact hj), List.getElem_take]))
  simp only [and_false, if_false] at cC
  have h' := hid h
  have i2 : (l.length : Int) ≤ 9223372036854775807 := by omega
  have i3 : (l.length : Int) ≤ (cap : Int) := by omega
  have hR := hid (namesAt_zero l)
  generalize namesB l = R at hR ⊢
  obtain ⟨n, hn⟩ : ∃ n, l.length = n := ⟨_, rfl⟩
  rw [hn] at i2 i3 hl cC hcap ⊢
  replace hn := hid hn
  clear h hz hw
  go_enter Tryz.func120, Tryz.ntmps120
  go_wp2_with fail
  go_loopw [3, 4, 7] (fun q3 q4 i wr => ∃ k : Nat, k ≤ n ∧ i = .int .i64 k ∧ Hid (R = namesAt l k) ∧ Hid (Below w.heap.size w wr)) (fun _ _ i _ => n - (intOf i).toNat)
  case atStart => exact ⟨0, by omega, rfl, hid hR.out.symm, hid (Below.refl _ _)⟩
  case round =>
    obtain ⟨k, hk, rfl, hr, bw⟩ := hrel
    rename_i wr _
    by_cases hkl : k < n
    · have hki : (k : Int) < (n : Int) := by omega
      have hkc : (k : Int) ≤ (cap : Int) := by omega
      have hkl2 : k < l.length := by have := hn.out; omega
      obtain ⟨xb, xo, xc, e, -, -, -, hc⟩ := (h'.out.below bw.out).open (by omega)
      rw [hn.out] at e
      simp only [Value.slice.injEq] at e
      obtain ⟨rfl, -, rfl⟩ := e
      have xf := hc k hkl2
      have hst := hid (hr.out.trans (namesAt_step l k hkl2))
      have dM := hid (cM.out l[k] (List.getElem_mem hkl2))
      have dC := hid (cC.out k hk l[k])
      generalize l[k] = y at xf hst dM dC
      generalize nmB y = mb at hst dM
      generalize hasB (l.take k) y = hb at hst dC
      clear hc hr
      cases mb with
      | false =>
        have hfin := hid (show R = false by rw [hst.out]; rfl)
        clear hst dC
        go_wp2_with fail
        refine (dM.out _ bw.out).mono ?_
        rintro e w1 ⟨rfl, b1⟩
        replace bw := hid (bt bw.out b1)
        clear b1 dM xf
        go_wp2_with fail
        go_ret
        exact ⟨by rw [hfin.out]; rfl, bw.out⟩
      | true =>
        cases hb with
        | true =>
          have hfin := hid (show R = false by rw [hst.out]; rfl)
          clear hst
          go_wp2_with fail
          refine (dM.out _ bw.out).mono ?_
          rintro e w1 ⟨rfl, b1⟩
          replace bw := hid (bt bw.out b1)
          clear b1 dM xf
          go_wp2_with fail
          refine (dC.out _ bw.out).mono ?_
          rintro e w2 ⟨rfl, b2⟩
          replace bw := hid (bt bw.out b2)
          clear b2 dC
          go_wp2_with fail
          go_ret
          exact ⟨by rw [hfin.out]; rfl, bw.out⟩
        | false =>
          replace hst := hid (show R = namesAt l (k + 1) by rw [hst.out]; simp)
          go_wp2_with fail
          refine (dM.out _ bw.out).mono ?_
          rintro e w1 ⟨rfl, b1⟩
          replace bw := hid (bt bw.out b1)
          clear b1 dM xf
          go_wp2_with fail
          refine (dC.out _ bw.out).mono ?_
          rintro e w2 ⟨rfl, b2⟩
          replace bw := hid (bt bw.out b2)
          clear b2 dC
          go_wp2_with fail
          go_roundw
          case rel => exact ⟨k + 1, by omega, by go_num, hst, bw⟩
          case measure => simp [intOf]; omega
    · have hki : ¬ (k : Int) < (n : Int) := by omega
      have hfin := hid (show R = true by rw [hr.out]; exact namesAt_end l k (by have := hn.out; omega))
      clear hr
      go_wp2_with fail
      go_ret
      exact ⟨by rw [hfin.out]; rfl, bw.out⟩
end Go.Proofs.YtbcjppbiihgfpaaGreatDoor.Ex
