/-
  A record's names: contracts of the closures over them, of slices.ContainsFunc and rising at them, of namesRight.
-/
import Derived.Test.YtdjgkbpfmonebaaGreatDoorValRise
import Derived.Test.YtdjgkbpfmonebaaGreatDoorUtfCalls
namespace Go.Proofs.YtdjgkbpfmonebaaGreatDoor.Val
open Go.ChangeShapes Go.WideShapes Go.ChangeAt Go.RowKit
open Go.Proofs.YtdjgkbpfmonebaaGreatDoor.Mem Go.Proofs.YtdjgkbpfmonebaaGreatDoor.Nam
set_option linter.unusedVariables false
set_option linter.unusedSimpArgs false
set_option maxRecDepth 100000
/-- the tables of utf8, as start-up lays them -/
def Tabs (w : World) : Prop := Lib.Utf8Tabs 0 1 w
theorem Tabs.below {w w' : World} (h : Tabs w) (b : Below w.heap.size w w') : Tabs w' := Utf8Tabs_below h b
def wrongB (s : ByteArray) : Bool := decide (s.size = 0) || (decide (64 < s.size) || !utfB s)
theorem empty_eq (s : ByteArray) (h : s.size = 0) : s = ⟨#[]⟩ := by
  obtain ⟨⟨l⟩⟩ := s
  have : l = [] := List.eq_nil_of_length_eq_zero h
  subst this; rfl
theorem empty_beq (s : ByteArray) (h : s.size = 0) : (s.toList == []) = true := by rw [empty_eq s h, ByteArray.toList_eq]; rfl
theorem empty_bne (s : ByteArray) (h : s.size ≠ 0) : (s.toList == []) = false := by
  rw [beq_eq_false_iff_ne, ByteArray.toList_eq]
  intro e
  apply h
  show s.data.size = 0
  rw [← Array.length_toList, e]; rfl
set_option maxHeartbeats 4000000 in
theorem wrong_any (hV : ValidTold) (s : ByteArray) (w : World) (hs : s.size ≤ 140737488355328) (hT : Tabs w) :
    Calls Tryz.prog 123 #[.string s] w fun e w' => e = .returned (.bool (wrongB s)) ∧ Below w.heap.size w w' := by
  have hv := hid (fun W (b : Below w.heap.size w W) => hV s W hs (hT.below b))
  have hsi : (s.size : Int) ≤ 140737488355328 := by omega
  obtain ⟨R, hR⟩ : ∃ R, wrongB s = R := ⟨_, rfl⟩
  rw [hR]
  have hR' := hid hR
  clear hR hT
  go_enter Tryz.func123, Tryz.ntmps123
  by_cases h0 : s.size = 0
  · have e0 := empty_beq s h0
    have hn := hid (show R = true by rw [← hR'.out]; unfold wrongB; rw [decide_eq_true h0]; rfl)
    clear hR' h0
    go_wp2_with fail
    go_ret
    exact ⟨by rw [hn.out]; rfl, Below.refl _ _⟩
  · have e0 := empty_bne s h0
    by_cases h1 : 64 < s.size
    · have h1i : (64 : Int) < (s.size : Int) := by omega
      have hn := hid (show R = true by rw [← hR'.out]; unfold wrongB; rw [decide_eq_true h1]; simp)
      clear hR' h0 h1
      go_wp2_with fail
      go_ret
      exact ⟨by rw [hn.out]; rfl, Below.refl _ _⟩
    · have h1i : ¬ (64 : Int) < (s.size : Int) := by omega
      have hn := hid (show R = !utfB s by rw [← hR'.out]; unfold wrongB; rw [decide_eq_false h0, decide_eq_false h1]; rfl)
      clear hR' h0 h1
      go_wp2_with fail
      refine (hv.out _ (Below.refl _ _)).mono ?_
      rintro e w1 ⟨rfl, b1⟩
      go_wp2_with fail
      go_ret
      exact ⟨by rw [hn.out]; rfl, b1⟩
set_option maxHeartbeats 4000000 in
theorem index_names (hV : ValidTold) (l : List ByteArray) (v : Value) (w : World) (h : StrsV w v l) (hz : ∀ y ∈ l, y.size ≤ 140737488355328) (hT : Tabs w) :
    Calls Tryz.prog 163 #[v, .func (Fn.func 123) #[] #[]] w fun e w' => ∃ n : Int, e = .returned (.int .i64 n) ∧ (decide (0 ≤ n) = l.any wrongB) ∧ Below w.heap.size w w' := by
  obtain ⟨ao, cap, rfl, h2, h3⟩ := h.form
  unfold maxLen at h3
  by_cases h0 : l.length = 0
  · have hl : l = [] := List.eq_nil_of_length_eq_zero h0
    subst hl
    clear h h0
    go_enter Tryz.func163, Tryz.ntmps163
    go_wp2_with fail
    go_rounds 1
    go_ret
    exact ⟨-1, rfl, rfl, Below.refl _ _⟩
  · obtain ⟨b, off, cap', hv, _, _, hb, hc⟩ := h.open (by omega)
    simp only [Value.slice.injEq] at hv
    obtain ⟨rfl, _, rfl⟩ := hv
    have hc2 := hid hc
    have hz2 := hid hz
    have hT2 := hid hT
    have hw := hid (fun s W => wrong_any hV s W)
    clear hc h hz hT hV
    go_enter Tryz.func163, Tryz.ntmps163
    go_wp2_with fail
    go_loopw [8] (fun i wr => ∃ j : Nat, j ≤ l.length ∧ i = .int .i64 j ∧ Hid ((l.take j).any wrongB = false) ∧ Hid (Below w.heap.size w wr)) (fun i _ => l.length - (intOf i).toNat)
    case atStart => exact ⟨0, by omega, rfl, hid rfl, hid (Below.refl _ _)⟩
    case round =>
      obtain ⟨j, hj, rfl, hno, bw⟩ := hrel
      rename_i wr _
      by_cases hlt : j < l.length
      · have hcell := (bw.out.cell (p := ⟨b, off + j, none⟩) hb).trans (hc2.out j hlt)
        have hp := hid (hw.out l[j] wr (hz2.out _ (List.getElem_mem hlt)) (hT2.out.below bw.out))
        have hyes := hid (show wrongB l[j] = true → l.any wrongB = true from fun ho => by rw [List.any_eq_true]; exact ⟨_, List.getElem_mem hlt, ho⟩)
        have hnot := hid (show wrongB l[j] = false → (l.take (j + 1)).any wrongB = false from fun ho => by rw [List.take_succ_eq_append_getElem hlt, List.any_append, hno.out]; simp [ho])
        generalize l[j] = z at hcell hp hyes hnot
        clear hno
        go_wp2_with fail
        refine hp.out.mono ?_
        rintro e w1 ⟨rfl, b1⟩
        replace bw := hid (bt bw.out b1)
        clear hp b1 hcell
        cases ho : wrongB z with
        | true =>
          have hfin := hid (hyes.out ho)
          clear ho hyes hnot
          go_wp2_with fail
          go_ret
          exact ⟨j, rfl, by rw [hfin.out]; simp, bw.out⟩
        | false =>
          have hno2 := hid (hnot.out ho)
          clear ho hyes hnot
          go_wp2_with fail
          go_roundw
          case rel => exact ⟨j + 1, by omega, by go_num, hno2, bw⟩
          case measure => simp [intOf]; omega
      · obtain rfl : j = l.length := by omega
        have hno2 := hid (show l.any wrongB = false by have := hno.out; rw [List.take_length] at this; exact this)
        clear hno
        go_wp2_with fail
        go_ret
        exact ⟨-1, rfl, by rw [hno2.out]; rfl, bw.out⟩
theorem contains_names (hV : ValidTold) (l : List ByteArray) (v : Value) (w : World) (h : StrsV w v l) (hz : ∀ y ∈ l, y.size ≤ 140737488355328) (hT : Tabs w) :
    Calls Tryz.prog 124 #[v, .func (Fn.func 123) #[] #[]] w fun e w' => e = .returned (.bool (l.any wrongB)) ∧ Below w.heap.size w w' := by
  have hp := hid (index_names hV l v w h hz hT)
  clear h hz hT hV
  go_enter Tryz.func124, Tryz.ntmps124
  go_wp2_with fail
  refine hp.out.mono ?_
  rintro e w1 ⟨n, rfl, hn, hb1⟩
  have hn2 := hid hn
  clear hn
  go_wp2_with fail
  go_ret
  refine ⟨?_, hb1⟩
  rw [← hn2.out]; rfl
theorem less_any (a b : ByteArray) (w : World) : Calls Tryz.prog 126 #[.string a, .string b] w fun e w' => e = .returned (.bool (Op.bytesLess a.toList b.toList)) ∧ w' = w := by
  go_enter Tryz.func126, Tryz.ntmps126
  go_wp2_with fail
  go_ret
  exact ⟨rfl, rfl⟩
def riseS : List ByteArray → Bool
  | x :: y :: r => Op.bytesLess x.toList y.toList && riseS (y :: r)
  | _ => true
theorem riseS_step (l : List ByteArray) (j : Nat) (h : j + 1 < l.length) : riseS (l.drop j) = (Op.bytesLess l[j].toList l[j + 1].toList && riseS (l.drop (j + 1))) := by
  rw [List.drop_eq_getElem_cons (show j < l.length by omega), List.drop_eq_getElem_cons h, riseS]
theorem riseS_end (l : List ByteArray) (j : Nat) (h : l.length ≤ j + 1) : riseS (l.drop j) = true := by
  have hl : (l.drop j).length ≤ 1 := by rw [List.length_drop]; omega
  match l.drop j, hl with
  | [], _ => rfl
  | [_], _ => rfl
set_option maxHeartbeats 4000000 in
theorem risingS_any (l : List ByteArray) (v : Value) (w : World) (h : StrsV w v l) :
    Calls Tryz.prog 125 #[v, .func (Fn.func 126) #[] #[]] w fun e w' => e = .returned (.bool (riseS l)) ∧ Below w.heap.size w w' := by
  have hl : l.length ≤ 9223372036854775807 := by have := SlV.len h; unfold maxLen at this; omega
  have hli : (l.length : Int) ≤ 9223372036854775807 := by omega
  have h' := hid h
  obtain ⟨ao, cap, rfl, _, _⟩ := h.form
  clear h
  obtain ⟨R, hR⟩ : ∃ R, riseS l = R := ⟨_, rfl⟩
  rw [hR]
  replace hR := hid hR
  go_enter Tryz.func125, Tryz.ntmps125
  go_wp2_with fail
  go_loopw [5] (fun i wr => ∃ j : Nat, j ≤ l.length ∧ i = .int .i64 ((j : Int) + 1) ∧ Hid (R = riseS (l.drop j)) ∧ Hid (Below w.heap.size w wr)) (fun i _ => l.length + 1 - (intOf i).toNat)
  case atStart => exact ⟨0, by omega, rfl, hid (by rw [← hR.out]; rfl), hid (Below.refl _ _)⟩
  case round =>
    obtain ⟨j, hj, rfl, hr, bw⟩ := hrel
    rename_i wr _
    by_cases hlt : j + 1 < l.length
    · have hji : (j : Int) + 1 < (l.length : Int) := by omega
      have hst := hid (hr.out.trans (riseS_step l j hlt))
      clear hr
      obtain ⟨xb, xo, xc, e, -, -, -, hc⟩ := (h'.out.below bw.out).open (by omega)
      simp only [Value.slice.injEq] at e
      obtain ⟨rfl, -, -⟩ := e
      have xf := hc j (by omega)
      have yf := hc (j + 1) hlt
      clear hc
      have hcl := hid (fun W => less_any l[j] l[j + 1] W)
      generalize l[j] = zx at *
      generalize l[j + 1] = zy at *
      generalize Op.bytesLess zx.toList zy.toList = bz at hcl hst
      have e1 : (j : Int) + 1 - 1 = (j : Int) := by omega
      have e2 : IntKind.i64.wrap ((j : Int) + 1 - 1) = (j : Int) := by rw [e1, IntWalk.i64_in _ (by omega)]
      have e7 : IntKind.i64.wrap (j : Int) = (j : Int) := by rw [IntWalk.i64_in _ (by omega)]
      have e3 : ((j : Int) + 1).toNat = j + 1 := by omega
      have e4 : (0 : Int) ≤ (j : Int) + 1 := by omega
      have e5 : (j : Int) < (l.length : Int) := by omega
      have e6 : (0 : Int) ≤ (j : Int) := by omega
      go_wp2_with fail
      go_region_held3 (fun W => W.cell? ⟨xb, xo + j, none⟩ = some (.string zx) ∧ W.cell? ⟨xb, xo + (j + 1), none⟩ = some (.string zy)) (exact ⟨xf, yf⟩) (first
        | (go_at_call 126; (with_reducible refine (hcl.out _).mono ?_); rintro e w1 ⟨rfl, rfl⟩))
      replace bw := hid (bt bw.out ((Below.refl _ wr).drew))
      clear xf yf hcl
      cases bz with
      | true =>
        rw [Bool.true_and] at hst
        go_wp2_with fail
        go_roundw
        case rel => exact ⟨j + 1, by omega, by go_num, hst, bw⟩
        case measure => simp [intOf]; omega
      | false =>
        have hn := hid (show R = false by rw [hst.out]; rfl)
        clear hst
        go_wp2_with fail
        go_ret
        exact ⟨by rw [hn.out]; rfl, bw.out⟩
    · have hji : ¬ (j : Int) + 1 < (l.length : Int) := by omega
      have hn := hid (hr.out.trans (riseS_end l j (by omega)))
      clear hr
      go_wp2_with fail
      go_ret
      exact ⟨by rw [hn.out]; rfl, bw.out⟩
def namesB (l : List ByteArray) : Bool := !l.any wrongB && riseS l
set_option maxHeartbeats 4000000 in
theorem names_any (hV : ValidTold) (l : List ByteArray) (v : Value) (w : World) (h : StrsV w v l) (hz : ∀ y ∈ l, y.size ≤ 140737488355328) (hT : Tabs w) :
    Calls Tryz.prog 80 #[v] w fun e w' => e = .returned (.bool (namesB l)) ∧ Below w.heap.size w w' := by
  have hc := hid (fun W (b : Below w.heap.size w W) => contains_names hV l v W (h.below b) hz (hT.below b))
  have hr := hid (fun W (b : Below w.heap.size w W) => risingS_any l v W (h.below b))
  obtain ⟨ao, cap, rfl, _, _⟩ := h.form
  clear h hz hT hV
  obtain ⟨R, hR⟩ : ∃ R, namesB l = R := ⟨_, rfl⟩
  rw [hR]
  replace hR := hid hR
  go_enter Tryz.func80, Tryz.ntmps80
  go_wp2_with fail
  refine (hc.out _ (Below.refl _ _)).mono ?_
  rintro e w1 ⟨rfl, b1⟩
  replace b1 := hid b1
  clear hc
  cases ha : l.any wrongB with
  | true =>
    have hn := hid (show R = false by rw [← hR.out]; unfold namesB; rw [ha]; rfl)
    clear ha hR
    go_wp2_with fail
    go_ret
    exact ⟨by rw [hn.out]; rfl, b1.out⟩
  | false =>
    have hn := hid (show R = riseS l by rw [← hR.out]; unfold namesB; rw [ha]; rfl)
    clear ha hR
    go_wp2_with fail
    refine (hr.out _ b1.out).mono ?_
    rintro e w2 ⟨rfl, b2⟩
    replace b1 := hid (bt b1.out b2)
    clear b2
    go_wp2_with fail
    go_ret
    exact ⟨by rw [hn.out]; rfl, b1.out⟩
end Go.Proofs.YtdjgkbpfmonebaaGreatDoor.Val
