/-
  eval.Like: its contract.
-/
import Derived.Test.YtocibbnenelniaaLikBetween
namespace Go.Proofs.Ytocibbnenelniaa.Lik
open Go.ChangeShapes Go.WideShapes Go.ChangeAt Go.RowKit
open Go.Proofs.Ytocibbnenelniaa.Mem
set_option linter.unusedVariables false
set_option linter.unusedSimpArgs false
set_option maxRecDepth 100000
/-- what strings.Cut reads of memory -/
def Max (w : World) : Prop := ∃ m : Int, w.cell? ⟨0, 0, none⟩ = some (.int .i64 m)
theorem Max.below {w w' : World} (h : Max w) (b : Below w.heap.size w w') : Max w' := by
  obtain ⟨m, h⟩ := h
  exact ⟨m, cell_below b _ _ h⟩
theorem below_drewN (w : World) : ∀ n, Below w.heap.size w (w.drewN n) := fun n => ⟨rfl, rfl, rfl, Nat.le_refl _, fun _ _ => rfl⟩
theorem bs_data (l : By) : (bs l).data.toList = l := by simp [bs]
theorem bs_size (l : By) : (bs l).size = l.length := by simp [bs, ByteArray.size]
theorem bs_of (s : ByteArray) : s = bs s.data.toList := by simp [bs]
theorem cutp_any (s t : By) (w : World) : Calls Try.prog 6 #[.string (bs s), .string (bs t)] w fun e w' => e = .returned (.tuple #[.string (bs (Lib.trimPrefix s t)), .bool (Lib.hasPrefix s t)]) ∧ w = w' := by
  refine (Try.strings_CutPrefix (bs s) (bs t) w).mono ?_
  rintro e w' ⟨rfl, rfl⟩
  rw [bs_data, bs_data]
  exact ⟨rfl, rfl⟩
theorem cut_any (s t : By) (w : World) (h : Max w) (hs : s.length < 4294967281) : Calls Try.prog 7 #[.string (bs s), .string (bs t)] w fun e w' => e = .returned (.tuple #[.string (bs (Lib.cut s t).1), .string (bs (Lib.cut s t).2.1), .bool (Lib.cut s t).2.2]) ∧ Below w.heap.size w w' := by
  obtain ⟨m, hm⟩ := h
  refine (Try.strings_Cut (bs s) (bs t) m w (by rw [bs_size]; exact hs) hm).mono ?_
  rintro e w' ⟨rfl, n, rfl⟩
  rw [bs_data, bs_data]
  exact ⟨rfl, below_drewN w n⟩
theorem suf_any (s t : By) (w : World) (hs : s.length ≤ 9223372036854775807) : Calls Try.prog 8 #[.string (bs s), .string (bs t)] w fun e w' => e = .returned (.bool (Lib.hasSuffix s t)) ∧ w = w' := by
  refine (Try.strings_HasSuffix (bs s) (bs t) w (by rw [bs_size]; exact hs)).mono ?_
  rintro e w' ⟨rfl, rfl⟩
  rw [bs_data, bs_data]
  exact ⟨rfl, rfl⟩
theorem trim_len (s t : By) : (Lib.trimPrefix s t).length ≤ s.length := by
  unfold Lib.trimPrefix
  split
  · simp
  · exact Nat.le_refl _
theorem cut_len (s t : By) : (Lib.cut s t).2.1.length ≤ s.length := by
  unfold Lib.cut
  split
  · simp
  · simp
theorem mids_snoc (s : By) (l : List By) (t : Bool) (h : l ≠ []) : mids s l t = if t then mids (Lib.cut s (l.head h)).2.1 l.tail (Lib.cut s (l.head h)).2.2 else (s, false) := by
  cases l with
  | nil => exact absurd rfl h
  | cons m l => cases t <;> simp [mids]
theorem bs_eq (a b : By) : ((bs a).toList == (bs b).toList) = (a == b) := by
  rw [Lib.toList_data, Lib.toList_data, bs_data, bs_data]
theorem likeL_one (s t : By) : likeL s [t] = (s == t) := rfl
theorem likeL_more (s : By) (ts : List By) (h : 1 < ts.length) : likeL s ts = ((mids (Lib.trimPrefix s (ts[0]'(by omega))) ((ts.drop 1).take (ts.length - 2)) (Lib.hasPrefix s (ts[0]'(by omega)))).2 && Lib.hasSuffix (mids (Lib.trimPrefix s (ts[0]'(by omega))) ((ts.drop 1).take (ts.length - 2)) (Lib.hasPrefix s (ts[0]'(by omega)))).1 (ts[ts.length - 1]'(by omega))) := by
  match ts, h with
  | t :: u :: r, h =>
    simp only [likeL, List.getElem_cons_zero, List.drop_succ_cons, List.drop_zero, List.length_cons]
    have e : (u :: r).getLastD [] = (t :: u :: r)[r.length + 1 + 1 - 1]'(by simp) := by
      rw [List.getLastD_eq_getLast?, List.getLast?_eq_getElem?]
      simp
    rw [e]
    rfl
/-- what is kept from round to round of the middle texts -/
structure Mid (s0 : By) (ts : List By) (m : Nat) (t0 : Bool) (s : By) (t : Bool) (wr : World) (w2 : World) : Prop where
  said : mids s (((ts.drop 1).take (ts.length - 2)).drop m) t = mids (Lib.trimPrefix s0 (ts.headD [])) ((ts.drop 1).take (ts.length - 2)) t0
  short : s.length ≤ s0.length
  below : Below w2.heap.size w2 wr
set_option maxHeartbeats 4000000 in
theorem like_any (s p : By) (w : World) (hs : s.length < 4294967281) (hp : p.length ≤ 4194304) (hm : Max w) :
    Calls Try.prog 4 #[.string (bs s), .string (bs p)] w fun e w' => e = .returned (.bool (likeB s p)) ∧ Below w.heap.size w w' := by
  have hbt := hid (between_any (bs p) w (by rw [bs_size]; exact hp))
  have hlen := hid (btw_len p.length p [] (Nat.le_refl _))
  have hne := hid (btw_ne p.length p [] (Nat.le_refl _))
  have hl := hid (show likeB s p = likeL s (btw p []) from rfl)
  have hm' := hid hm
  clear hm
  rw [hl.out]
  clear hl
  rw [bs_data] at hbt
  generalize btw p [] = ts at *
  have hp2 : ts.length ≤ 4194305 := by have := hlen.out; omega
  have hs2 := hid hs
  have hne2 := hne.out
  clear hs hlen
  go_enter Try.func4, Try.ntmps4
  go_wp2_with fail
  refine hbt.out.mono ?_
  rintro e w2 ⟨v, rfl, hrow, hb⟩
  have hV := hid (SlV.own hrow)
  have hb' := hid hb
  have hm2 := hid (hm'.out.below hb)
  obtain ⟨b, off, cap, rfl, hcap, hcm, hblt, hcell⟩ := StrsV.open (l := ts.map bs) (show StrsV w2 v (ts.map bs) from by unfold StrsV; rw [List.length_map]; exact hV.out) (by rw [List.length_map]; exact hne2)
  rw [List.length_map] at hcap ⊢
  have hcell2 : Hid (∀ j (h : j < ts.length), w2.cell? ⟨b, off + j, none⟩ = some (.string (bs ts[j]))) := hid (fun j h => by have := hcell j (by rw [List.length_map]; exact h); simpa using this)
  clear hcell hrow hb hV hbt
  have hc0 := hcell2.out 0 hne2
  rw [Nat.add_zero] at hc0
  have hcapi : (ts.length : Int) ≤ cap := by omega
  have hpi : (ts.length : Int) ≤ 4194305 := by omega
  have hnei : (0 : Int) < ts.length := by omega
  unfold maxLen at hcm
  by_cases h1 : ts.length = 1
  · have hl1 : Hid (likeL s ts = (s == ts[0])) := hid (by
      obtain ⟨t, rfl⟩ := List.length_eq_one_iff.1 h1
      rfl)
    have h1i : ((ts.length : Int) - 1 == 0) = true := by rw [h1]; rfl
    have hbe := hid (bs_eq s ts[0])
    generalize bs ts[0] = y at hc0 hbe
    generalize bs s = x at hbe ⊢
    clear h1
    go_wp2
    go_ret
    refine ⟨?_, hb'.out⟩
    rw [hl1.out, ← hbe.out]; rfl
  · obtain ⟨n2, hn2⟩ : ∃ n2, ts.length = n2 + 2 := ⟨ts.length - 2, by omega⟩
    have h1i : ((ts.length : Int) - 1 == 0) = false := by rw [hn2]; rw [beq_eq_false_iff_ne]; omega
    have hn := hid hn2
    have hx1 : (1 : Int) ≤ ((ts.length - 1 : Nat) : Int) := by omega
    have hx2 : ¬ cap = 1 := by omega
    clear hn2 h1
    go_wp2_with fail
    refine (cutp_any _ _ _).mono ?_
    rintro e w' ⟨rfl, rfl⟩
    have hfin := hid (likeL_more s ts (by omega))
    have hx3 : ts.length - 2 = n2 := by have := hn.out; omega
    have hx4 : ts.length - 1 - 1 = n2 := by have := hn.out; omega
    have hx5 := hid (show ts.length - 1 = n2 + 1 from by have := hn.out; omega)
    have hx3' := hid hx3
    have hx4' := hid hx4
    have hn0 : (n2 : Int) ≤ 4194305 := by have := hn.out; omega
    clear hx3 hx4
    go_wp2_with fail
    rw [hx4'.out]
    have hmidl := hid (show ((ts.drop 1).take (ts.length - 2)).length = n2 from by have := hn.out; simp; omega)
    have hmid := hid (show ∀ j (h : j < n2), ((ts.drop 1).take (ts.length - 2)).drop j = ts[j + 1]'(by have := hn.out; omega) :: ((ts.drop 1).take (ts.length - 2)).drop (j + 1) from fun j h => by
      rw [List.drop_eq_getElem_cons (by rw [hmidl.out]; exact h)]
      congr 1
      simp [Nat.add_comm])
    rw [hx3'.out] at hfin hmid hmidl
    have hends := hid (fun (x : By) (t : Bool) (h : mids (Lib.trimPrefix s ts[0]) ((ts.drop 1).take n2) (Lib.hasPrefix s ts[0]) = (x, t)) => show likeL s ts = (t && Lib.hasSuffix x (ts[ts.length - 1]'(by omega))) from by rw [hfin.out, h])
    generalize hMX : mids (Lib.trimPrefix s ts[0]) ((ts.drop 1).take n2) (Lib.hasPrefix s ts[0]) = M at hends
    have hMX' := hid hMX
    have hshort := hid (trim_len s ts[0])
    clear hMX hfin
    generalize Lib.trimPrefix s ts[0] = s1 at *
    generalize Lib.hasPrefix s ts[0] = t1 at *
    have hMid : Hid (mids s1 (((ts.drop 1).take n2).drop 0) t1 = M ∧ s1.length ≤ s.length ∧ Below w2.heap.size w2 w2) := hid ⟨hMX'.out, hshort.out, Below.refl _ _⟩
    clear hMX' hshort
    go_loopw [0, 7, 34] (fun sv tv jv wr => ∃ (x : By) (t : Bool) (j : Nat), j ≤ n2 ∧ sv = .string (bs x) ∧ tv = .bool t ∧ jv = .int .i64 j ∧ Hid (mids x (((ts.drop 1).take n2).drop j) t = M ∧ x.length ≤ s.length ∧ Below w2.heap.size w2 wr)) (fun _ _ j _ => n2 - (intOf j).toNat)
    case atStart => exact ⟨s1, t1, 0, Nat.zero_le _, rfl, rfl, rfl, hMid⟩
    case round =>
      obtain ⟨x, t, j, hj, rfl, rfl, rfl, hI⟩ := hrel
      clear hMid
      by_cases hlt : j < n2
      · have hji : (j : Int) < n2 := by omega
        have hj0 : (0 : Int) ≤ (j : Int) := by omega
        have hcj : wr.cell? ⟨b, off + 1 + j, none⟩ = some (.string (bs (ts[j + 1]'(by have := hn.out; omega)))) := by
          have := cell_below hI.out.2.2 _ _ (hcell2.out (j + 1) (by have := hn.out; omega))
          rw [show off + (j + 1) = off + 1 + j by omega] at this
          exact this
        have hd := hid (hmid.out j hlt)
        clear hc0
        cases t with
        | false =>
          have hz := hid (show M = (x, false) from by rw [← hI.out.1, mids_false])
          go_wp2
          go_ret
          refine ⟨?_, hb'.out.trans (hI.out.2.2.mono hb'.out.size)⟩
          rw [hends.out x false hz.out]
          rfl
        | true =>
          have hmx := hid (hm2.out.below hI.out.2.2)
          go_wp2_with fail
          refine (cut_any _ _ _ hmx.out (by have := hI.out.2.1; have := hs2.out; omega)).mono ?_
          rintro e w3 ⟨rfl, b3⟩
          have hI2 := hid (show mids (Lib.cut x (ts[j + 1]'(by have := hn.out; omega))).2.1 (((ts.drop 1).take n2).drop (j + 1)) (Lib.cut x (ts[j + 1]'(by have := hn.out; omega))).2.2 = M ∧ (Lib.cut x (ts[j + 1]'(by have := hn.out; omega))).2.1.length ≤ s.length ∧ Below w2.heap.size w2 w3 from
            ⟨by rw [← hI.out.1, hd.out]; simp [mids], Nat.le_trans (cut_len _ _) hI.out.2.1, bt hI.out.2.2 b3⟩)
          clear b3 hcj
          go_wp2
          go_roundw
          case rel => exact ⟨_, _, j + 1, by omega, rfl, rfl, by go_num, hI2⟩
          case measure => simp [intOf]; omega
      · have hje : j = n2 := by omega
        have hlast := hid (cell_below hI.out.2.2 _ _ (hcell2.out (ts.length - 1) (by omega)))
        have hz := hid (show M = (x, t) from by rw [← hI.out.1, List.drop_eq_nil_of_le (by rw [hmidl.out]; omega)]; rfl)
        have hji : (n2 : Int) ≤ j := by omega
        have hy1 : ((ts.length : Int) - 1).toNat = ts.length - 1 := by omega
        have hy2 : (0 : Int) ≤ (ts.length : Int) - 1 := by omega
        have hy3 : (ts.length : Int) - 1 < ts.length := by omega
        have hl2 := hlast.out
        clear hje hc0
        cases t with
        | false =>
          go_wp2
          go_ret
          refine ⟨?_, hb'.out.trans (hI.out.2.2.mono hb'.out.size)⟩
          rw [hends.out x false hz.out]
          rfl
        | true =>
          go_wp2_with fail
          refine (suf_any _ _ _ (by have := hI.out.2.1; have := hs2.out; omega)).mono ?_
          rintro e w' ⟨rfl, rfl⟩
          go_wp2
          go_ret
          refine ⟨?_, hb'.out.trans (hI.out.2.2.mono hb'.out.size)⟩
          rw [hends.out x true hz.out]
          rfl
end Go.Proofs.Ytocibbnenelniaa.Lik
