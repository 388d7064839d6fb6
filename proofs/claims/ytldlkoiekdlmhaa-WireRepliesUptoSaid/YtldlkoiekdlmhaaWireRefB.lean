/-
  wire's calls: contracts. Written by wip/wiretopgen.py.
-/
import Derived.Test.YtldlkoiekdlmhaaWireRefA
namespace Go.Proofs.Ytldlkoiekdlmhaa.Wi
open Go.ChangeShapes Go.WideShapes Go.ChangeAt Go.RowKit
open Go.Proofs.Ytldlkoiekdlmhaa.Mem
open Go.Proofs.Ytldlkoiekdlmhaa.Lik (Kept)
open Go.Proofs.Ytldlkoiekdlmhaa.Crc hiding hid bt
set_option linter.unusedVariables false
set_option linter.unusedSimpArgs false
set_option maxRecDepth 100000
/-- what some answers -/
def SmA (B : Nat) (s : ByteArray) (e : Ending) (w' : World) : Prop := ∃ so cap l r ok, e = .returned (.tuple #[.slice so l.length cap, .string r, .bool ok]) ∧ w'.ownsRow B 9 1 (.slice so l.length cap) l.length (strC l) ∧ (ok = true ∧ pL s.data.toList = some (l, r.data.toList) ∨ ok = false ∧ so = none ∧ cap = 0 ∧ l = [] ∧ r = ⟨#[]⟩ ∧ pL s.data.toList = none)
theorem pTs_step {m : Nat} {r r2 x : ByteArray} (h : pT r.data.toList = some (x, r2.data.toList)) : pTs (m + 1) r.data.toList = (pTs m r2.data.toList).map fun y => (x :: y.1, y.2) := by
  show pBind pT (fun s => pBind (pTs m) fun l => pRet (s :: l)) _ = _
  rw [pBind_of h]
  unfold pBind pRet
  cases pTs m r2.data.toList <;> rfl
theorem pTs_stop {m : Nat} {r : List UInt8} (h : pT r = none) : pTs (m + 1) r = none := by
  show pBind pT (fun s => pBind (pTs m) fun l => pRet (s :: l)) _ = _
  unfold pBind
  rw [h]
set_option maxHeartbeats 8000000 in
theorem some_ref (s : ByteArray) (w : World) (hs : s.size ≤ 16777216) : Calls Try.prog 30 #[.string s] w fun e w' => SmA w.heap.size s e w' ∧ Below w.heap.size w w' := by
  obtain ⟨i0, z0, hi, hz0, rfl, hz1, hz2, hz3⟩ := info_st
  by_cases h0 : s.size = 0
  · obtain rfl : s = ⟨#[]⟩ := by
      have : s.data.toList = [] := by rw [← List.length_eq_zero_iff, len_size]; exact h0
      rw [← bs_of s, this]; rfl
    go_enter Try.func30, Try.ntmps30
    go_wp2_with fail
    go_ret3
    exact ⟨⟨none, 0, [], ⟨#[]⟩, false, rfl, World.ownsRow_nil _ _ _ _, .inr ⟨rfl, rfl, rfl, rfl, rfl, rfl⟩⟩, Below.refl _ _⟩
  have hne : s.toList.isEmpty = false := by
    rw [ByteArray.toList_eq, List.isEmpty_eq_false_iff]
    intro e
    have := congrArg List.length e
    rw [len_size] at this
    exact h0 this
  have hpos : 0 < s.size := by omega
  have hposi : (0 : Int) < (s.size : Int) := by omega
  have hone : (1 : Int) ≤ (s.size : Int) := by omega
  have hl := hid (show s.data.toList = s[0] :: (s.extract 1 s.size).data.toList by
    rw [ext_drop _ _ (by omega)]
    have : ∀ (l : List UInt8) (h : 0 < l.length), l = l[0] :: l.drop 1 := by
      intro l h
      match l, h with
      | a :: t, _ => rfl
    exact this s.data.toList (by rw [len_size]; exact hpos))
  have hc := hid (UInt8.toNat_lt s[0])
  have hxs := hid (show (s.extract 1 s.size).size ≤ 16777216 by rw [← len_size, ext_drop _ _ (by omega), List.length_drop, len_size]; omega)
  go_enter Try.func30, Try.ntmps30
  have hwr : wrap64 (s[0].toNat : Int) = (s[0].toNat : Int) := by have := hc.out; simp only [RowKit.wrap64]; omega
  have hpl : pL s.data.toList = pTs s[0].toNat (s.extract 1 s.size).data.toList := by
    rw [hl.out]; rfl
  go_upto_region 6 with fail
  rw [hwr]
  have hn8 : s[0].toNat < 256 := hc.out
  clear hwr hl hc hs
  obtain ⟨n, hn⟩ : ∃ n, s[0].toNat = n := ⟨_, rfl⟩
  obtain ⟨r0, hr0⟩ : ∃ r0, s.extract 1 s.size = r0 := ⟨_, rfl⟩
  rw [hn] at hpl hn8 ⊢
  rw [hr0] at hpl hxs ⊢
  clear hn hr0 hone hposi hne h0
  replace hpl := hid hpl
  go_wp2_with fail
  go_loopw [0, 5, 7] (fun rv v i wr => ∃ (j : Nat) (pre : List ByteArray) (r : ByteArray), j ≤ n ∧ i = .int .i64 j ∧ rv = .string r ∧ Hid (r.size ≤ 16777216 ∧ pre.length = j) ∧ Hid (pL s.data.toList = (pTs (n - j) r.data.toList).map fun y => (pre ++ y.1, y.2)) ∧ (∃ so cap, v = .slice so j cap ∧ Hid (wr.ownsRow w.heap.size 9 1 (.slice so j cap) j (strC pre))) ∧ Hid (Below w.heap.size w wr)) (fun _ _ i _ => n - (intOf i).toNat)
  case atStart => exact ⟨0, [], r0, by omega, rfl, rfl, hid ⟨hxs.out, rfl⟩, hid (by rw [hpl.out, Nat.sub_zero]; cases pTs n r0.data.toList <;> simp), ⟨none, 0, rfl, hid (World.ownsRow_nil _ _ _ _)⟩, hid (Below.refl _ _)⟩
  case round =>
    clear hpl hxs
    obtain ⟨j, pre, r, hj, rfl, rfl, hrp, hR, ⟨so, cap, rfl, hown⟩, bw⟩ := hrel
    by_cases hjn : j < n
    · have hji : (j : Int) < (n : Int) := by omega
      have hst := hid (show n - j = (n - (j + 1)) + 1 by omega)
      go_wp2_with fail
      refine (taken_ref r wr hrp.out.1).mono ?_
      rintro e w3 ⟨⟨x, r2, ok, rfl, hT⟩, q3⟩
      replace bw := hid (bw.out.trans (q3.mono bw.out.size))
      rcases hT with ⟨rfl, hT⟩ | ⟨rfl, rfl, rfl, hT⟩
      · have hsz2 := hid (show r2.size ≤ 16777216 by
          have := congrArg List.length (pT_of hT).1
          rw [List.length_append, len_size, len_size] at this
          have := hrp.out.1
          omega)
        have hR2 := hid (show pL s.data.toList = (pTs (n - (j + 1)) r2.data.toList).map fun y => ((pre ++ [x]) ++ y.1, y.2) by
          rw [hR.out, hst.out, pTs_step hT, Option.map_map]
          congr 1
          funext y
          simp)
        have hown3 := hid (ownsRow_below hown.out q3)
        have hB3 := hid (show w.heap.size ≤ w3.heap.size from bw.out.size)
        clear hT q3 hR hown
        obtain ⟨so', cap', W1, hrun, ho, hbl, hkp, hsz3⟩ := push (P := Try.prog) w3 w.heap.size 38 9 i0 (.string ⟨#[]⟩) 1 16 Try.underlying38 hi hz0 hz1 hz2 rfl (by decide) _ j _ hown3.out [.string x] rfl (by intro u hu; simp at hu; rw [hu]; rfl) (by unfold maxLen; omega) (by omega) hB3.out
        replace bw := hid (bw.out.trans hbl)
        replace hrun := hid hrun
        replace ho := hid ho
        clear hbl hkp hsz3 hown3 hB3
        go_wp2_with (at_builtin; refine wpList_push rfl (.tmp 31) (.tmp 33) _ _ rfl _ _ _ _ rfl rfl hrun.out ?_)
        go_roundw
        case rel => exact ⟨j + 1, pre ++ [x], r2, by omega, by go_num, rfl, hid ⟨hsz2.out, by rw [List.length_append, hrp.out.2]; rfl⟩, hR2, ⟨_, _, rfl, hid (by rw [strC_append]; exact ho.out)⟩, bw⟩
        case measure => simp [intOf]; omega
      · have hfin := hid (show pL s.data.toList = none by rw [hR.out, hst.out, pTs_stop hT]; rfl)
        clear hT q3 hR hown
        go_wp2_with fail
        go_ret3
        exact ⟨⟨none, 0, [], ⟨#[]⟩, false, rfl, World.ownsRow_nil _ _ _ _, .inr ⟨rfl, rfl, rfl, rfl, rfl, hfin.out⟩⟩, bw.out⟩
    · obtain rfl : j = n := by omega
      have hji : ¬ (j : Int) < (j : Int) := by omega
      have hfin := hid (show pL s.data.toList = some (pre, r.data.toList) by
        rw [hR.out, Nat.sub_self]
        show (some (([] : List ByteArray), r.data.toList)).map _ = _
        simp)
      have hlen := hid hrp.out.2
      clear hR
      go_wp2_with fail
      go_ret3
      exact ⟨⟨so, cap, pre, r, true, by rw [hlen.out]; rfl, by rw [hlen.out]; exact hown.out, .inl ⟨rfl, hfin.out⟩⟩, bw.out⟩
end Go.Proofs.Ytldlkoiekdlmhaa.Wi
