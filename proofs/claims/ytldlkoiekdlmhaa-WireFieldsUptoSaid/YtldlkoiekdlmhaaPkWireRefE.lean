/-
  wire's calls: contracts. Written by wip/wiretopgen.py.
-/
import Derived.Test.YtldlkoiekdlmhaaWireRefA
import Derived.Test.YtldlkoiekdlmhaaPkChRight
import Derived.BigQuiet
namespace Go.Proofs.Ytldlkoiekdlmhaa.Wi
open Go.ChangeShapes Go.WideShapes Go.ChangeAt Go.RowKit
open Go.Proofs.Ytldlkoiekdlmhaa.Mem
open Go.Proofs.Ytldlkoiekdlmhaa.Lik (Kept)
open Go.Proofs.Ytldlkoiekdlmhaa.Crc hiding hid bt
set_option linter.unusedVariables false
set_option linter.unusedSimpArgs false
set_option maxRecDepth 100000
/-- what some answers -/
def SmA (B : Nat) (s : ByteArray) (e : Ending) (w' : World) : Prop := ∃ so cap l r ok, e = .returned (.tuple #[.slice so l.length cap, .string r, .bool ok]) ∧ w'.ownsRow B 9 1 (.slice so l.length cap) l.length (strC l) ∧ (ok = true ∧ pL s.data.toList = some (l, r.data.toList) ∨ ok = false ∧ so = none ∧ cap = 0 ∧ l = [] ∧ r = ⟨#[]⟩ ∧ pL s.data.toList = none)
theorem pTs_step {m : Nat} {r r2 x : ByteArray} (h : pT r.data.toList = some (x, r2.data.toList)) : pTs (m + 1) r.data.toList = (pTs m r2.data.toList).map fun y => (x :: y.1, y.2) := by
  show pBind pT (fun s => pBind (pTs m) fun l => pRet (s :: l)) _ = _
  rw [pBind_of h]
  unfold pBind pRet
  cases pTs m r2.data.toList <;> rfl
theorem pTs_stop {m : Nat} {r : List UInt8} (h : pT r = none) : pTs (m + 1) r = none := by
  show pBind pT (fun s => pBind (pTs m) fun l => pRet (s :: l)) _ = _
  unfold pBind
  rw [h]
set_option maxHeartbeats 8000000 in
theorem some_ref (s : ByteArray) (w : World) (hs : s.size ≤ 16777216) : Calls Try.prog 30 #[.string s] w fun e w' => SmA w.heap.size s e w' ∧ Below w.heap.size w w' := by
  obtain ⟨i0, z0, hi, hz0, rfl, hz1, hz2, hz3⟩ := info_st
  by_cases h0 : s.size = 0
  · obtain rfl : s = ⟨#[]⟩ := by
      have : s.data.toList = [] := by rw [← List.length_eq_zero_iff, len_size]; exact h0
      rw [← bs_of s, this]; rfl
    go_enter Try.func30, Try.ntmps30
    go_wp2_with fail
    go_ret3
    exact ⟨⟨none, 0, [], ⟨#[]⟩, false, rfl, World.ownsRow_nil _ _ _ _, .inr ⟨rfl, rfl, rfl, rfl, rfl, rfl⟩⟩, Below.refl _ _⟩
  have hne : s.toList.isEmpty = false := by
    rw [ByteArray.toList_eq, List.isEmpty_eq_false_iff]
    intro e
    have := congrArg List.length e
    rw [len_size] at this
    exact h0 this
  have hpos : 0 < s.size := by omega
  have hposi : (0 : Int) < (s.size : Int) := by omega
  have hone : (1 : Int) ≤ (s.size : Int) := by omega
  have hl := hid (show s.data.toList = s[0] :: (s.extract 1 s.size).data.toList by
    rw [ext_drop _ _ (by omega)]
    have : ∀ (l : List UInt8) (h : 0 < l.length), l = l[0] :: l.drop 1 := by
      intro l h
      match l, h with
      | a :: t, _ => rfl
    exact this s.data.toList (by rw [len_size]; exact hpos))
  have hc := hid (UInt8.toNat_lt s[0])
  have hxs := hid (show (s.extract 1 s.size).size ≤ 16777216 by rw [← len_size, ext_drop _ _ (by omega), List.length_drop, len_size]; omega)
  go_enter Try.func30, Try.ntmps30
  have hwr : wrap64 (s[0].toNat : Int) = (s[0].toNat : Int) := by have := hc.out; simp only [RowKit.wrap64]; omega
  have hpl : pL s.data.toList = pTs s[0].toNat (s.extract 1 s.size).data.toList := by
    rw [hl.out]; rfl
  go_upto_region 6 with fail
  rw [hwr]
  have hn8 : s[0].toNat < 256 := hc.out
  clear hwr hl hc hs
  obtain ⟨n, hn⟩ : ∃ n, s[0].toNat = n := ⟨_, rfl⟩
  obtain ⟨r0, hr0⟩ : ∃ r0, s.extract 1 s.size = r0 := ⟨_, rfl⟩
  rw [hn] at hpl hn8 ⊢
  rw [hr0] at hpl hxs ⊢
  clear hn hr0 hone hposi hne h0
  replace hpl := hid hpl
  go_wp2_with fail
  go_loopw [0, 5, 7] (fun rv v i wr => ∃ (j : Nat) (pre : List ByteArray) (r : ByteArray), j ≤ n ∧ i = .int .i64 j ∧ rv = .string r ∧ Hid (r.size ≤ 16777216 ∧ pre.length = j) ∧ Hid (pL s.data.toList = (pTs (n - j) r.data.toList).map fun y => (pre ++ y.1, y.2)) ∧ (∃ so cap, v = .slice so j cap ∧ Hid (wr.ownsRow w.heap.size 9 1 (.slice so j cap) j (strC pre))) ∧ Hid (Below w.heap.size w wr)) (fun _ _ i _ => n - (intOf i).toNat)
  case atStart => exact ⟨0, [], r0, by omega, rfl, rfl, hid ⟨hxs.out, rfl⟩, hid (by rw [hpl.out, Nat.sub_zero]; cases pTs n r0.data.toList <;> simp), ⟨none, 0, rfl, hid (World.ownsRow_nil _ _ _ _)⟩, hid (Below.refl _ _)⟩
  case round =>
    clear hpl hxs
    obtain ⟨j, pre, r, hj, rfl, rfl, hrp, hR, ⟨so, cap, rfl, hown⟩, bw⟩ := hrel
    by_cases hjn : j < n
    · have hji : (j : Int) < (n : Int) := by omega
      have hst := hid (show n - j = (n - (j + 1)) + 1 by omega)
      go_wp2_with fail
      refine (taken_ref r wr hrp.out.1).mono ?_
      rintro e w3 ⟨⟨x, r2, ok, rfl, hT⟩, q3⟩
      replace bw := hid (bw.out.trans (q3.mono bw.out.size))
      rcases hT with ⟨rfl, hT⟩ | ⟨rfl, rfl, rfl, hT⟩
      · have hsz2 := hid (show r2.size ≤ 16777216 by
          have := congrArg List.length (pT_of hT).1
          rw [List.length_append, len_size, len_size] at this
          have := hrp.out.1
          omega)
        have hR2 := hid (show pL s.data.toList = (pTs (n - (j + 1)) r2.data.toList).map fun y => ((pre ++ [x]) ++ y.1, y.2) by
          rw [hR.out, hst.out, pTs_step hT, Option.map_map]
          congr 1
          funext y
          simp)
        have hown3 := hid (ownsRow_below hown.out q3)
        have hB3 := hid (show w.heap.size ≤ w3.heap.size from bw.out.size)
        clear hT q3 hR hown
        obtain ⟨so', cap', W1, hrun, ho, hbl, hkp, hsz3⟩ := push (P := Try.prog) w3 w.heap.size 38 9 i0 (.string ⟨#[]⟩) 1 16 Try.underlying38 hi hz0 hz1 hz2 rfl (by decide) _ j _ hown3.out [.string x] rfl (by intro u hu; simp at hu; rw [hu]; rfl) (by unfold maxLen; omega) (by omega) hB3.out
        replace bw := hid (bw.out.trans hbl)
        replace hrun := hid hrun
        replace ho := hid ho
        clear hbl hkp hsz3 hown3 hB3
        go_wp2_with (at_builtin; refine wpList_push rfl (.tmp 31) (.tmp 33) _ _ rfl _ _ _ _ rfl rfl hrun.out ?_)
        go_roundw
        case rel => exact ⟨j + 1, pre ++ [x], r2, by omega, by go_num, rfl, hid ⟨hsz2.out, by rw [List.length_append, hrp.out.2]; rfl⟩, hR2, ⟨_, _, rfl, hid (by rw [strC_append]; exact ho.out)⟩, bw⟩
        case measure => simp [intOf]; omega
      · have hfin := hid (show pL s.data.toList = none by rw [hR.out, hst.out, pTs_stop hT]; rfl)
        clear hT q3 hR hown
        go_wp2_with fail
        go_ret3
        exact ⟨⟨none, 0, [], ⟨#[]⟩, false, rfl, World.ownsRow_nil _ _ _ _, .inr ⟨rfl, rfl, rfl, rfl, rfl, hfin.out⟩⟩, bw.out⟩
    · obtain rfl : j = n := by omega
      have hji : ¬ (j : Int) < (j : Int) := by omega
      have hfin := hid (show pL s.data.toList = some (pre, r.data.toList) by
        rw [hR.out, Nat.sub_self]
        show (some (([] : List ByteArray), r.data.toList)).map _ = _
        simp)
      have hlen := hid hrp.out.2
      clear hR
      go_wp2_with fail
      go_ret3
      exact ⟨⟨so, cap, pre, r, true, by rw [hlen.out]; rfl, by rw [hlen.out]; exact hown.out, .inl ⟨rfl, hfin.out⟩⟩, bw.out⟩
end Go.Proofs.Ytldlkoiekdlmhaa.Wi
namespace Go.Proofs.Ytldlkoiekdlmhaa.Wi
open Go.Proofs.Ytldlkoiekdlmhaa.Crc hiding hid bt
set_option linter.unusedVariables false
set_option linter.unusedSimpArgs false
theorem ask178_yes {a : Ask} (hk : a.k = 1 ∨ a.k = 7 ∨ a.k = 8) (e : a = { askZ with k := a.k }) : AskW a (bOne a.k) 0 := by
  rcases hk with h | h | h <;> (rw [h] at e ⊢; subst e; exact .inl ⟨rfl, by decide, rfl⟩)
theorem ask178_no {a : Ask} (hk : a.k = 1 ∨ a.k = 7 ∨ a.k = 8) (e : a ≠ { askZ with k := a.k }) : AskW a ⟨#[]⟩ 14 := by
  refine .inr ⟨rfl, fun hr => e ?_, rfl⟩
  obtain ⟨k, tx, c, v, s0, s1, s2, s3, s4, s5, s6⟩ := a
  simp only at hk
  rcases hk with rfl | rfl | rfl <;> simp_all [askR, noQ, askZ]
theorem ask2_yes {a : Ask} (hk : a.k = 2) (hc : cR a.c) (e : a = { askZ with k := a.k, tx := a.tx, c := a.c }) : AskW a (bOne a.k ++ (bs (leb 8 a.tx) ++ bs (packE [a.c]))) 0 := by
  obtain ⟨k, tx, c, v, s0, s1, s2, s3, s4, s5, s6⟩ := a
  simp only at hk hc
  subst hk
  refine .inl ⟨rfl, ?_, ?_⟩
  · simp_all [askR, noQ, askZ]
  · show bs [UInt8.ofNat 2] ++ (bs (leb 8 tx) ++ bs (packE [c])) = _
    rw [app_bs, app_bs]; rfl
theorem ask2_no {a : Ask} (hk : a.k = 2) (e : a ≠ { askZ with k := a.k, tx := a.tx, c := a.c }) : AskW a ⟨#[]⟩ 14 := by
  refine .inr ⟨rfl, fun hr => e ?_, rfl⟩
  obtain ⟨k, tx, c, v, s0, s1, s2, s3, s4, s5, s6⟩ := a
  simp only at hk
  subst hk
  simp_all [askR, noQ, askZ]
theorem ask2_bad {a : Ask} (hk : a.k = 2) (hc : ¬ cR a.c) : AskW a ⟨#[]⟩ 14 := .inr ⟨rfl, fun hr => hc (by have := hr.2.2.1; rw [if_pos hk] at this; exact this), rfl⟩
theorem ask34_yes {a : Ask} (hk : a.k = 3 ∨ a.k = 4) (e : a = { askZ with k := a.k, tx := a.tx }) : AskW a (bOne a.k ++ bs (leb 8 a.tx)) 0 := by
  obtain ⟨k, tx, c, v, s0, s1, s2, s3, s4, s5, s6⟩ := a
  simp only at hk
  refine .inl ⟨rfl, ?_, ?_⟩
  · rcases hk with rfl | rfl <;> simp_all [askR, noQ, askZ]
  · show bs [UInt8.ofNat k] ++ bs (leb 8 tx) = _
    rw [app_bs]
    rcases hk with rfl | rfl <;> rfl
theorem ask34_no {a : Ask} (hk : a.k = 3 ∨ a.k = 4) (e : a ≠ { askZ with k := a.k, tx := a.tx }) : AskW a ⟨#[]⟩ 14 := by
  refine .inr ⟨rfl, fun hr => e ?_, rfl⟩
  obtain ⟨k, tx, c, v, s0, s1, s2, s3, s4, s5, s6⟩ := a
  simp only at hk
  rcases hk with rfl | rfl <;> simp_all [askR, noQ, askZ]
theorem ask56_no {a : Ask} (hk : a.k = 5 ∨ a.k = 6) (e : a ≠ { askZ with k := a.k, v := if a.k = 6 then a.v else 0, s0 := a.s0, s1 := a.s1, s2 := a.s2, s3 := a.s3, s4 := a.s4, s5 := a.s5, s6 := a.s6 }) : AskW a ⟨#[]⟩ 14 := by
  refine .inr ⟨rfl, fun hr => e ?_, rfl⟩
  obtain ⟨k, tx, c, v, s0, s1, s2, s3, s4, s5, s6⟩ := a
  simp only at hk
  rcases hk with rfl | rfl <;> simp_all [askR, noQ, askZ]
theorem ask56_bad {a : Ask} (hk : a.k = 5 ∨ a.k = 6) (hq : ¬ qS a) : AskW a ⟨#[]⟩ 14 := .inr ⟨rfl, fun hr => hq (by have := hr.2.2.2.2; rw [if_pos hk] at this; exact this), rfl⟩
theorem ask56_yes {a : Ask} (hk : a.k = 5 ∨ a.k = 6) (hq : qS a) (e : a = { askZ with k := a.k, v := if a.k = 6 then a.v else 0, s0 := a.s0, s1 := a.s1, s2 := a.s2, s3 := a.s3, s4 := a.s4, s5 := a.s5, s6 := a.s6 }) : AskW a (bs (askE a)) 0 := by
  refine .inl ⟨rfl, ?_, rfl⟩
  obtain ⟨k, tx, c, v, s0, s1, s2, s3, s4, s5, s6⟩ := a
  simp only at hk
  rcases hk with rfl | rfl <;> simp_all [askR, noQ, askZ]
end Go.Proofs.Ytldlkoiekdlmhaa.Wi
namespace Go.Proofs.Ytldlkoiekdlmhaa.Wi
open Go.ChangeShapes Go.WideShapes Go.ChangeAt Go.RowKit
open Go.Proofs.Ytldlkoiekdlmhaa.Mem
open Go.Proofs.Ytldlkoiekdlmhaa.Lik (Kept)
open Go.Proofs.Ytldlkoiekdlmhaa.Crc hiding hid bt
set_option linter.unusedVariables false
set_option linter.unusedSimpArgs false
set_option maxRecDepth 100000
set_option maxHeartbeats 8000000 in
theorem right_ref (c : Ch) (w : World) (hk : c.k < 256) :
    Calls Try.prog 33 #[.agg #[.int .u8 (c.k : Nat), .string c.i, .string c.t, .string c.ut, .string c.ui]] w fun e w' => e = .returned (.bool (decide (chR c))) ∧ Below w.heap.size w w' := by
  go_enter Try.func33, Try.ntmps33
  go_upto_region 1 with fail
  have K := hid (Blk.new w [.int .u8 (c.k : Nat), .string c.i, .string c.t, .string c.ut, .string c.ui] 28)
  have bw := hid ((Below.refl w.heap.size w).alloc (Nat.le_refl _) (.cells #[.int .u8 (c.k : Nat), .string c.i, .string c.t, .string c.ut, .string c.ui] 28))
  change Hid (Blk (w.alloc (.cells #[.int .u8 (c.k : Nat), .string c.i, .string c.t, .string c.ut, .string c.ui] 28)) _ _ _) at K
  generalize w.alloc (.cells #[.int .u8 (c.k : Nat), .string c.i, .string c.t, .string c.ut, .string c.ui] 28) = X at K bw ⊢
  obtain ⟨pb, hpb⟩ : ∃ pb, w.heap.size = pb := ⟨_, rfl⟩
  rw [hpb] at K ⊢
  clear hpb
  have hcase : c.k = 1 ∨ c.k = 2 ∨ c.k = 3 ∨ c.k = 4 ∨ c.k = 5 ∨ ¬ (1 ≤ c.k ∧ c.k ≤ 5) := by omega
  rcases hcase with h | h | h | h | h | h
  · have hR : chR c ↔ c.i = E0 ∧ c.ut = E0 ∧ c.ui = E0 := by unfold chR; rw [h]; simp [E0]; try omega
    rw [h] at K
    replace hR := hid hR
    clear h
    obtain ⟨k0, k1, k2, k3, k4, kf⟩ := five K.out
    go_wp2_with fail
    all_goals (go_ret; refine ⟨?_, bw.out⟩; first | (rw [decide_eq_true (hR.out.2 (by simp only [tl_nil] at *; simp_all))]; rfl) | (rw [decide_eq_false (fun h => by have := hR.out.1 h; simp only [tl_nil] at *; simp_all)]; rfl))
  · have hR : chR c ↔ c.ut = E0 ∧ c.ui = E0 := by unfold chR; rw [h]; simp [E0]; try omega
    rw [h] at K
    replace hR := hid hR
    clear h
    obtain ⟨k0, k1, k2, k3, k4, kf⟩ := five K.out
    go_wp2_with fail
    all_goals (go_ret; refine ⟨?_, bw.out⟩; first | (rw [decide_eq_true (hR.out.2 (by simp only [tl_nil] at *; simp_all))]; rfl) | (rw [decide_eq_false (fun h => by have := hR.out.1 h; simp only [tl_nil] at *; simp_all)]; rfl))
  · have hR : chR c ↔ c.t = E0 ∧ c.ut = E0 ∧ c.ui = E0 := by unfold chR; rw [h]; simp [E0]; try omega
    rw [h] at K
    replace hR := hid hR
    clear h
    obtain ⟨k0, k1, k2, k3, k4, kf⟩ := five K.out
    go_wp2_with fail
    all_goals (go_ret; refine ⟨?_, bw.out⟩; first | (rw [decide_eq_true (hR.out.2 (by simp only [tl_nil] at *; simp_all))]; rfl) | (rw [decide_eq_false (fun h => by have := hR.out.1 h; simp only [tl_nil] at *; simp_all)]; rfl))
  · have hR : chR c ↔ c.i = E0 ∧ c.ut = E0 ∧ c.ui = E0 := by unfold chR; rw [h]; simp [E0]; try omega
    rw [h] at K
    replace hR := hid hR
    clear h
    obtain ⟨k0, k1, k2, k3, k4, kf⟩ := five K.out
    go_wp2_with fail
    all_goals (go_ret; refine ⟨?_, bw.out⟩; first | (rw [decide_eq_true (hR.out.2 (by simp only [tl_nil] at *; simp_all))]; rfl) | (rw [decide_eq_false (fun h => by have := hR.out.1 h; simp only [tl_nil] at *; simp_all)]; rfl))
  · have hR : chR c ↔ c.i = E0 ∧ c.t = E0 := by unfold chR; rw [h]; simp [E0]; try omega
    rw [h] at K
    replace hR := hid hR
    clear h
    obtain ⟨k0, k1, k2, k3, k4, kf⟩ := five K.out
    go_wp2_with fail
    all_goals (go_ret; refine ⟨?_, bw.out⟩; first | (rw [decide_eq_true (hR.out.2 (by simp only [tl_nil] at *; simp_all))]; rfl) | (rw [decide_eq_false (fun h => by have := hR.out.1 h; simp only [tl_nil] at *; simp_all)]; rfl))
  · have hR := hid (show ¬ chR c from fun hc => h hc.1)
    obtain ⟨kk, hkk⟩ : ∃ kk : Int, (c.k : Int) = kk := ⟨_, rfl⟩
    rw [hkk] at K
    have h01 : kk = 0 ∨ (6 : Int) ≤ kk := by omega
    clear hkk h hk
    obtain ⟨k0, k1, k2, k3, k4, kf⟩ := five K.out
    rcases h01 with rfl | h6
    · go_wp2_with fail
      all_goals (go_ret; exact ⟨by rw [decide_eq_false hR.out]; rfl, bw.out⟩)
    · have h1 : ¬ kk = 1 := by omega
      have h2 : ¬ kk = 2 := by omega
      have h3 : ¬ kk = 3 := by omega
      have h4 : ¬ kk = 4 := by omega
      have h5 : ¬ kk = 5 := by omega
      have h0 : ¬ kk = 0 := by omega
      have h7 : ¬ kk < 6 := by omega
      have b1 : (kk == 1) = false := by simpa using h1
      have b2 : (kk == 2) = false := by simpa using h2
      have b3 : (kk == 3) = false := by simpa using h3
      have b4 : (kk == 4) = false := by simpa using h4
      have b0 : (kk != 0) = true := by simpa using h0
      clear h1 h2 h3 h4 h5 h0
      go_wp2_with fail
      all_goals (go_ret; exact ⟨by rw [decide_eq_false hR.out]; rfl, bw.out⟩)
end Go.Proofs.Ytldlkoiekdlmhaa.Wi
