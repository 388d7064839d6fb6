/-
  The contract of laying: how a frame is laid.
-/
import Derived.Test.YtiegocbdgimimaaWalCalls
import Derived.Test.YtiegocbdgimimaaRecJoin
import Derived.Test.YtiegocbdgimimaaSectorCopyRef
import Derived.Laws.AppendOwn
namespace Go.Proofs.Ytiegocbdgimimaa.Wal
open Go.ChangeShapes Go.WideShapes Go.ChangeAt Go.RowKit
open Go.Proofs.Ytiegocbdgimimaa.Mem Go.Proofs.Ytiegocbdgimimaa.Rec Go.Proofs.Ytiegocbdgimimaa.Sector
set_option linter.unusedVariables false
set_option maxRecDepth 100000

theorem info_step : (Try.prog.info? 87).map (fun i => (i.zero, i.size, i.bytes)) = some (some Value.nilFunc, 1, 8) := by kernel_rfl
theorem puts_take (m : Int) (t : List ByteArray) (k : Nat) (h : k < t.length) : puts m (t.take (k + 1)) = puts m (t.take k) ++ [.put (m + k) t[k]] := by
  rw [List.take_succ_eq_append_getElem h, puts_snoc, List.length_take, Nat.min_eq_left (by omega)]
theorem app_step (B : Nat) (X : World) (sv : Value) (k : Nat) (cs : List Value) (l : List Stp) (fv : Value) (x : Stp) (hB : B ≤ X.heap.size) (hown : X.ownsRow B 87 1 sv k cs) (hst : StpsV X cs l) (hx : StpV X fv x) (hk : k ≤ 5000) :
    ∃ ao cap w', (Builtin.append_ #[57, 57] 57 #[sv, .slice (some ⟨X.heap.size, 0, none⟩) 1 1]).run Try.prog (X.alloc (.cells #[fv] 87)) = .ok (.slice ao (k + 1) cap) w' ∧
      w'.ownsRow B 87 1 (.slice ao (k + 1) cap) (k + 1) (cs ++ [fv]) ∧ StpsV w' (cs ++ [fv]) (l ++ [x]) ∧ Below B X w' := by
  obtain ⟨i0, hi, hz0, hz1, hz2⟩ := info_parts info_step
  have hal : Below X.heap.size X (X.alloc (.cells #[fv] 87)) := (Below.refl _ X).alloc (Nat.le_refl _) _
  have hown2 := ownsRow_below hown hal
  obtain ⟨v', w', hr, hv, hg, _⟩ := run_append_own (P := Try.prog) (X.alloc (.cells #[fv] 87)) B 57 57 87 i0 Value.nilFunc 1 8 Try.underlying57 hi hz0 hz1 hz2 rfl (by decide)
    _ _ _ hown2 ⟨X.heap.size, 0, none⟩ 1 1 [fv] rfl (by
      intro j u hu
      match j, hu with
      | 0, hu => simp at hu; subst hu; simp [go_sem]) (by simpa using hx.one) (by unfold maxLen; omega) (by omega) (by simp; omega)
  obtain ⟨ao, cap, rfl, _, _⟩ := ownsRow_form hv
  exact ⟨ao, cap, w', hr, hv, ((hst.below hal).snoc (hx.below hal)).grown hown2 hg, (hal.mono hB).grown hg (by simp; omega) (fun k hk => (hown2.lt k hk).1)⟩
theorem app_end (B : Nat) (X : World) (sv : Value) (k : Nat) (cs : List Value) (l : List Stp) (fv : Value) (x : Stp) (hB : B ≤ X.heap.size) (hown : X.ownsRow B 87 1 sv k cs) (hst : StpsV X cs l) (hx : StpV X fv x) (hk : k ≤ 5000) :
    ∃ ao cap w', (Builtin.append_ #[57, 57] 57 #[sv, .slice (some ⟨X.heap.size, 0, none⟩) 3 3]).run Try.prog (X.alloc (.cells #[.func (Fn.func 41) #[] #[], fv, .func (Fn.func 41) #[] #[]] 87)) = .ok (.slice ao (k + 3) cap) w' ∧
      w'.ownsRow B 87 1 (.slice ao (k + 3) cap) (k + 3) (cs ++ [.func (Fn.func 41) #[] #[], fv, .func (Fn.func 41) #[] #[]]) ∧ StpsV w' (cs ++ [.func (Fn.func 41) #[] #[], fv, .func (Fn.func 41) #[] #[]]) (l ++ [.syn, x, .syn]) ∧ Below B X w' := by
  obtain ⟨i0, hi, hz0, hz1, hz2⟩ := info_parts info_step
  obtain ⟨sy, hsy⟩ : ∃ sy, Value.func (Fn.func 41) #[] #[] = sy := ⟨_, rfl⟩
  have hss : ∀ W, StpV W sy .syn := fun W => hsy.symm
  have hone := (hss X).one
  rw [hsy]
  have hal : Below X.heap.size X (X.alloc (.cells #[sy, fv, sy] 87)) := (Below.refl _ X).alloc (Nat.le_refl _) _
  have hown2 := ownsRow_below hown hal
  obtain ⟨v', w', hr, hv, hg, _⟩ := run_append_own (P := Try.prog) (X.alloc (.cells #[sy, fv, sy] 87)) B 57 57 87 i0 Value.nilFunc 1 8 Try.underlying57 hi hz0 hz1 hz2 rfl (by decide)
    _ _ _ hown2 ⟨X.heap.size, 0, none⟩ 3 3 [sy, fv, sy] rfl (by
      intro j u hu
      match j, hu with
      | 0, hu => simp at hu; subst hu; simp [go_sem]
      | 1, hu => simp at hu; subst hu; simp [go_sem, Addr.add]
      | 2, hu => simp at hu; subst hu; simp [go_sem, Addr.add]) (by simp [hone, hx.one]) (by unfold maxLen; omega) (by omega) (by simp; omega)
  obtain ⟨ao, cap, rfl, _, _⟩ := ownsRow_form hv
  refine ⟨ao, cap, w', hr, hv, ?_, (hal.mono hB).grown hg (by simp; omega) (fun k hk => (hown2.lt k hk).1)⟩
  have := ((((hst.below hal).snoc (hss _)).snoc (hx.below hal)).snoc (hss _)).grown hown2 hg
  simpa using this
def Laid (w : World) (l : List Stp) (e : Ending) (w' : World) : Prop :=
  ∃ ao cap cs, e = .returned (.slice ao l.length cap) ∧ SlV w' (.slice ao l.length cap) l.length cs ∧ StpsV w' cs l ∧ Below w.heap.size w w'
set_option maxHeartbeats 4000000 in
theorem laying_any (n : Int) (hd : ByteArray) (t : List ByteArray) (v : Value) (w : World) (h : StrsV w v (hd :: t)) (hn0 : 0 ≤ n) (hn1 : n ≤ 100000) (ht : t.length ≤ 4000) :
    Calls Try.prog 20 #[.int .i64 n, v] w (Laid w (layE n hd t)) := by
  obtain ⟨so, scap, rfl, hlc, hcm⟩ := h.form
  rw [List.length_cons] at hlc
  obtain ⟨b, off, rfl, hb, hhd, _, _, htl, htl1⟩ := strs_tail h
  unfold maxLen at hcm
  obtain ⟨m, hm⟩ : ∃ m, t.length = m := ⟨_, rfl⟩
  have hmi : (m : Int) ≤ 4000 := by omega
  have hci : (1 : Int) ≤ (scap : Int) := by omega
  have hlen : (hd :: t).length = m + 1 := by rw [List.length_cons, hm]
  rw [hlen]
  have hhd' := hid hhd
  have hm' := hid hm
  by_cases hc1 : scap = 1
  · have ht0 : t = [] := List.eq_nil_of_length_eq_zero (by omega)
    subst ht0
    obtain rfl : m = 0 := hm.symm
    subst hc1
    clear h htl htl1 hm hlen hlc hmi hci hm'
    have hcell := hhd'.out
    go_enter Try.func20, Try.ntmps20
    go_wp2_with fail
    go_loopw [5, 11] (fun v5 i wr => v5 = .slice none 0 0 ∧ i = .int .i64 0 ∧ wr = w) (fun _ _ _ => 0)
    case atStart => exact ⟨rfl, rfl, rfl⟩
    case round =>
    obtain ⟨rfl, rfl, hwx⟩ := hrel
    rw [hwx]
    clear hwx
    have hst : StpsV w [] (puts (n + 1) []) := ⟨rfl, fun j hj => absurd hj (by simp [puts])⟩
    have hown := World.ownsRow_nil w w.heap.size 87 1
    have hbr : Below w.heap.size w w := Below.refl _ _
    go_wp2_with fail
    refine (wput_any _ _ _).mono ?_
    rintro e w5 ⟨rfl, rfl⟩
    have hst5 := hid ((hst.below (show Below w.heap.size w _ from (Below.refl _ w).alloc (Nat.le_refl _) (.cells #[.int .i64 n] 3))).below ((Below.refl _ _).alloc (Nat.le_refl _) (.cells #[.string hd] 9)))
    have hown5 := hid ((hown.alloc (.cells #[.int .i64 n] 3)).alloc (.cells #[.string hd] 9))
    have hx5 : Hid (StpV ((w.alloc (.cells #[.int .i64 n] 3)).alloc (.cells #[.string hd] 9)) (.func (Fn.func 67) #[] #[.pointer (some ⟨w.heap.size, 0, none⟩), .pointer (some ⟨w.heap.size + 1, 0, none⟩)]) (.put n hd)) := hid ⟨_, _, rfl, (Blk.new w _ _).alloc _, Blk.new' _ _ _ _ (by simp)⟩
    have hbw5 := hid ((hbr.alloc hbr.size (.cells #[.int .i64 n] 3)).alloc (Nat.le_trans hbr.size (by simp)) (.cells #[.string hd] 9))
    clear hst hown hbr hcell
    generalize (w.alloc (.cells #[.int .i64 n] 3)).alloc (.cells #[.string hd] 9) = X5 at hst5 hown5 hx5 hbw5 ⊢
    obtain ⟨ao, cap, w6, hrun, hown6, hst6, hb6⟩ := app_end w.heap.size X5 _ 0 [] _ _ _ hbw5.out.size hown5.out hst5.out hx5.out (by omega)
    have hrun' := hid hrun
    have hfin := hid (show Laid w (layE n hd []) (.returned (.slice ao (0 + 3) cap)) w6 from by
      have hlen : (layE n hd []).length = 0 + 3 := by unfold layE; rw [List.length_append, puts_len]; simp
      exact ⟨ao, cap, _, by rw [hlen], by rw [hlen]; exact SlV.own hown6, by unfold layE; exact hst6, hbw5.out.trans hb6⟩)
    clear hrun hown6 hst6 hb6 hst5 hown5 hx5 hbw5
    go_wp2_with (at_builtin; refine wpList_app rfl (.tmp 26) (.tmp 32) _ _ rfl _ _ _ _ rfl rfl hrun'.out ?_)
    go_ret
    exact hfin.out
  · have htl' := hid htl
    have hne : ¬ scap = 1 := hc1
    have hne2 : ¬ 1 = scap := fun e => hc1 e.symm
    clear h htl htl1 hlen hm
    have hcell := hhd'.out
    go_enter Try.func20, Try.ntmps20
    go_wp2_with fail
    clear hcell
    go_loopw [5, 11] (fun v5 i wr => ∃ (k : Nat) (so : Option Addr) (sc : Nat) (cs : List Value), k ≤ m ∧ i = .int .i64 k ∧ v5 = .slice so k sc ∧ Hid (wr.ownsRow w.heap.size 87 1 (.slice so k sc) k cs) ∧ Hid (StpsV wr cs (puts (n + 1) (t.take k))) ∧ Hid (Below w.heap.size w wr)) (fun _ i _ => m - (intOf i).toNat)
    case atStart => exact ⟨0, none, 0, [], by omega, rfl, rfl, hid (World.ownsRow_nil _ _ _ _), hid ⟨rfl, fun j hj => absurd hj (by simp [puts])⟩, hid (Below.refl _ _)⟩
    case round =>
      obtain ⟨k, so, sc, cs, hk, rfl, rfl, hown, hst, hbr⟩ := hrel
      by_cases hlt : k < m
      · obtain ⟨b2, off2, cap2, hv2, _, _, hb2, hc2⟩ := htl'.out.open (by rw [hm'.out]; omega)
        simp only [Value.slice.injEq, Option.some.injEq, Addr.mk.injEq, and_true] at hv2
        obtain ⟨⟨rfl, rfl⟩, -, rfl⟩ := hv2
        have hkt : k < t.length := by rw [hm'.out]; exact hlt
        have hcell := (hbr.out.cell (p := ⟨b, off + 1 + k, none⟩) hb2).trans (hc2 k hkt)
        have hki : (k : Int) < (m : Int) := by omega
        have htake := hid (puts_take (n + 1) t k hkt)
        have hk4 : (k : Int) ≤ 4000 := by omega
        obtain ⟨s, hs⟩ : ∃ s, t[k] = s := ⟨_, rfl⟩
        rw [hs] at hcell htake
        clear hs hc2 hb2
        go_wp2_with fail
        refine (wput_any _ _ _).mono ?_
        rintro e w5 ⟨rfl, rfl⟩
        have hst5 := hid ((hst.out.below (show Below wr.heap.size wr _ from (Below.refl _ wr).alloc (Nat.le_refl _) (.cells #[.int .i64 (n + 1 + k)] 3))).below ((Below.refl _ _).alloc (Nat.le_refl _) (.cells #[.string s] 9)))
        have hown5 := hid ((hown.out.alloc (.cells #[.int .i64 (n + 1 + k)] 3)).alloc (.cells #[.string s] 9))
        have hx5 : Hid (StpV ((wr.alloc (.cells #[.int .i64 (n + 1 + k)] 3)).alloc (.cells #[.string s] 9)) (.func (Fn.func 67) #[] #[.pointer (some ⟨wr.heap.size, 0, none⟩), .pointer (some ⟨wr.heap.size + 1, 0, none⟩)]) (.put (n + 1 + k) s)) := hid ⟨_, _, rfl, (Blk.new wr _ _).alloc _, Blk.new' _ _ _ _ (by simp)⟩
        have hbw5 := hid ((hbr.out.alloc hbr.out.size (.cells #[.int .i64 (n + 1 + k)] 3)).alloc (by have := hbr.out.size; simp; omega) (.cells #[.string s] 9))
        clear hst hown hbr hcell
        generalize (wr.alloc (.cells #[.int .i64 (n + 1 + k)] 3)).alloc (.cells #[.string s] 9) = X5 at hst5 hown5 hx5 hbw5 ⊢
        obtain ⟨ao, cap, w6, hrun, hown6, hst6, hb6⟩ := app_step w.heap.size X5 _ _ cs _ _ _ hbw5.out.size hown5.out hst5.out hx5.out (by omega)
        rw [← htake.out] at hst6
        have hrun' := hid hrun
        have hown6' := hid hown6
        have hst6' := hid hst6
        have hb6' := hid (hbw5.out.trans hb6)
        clear hrun hown6 hst6 hb6 hst5 hown5 hx5 hbw5
        go_wp2_with (at_builtin; refine wpList_app rfl (.tmp 16) (.tmp 23) _ _ rfl _ _ _ _ rfl rfl hrun'.out ?_)
        go_roundw
        case rel => exact ⟨k + 1, _, _, _, by omega, by go_num, rfl, hown6', hst6', hb6'⟩
        case measure => simp [intOf]; omega
      · obtain rfl : k = m := by omega
        have htt : t.take k = t := by rw [← hm'.out]; exact List.take_length
        rw [htt] at hst
        have hst := hst.out
        have hown := hown.out
        have hbr := hbr.out
        have hcell := (hbr.cell (p := ⟨b, off, none⟩) hb).trans hhd'.out
        have hmi2 : k ≤ 4000 := by omega
        go_wp2_with fail
        refine (wput_any _ _ _).mono ?_
        rintro e w5 ⟨rfl, rfl⟩
        have hst5 := hid ((hst.below (show Below wr.heap.size wr _ from (Below.refl _ wr).alloc (Nat.le_refl _) (.cells #[.int .i64 n] 3))).below ((Below.refl _ _).alloc (Nat.le_refl _) (.cells #[.string hd] 9)))
        have hown5 := hid ((hown.alloc (.cells #[.int .i64 n] 3)).alloc (.cells #[.string hd] 9))
        have hx5 : Hid (StpV ((wr.alloc (.cells #[.int .i64 n] 3)).alloc (.cells #[.string hd] 9)) (.func (Fn.func 67) #[] #[.pointer (some ⟨wr.heap.size, 0, none⟩), .pointer (some ⟨wr.heap.size + 1, 0, none⟩)]) (.put n hd)) := hid ⟨_, _, rfl, (Blk.new wr _ _).alloc _, Blk.new' _ _ _ _ (by simp)⟩
        have hbw5 := hid ((hbr.alloc hbr.size (.cells #[.int .i64 n] 3)).alloc (Nat.le_trans hbr.size (by simp)) (.cells #[.string hd] 9))
        clear hst hown hbr hcell
        generalize (wr.alloc (.cells #[.int .i64 n] 3)).alloc (.cells #[.string hd] 9) = X5 at hst5 hown5 hx5 hbw5 ⊢
        obtain ⟨ao, cap, w6, hrun, hown6, hst6, hb6⟩ := app_end w.heap.size X5 _ k cs _ _ _ hbw5.out.size hown5.out hst5.out hx5.out (by omega)
        have hrun' := hid hrun
        have hfin := hid (show Laid w (layE n hd t) (.returned (.slice ao (k + 3) cap)) w6 from by
          have hlen : (layE n hd t).length = k + 3 := by unfold layE; rw [List.length_append, puts_len]; rw [hm'.out]; simp
          exact ⟨ao, cap, _, by rw [hlen], by rw [hlen]; exact SlV.own hown6, by unfold layE; exact hst6, hbw5.out.trans hb6⟩)
        clear hrun hown6 hst6 hb6 hst5 hown5 hx5 hbw5
        go_wp2_with (at_builtin; refine wpList_app rfl (.tmp 26) (.tmp 32) _ _ rfl _ _ _ _ rfl rfl hrun'.out ?_)
        go_ret
        exact hfin.out
end Go.Proofs.Ytiegocbdgimimaa.Wal
