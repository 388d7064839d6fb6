/-
  slices.Values, AppendSeq, Collect at texts: contracts.
-/
import Derived.Test.YtdjgkbpfmonebaaGreatDoorStrIter
import Derived.Test.YtdjgkbpfmonebaaGreatDoorRowOwn
import Derived.Test.YtdjgkbpfmonebaaGreatDoorValCopied
namespace Go.Proofs.YtdjgkbpfmonebaaGreatDoor.Val
open Go.ChangeShapes Go.WideShapes Go.ChangeAt Go.RowKit Go.Shelf
open Go.Proofs.YtdjgkbpfmonebaaGreatDoor.Mem
set_option linter.unusedVariables false
set_option maxRecDepth 100000
attribute [local go_sem] Oper.semAt_some
def encB (x : ByteArray) : Array Value := #[.string x]
set_option maxHeartbeats 2000000 in
theorem vstr1_in (F : Fence) (n : Nat) (hf : F.fn 52) (hro : F.round = none) (hn : 1 ≤ n) (l Bs n₀ b off cap : Nat) (L : List ByteArray) (hpos : 0 < L.length) (hreach : (L.length : Int) ≤ 9223372036854775807) (hb : b < n₀) (J Jx : List ByteArray → World → Prop)
    (hY : ∀ pre x W, J pre W → pre.length < L.length → YieldAt F (n - 1) Tryz.prog l (encB x) W fun e W' =>
      (e = .returned (.bool true) ∧ J (pre ++ [x]) W' ∧ Below n₀ W W') ∨ (e = .returned (.bool false) ∧ Jx (pre ++ [x]) W'))
    (W : World) (hBs : W.cell? ⟨Bs, 0, none⟩ = some (.slice (some ⟨b, off, none⟩) L.length cap))
    (hc : ∀ j (h : j < L.length), W.cell? ⟨b, off + j, none⟩ = some (.string L[j])) (h0 : J [] W) :
    CallsIn F n Tryz.prog 52 #[.func (.yield l) #[] #[], .pointer (some ⟨Bs, 0, none⟩)] W fun e W' => (∃ v, e = .returned v) ∧
      ((∃ ys, ys = L ∧ J ys W') ∨ (∃ pre, (∃ k, k ≤ L.length ∧ pre = L.take k) ∧ Jx pre W')) := by
  refine callsIn_of_wp Tryz.func52 rfl hf ?_ hro
  simp only [Tryz.ntmps52, List.size_toArray, List.length_cons, List.length_nil, Nat.reduceAdd, Nat.reduceSub, Array.replicate_succ, Array.replicate_zero, List.push_toArray, List.append_toArray, List.nil_append, List.cons_append]
  have hc2 := hid hc
  have hY2 := hid hY
  clear hc hY
  gi_wp2
  gi_loopw [7] (fun i wr => ∃ r : Nat, r ≤ L.length ∧ i = .int .i64 r ∧ J (L.take r) wr ∧ Below n₀ W wr)
    (fun i _ => L.length - (intOf i).toNat)
  case atStart => exact ⟨0, Nat.zero_le _, rfl, h0, Below.refl _ _⟩
  case round =>
    obtain ⟨r, hr, rfl, hJs, hnx⟩ := hrel
    by_cases hlt : r < L.length
    · have hri : (r : Int) < (L.length : Int) := by omega
      obtain ⟨fn, tmps, assign, body, hy, hR⟩ := hY2.out _ L[r] _ hJs (by rw [List.length_take]; omega)
      dsimp only [encB] at hy
      have hcx1 := (hnx.cell (p := ⟨b, off + r, none⟩) hb).trans (hc2.out r hlt)
      have hsucc : Hid (L.take (r + 1) = L.take r ++ [L[r]]) := hid (List.take_succ_eq_append_getElem hlt)
      gi_wp2
      refine hR.mono ?_
      rintro e W3 (⟨rfl, hJ3, hk3⟩ | ⟨rfl, hJx3⟩)
      · gi_wp2
        go_roundw
        case rel => exact ⟨r + 1, by omega, by go_num, by rw [hsucc.out]; exact hJ3, hnx.trans hk3⟩
        case measure => simp [intOf]; omega
      · gi_wp2
        refine bodyPost_ret (results_none rfl _ _ _) rfl ?_
        exact ⟨⟨_, rfl⟩, .inr ⟨_, ⟨r + 1, by omega, hsucc.out.symm⟩, hJx3⟩⟩
    · obtain rfl : r = L.length := by omega
      rw [List.take_length] at hJs
      gi_wp2
      go_end0
      exact ⟨⟨_, rfl⟩, .inl ⟨_, rfl, hJs⟩⟩
set_option maxHeartbeats 1000000 in
theorem vstr1_nil (F : Fence) (n : Nat) (hf : F.fn 52) (hro : F.round = none) (l Bs : Nat) (ao : Option Addr) (cap : Nat) (J : List ByteArray → World → Prop) (W : World) (hBs : W.cell? ⟨Bs, 0, none⟩ = some (.slice ao 0 cap)) (h0 : J [] W) :
    CallsIn F n Tryz.prog 52 #[.func (.yield l) #[] #[], .pointer (some ⟨Bs, 0, none⟩)] W fun e W' => (∃ v, e = .returned v) ∧ J [] W' := by
  refine callsIn_of_wp Tryz.func52 rfl hf ?_ hro
  simp only [Tryz.ntmps52, List.size_toArray, List.length_cons, List.length_nil, Nat.reduceAdd, Nat.reduceSub, Array.replicate_succ, Array.replicate_zero, List.push_toArray, List.append_toArray, List.nil_append, List.cons_append]
  gi_wp2
  gi_loopw [7] (fun i wr => i = .int .i64 0 ∧ J [] wr) (fun _ _ => 0)
  case atStart => exact ⟨rfl, h0⟩
  case round =>
    obtain ⟨rfl, hJs⟩ := hrel
    gi_wp2
    go_end0
    exact ⟨⟨_, rfl⟩, hJs⟩
theorem vstr_stops (F : Fence) (n : Nat) (hf : F.fn 52) (hro : F.round = none) (hn : 1 ≤ n) (Bs n₀ : Nat) (sv : Value) (L : List ByteArray) (hreach : (L.length : Int) ≤ 9223372036854775807) (w A : World) (hBs : Bs < w.heap.size) (hn₀ : n₀ ≤ w.heap.size)
    (hc : w.cell? ⟨Bs, 0, none⟩ = some sv) (hA : A.heap.size ≤ n₀) (hAw : Below A.heap.size A w) (hI : StrsV A sv L) :
    SeqStopsK F n Tryz.prog 52 #[.pointer (some ⟨Bs, 0, none⟩)] encB (Below n₀) (fun ys => ys = L) (fun pre => ∃ k, k ≤ L.length ∧ pre = L.take k) L.length w := fun l J Jx W hW _ _ hY h0 => by
  have hc' := (hW.cell (p := ⟨Bs, 0, none⟩) hBs).trans hc
  have hIW : StrsV W sv L := hI.below (hAw.trans (hW.mono (by omega)))
  by_cases hl : L.length = 0
  · have hL : L = [] := List.eq_nil_of_length_eq_zero hl
    subst hL
    obtain ⟨ao, cap, rfl, _⟩ := hI.form
    exact (vstr1_nil F n hf hro l Bs ao cap J W hc' h0).mono fun e W' ⟨he, hj⟩ => ⟨he, .inl ⟨_, rfl, hj⟩⟩
  · obtain ⟨b, off, cap, rfl, _, _, hbA, _⟩ := hI.open (by omega)
    obtain ⟨b', off', cap', hv, _, _, _, hcs⟩ := hIW.open (by omega)
    simp only [Value.slice.injEq, Option.some.injEq, Addr.mk.injEq, and_true, true_and] at hv
    obtain ⟨⟨rfl, rfl⟩, rfl⟩ := hv
    exact vstr1_in F n hf hro hn l Bs n₀ b off cap L (by omega) hreach (by omega) J Jx hY W hc' hcs h0
theorem vals_any (a : Option Addr) (len cap : Nat) (w : World) :
    Calls Tryz.prog 22 #[.slice a len cap] w fun e w' => e = .returned (.func (.func 52) #[] #[.pointer (some ⟨w.heap.size, 0, none⟩)]) ∧ w' = w.alloc (.cells #[.slice a len cap] 22) := by
  go_enter Tryz.func22, Tryz.ntmps22
  go_wp2_with fail
  go_ret
  exact ⟨rfl, rfl⟩
theorem blk_keptO {A B : World} {b : Nat} {cs : List Value} {t : TypeId} {row : Option Nat} (h : Blk A b cs t) (hg : A.grownBy B row) (hr : ∀ r, row = some r → ∃ o : Obj, A.heap[r]? = some o ∧ o.isCells = false) : Blk B b cs t := ⟨by
  rw [hg.block b h.lt (fun e => by obtain ⟨o, ho, hc⟩ := hr b e.symm; rw [h.at'] at ho; cases ho; cases hc)]
  exact h.at'⟩
theorem row_keptO {A B : World} {base : Nat} {e : TypeId} {size n : Nat} {v : Value} {xs : List Value} {row : Option Nat} (h : A.ownsRow base e size v n xs) (hg : A.grownBy B row) (hr : ∀ r, row = some r → ∃ o : Obj, A.heap[r]? = some o ∧ o.isCells = false) : B.ownsRow base e size v n xs := by
  obtain ⟨h1, h2⟩ := h
  refine ⟨h1, ?_⟩
  rcases h2 with h2 | ⟨g, cap, cur, rfl, hge, hh, r⟩
  · exact .inl h2
  · refine .inr ⟨g, cap, cur, rfl, hge, ?_, r⟩
    rw [hg.block g (Array.getElem?_eq_some_iff.1 hh).1 (fun e => by obtain ⟨o, ho, hc⟩ := hr g e.symm; rw [hh] at ho; cases ho; cases hc)]
    exact hh
theorem row_not_box {W : World} {base : Nat} {e : TypeId} {size n : Nat} {v : Value} {xs : List Value} (h : W.ownsRow base e size v n xs) {b : Nat} {cs : List Value} {t : TypeId} (hB : Blk W b cs t) (hne : t ≠ e) : v.ownBlock ≠ some b := by
  rcases h.2 with ⟨rfl, _⟩ | ⟨g, cap, cur, rfl, hge, hh, r⟩
  · simp [Value.ownBlock]
  · intro e'
    have hg : g = b := by simpa [Value.ownBlock] using e'
    subst hg
    rw [hB.at'] at hh
    simp only [Option.some.injEq, Obj.cells.injEq] at hh
    exact hne hh.2.1
theorem row_setBox {W : World} {base : Nat} {e : TypeId} {size n : Nat} {v : Value} {xs : List Value} (h : W.ownsRow base e size v n xs) {b : Nat} {cs : List Value} {t : TypeId} (hB : Blk W b cs t) (hne : t ≠ e) (i : Nat) (x : Value) : (W.setCell ⟨b, i, none⟩ x).ownsRow base e size v n xs := by
  have hn := row_not_box h hB hne
  obtain ⟨h1, h2⟩ := h
  refine ⟨h1, ?_⟩
  rcases h2 with h2 | ⟨g, cap, cur, rfl, hge, hh, r⟩
  · exact .inl h2
  · refine .inr ⟨g, cap, cur, rfl, hge, ?_, r⟩
    rw [Below.heap_setCell _ _ _ _ (fun e => hn (by simp [Value.ownBlock]; exact e))]
    exact hh
theorem wpListIn_app {F : Fence} {n : Nat} {P : Program} {ops : Array Oper} {rest : List Oper} {o : Oper} {a : Act} {w : World} {Q : Exit → Act → World → Prop} (hgd : o.guard = none) (s x : Operand) (t t' : TypeId)
    (ho : o.op = .call { callee := .builtin .append, args := #[s, x], argTypes := #[t, t'] }) (v1 v2 v : Value) (w' : World) (hs : a.eval s = v1) (hx : a.eval x = v2)
    (hrun : (Builtin.append_ #[t, t'] o.type #[v1, v2]).run P w = .ok v w') (h : wpListIn F n P ops Q rest (a.put o.dst v) w') : wpListIn F n P ops Q (o :: rest) a w := by
  refine wpListIn_plain hgd fun K hK' => ?_
  unfold Oper.wpIn
  refine ⟨?_, ?_⟩
  · simp [Oper.about, ho, resolve, Target.leads, Sem.run_pure]
  · rw [Oper.semAt_plain F _ _ (by rw [ho]; intro c hc'; cases hc')]
    simp [execOp, ho, resolve, invoke, builtin, hs, hx, hrun, Result.andThen]
    exact hK' _ _ h
set_option maxHeartbeats 4000000 in
theorem appendseq_in (L : List ByteArray) (sv : Value) (Bs : Nat) (w A : World) (hroom : L.length * 16 ≤ 140737488355328) (hBs : Bs < w.heap.size) (hc : w.cell? ⟨Bs, 0, none⟩ = some sv) (hA : A.heap.size ≤ w.heap.size) (hAw : Below A.heap.size A w) (hI : StrsV A sv L) :
    Calls Tryz.prog 74 #[.slice none 0 0, .func (.func 52) #[] #[.pointer (some ⟨Bs, 0, none⟩)]] w fun e w' => ∃ v, e = .returned v ∧ w'.ownsRow w.heap.size 9 1 v L.length (strC L) ∧ Below w.heap.size w w' := by
  have hlen : (L.length : Int) ≤ 9223372036854775807 := by omega
  have hBs' := hid hBs
  have hc' := hid hc
  have hA' := hid hA
  have hAw' := hid hAw
  have hI' := hid hI
  have hroom' := hid hroom
  clear hBs hc hA hAw hI hroom
  refine (callsIn_wide (n := 9)).1 ?_
  refine callsIn_of_wp_marks Tryz.func74 rfl trivial ?_ rfl
  simp only [Tryz.ntmps74, List.size_toArray, List.length_cons, List.length_nil, Nat.reduceAdd, Nat.reduceSub, Array.replicate_succ, Array.replicate_zero, List.push_toArray, List.append_toArray, List.nil_append, List.cons_append]
  gi_wp2_with fail
  have bS := Blk.new w [.slice none 0 0] 22
  have hB0 : Below w.heap.size w (w.alloc (.cells #[.slice none 0 0] 22)) := (Below.refl _ w).alloc (Nat.le_refl _) _
  refine wpIn_rangeFunc_ownG rfl (by omega) (gf := 52) (lb := #[.pointer (some ⟨Bs, 0, none⟩)]) rfl trivial (enters_of Tryz.func52 (by kernel_rfl) rfl)
    (vstr_stops Fence.wide (9 - 1) trivial rfl (by omega) Bs w.heap.size sv L hlen _ A (by have := hBs'.out; simp; omega) (by simp) (cell_below hB0 _ _ hc'.out) hA'.out (hAw'.out.trans (hB0.mono hA'.out)) hI'.out) belowK_t (belowK_b (by simp)) (Below.refl _ _) (fun _ => rfl)
    (fun pre W => (∃ v, Blk W w.heap.size [v] 22 ∧ W.ownsRow w.heap.size 9 1 v pre.length (strC pre)) ∧ Below w.heap.size w W)
    (fun _ _ _ => False)
    (OwnFrom.and (fun s A B row hs hg hr => by obtain ⟨v, h1, h2⟩ := hs; exact ⟨v, blk_keptO h1 hg (fun r e => (hr r e).2), row_keptO h2 hg (fun r e => (hr r e).2)⟩) (ownFrom_below (Nat.le_refl _) (by simp)))
    (fun _ _ _ _ _ hs _ _ => hs)
    ⟨⟨_, bS, World.ownsRow_nil _ _ _ _⟩, hB0⟩
    (fun x => { tmps := #[.slice none 0 0, .func (.func 52) #[] #[.pointer (some ⟨Bs, 0, none⟩)], .pointer (some ⟨w.heap.size, 0, none⟩), undef, .slice none 0 0, .string x, .func (.func 52) #[] #[.pointer (some ⟨Bs, 0, none⟩)], .string x, undef, undef, undef, undef, undef], defers := [] }) ?assign ?body ?done ?stop
  case assign =>
    intro l x W K hK
    dsimp only [encB]
    gi_wp2
    exact hK
  case body =>
    rintro l pre x W ⟨⟨v, hb, hown⟩, hB⟩ hlt
    obtain ⟨i0, hi, hz0, hz1, hz2⟩ := info_parts' info_string
    have b6 : Below W.heap.size W (W.alloc (.cells #[.string x] 9)) := (Below.refl _ W).alloc (Nat.le_refl _) _
    have hK6 := Blk.new W [.string x] 9
    have hm : maxLen = 9223372036854775807 := rfl
    obtain ⟨v', W7, hrun, ho, hg, hpl⟩ := run_append_place (P := Tryz.prog) (W.alloc (.cells #[.string x] 9)) w.heap.size 22 22 9 i0 (.string ⟨#[]⟩) 1 16 Tryz.underlying22 hi hz0 hz1 hz2 rfl (by decide) v pre.length (strC pre) (ownsRow_below hown b6)
      ⟨W.heap.size, 0, none⟩ 1 1 [.string x] rfl (getElem?_cells' (fun j hj => by rw [Mem.add_plain, Nat.zero_add]; exact hK6.cell j hj)) (fun u hu => by simp at hu; subst hu; rfl) (by omega) (by have := hroom'.out; omega) (by have := hB.size; have := b6.size; omega)
    obtain ⟨so, sc, rfl, _⟩ := ownsRow_form ho
    have hnb := row_not_box hown hb (by decide)
    have hb7 : Blk W7 w.heap.size [v] 22 := ⟨(hg.block _ (hb.alloc _).lt (fun e => hnb e.symm)).trans (hb.alloc _).at'⟩
    have hlt0 := fun k hk => (hown.lt k hk)
    have hB7 : Below w.heap.size w W7 := (hB.trans (b6.mono hB.size)).grown hg (by have := hB.size; have := b6.size; omega) (fun k hk => (hlt0 k hk).1)
    have hko : KeepsOthers W W7 := (KeepsOthers.alloc _ _).trans (KeepsOthers.of_grownBy hg (fun j o e h => by
      have hj := hlt0 j e
      rcases hown.2 with ⟨rfl, _⟩ | ⟨g, cap, cur, rfl, hge, hh, r⟩
      · simp [Value.ownBlock] at e
      · have e' : g = j := by simpa [Value.ownBlock] using e
        subst e'
        rw [Below.heap_alloc _ _ g hj.2, hh] at h
        cases h
        rfl))
    have hbel : Below w.heap.size W W7 := (b6.mono hB.size).grown hg (by have := hB.size; have := b6.size; omega) (fun k hk => (hlt0 k hk).1)
    obtain ⟨s0, sf⟩ := hb.one
    obtain ⟨t0, tf⟩ := hb7.one
    have hrun' := hid hrun
    have hown' := hid (show W7.ownsRow w.heap.size 9 1 (.slice so (pre.length + 1) sc) (pre ++ [x]).length (strC (pre ++ [x])) from by rw [List.length_append, strC_append]; exact ho)
    clear hrun ho hown hg hpl hnb hK6 hm hi hz0 hz1 hz2 hlt0
    gi_wp2_with (gi_at_builtin; refine wpListIn_app rfl (.tmp 8) (.tmp 10) _ _ rfl _ _ _ _ rfl rfl hrun'.out ?_)
    refine ⟨(hko.trans (KeepsOthers.setCell _ _ _)).from _, hbel.setCell (p := ⟨w.heap.size, 0, none⟩) (Nat.le_refl _) _, ⟨.slice so (pre.length + 1) sc, ?_, row_setBox hown'.out hb7 (by decide) 0 _⟩, hB7.setCell (p := ⟨w.heap.size, 0, none⟩) (Nat.le_refl _) _⟩
    exact hb7.set 0 (.slice so (pre.length + 1) sc)
  case done =>
    rintro D ys W hD rfl ⟨⟨v, hb, hown⟩, hB⟩ hK
    obtain ⟨s0, sf⟩ := hb.one
    gi_wp2
    refine ⟨by simp, .inl ⟨_, _, rfl, run_takeDeferred hK, ?_⟩⟩
    exact ⟨_, results_tmp rfl _ _ _, v, rfl, row_keptO hown (grownBy_putObj' _ D _) (fun r e => by cases e; exact ⟨_, hK, rfl⟩), hB.trans (belowK_b (w := w) (Nat.le_refl _) W D _ _ (by simp at hD; omega) hK rfl rfl)⟩
  case stop =>
    rintro D c pre W _ _ h _
    exact h.elim
theorem collect_any (L : List ByteArray) (sv : Value) (Bs : Nat) (w A : World) (hroom : L.length * 16 ≤ 140737488355328) (hBs : Bs < w.heap.size) (hc : w.cell? ⟨Bs, 0, none⟩ = some sv) (hA : A.heap.size ≤ w.heap.size) (hAw : Below A.heap.size A w) (hI : StrsV A sv L) :
    Calls Tryz.prog 50 #[.func (.func 52) #[] #[.pointer (some ⟨Bs, 0, none⟩)]] w fun e w' => ∃ v, e = .returned v ∧ w'.ownsRow w.heap.size 9 1 v L.length (strC L) ∧ Below w.heap.size w w' := by
  have h := hid (appendseq_in L sv Bs w A hroom hBs hc hA hAw hI)
  clear hroom hBs hc hA hAw hI
  go_enter Tryz.func50, Tryz.ntmps50
  go_wp2_with fail
  refine h.out.mono ?_
  rintro e w1 ⟨v, rfl, ho, hb⟩
  replace ho := hid ho
  replace hb := hid hb
  clear h
  go_wp2_with fail
  go_ret
  exact ⟨_, rfl, ho.out, hb.out⟩
end Go.Proofs.YtdjgkbpfmonebaaGreatDoor.Val
