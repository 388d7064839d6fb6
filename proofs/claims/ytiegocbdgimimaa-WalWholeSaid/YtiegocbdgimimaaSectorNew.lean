/-
  The contracts of New and Read.
-/
import Derived.Test.YtiegocbdgimimaaSectorCrash
import Derived.Test.YtiegocbdgimimaaShelf
import Derived.Laws.CopyOwn
import Derived.Deep.Cut
namespace Go.Proofs.Ytiegocbdgimimaa.Sector
open Go.ChangeShapes Go.WideShapes Go.ChangeAt Go.RowKit
open Go.Proofs.Ytiegocbdgimimaa.Mem
set_option linter.unusedVariables false

def blank : ByteArray := ⟨(List.replicate 64 (0 : UInt8)).toArray⟩
def newE (n : Int) : Disk × Int := if n < 1 ∨ 1024 < n then (zeroDisk, 1) else (⟨List.replicate n.toNat blank, [], false, -1⟩, 0)

theorem repeat64 (w : World) : Calls Try.prog 50 #[.string ⟨#[0]⟩, .int .i64 64] w fun e w' => e = .returned (.string blank) ∧ Below w.heap.size w w' := by
  refine (Try.strings_Repeat_main ⟨#[0]⟩ 64 w (by omega) (by omega) (by decide) (by decide)).mono ?_
  rintro e w' ⟨rfl, hb⟩
  exact ⟨by rw [show (⟨(Lib.repeatL (⟨#[0]⟩ : ByteArray).data.toList 64).toArray⟩ : ByteArray) = blank by decide +kernel], hb⟩

def rep (s : ByteArray) (n k : Nat) : List Value := List.replicate k (Value.string s) ++ List.replicate (n - k) (Value.string ⟨#[]⟩)
theorem rep_len (s : ByteArray) (n k : Nat) (h : k ≤ n) : (rep s n k).length = n := by simp [rep]; omega
theorem rep_step (s : ByteArray) (n k m : Nat) (h : k + m ≤ n) : splice (rep s n k) k (List.replicate m (Value.string s)) = rep s n (k + m) := by
  unfold splice rep
  rw [List.take_left' (by simp), List.length_replicate, List.drop_append, List.drop_eq_nil_of_le (by simp)]
  simp only [List.length_replicate, List.nil_append, List.drop_replicate]
  rw [← List.append_assoc, List.replicate_append_replicate]
  congr 2
  omega
theorem rep_get (s : ByteArray) (n k j : Nat) (v : Value) (hj : (List.replicate k (Value.string s))[j]? = some v) {w : World} {g : Nat} {t : TypeId} (hg : w.heap[g]? = some (.cells (rep s n k).toArray t (0, 0))) : w.cell? ((⟨g, 0, none⟩ : Addr).add j) = some v := by
  rw [Mem.add_plain, Nat.zero_add]
  have hjl : j < k := by have := (List.getElem?_eq_some_iff.1 hj).1; simpa using this
  have hB : Blk w g (rep s n k) t := ⟨hg⟩
  rw [hB.cell j (by simp [rep]; omega)]
  simp [hjl] at hj
  subst hj
  simp [rep, hjl]
theorem own_of_blk {w : World} {g base n : Nat} {t : TypeId} {s : ByteArray} (hg : w.heap[g]? = some (.cells (rep s n n).toArray t (0, 0))) (hb : base ≤ g) (hn : n ≤ maxLen) :
    w.ownsRow base t 1 (.slice (some ⟨g, 0, none⟩) n n) n (strC (List.replicate n s)) := by
  refine ⟨by simp [strC], .inr ⟨g, n, _, rfl, hb, hg, Nat.le_refl _, hn, by simp [rep], ?_⟩⟩
  simp [rep, strC]

theorem mul_one_any (n : Nat) (w : World) (hn2 : n ≤ 1024) : Calls Try.prog 79 #[.int .u64 1, .int .u64 n] w fun e w' => e = .returned (.tuple #[.int .u64 0, .int .u64 n]) ∧ w = w' := by
  have hd : ((1 * n / 18446744073709551616 : Nat) : Int) = 0 := by omega
  have hm : ((1 * n % 18446744073709551616 : Nat) : Int) = (n : Int) := by omega
  refine (Try.bits_Mul 1 n (by omega) (by omega) w).mono ?_
  intro e w' h
  rw [hd, hm] at h
  exact ⟨h.1, h.2.symm⟩

theorem made_blk {w : World} {base g n : Nat} {e : TypeId} {xs : List Value} (h : w.ownsRow base e 1 (.slice (some ⟨g, 0, none⟩) n n) n xs) : w.heap[g]? = some (.cells xs.toArray e (0, 0)) := by
  rcases h.2 with ⟨h', _⟩ | ⟨g', cap', cur, h', _, hg, _, _, hcs, htake⟩
  · simp at h'
  · simp only [Value.slice.injEq, Option.some.injEq, Addr.mk.injEq, and_true, true_and] at h'
    obtain ⟨rfl, rfl⟩ := h'
    rw [hg]
    have : cur.toList = xs := by rw [← htake, List.take_of_length_le (by simp [hcs])]
    rw [← this]
theorem made_empty (n : Nat) : (madeCells #[Value.string ⟨#[]⟩] n).toList = List.replicate n (Value.string ⟨#[]⟩) := by
  apply List.ext_getElem
  · simp [madeCells]
  · intro j h1 h2
    simp [madeCells, Nat.mod_one]

theorem step_copy_run {P : Program} {ops : Array Oper} {o : Oper} {a : Act} {w : World} {K : Act → World → Prop} {Q : Exit → Act → World → Prop} {E : Prop}
    (hg : o.guard = none) (s x : Operand) (t t' : TypeId) (hop : o.op = Op.call { callee := Callee.builtin Builtin.copy, args := #[s, x], argTypes := #[t, t'] })
    (v1 v2 v : Value) (w' : World) (hs : a.eval s = v1) (hx : a.eval x = v2) (hrun : (Builtin.copy_ #[t, t'] o.type #[v1, v2]).run P w = .ok v w') (hK : K (a.put o.dst v) w') :
    if Region.wanted o (yielded ops a.tmps) = true then Oper.wp P o a w K Q else E := by
  have hw : Region.wanted o (yielded ops a.tmps) = true := by simp [Region.wanted, hg]
  rw [if_pos hw]
  unfold Oper.wp
  simp [execOp, hop, resolve, invoke, builtin, hs, hx, hrun, Result.andThen]
  exact hK
theorem size_string : (Try.prog.info? 9).map (·.size) = some 1 := by kernel_rfl
theorem copy_run {s : ByteArray} {n k : Nat} {w wr : World} (hk : k ≤ n) (hg : wr.heap[w.heap.size]? = some (.cells (rep s n k).toArray 9 (0, 0))) (hb : Below w.heap.size w wr) :
    ∃ W, (Builtin.copy_ #[22, 22] 3 #[.slice (some ⟨w.heap.size, k, none⟩) (n - k) (n - k), .slice (some ⟨w.heap.size, 0, none⟩) k n]).run Try.prog wr.drew = .ok (.int .i64 ((min k (n - k) : Nat) : Int)) W ∧
      W.heap[w.heap.size]? = some (.cells (rep s n (k + min k (n - k))).toArray 9 (0, 0)) ∧ Below w.heap.size w W := by
  have hgd : wr.drew.heap[w.heap.size]? = some (.cells (rep s n k).toArray 9 (0, 0)) := hg
  have hr := run_copy_row (P := Try.prog) wr.drew 22 22 3 9 w.heap.size k (n - k) (n - k) ⟨w.heap.size, 0, none⟩ k n (rep s n k).toArray 9 (List.replicate (min k (n - k)) (Value.string s)) Try.underlying22 size_string hgd (by simp)
    (fun j v hj => rep_get s n k j v (by rw [List.getElem?_replicate] at hj ⊢; split at hj <;> simp_all; omega) hgd) (by rw [List.size_toArray, rep_len s n k hk]; simp; omega) (by intro v hv; rw [List.eq_of_mem_replicate hv]; rfl)
  rw [List.length_replicate] at hr
  refine ⟨_, hr, ?_, below_setRow hb.drew (Nat.le_refl _) _⟩
  have h2 := setRow_heap wr.drew w.heap.size _ ((rep s n k).toArray.toList.take k ++ List.replicate (min k (n - k)) (Value.string s) ++ (rep s n k).toArray.toList.drop (k + min k (n - k))).toArray 9 _ hgd
  rw [h2]
  have h3 := rep_step s n k (min k (n - k)) (by omega)
  unfold splice at h3
  rw [List.length_replicate] at h3
  simp only [List.append_assoc]
  rw [h3]
set_option maxHeartbeats 400000 in
theorem repeatStrs_any (s : ByteArray) (n : Nat) (hn : 1 ≤ n) (hn2 : n ≤ 1024) (b : Nat) (w : World) (hc : w.cell? ⟨b, 0, none⟩ = some (.string s)) :
    Calls Try.prog 51 #[.slice (some ⟨b, 0, none⟩) 1 1, .int .i64 n] w (Owned w 9 1 n (strC (List.replicate n s))) := by
  obtain ⟨i0, hi, hz0, hz1, hz2⟩ := info_parts info_string
  have h1 : ¬ (n : Int) < 0 := by omega
  have h2 : (n : Int) ≤ 1024 := by omega
  have h3 : decide ((9223372036854775807 : Int) < (n : Int)) = false := by simp; omega
  go_enter Try.func51, Try.ntmps51
  go_wp2_with fail
  refine (mul_one_any n _ hn2).mono ?_
  rintro e w1 ⟨rfl, rfl⟩
  go_upto_region 6 with (fail)
  go_wp2_with (at_make; refine wpList_make_full _ rfl _ _ 22 rfl w.heap.size 9 i0 (.string ⟨#[]⟩) 1 Try.underlying22 hi hz0 hz1 _ _ _ _ n rfl rfl rfl rfl ?m1 ?m2 (Nat.le_refl _) ?_)
  case m1 => rw [hz2]; omega
  case m2 => unfold maxLen; omega
  intro wm hown hgm
  have hbm : Below w.heap.size w wm := (Below.refl _ _).grown hgm (Nat.le_refl _) (by simp)
  have hg0 := made_blk hown
  rw [made_empty] at hg0
  have hcm := cell_below hbm _ _ hc
  have hg0' := hid hg0
  have hbm' := hid hbm
  clear hown hgm hg0 hbm hc
  go_wp2_with (refine wpList_copy_splice rfl (.tmp 31) (.tmp 32) 22 22 rfl 9 Try.underlying22 size_string _ _ _ _ _ _ rfl rfl w.heap.size 0 (List.replicate n (Value.string ⟨#[]⟩)) 9 hg0'.out [.string s] ?c1 ?c2 ?c3 ?c4 w.heap.size w hbm'.out (Nat.le_refl _) ?_)
  case c1 => exact (Nat.min_eq_left hn).symm
  case c2 =>
    intro j v hj
    match j, hj with
    | 0, hj => simp at hj; subst hj; exact hcm
  case c3 => simp; omega
  case c4 => simp [Value.oneCell']
  intro w2 hg2 hb2
  have hr0 : splice (List.replicate n (Value.string ⟨#[]⟩)) 0 [.string s] = rep s n 1 := by
    have := rep_step s n 0 1 (by omega)
    simpa [rep] using this
  rw [hr0] at hg2
  have hb2' := hid hb2
  clear hg0' hbm' hcm hr0 hb2
  go_wp2_with fail
  go_loopw [8] (fun i wr => ∃ k : Nat, 1 ≤ k ∧ k ≤ n ∧ i = .int .i64 k ∧ Hid (wr.heap[w.heap.size]? = some (.cells (rep s n k).toArray 9 (0, 0))) ∧ Below w.heap.size w wr) (fun i _ => n - (intOf i).toNat)
  case atStart => exact ⟨1, by omega, by omega, rfl, hg2, hb2'.out⟩
  case round =>
    obtain ⟨k, hk1, hk2, rfl, hgk, hbr⟩ := hrel
    have hbr' := hid hbr
    clear hbr
    by_cases hlt : k < n
    · have hk0 : ¬ n = k := by omega
      obtain ⟨W2, hrun, hg2', hb2'⟩ := copy_run (w := w) (wr := wr) hk2 hgk.out hbr'.out
      have hg3 := hid hg2'
      have hb3 := hid hb2'
      have hm0 : 0 < min k (n - k) := by omega
      have hm1 : k + min k (n - k) ≤ n := by omega
      clear hg2' hb2' hgk hbr'
      generalize min k (n - k) = m at *
      have hw : IntKind.i64.wrap ((k : Int) + (m : Int)) = ((k + m : Nat) : Int) := by rw [IntWalk.i64_in _ (by omega)]; rfl
      go_wp2_with fail
      go_region_law (refine step_copy_run rfl (.tmp 41) (.tmp 44) 22 22 rfl (.slice (some ⟨w.heap.size, k, none⟩) (n - k) (n - k)) (.slice (some ⟨w.heap.size, 0, none⟩) k n) _ _ (by simp [Act.put, Act.eval]) (by simp [Act.put, Act.eval]) hrun ?_)
      all_goals
        clear hw h2 h3 h1 hi hz0 hz1 hz2
        simp [Act.put]
        go_wp2_with fail
        go_roundw
        case rel => exact ⟨k + m, by omega, hm1, by go_num, hg3.out, hb3.out⟩
        case measure => simp [intOf]; omega
    · obtain rfl : k = n := by omega
      have hfin := hid (own_of_blk hgk.out (Nat.le_refl w.heap.size) (by unfold maxLen; omega))
      go_wp2_with fail
      go_ret
      exact ⟨_, rfl, hfin.out, hbr'.out⟩

theorem new_bad (n : Int) (w : World) (h : n < 1 ∨ 1024 < n) : Calls Try.prog 24 #[.int .i64 n] w (Res w (zeroDisk, 1)) := by
  have go : Calls Try.prog 24 #[.int .i64 n] w fun e w' => e = .returned (.tuple #[.agg #[.slice none 0 0, .slice none 0 0, .bool false, .int .i64 0], .int .i64 1]) ∧ Below w.heap.size w w' := by
    rcases h with h | h
    · go_enter Try.func24, Try.ntmps24
      go_wp2_with fail
      go_returns
      exact ⟨rfl, by go_grown⟩
    · have h' : ¬ n < 1 := by omega
      go_enter Try.func24, Try.ntmps24
      go_wp2_with fail
      go_returns
      exact ⟨rfl, by go_grown⟩
  refine go.mono ?_
  rintro e w' ⟨rfl, hb⟩
  exact ⟨_, _, rfl, zero_own hb.size, hb⟩

theorem new_ok (n : Nat) (w : World) (h1 : 1 ≤ n) (h2 : n ≤ 1024) : Calls Try.prog 24 #[.int .i64 n] w (Res w (⟨List.replicate n blank, [], false, -1⟩, 0)) := by
  have a1 : ¬ (n : Int) < 1 := by omega
  have a2 : ¬ 1024 < (n : Int) := by omega
  go_enter Try.func24, Try.ntmps24
  go_wp2_with fail
  refine (repeat64 _).mono ?_
  rintro e w1 ⟨rfl, hb1⟩
  have hb1w : Below w.heap.size w w1 := (show Below w.heap.size w _ from by go_grown).trans (hb1.mono (by simp))
  have R1 : Blk w1 w.heap.size [.slice none 0 0, .slice none 0 0, .bool false, .int .i64 0] 25 := (Blk.new _ _ _).below hb1 (by simp)
  have R1' := hid R1
  have hb1' := hid hb1w
  clear R1 hb1 hb1w
  go_wp2_with fail
  refine (repeatStrs_any blank n h1 h2 _ _ (by simp [go_sem])).mono ?_
  rintro e w2 ⟨sv, rfl, hown, hb2⟩
  have R2 := (R1'.out.alloc (.cells #[.string blank] 9)).below hb2 (by simp; have := R1'.out.lt; omega)
  have hb2' := hid ((hb1'.out.alloc hb1'.out.size _).trans (hb2.mono (by simp; have := hb1'.out.size; omega)))
  obtain ⟨so, sc, rfl, _⟩ := ownsRow_form hown
  have hown' := hid (ownsRow_mono (base' := w.heap.size + 1) hown (by simp; have := R1'.out.lt; omega))
  have R5 := (((R2.set 0 (.slice so n sc)).set 1 (.slice none 0 0)).set 2 (.bool false)).set 3 (.int .i64 (-1))
  simp only [List.set_cons_zero, List.set_cons_succ] at R5
  have R5' := hid R5
  obtain ⟨q0, q1, q2, q3, qf⟩ := R2.four
  clear R5 R2 hown hb2
  go_wp2_with fail
  clear q0 q1 q2 q3 qf
  obtain ⟨q0, q1, q2, q3, qf⟩ := R5'.out.four
  refine bodyPost_ret (v := .tuple #[.agg #[.slice so n sc, .slice none 0 0, .bool false, .int .i64 (-1)], .int .i64 0]) (by simp [results, Try.results24, go_sem, q0, q1, q2, q3]) rfl ?_
  have hbf : Below w.heap.size w _ := (((hb2'.out.setCell (p := ⟨w.heap.size, 0, none⟩) (by simp) (.slice so n sc)).setCell (p := ⟨w.heap.size, 1, none⟩) (by simp) (.slice none 0 0)).setCell (p := ⟨w.heap.size, 2, none⟩) (by simp) (.bool false)).setCell (p := ⟨w.heap.size, 3, none⟩) (by simp) (.int .i64 (-1))
  refine ⟨_, _, rfl, ⟨?_, _, hbf.size, Nat.le_refl _, ?_, World.ownsRow_nil _ _ _ _⟩, hbf⟩
  · have := ownsRow_mono (base' := w.heap.size) (ownsRow_setCell_below (ownsRow_setCell_below (ownsRow_setCell_below (ownsRow_setCell_below hown'.out (a := ⟨w.heap.size, 0, none⟩) (by simp) (.slice so n sc)) (a := ⟨w.heap.size, 1, none⟩) (by simp) (.slice none 0 0)) (a := ⟨w.heap.size, 2, none⟩) (by simp) (.bool false)) (a := ⟨w.heap.size, 3, none⟩) (by simp) (.int .i64 (-1))) (by omega)
    simpa using this
  · intro k hk
    have := (ownBlock_lt hown'.out hk).2
    simpa using this
theorem new_any (n : Int) (w : World) : Calls Try.prog 24 #[.int .i64 n] w (Res w (newE n)) := by
  unfold newE
  by_cases h : n < 1 ∨ 1024 < n
  · rw [if_pos h]; exact new_bad n w h
  · rw [if_neg h]
    obtain ⟨k, rfl⟩ : ∃ k : Nat, n = k := ⟨n.toNat, by omega⟩
    exact new_ok k w (by omega) (by omega)
end Go.Proofs.Ytiegocbdgimimaa.Sector
