/-
  lictortop's summed.
-/
import Derived.Test.YtgplioocnbjhaaaTopSummed
import Derived.Test.YtgplioocnbjhaaaRecLeaf
import Derived.Lib.BufferWrite
import Derived.Laws.CopyOwn
import Derived.Laws.Tables
import Derived.Test.YtgplioocnbjhaaaRecHead
namespace Go.Proofs.Ytgplioocnbjhaaa.Top
open Go.ChangeShapes Go.WideShapes Go.ChangeAt Go.RowKit
open Go.Proofs.Ytgplioocnbjhaaa.Mem
set_option linter.unusedVariables false
set_option maxRecDepth 100000
set_option linter.unusedSimpArgs false
theorem wpList_cp {P : Program} {ops : Array Oper} {rest : List Oper} {o : Oper} {a : Act} {w : World} {Q : Exit → Act → World → Prop} (hgd : o.guard = none) (s x : Operand) (t t' : TypeId)
    (ho : o.op = .call { callee := .builtin .copy, args := #[s, x], argTypes := #[t, t'] }) (v1 v2 v : Value) (w' : World) (hs : a.eval s = v1) (hx : a.eval x = v2)
    (hrun : (Builtin.copy_ #[t, t'] o.type #[v1, v2]).run P w = .ok v w') (h : wpList P ops Q rest (a.put o.dst v) w') : wpList P ops Q (o :: rest) a w :=
  wpList_plain hgd fun _ hK => by
    unfold Oper.wp
    simp [execOp, ho, resolve, invoke, builtin, hs, hx, hrun, Result.andThen]
    exact hK _ _ h
def padL (l : List UInt8) : List UInt8 := l ++ List.replicate (60 - l.length) 0
def summedL (l : List UInt8) : List UInt8 := padL l ++ Crc.leb 4 (CrcMath.more 0 (padL l))
theorem padL_len (l : List UInt8) (h : l.length ≤ 60) : (padL l).length = 60 := by simp [padL]; omega
theorem row_padN (n : Nat) (l : List UInt8) : (List.replicate n (Value.int .u8 0)).toArray.toList.take 0 ++ Lib.byteCells l ++ (List.replicate n (Value.int .u8 0)).toArray.toList.drop (0 + l.length) = Lib.byteCells (l ++ List.replicate (n - l.length) 0) := by
  simp [Lib.byteCells]
theorem row_pad (l : List UInt8) : (List.replicate 60 (Value.int .u8 0)).toArray.toList.take 0 ++ Lib.byteCells l ++ (List.replicate 60 (Value.int .u8 0)).toArray.toList.drop (0 + l.length) = Lib.byteCells (padL l) := row_padN 60 l
theorem summed_long (s : ByteArray) (w : World) (h : 60 < s.size) : Calls Try.prog 52 #[.string s] w fun e w' => e = .returned (.tuple #[.string ⟨#[]⟩, .bool false]) ∧ w = w' := by
  have h1 : (60 : Int) < (s.size : Int) := by omega
  clear h
  go_enter Try.func52, Try.ntmps52
  go_wp2_with fail
  go_ret2
  exact ⟨rfl, rfl⟩
set_option maxHeartbeats 1000000 in
theorem summed_short (s : ByteArray) (w : World) (h : s.size ≤ 60) : Calls Try.prog 52 #[.string s] w fun e w' => e = .returned (.tuple #[.string (Rec.bs (summedL s.data.toList)), .bool true]) ∧ Below w.heap.size w w' := by
  obtain ⟨i0, hi, hz0, hz1, hz2⟩ := info_parts Crc.info_u8
  have h1 : ¬ (60 : Int) < (s.size : Int) := by omega
  have hh := hid h
  have hi' := hid hi
  have hz1' := hid hz1
  go_enter Try.func52, Try.ntmps52
  go_wp2_with (at_make; refine wpList_make_full _ rfl _ _ 105 rfl w.heap.size 5 i0 (.int .u8 0) 1 Try.underlying105 hi hz0 hz1 _ _ _ _ 60 rfl rfl rfl rfl ?m1 ?m2 (Nat.le_refl _) ?_)
  case m2 => unfold maxLen; omega
  intro wm hown hgm
  have hbm := hid ((Below.refl w.heap.size w).grown hgm (Nat.le_refl _) (by simp))
  have hg0 := Sector.made_blk hown
  rw [Rec.made_bytes] at hg0
  have hrun := Lib.run_copy_row_string (P := Try.prog) wm 105 9 3 5 w.heap.size 0 60 60 s (List.replicate 60 (Value.int .u8 0)).toArray 5 Try.underlying105 (by rw [hi'.out]; simpa using hz1'.out) hg0 hh.out (by simpa using hh.out)
  rw [show s.size = s.data.toList.length from rfl, row_pad] at hrun
  have hc2 := setRow_heap wm w.heap.size _ (Lib.byteCells (padL s.data.toList)).toArray _ _ hg0
  have hB2 := hid (below_setRow hbm.out (Nat.le_refl w.heap.size) (Lib.byteCells (padL s.data.toList)).toArray)
  generalize wm.setRow w.heap.size (Lib.byteCells (padL s.data.toList)).toArray = W2 at hrun hc2 hB2
  have hrun' := hid hrun
  have hc2' := hid hc2
  have hback := hid (run_convert_bytes_back (P := Try.prog) W2 105 9 5 ⟨w.heap.size, 0, none⟩ 60 (padL s.data.toList) Try.underlying105 Try.underlying5 Try.underlying9
    (fun j hj => by
      rw [Mem.add_plain, Nat.zero_add]
      simp [World.cell?, hc2, Lib.byteCells, hj]))
  have hpl : Hid ((padL s.data.toList).length = 60) := hid (padL_len _ (by have := hh.out; exact this))
  clear hrun hc2 hown hgm hg0 hi hz0 hz1 hz2
  go_wp2_with fail
  rw [hrun'.out]
  go_wp2_with fail
  have hcv : Hid (∀ W', Below W2.heap.size W2 W' → (convert 105 9 (.slice (some ⟨w.heap.size, 0, none⟩) 60 60)).run Try.prog W' = .ok (.string (Rec.bs (padL s.data.toList))) W') := hid (by
    intro W' hb
    have h1 := run_convert_bytes_back (P := Try.prog) W' 105 9 5 ⟨w.heap.size, 0, none⟩ 60 (padL s.data.toList) Try.underlying105 Try.underlying5 Try.underlying9
      (fun j hj => by
        have hg := (hb.block w.heap.size (Array.getElem?_eq_some_iff.1 hc2'.out).1).trans hc2'.out
        rw [Mem.add_plain, Nat.zero_add]
        simp [World.cell?, hg, Lib.byteCells, hj])
    rw [hpl.out] at h1
    exact h1)
  have hv0 := hid ((Below.refl W2.heap.size W2).drew)
  have hle0 : Hid (W2.heap.size ≤ W2.drew.heap.size) := hid (Nat.le_refl _)
  have hsz : Hid ((Rec.bs (padL s.data.toList)).size ≤ maxLen) := hid (by rw [Rec.bs_size, hpl.out]; decide)
  have hml : Hid (CrcMath.more 0 (padL s.data.toList) < 4294967296) := hid (CrcMath.more_lt 0 _)
  have hadd : Hid (¬ 9223372036854775807 < (Rec.bs (padL s.data.toList)).size + (Crc.leb 4 (CrcMath.more 0 (padL s.data.toList))).length) := hid (by rw [Rec.bs_size, hpl.out, Crc.leb_len]; decide)
  have hsm : Hid (Rec.bs (padL s.data.toList) ++ (⟨(Crc.leb 4 (CrcMath.more 0 (padL s.data.toList))).toArray⟩ : ByteArray) = Rec.bs (summedL s.data.toList)) := hid (Rec.bs_app _ _)
  have hmix : Try.prog.follows .mixedOrders = true := by kernel_rfl
  refine wp_region_any hmix ?_
  clear hmix
  refine wpAny_take (i := 0) (v := ?_) rfl (by kernel_rfl) (by kernel_rfl) (by kernel_rfl) (fun _ _ _ h => h) (Or.inl ⟨by rfl, ?_⟩) ?_
  rotate_left 1
  (intro w; go_simp; try with_reducible rfl)
  (try simp only [Act.put, List.getElem_toArray, List.getElem_cons_zero, List.getElem_cons_succ, List.setIfInBounds_toArray, List.set_cons_zero, List.set_cons_succ])
  refine wpAny_take (i := 2) (v := ?_) rfl (by kernel_rfl) (by kernel_rfl) (by kernel_rfl) (fun _ _ _ h => h) (Or.inl ⟨by rfl, ?_⟩) ?_
  rotate_left 1
  (intro w; go_simp; try with_reducible rfl)
  (try simp only [Act.put, List.getElem_toArray, List.getElem_cons_zero, List.getElem_cons_succ, List.setIfInBounds_toArray, List.set_cons_zero, List.set_cons_succ])
  refine wpAny_ready (rs := [1, 3]) (by kernel_rfl) (by simp) ?_
  refine AllReady.cons rfl (fun K hK => ?_) ?_
  · skip
    go_simp
    rw [hcv.out _ hv0.out]
    go_simp
    refine hK _ _ ?_
    clear hK K
    (try simp only [Act.put, List.getElem_toArray, List.getElem_cons_zero, List.getElem_cons_succ, List.setIfInBounds_toArray, List.set_cons_zero, List.set_cons_succ])
    refine wpAny_ready (rs := [3]) (by kernel_rfl) (by simp) ?_
    refine AllReady.cons rfl (fun K hK => ?_) AllReady.nil
    go_simp
    rw [hcv.out _ hv0.out]
    go_simp
    refine hK _ _ ?_
    clear hK K
    (try simp only [Act.put, List.getElem_toArray, List.getElem_cons_zero, List.getElem_cons_succ, List.setIfInBounds_toArray, List.set_cons_zero, List.set_cons_succ])
    refine wpAny_ready (rs := [4]) (by kernel_rfl) (by simp) ?_
    refine AllReady.cons rfl (fun K hK => ?_) AllReady.nil
    go_simp
    (with_reducible refine (Crc.sum_any _ _ hsz.out).mono ?_)
    rw [Rec.bs_list]
    rintro e w4 ⟨rfl, b4⟩
    have hv4 := hid (hv0.out.trans (b4.mono hle0.out))
    refine hK _ _ ?_
    clear hK K
    (try simp only [Act.put, List.getElem_toArray, List.getElem_cons_zero, List.getElem_cons_succ, List.setIfInBounds_toArray, List.set_cons_zero, List.set_cons_succ])
    refine wpAny_ready (rs := [5]) (by kernel_rfl) (by simp) ?_
    refine AllReady.cons rfl (fun K hK => ?_) AllReady.nil
    go_simp
    (with_reducible refine (Crc.put32_any _ _ hml.out).mono ?_)
    rintro e w5 ⟨rfl, b5⟩
    have hv5 := hid (bt hv4.out b5)
    refine hK _ _ ?_
    clear hK K
    (try simp only [Act.put, List.getElem_toArray, List.getElem_cons_zero, List.getElem_cons_succ, List.setIfInBounds_toArray, List.set_cons_zero, List.set_cons_succ])
    refine wpAny_ready (rs := [6]) (by kernel_rfl) (by simp) ?_
    refine AllReady.cons rfl (fun K hK => ?_) AllReady.nil
    go_simp
    rw [if_neg hadd.out, hsm.out]
    go_simp
    refine hK _ _ ?_
    clear hK K
    (try simp only [Act.put, List.getElem_toArray, List.getElem_cons_zero, List.getElem_cons_succ, List.setIfInBounds_toArray, List.set_cons_zero, List.set_cons_succ])
    refine wpAny_ready (rs := [7]) (by kernel_rfl) (by simp) ?_
    refine AllReady.cons rfl (fun K hK => ?_) AllReady.nil
    go_simp
    refine hK _ _ ?_
    clear hK K
    (try simp only [Act.put, List.getElem_toArray, List.getElem_cons_zero, List.getElem_cons_succ, List.setIfInBounds_toArray, List.set_cons_zero, List.set_cons_succ])
    refine wpAny_ready (rs := [8]) (by kernel_rfl) (by simp) ?_
    refine AllReady.cons rfl (fun K hK => ?_) AllReady.nil
    go_simp
    refine hK _ _ ?_
    clear hK K
    (try simp only [Act.put, List.getElem_toArray, List.getElem_cons_zero, List.getElem_cons_succ, List.setIfInBounds_toArray, List.set_cons_zero, List.set_cons_succ])
    refine wpAny_done (by kernel_rfl) ?_ _
    go_wp2_with fail
    first | go_ret2 | go_ret
    exact ⟨rfl, bt hB2.out hv5.out⟩
  refine AllReady.cons rfl (fun K hK => ?_) AllReady.nil
  go_simp
  rw [hcv.out _ hv0.out]
  go_simp
  refine hK _ _ ?_
  clear hK K
  (try simp only [Act.put, List.getElem_toArray, List.getElem_cons_zero, List.getElem_cons_succ, List.setIfInBounds_toArray, List.set_cons_zero, List.set_cons_succ])
  refine wpAny_ready (rs := [1, 4]) (by kernel_rfl) (by simp) ?_
  refine AllReady.cons rfl (fun K hK => ?_) ?_
  · skip
    go_simp
    rw [hcv.out _ hv0.out]
    go_simp
    refine hK _ _ ?_
    clear hK K
    (try simp only [Act.put, List.getElem_toArray, List.getElem_cons_zero, List.getElem_cons_succ, List.setIfInBounds_toArray, List.set_cons_zero, List.set_cons_succ])
    refine wpAny_ready (rs := [4]) (by kernel_rfl) (by simp) ?_
    refine AllReady.cons rfl (fun K hK => ?_) AllReady.nil
    go_simp
    (with_reducible refine (Crc.sum_any _ _ hsz.out).mono ?_)
    rw [Rec.bs_list]
    rintro e w4 ⟨rfl, b4⟩
    have hv4 := hid (hv0.out.trans (b4.mono hle0.out))
    refine hK _ _ ?_
    clear hK K
    (try simp only [Act.put, List.getElem_toArray, List.getElem_cons_zero, List.getElem_cons_succ, List.setIfInBounds_toArray, List.set_cons_zero, List.set_cons_succ])
    refine wpAny_ready (rs := [5]) (by kernel_rfl) (by simp) ?_
    refine AllReady.cons rfl (fun K hK => ?_) AllReady.nil
    go_simp
    (with_reducible refine (Crc.put32_any _ _ hml.out).mono ?_)
    rintro e w5 ⟨rfl, b5⟩
    have hv5 := hid (bt hv4.out b5)
    refine hK _ _ ?_
    clear hK K
    (try simp only [Act.put, List.getElem_toArray, List.getElem_cons_zero, List.getElem_cons_succ, List.setIfInBounds_toArray, List.set_cons_zero, List.set_cons_succ])
    refine wpAny_ready (rs := [6]) (by kernel_rfl) (by simp) ?_
    refine AllReady.cons rfl (fun K hK => ?_) AllReady.nil
    go_simp
    rw [if_neg hadd.out, hsm.out]
    go_simp
    refine hK _ _ ?_
    clear hK K
    (try simp only [Act.put, List.getElem_toArray, List.getElem_cons_zero, List.getElem_cons_succ, List.setIfInBounds_toArray, List.set_cons_zero, List.set_cons_succ])
    refine wpAny_ready (rs := [7]) (by kernel_rfl) (by simp) ?_
    refine AllReady.cons rfl (fun K hK => ?_) AllReady.nil
    go_simp
    refine hK _ _ ?_
    clear hK K
    (try simp only [Act.put, List.getElem_toArray, List.getElem_cons_zero, List.getElem_cons_succ, List.setIfInBounds_toArray, List.set_cons_zero, List.set_cons_succ])
    refine wpAny_ready (rs := [8]) (by kernel_rfl) (by simp) ?_
    refine AllReady.cons rfl (fun K hK => ?_) AllReady.nil
    go_simp
    refine hK _ _ ?_
    clear hK K
    (try simp only [Act.put, List.getElem_toArray, List.getElem_cons_zero, List.getElem_cons_succ, List.setIfInBounds_toArray, List.set_cons_zero, List.set_cons_succ])
    refine wpAny_done (by kernel_rfl) ?_ _
    go_wp2_with fail
    first | go_ret2 | go_ret
    exact ⟨rfl, bt hB2.out hv5.out⟩
  refine AllReady.cons rfl (fun K hK => ?_) AllReady.nil
  go_simp
  (with_reducible refine (Crc.sum_any _ _ hsz.out).mono ?_)
  rw [Rec.bs_list]
  rintro e w4 ⟨rfl, b4⟩
  have hv4 := hid (hv0.out.trans (b4.mono hle0.out))
  refine hK _ _ ?_
  clear hK K
  (try simp only [Act.put, List.getElem_toArray, List.getElem_cons_zero, List.getElem_cons_succ, List.setIfInBounds_toArray, List.set_cons_zero, List.set_cons_succ])
  refine wpAny_ready (rs := [1, 5]) (by kernel_rfl) (by simp) ?_
  refine AllReady.cons rfl (fun K hK => ?_) ?_
  · skip
    go_simp
    rw [hcv.out _ hv4.out]
    go_simp
    refine hK _ _ ?_
    clear hK K
    (try simp only [Act.put, List.getElem_toArray, List.getElem_cons_zero, List.getElem_cons_succ, List.setIfInBounds_toArray, List.set_cons_zero, List.set_cons_succ])
    refine wpAny_ready (rs := [5]) (by kernel_rfl) (by simp) ?_
    refine AllReady.cons rfl (fun K hK => ?_) AllReady.nil
    go_simp
    (with_reducible refine (Crc.put32_any _ _ hml.out).mono ?_)
    rintro e w5 ⟨rfl, b5⟩
    have hv5 := hid (bt hv4.out b5)
    refine hK _ _ ?_
    clear hK K
    (try simp only [Act.put, List.getElem_toArray, List.getElem_cons_zero, List.getElem_cons_succ, List.setIfInBounds_toArray, List.set_cons_zero, List.set_cons_succ])
    refine wpAny_ready (rs := [6]) (by kernel_rfl) (by simp) ?_
    refine AllReady.cons rfl (fun K hK => ?_) AllReady.nil
    go_simp
    rw [if_neg hadd.out, hsm.out]
    go_simp
    refine hK _ _ ?_
    clear hK K
    (try simp only [Act.put, List.getElem_toArray, List.getElem_cons_zero, List.getElem_cons_succ, List.setIfInBounds_toArray, List.set_cons_zero, List.set_cons_succ])
    refine wpAny_ready (rs := [7]) (by kernel_rfl) (by simp) ?_
    refine AllReady.cons rfl (fun K hK => ?_) AllReady.nil
    go_simp
    refine hK _ _ ?_
    clear hK K
    (try simp only [Act.put, List.getElem_toArray, List.getElem_cons_zero, List.getElem_cons_succ, List.setIfInBounds_toArray, List.set_cons_zero, List.set_cons_succ])
    refine wpAny_ready (rs := [8]) (by kernel_rfl) (by simp) ?_
    refine AllReady.cons rfl (fun K hK => ?_) AllReady.nil
    go_simp
    refine hK _ _ ?_
    clear hK K
    (try simp only [Act.put, List.getElem_toArray, List.getElem_cons_zero, List.getElem_cons_succ, List.setIfInBounds_toArray, List.set_cons_zero, List.set_cons_succ])
    refine wpAny_done (by kernel_rfl) ?_ _
    go_wp2_with fail
    first | go_ret2 | go_ret
    exact ⟨rfl, bt hB2.out hv5.out⟩
  refine AllReady.cons rfl (fun K hK => ?_) AllReady.nil
  go_simp
  (with_reducible refine (Crc.put32_any _ _ hml.out).mono ?_)
  rintro e w5 ⟨rfl, b5⟩
  have hv5 := hid (bt hv4.out b5)
  refine hK _ _ ?_
  clear hK K
  (try simp only [Act.put, List.getElem_toArray, List.getElem_cons_zero, List.getElem_cons_succ, List.setIfInBounds_toArray, List.set_cons_zero, List.set_cons_succ])
  refine wpAny_ready (rs := [1]) (by kernel_rfl) (by simp) ?_
  refine AllReady.cons rfl (fun K hK => ?_) AllReady.nil
  go_simp
  rw [hcv.out _ hv5.out]
  go_simp
  refine hK _ _ ?_
  clear hK K
  (try simp only [Act.put, List.getElem_toArray, List.getElem_cons_zero, List.getElem_cons_succ, List.setIfInBounds_toArray, List.set_cons_zero, List.set_cons_succ])
  refine wpAny_ready (rs := [6]) (by kernel_rfl) (by simp) ?_
  refine AllReady.cons rfl (fun K hK => ?_) AllReady.nil
  go_simp
  rw [if_neg hadd.out, hsm.out]
  go_simp
  refine hK _ _ ?_
  clear hK K
  (try simp only [Act.put, List.getElem_toArray, List.getElem_cons_zero, List.getElem_cons_succ, List.setIfInBounds_toArray, List.set_cons_zero, List.set_cons_succ])
  refine wpAny_ready (rs := [7]) (by kernel_rfl) (by simp) ?_
  refine AllReady.cons rfl (fun K hK => ?_) AllReady.nil
  go_simp
  refine hK _ _ ?_
  clear hK K
  (try simp only [Act.put, List.getElem_toArray, List.getElem_cons_zero, List.getElem_cons_succ, List.setIfInBounds_toArray, List.set_cons_zero, List.set_cons_succ])
  refine wpAny_ready (rs := [8]) (by kernel_rfl) (by simp) ?_
  refine AllReady.cons rfl (fun K hK => ?_) AllReady.nil
  go_simp
  refine hK _ _ ?_
  clear hK K
  (try simp only [Act.put, List.getElem_toArray, List.getElem_cons_zero, List.getElem_cons_succ, List.setIfInBounds_toArray, List.set_cons_zero, List.set_cons_succ])
  refine wpAny_done (by kernel_rfl) ?_ _
  go_wp2_with fail
  first | go_ret2 | go_ret
  exact ⟨rfl, bt hB2.out hv5.out⟩
theorem good_summed (l : List UInt8) (h : l.length ≤ 60) : goodB (summedL l) = true := by
  have hp := padL_len l h
  have e1 : Rec.sub (summedL l) 60 4 = Crc.leb 4 (CrcMath.more 0 (padL l)) := by
    unfold Rec.sub summedL
    rw [List.drop_append_of_le_length (by omega), List.drop_of_length_le (by omega), List.nil_append, List.take_of_length_le (by rw [Crc.leb_len]; exact Nat.le_refl _)]
  have e2 : Rec.sub (summedL l) 0 60 = padL l := by
    unfold Rec.sub summedL
    rw [List.drop_zero, List.take_append_of_le_length (by omega), List.take_of_length_le (by omega)]
  have e3 : (summedL l).length = 64 := by unfold summedL; rw [List.length_append, hp, Crc.leb_len]
  unfold goodB
  rw [e1, e2, e3, Crc.num_leb4 _ (CrcMath.more_lt 0 _)]
  simp
end Go.Proofs.Ytgplioocnbjhaaa.Top
