/-
  PrBase: PrB, PrPut, PrSt, PrCalls, PrKid in one. Written by wip/prgroups.py.
-/
import Derived.Test.YtbcjppbiihgfpaaGreatDoorLikBuild
import Derived.Test.YtbcjppbiihgfpaaGreatDoorExShow
import Derived.Test.YtbcjppbiihgfpaaGreatDoorExCalls
import Derived.Lib.AppendIntMem
import Derived.Lib.SmallJoins
namespace Go.Proofs.YtbcjppbiihgfpaaGreatDoor.Ex
open Go.ChangeShapes Go.WideShapes Go.ChangeAt Go.RowKit
open Go.Proofs.YtbcjppbiihgfpaaGreatDoor.Mem Go.Proofs.YtbcjppbiihgfpaaGreatDoor.Lik
set_option linter.unusedVariables false
set_option linter.unusedSimpArgs false
set_option maxRecDepth 100000
/-- the printer in block b holds these bytes -/
def IsP (B b : Nat) (l : List UInt8) (w : World) : Prop := Lib.IsBuilderF 73 5 B b (Lib.byteCells l) w
theorem IsP.at {B b : Nat} {l : List UInt8} {w : World} (h : IsP B b l w) : ∃ p v, w.heap[b]? = some (.cells #[p, v] 73 (0, 0)) ∧ B ≤ b ∧ w.ownsRowF B 5 1 v (Lib.byteCells l).length (Lib.byteCells l) ∧ v.ownBlock ≠ some b := by
  rcases h with ⟨hB, v, h1, h2, h3⟩ | ⟨hB, v, h1, h2, h3⟩
  · exact ⟨_, v, h1, hB, h2, h3⟩
  · exact ⟨_, v, h1, hB, h2, h3⟩
theorem IsP.lt {B b : Nat} {l : List UInt8} {w : World} (h : IsP B b l w) : b < w.heap.size := by
  obtain ⟨p, v, h1, _⟩ := h.at
  exact (Array.getElem?_eq_some_iff.1 h1).1
theorem IsP.below {B b : Nat} {l : List UInt8} {w w' : World} (h : IsP B b l w) (hb : Below w.heap.size w w') : IsP B b l w' := by
  have key : ∀ p, Lib.BuilderAtF 73 5 B b p (Lib.byteCells l) w → Lib.BuilderAtF 73 5 B b p (Lib.byteCells l) w' := by
    rintro p ⟨hB, v, h1, h2, h3⟩
    have hlt : b < w.heap.size := (Array.getElem?_eq_some_iff.1 h1).1
    refine ⟨hB, v, (hb.block b hlt).trans h1, ⟨h2.1, ?_⟩, h3⟩
    rcases h2.2 with h2 | ⟨g, cap, cur, fz, rfl, q1, q2, r⟩
    · exact .inl h2
    · exact .inr ⟨g, cap, cur, fz, rfl, q1, (hb.block g (Array.getElem?_eq_some_iff.1 q2).1).trans q2, r⟩
  rcases h with h | h
  · exact .inl (key _ h)
  · exact .inr (key _ h)
theorem IsP.new (w : World) : IsP w.heap.size w.heap.size [] (w.alloc (.cells #[.pointer none, .slice none 0 0] 73)) := by
  refine .inl ⟨Nat.le_refl _, .slice none 0 0, ?_, World.ownsRowF_nil _ _ _ _, by simp [Value.ownBlock]⟩
  show (w.heap.push _)[w.heap.size]? = _
  simp
/-- all that is neither the printer nor a row of bytes is as it was -/
theorem kept_below {b : Nat} {w w' : World} (h : Below w.heap.size w w') : Kept b w w' := by
  intro k o hk _ _
  exact (h.block k (Array.getElem?_eq_some_iff.1 hk).1).trans hk
theorem blk_kept {B b c : Nat} {l : List UInt8} {w w' : World} {cs : List Value} {t : TypeId} (h : Blk w c cs t) (hI : IsP B b l w) (k : Kept b w w') (h1 : t ≠ 73) (h2 : t ≠ 5) : Blk w' c cs t := by
  refine ⟨k c _ h.at' ?_ ?_⟩
  · intro e
    have e := Option.some.inj e
    subst e
    obtain ⟨p, v, g1, _⟩ := hI.at
    have := h.at'
    rw [g1] at this
    simp only [Option.some.injEq, Obj.cells.injEq] at this
    exact h1 this.2.1.symm
  · intro c' fz e
    simp only [Obj.cells.injEq] at e
    exact h2 e.2.1
theorem lays240 : Go.Proofs.Lays.n240 Tryz.prog ren := { lays167 with }
theorem conv_in (w : World) (b : Nat) (hsh : w.shape? b = some (73, 2)) : (convert 68 213 (.pointer (some ⟨b, 0, none⟩))).run Tryz.prog w = .ok (.pointer (some ⟨b, 0, none⟩)) w := by
  obtain ⟨j, hj, hjs⟩ := Option.map_eq_some_iff.1 extra.sizeBuilder
  exact Lib.run_to_unsafe w ⟨b, 0, none⟩ Tryz.underlying68 Tryz.underlying213 hj (by rw [hjs]; decide) hsh (Nat.zero_lt_succ 1)
theorem conv_out (w : World) (b : Nat) (hsh : w.shape? b = some (73, 2)) : (convert 213 68 (.pointer (some ⟨b, 0, none⟩))).run Tryz.prog w = .ok (.pointer (some ⟨b, 0, none⟩)) w := by
  obtain ⟨j, hj, hjs⟩ := Option.map_eq_some_iff.1 extra.sizeBuilder
  exact Lib.run_from_unsafe w ⟨b, 0, none⟩ Tryz.underlying213 Tryz.underlying68 hj hsh (by kernel_rfl)
theorem pcheck_fresh (b : Nat) (w : World) (h0 : w.cell? ⟨b, 0, none⟩ = some (.pointer none)) (hsh : w.shape? b = some (73, 2)) (hfz : w.frozen? ⟨b, 0, none⟩ = false) :
    Calls Tryz.prog 149 #[.pointer (some ⟨b, 0, none⟩)] w fun e w' => e = .returned (.tuple #[]) ∧ w' = w.setCell ⟨b, 0, none⟩ (.pointer (some ⟨b, 0, none⟩)) := by
  have hn := lays240.f276
  rw [show ren.f 276 = 202 from rfl] at hn
  go_enter Tryz.func149, Tryz.ntmps149
  go_wp2
  rw [conv_in w b hsh]
  simp only [Result.andThen]
  rw [Oper.upon_value]
  go_wp2
  rw [run_callFunc_extern hn (by kernel_rfl) (by kernel_rfl) (by kernel_rfl) (e := Extern.AbiNoEscape.same) (by kernel_rfl)]
  rw [Lib.run_noEscape]
  simp only [Result.andThen]
  rw [Oper.upon_value]
  go_wp2
  rw [conv_out w b hsh]
  simp only [Result.andThen]
  rw [Oper.upon_value]
  go_wp2
  go_end0
  exact ⟨rfl, rfl⟩
theorem pcheck_any (B b : Nat) (l : List UInt8) (w : World) (h : IsP B b l w) :
    Calls Tryz.prog 149 #[.pointer (some ⟨b, 0, none⟩)] w fun e w' => e = .returned (.tuple #[]) ∧ (Lib.BuilderAtF 73 5 B b (.pointer (some ⟨b, 0, none⟩)) (Lib.byteCells l) w' ∧ Below B w w' ∧ Kept b w w') := by
  rcases h with h | h
  · refine (pcheck_fresh b w h.cell0 h.shape h.frozen0).mono ?_
    rintro e w' ⟨rfl, rfl⟩
    exact ⟨rfl, h.used _, (Below.refl B w).setCell (p := ⟨b, 0, none⟩) h.1 _, (Lib.OthersKept.refl _ _ w).setCell ⟨b, 0, none⟩ rfl _⟩
  · refine (Any.Builder_copyCheck_used lays240 extra.toX72 b w h.cell0).mono ?_
    rintro e w' ⟨rfl, rfl⟩
    exact ⟨rfl, h, Below.refl B _, Lib.OthersKept.refl _ _ _⟩
theorem info_byte : ∃ i, Tryz.prog.info? 5 = some i ∧ i.zero = some (.int .u8 0) ∧ i.size = 1 ∧ i.bytes = 1 := ⟨_, rfl, rfl, rfl, rfl⟩
set_option maxHeartbeats 4000000 in
theorem pwrite_any (B b : Nat) (l : List UInt8) (s : ByteArray) (w : World) (h : IsP B b l w) (hlen : l.length + s.size ≤ 140737488355328) (hBw : B ≤ w.heap.size) :
    Calls Tryz.prog 88 #[.pointer (some ⟨b, 0, none⟩), .string s] w fun e w' => e = .returned (.tuple #[.int .i64 s.size, .nilIface]) ∧ IsP B b (l ++ s.data.toList) w' ∧ Below B w w' ∧ Kept b w w' := by
  obtain ⟨i0, hi, hz0, hz1, hz2⟩ := info_byte
  have hc := hid (pcheck_any B b l w h)
  have hll : (Lib.byteCells l).length = l.length := Lib.byteCells_length l
  have hsi : (s.size : Int) ≤ 140737488355328 := by omega
  clear h
  go_enter Tryz.func88, Tryz.ntmps88
  go_wp2_with fail
  refine hc.out.mono ?_
  rintro e w1 ⟨rfl, ⟨hB, v, hbk, hown, hne⟩, hb1, hk1⟩
  clear hc
  have c0 : w1.cell? ⟨b, 0, none⟩ = some (.pointer (some ⟨b, 0, none⟩)) := by rw [Lib.cell_of_heap hbk]; rfl
  have c1 : w1.cell? ⟨b, 1, none⟩ = some v := by rw [Lib.cell_of_heap hbk]; rfl
  have hb1 := hid hb1
  have hk1 := hid hk1
  have hll := hid hll
  go_wp2_with (at_builtin; refine Lib.wpList_append_own_stringF _ rfl _ _ 69 9 rfl B 5 i0 Tryz.underlying69 Tryz.underlying9 hi hz0 hz1 hz2 _ _ _ rfl hown s rfl ?c3 ?c4 ?c5 ?_)
  case c3 => rw [hll.out]; unfold maxLen; omega
  case c4 => rw [hll.out]; omega
  case c5 => have := hb1.out.size; omega
  intro v' w2 hown' hgrow _
  have hlt : b < w1.heap.size := (Array.getElem?_eq_some_iff.1 hbk).1
  have hb2 : w2.heap[b]? = some (.cells #[.pointer (some ⟨b, 0, none⟩), v] 73 (0, 0)) := by
    rw [hgrow.block b hlt (fun e => hne e.symm)]
    exact hbk
  have d0 : w2.cell? ⟨b, 0, none⟩ = some (.pointer (some ⟨b, 0, none⟩)) := by rw [Lib.cell_of_heap hb2]; rfl
  have d1 : w2.cell? ⟨b, 1, none⟩ = some v := by rw [Lib.cell_of_heap hb2]; rfl
  have f1 : w2.frozen? ⟨b, 1, none⟩ = false := Lib.frozen_of_heap hb2 1
  obtain ⟨ao, n', cap, rfl⟩ : ∃ ao n' cap, v' = .slice ao n' cap := by
    rcases hown'.2 with ⟨hv, _⟩ | ⟨g, cap, cur, fz, hv, _⟩
    · exact ⟨_, _, _, hv⟩
    · exact ⟨_, _, _, hv⟩
  have hfin := hid (show IsP B b (l ++ s.data.toList) (w2.setCell ⟨b, 1, none⟩ (.slice ao n' cap)) ∧ Below B w (w2.setCell ⟨b, 1, none⟩ (.slice ao n' cap)) ∧ Kept b w (w2.setCell ⟨b, 1, none⟩ (.slice ao n' cap)) from by
    refine ⟨.inr ?_, ?_, (hk1.out.grown hgrow (Lib.ownsRowF_kind hown)).setCell ⟨b, 1, none⟩ rfl _⟩
    · have e : Lib.byteCells (l ++ s.data.toList) = Lib.byteCells l ++ Lib.strCells s := by simp [Lib.byteCells, Lib.strCells]
      rw [e]
      exact Lib.BuilderAtF.put (T := 73) (e := 5) hB hb2 (bs' := Lib.byteCells l ++ Lib.strCells s) (by rw [show (Lib.byteCells l ++ Lib.strCells s).length = (Lib.byteCells l).length + s.size by simp [Lib.strCells_length], hll.out]; exact hown') (by decide)
    · exact (hb1.out.grown hgrow (by have := hb1.out.size; omega) (fun k hk => (hown.lt k hk).1)).setCell (p := ⟨b, 1, none⟩) hB _)
  clear hown hown' hgrow hb1 hk1 hbk hb2 c0 c1 hll
  go_wp2_with fail
  go_ret2
  exact ⟨rfl, hfin.out⟩
set_option maxHeartbeats 4000000 in
theorem pstring_any (B b : Nat) (l : List UInt8) (w : World) (h : IsP B b l w) (h0 : l ≠ []) :
    Calls Tryz.prog 25 #[.pointer (some ⟨b, 0, none⟩)] w fun e w' => e = .returned (.string (bs l)) ∧ IsP B b l w' ∧ Below B w w' ∧ Kept b w w' := by
  obtain ⟨p, hp, hAt⟩ : ∃ p, (p = .pointer none ∨ p = .pointer (some ⟨b, 0, none⟩)) ∧ Lib.BuilderAtF 73 5 B b p (Lib.byteCells l) w := by
    rcases h with h | h
    · exact ⟨_, .inl rfl, h⟩
    · exact ⟨_, .inr rfl, h⟩
  obtain ⟨hB, v, hbk, hown, hne⟩ := hAt
  have hl0 : l.length ≠ 0 := by simpa using h0
  rw [Lib.byteCells_length] at hown
  obtain ⟨g, cap, cur, fz, rfl, hbg, hg, hfz, hnc, hcm, hcs, htake⟩ : ∃ g cap cur fz, v = .slice (some ⟨g, 0, none⟩) l.length cap ∧ B ≤ g ∧ w.heap[g]? = some (.cells cur 5 fz) ∧ fz.2 ≤ l.length * 1 ∧ l.length ≤ cap ∧ cap ≤ maxLen ∧ cur.size = cap * 1 ∧ cur.toList.take (l.length * 1) = Lib.byteCells l := by
    rcases hown.2 with ⟨_, hz⟩ | ⟨g, cap, cur, fz, hv, r⟩
    · exact absurd hz hl0
    · exact ⟨g, cap, cur, fz, hv, r⟩
  have c1 : w.drew.cell? ⟨b, 1, none⟩ = some (.slice (some ⟨g, 0, none⟩) l.length cap) := by
    have : w.drew.heap[b]? = some (.cells #[p, .slice (some ⟨g, 0, none⟩) l.length cap] 73 (0, 0)) := hbk
    rw [Lib.cell_of_heap this]; rfl
  have hSD : (Builtin.unsafeSliceData_ #[69] 108 #[.slice (some ⟨g, 0, none⟩) l.length cap]).run Tryz.prog w.drew = .ok (.pointer (some ⟨g, 0, none⟩)) w.drew :=
    Lib.run_unsafeSliceData_row _ _ _ _ _ _ (by omega)
  have hUS : (Builtin.unsafeString_ #[108, 3] 9 #[.pointer (some ⟨g, 0, none⟩), .int .i64 l.length]).run Tryz.prog w.drew = .ok (.string (bs l)) (w.drew.freeze ⟨g, 0, none⟩ l.length) := by
    refine Lib.run_unsafeString_row w.drew 108 3 9 5 lays169.t127 extra.cellsByte g cur.size (by have hg' : w.drew.heap[g]? = some (.cells cur 5 fz) := hg; simp [World.shape?, hg']) l h0 (by omega) (by unfold maxLen at hcm; omega) ?_
    intro j x hx
    exact hown.cells (g := g) rfl j (.int .u8 x.toNat) (by simp [Lib.byteCells, hx])
  have hkeep : IsP B b l (w.drew.freeze ⟨g, 0, none⟩ l.length) := by
    have hA : Lib.BuilderAtF 73 5 B b p (Lib.byteCells l) w.drew := ⟨hB, _, hbk, by rw [Lib.byteCells_length]; exact hown, hne⟩
    have hF := hA.froze (g := g) (cap := cap) (by rw [Lib.byteCells_length]; exact c1)
    rw [Lib.byteCells_length] at hF
    rcases hp with rfl | rfl
    · exact .inl hF
    · exact .inr hF
  have hfin := hid (show IsP B b l (w.drew.freeze ⟨g, 0, none⟩ l.length) ∧ Below B w (w.drew.freeze ⟨g, 0, none⟩ l.length) ∧ Kept b w (w.drew.freeze ⟨g, 0, none⟩ l.length) from
    ⟨hkeep, Lib.below_freeze (Below.drew (Below.refl B w)) (p := ⟨g, 0, none⟩) hbg _, ((Lib.OthersKept.refl _ _ w).drew).freeze ⟨g, 0, none⟩ _ ⟨cur, fz, hg⟩⟩)
  clear hkeep hown htake hbk hp hne
  go_enter Tryz.func25, Tryz.ntmps25
  go_wp2
  go_region
  all_goals (go_wp2; go_ret; exact ⟨rfl, hfin.out⟩)
end Go.Proofs.YtbcjppbiihgfpaaGreatDoor.Ex
namespace Go.Proofs.YtbcjppbiihgfpaaGreatDoor.Ex
open Go.ChangeShapes Go.WideShapes Go.ChangeAt Go.RowKit
open Go.Proofs.YtbcjppbiihgfpaaGreatDoor.Mem Go.Proofs.YtbcjppbiihgfpaaGreatDoor.Lik
set_option linter.unusedVariables false
set_option linter.unusedSimpArgs false
set_option maxRecDepth 100000
def catL (L : List ByteArray) : List UInt8 := L.flatMap fun s => s.data.toList
theorem catL_step (L : List ByteArray) (k : Nat) (h : k < L.length) : catL (L.take (k + 1)) = catL (L.take k) ++ L[k].data.toList := by
  unfold catL
  rw [List.take_succ_eq_append_getElem h, List.flatMap_append, List.flatMap_cons, List.flatMap_nil, List.append_nil]
theorem catL_le (L : List ByteArray) (k : Nat) (h : k < L.length) : (catL (L.take k)).length + L[k].size ≤ (catL L).length := by
  have h1 : catL L = catL (L.take (k + 1)) ++ catL (L.drop (k + 1)) := by
    unfold catL
    rw [← List.flatMap_append, List.take_append_drop]
  have h2 := congrArg List.length h1
  rw [catL_step L k h] at h2
  have e : L[k].data.toList.length = L[k].size := by simp
  simp only [List.length_append] at h2
  omega
set_option maxHeartbeats 4000000 in
theorem put_any (B b a : Nat) (l : List UInt8) (L : List ByteArray) (w : World) (h : IsP B b l w) (ha : Blk w a (strC L) 9) (hlen : l.length + (catL L).length ≤ 140737488355328) (hn : L.length ≤ 64) (hBw : B ≤ w.heap.size) :
    Calls Tryz.prog 156 #[.pointer (some ⟨b, 0, none⟩), .slice (some ⟨a, 0, none⟩) L.length L.length] w fun e w' => e = .returned (.tuple #[]) ∧ IsP B b (l ++ catL L) w' ∧ Below B w w' ∧ Kept b w w' := by
  have hI := hid (show IsP B b (l ++ catL (L.take 0)) w by simpa [catL] using h)
  have hb0 := hid (Below.refl B w)
  have hk0 := hid (show Kept b w w from Lib.OthersKept.refl _ _ w)
  have ha' := hid ha
  have hI' := hid h
  obtain ⟨n, hnn⟩ : ∃ n, L.length = n := ⟨_, rfl⟩
  rw [hnn] at hn ⊢
  replace hnn := hid hnn
  have i1 : (n : Int) ≤ 64 := by omega
  have hlen' := hid hlen
  clear h ha hlen
  go_enter Tryz.func156, Tryz.ntmps156
  go_wp2_with fail
  go_loopw [8] (fun i wr => ∃ k : Nat, k ≤ n ∧ i = .int .i64 k ∧ Hid (IsP B b (l ++ catL (L.take k)) wr) ∧ Hid (Below B w wr) ∧ Hid (Kept b w wr)) (fun i _ => n - (intOf i).toNat)
  case atStart => exact ⟨0, by omega, rfl, hI, hb0, hk0⟩
  case round =>
    obtain ⟨k, hk, rfl, hI1, hb1, hk1⟩ := hrel
    clear hI hb0 hk0
    rename_i wr
    by_cases hkl : k < n
    · have hki : (k : Int) < (n : Int) := by omega
      have hkL : k < L.length := by rw [hnn.out]; exact hkl
      have hcell : wr.cell? ⟨a, k, none⟩ = some (.string L[k]) := by
        have := (blk_kept ha'.out hI'.out hk1.out (by decide) (by decide)).cell k (by rw [strC_len]; exact hkL)
        rw [this, strC_get L k hkL]
      have hst := hid (catL_step L k hkL)
      have hle := catL_le L k hkL
      have hw := hid (pwrite_any B b (l ++ catL (L.take k)) L[k] wr hI1.out (by rw [List.length_append]; have := hlen'.out; omega) (by have := hb1.out.size; omega))
      generalize L[k] = s at hcell hst hw hle
      go_wp2_with fail
      refine hw.out.mono ?_
      rintro e w2 ⟨rfl, g1, g2, g3⟩
      have g1 := hid (show IsP B b (l ++ catL (L.take (k + 1))) w2 by rw [hst.out, ← List.append_assoc]; exact g1)
      have g2 := hid (hb1.out.trans g2)
      have g3 := hid (hk1.out.trans g3)
      clear hw hcell hI1 hb1 hk1 hst hle
      go_wp2_with fail
      go_roundw
      case rel => exact ⟨k + 1, by omega, by go_num, g1, g2, g3⟩
      case measure => simp [intOf]; omega
    · have hki : ¬ (k : Int) < (n : Int) := by omega
      have hke : k = n := by omega
      have hf := hid (show IsP B b (l ++ catL L) wr by have := hI1.out; rwa [List.take_of_length_le (by rw [hnn.out]; omega)] at this)
      clear hI1
      go_wp2_with fail
      first | (go_ret2) | (go_end0) | (go_ret)
      exact ⟨rfl, hf.out, hb1.out, hk1.out⟩
end Go.Proofs.YtbcjppbiihgfpaaGreatDoor.Ex
namespace Go.Proofs.YtbcjppbiihgfpaaGreatDoor.Ex
open Go.ChangeShapes Go.WideShapes Go.ChangeAt Go.RowKit
open Go.Proofs.YtbcjppbiihgfpaaGreatDoor.Mem Go.Proofs.YtbcjppbiihgfpaaGreatDoor.Lik
set_option linter.unusedVariables false
set_option linter.unusedSimpArgs false
set_option maxRecDepth 100000
/-- the powers of ten, as the library lays them -/
def Pow (w : World) : Prop := Lib.TabIs Tryz.prog w "internal/strconv.uint64pow10" .u64 Lib.pow10Tab
theorem Pow.below {w w' : World} (h : Pow w) (b : Below w.heap.size w w') : Pow w' := Lib.tabBelow_of_tabIs h w' b
/-- what is neither the printer's nor a row of bytes stays -/
def Stay (X X' : World) : Prop := ∀ c cs t, t ≠ 73 → t ≠ 5 → Blk X c cs t → Blk X' c cs t
/-- a printing that began in W, the printer in b holding l, has written s -/
structure PS (w0 W : World) (b : Nat) (l s : By) (X : World) : Prop where
  isP : IsP w0.heap.size b (l ++ s) X
  up : Below w0.heap.size w0 X
  down : Below w0.heap.size W X
  kept : Kept b W X
theorem PS.stay {w0 W X X' : World} {b : Nat} {l s : By} (h : PS w0 W b l s X) (k : Kept b X X') : Stay X X' := fun c cs t h1 h2 hb => blk_kept hb h.isP k h1 h2
theorem PS.begin {w0 W : World} {b : Nat} {l : By} (h : IsP w0.heap.size b l W) (hu : Below w0.heap.size w0 W) : PS w0 W b l [] W :=
  ⟨by rw [List.append_nil]; exact h, hu, Below.refl _ _, Lib.OthersKept.refl _ _ _⟩
theorem PS.below {w0 W X X' : World} {b : Nat} {l s : By} (h : PS w0 W b l s X) (hb : Below X.heap.size X X') : PS w0 W b l s X' ∧ Stay X X' :=
  ⟨⟨h.isP.below hb, h.up.trans (hb.mono h.up.size), h.down.trans (hb.mono h.up.size), h.kept.trans (kept_below hb)⟩, h.stay (kept_below hb)⟩
theorem PS.alloc {w0 W X : World} {b : Nat} {l s : By} (h : PS w0 W b l s X) (o : Obj) : PS w0 W b l s (X.alloc o) ∧ Stay X (X.alloc o) :=
  h.below ((Below.refl _ X).alloc (Nat.le_refl _) o)
theorem Stay.trans {X Y Z : World} (h : Stay X Y) (k : Stay Y Z) : Stay X Z := fun c cs t h1 h2 hb => k c cs t h1 h2 (h c cs t h1 h2 hb)
theorem PS.put {w0 W X : World} {b : Nat} {l s : By} (h : PS w0 W b l s X) (L : List ByteArray) (hn : L.length ≤ 64) (hlen : l.length + (s.length + (catL L).length) ≤ 140737488355328) :
    Calls Tryz.prog 156 #[.pointer (some ⟨b, 0, none⟩), .slice (some ⟨X.heap.size, 0, none⟩) L.length L.length] (X.alloc (.cells (strC L).toArray 9)) fun e w' => e = .returned (.tuple #[]) ∧ PS w0 W b l (s ++ catL L) w' ∧ Stay X w' := by
  obtain ⟨h1, st⟩ := h.alloc (.cells (strC L).toArray 9)
  refine (put_any w0.heap.size b X.heap.size (l ++ s) L _ h1.isP (Blk.new X (strC L) 9) (by rw [List.length_append]; omega) hn h1.up.size).mono ?_
  rintro e w' ⟨rfl, g1, g2, g3⟩
  exact ⟨rfl, ⟨by rw [← List.append_assoc]; exact g1, h1.up.trans g2, h1.down.trans g2, h1.kept.trans g3⟩, st.trans (h1.stay g3)⟩
/-- a method that writes out at a node -/
def WShows (f : FuncId) (x : T) (out : By) : Prop := ∀ (w0 W : World) (b : Nat) (l : By), x.ok w0 → Sta w0 → Pow w0 → rightB x = true → Below w0.heap.size w0 W → IsP w0.heap.size b l W → l.length + out.length ≤ 140737488355328 →
  Calls Tryz.prog f #[.pointer (some ⟨b, 0, none⟩), x.val] W fun e w' => e = .returned (.tuple #[]) ∧ IsP w0.heap.size b (l ++ out) w' ∧ Below w0.heap.size W w' ∧ Kept b W w'
def MShows (f : FuncId) (x : T) : Prop := WShows f x (showT x)
def Shows (x : T) : Prop := MShows 24 x
theorem right_kid {x z : T} (h : rightB x = true) (hz : z ∈ x.list) : rightB z = true := by
  rw [rightB_eq, rightL_all] at h
  simp only [Bool.and_eq_true, List.all_eq_true] at h
  exact h.2 z hz
theorem PS.kid {w0 W X : World} {b : Nat} {l s : By} {f : FuncId} (h : PS w0 W b l s X) (z : T) {out : By} (hz : WShows f z out) (ok : z.ok w0) (hs : Sta w0) (hp : Pow w0) (hr : rightB z = true) (hlen : l.length + (s.length + out.length) ≤ 140737488355328) :
    Calls Tryz.prog f #[.pointer (some ⟨b, 0, none⟩), z.val] X fun e w' => e = .returned (.tuple #[]) ∧ PS w0 W b l (s ++ out) w' ∧ Stay X w' := by
  refine (hz w0 X b (l ++ s) ok hs hp hr h.up h.isP (by rw [List.length_append]; omega)).mono ?_
  rintro e w' ⟨rfl, g1, g2, g3⟩
  exact ⟨rfl, ⟨by rw [← List.append_assoc]; exact g1, h.up.trans g2, h.down.trans g2, h.kept.trans g3⟩, h.stay g3⟩
theorem PS.done {w0 W X : World} {b : Nat} {l s t : By} (h : PS w0 W b l s X) (e : s = t) : IsP w0.heap.size b (l ++ t) X ∧ Below w0.heap.size W X ∧ Kept b W X := ⟨e ▸ h.isP, h.down, h.kept⟩
end Go.Proofs.YtbcjppbiihgfpaaGreatDoor.Ex
namespace Go.Proofs.YtbcjppbiihgfpaaGreatDoor.Ex
open Go.ChangeShapes Go.WideShapes Go.ChangeAt Go.RowKit
open Go.Proofs.YtbcjppbiihgfpaaGreatDoor.Mem Go.Proofs.YtbcjppbiihgfpaaGreatDoor.Lik
set_option linter.unusedVariables false
set_option linter.unusedSimpArgs false
set_option maxRecDepth 100000
theorem tx_quote {s : ByteArray} (h : txB s = true) : Tok.checkE s = 0 := by
  have := check_tx s
  rw [h, beq_iff_eq] at this
  exact this
theorem nm_tx {s : ByteArray} (h : nmB s = true) : txB s = true := by
  unfold nmB at h
  simp only [Bool.and_eq_true] at h
  exact h.2.2
theorem uid_tx {t s : ByteArray} (h : uidB t s = true) : txB s = true := by
  have h2 := uidB_len h
  unfold uidB at h
  simp only [Bool.and_eq_true] at h
  unfold txB
  rw [h.2.1, decide_eq_true (by omega)]
  rfl
set_option maxHeartbeats 4000000 in
theorem quoted_any (s : ByteArray) (w : World) (hs : s.size ≤ 140737488355328) (ht : txB s = true) (hw : Sta w) :
    Calls Tryz.prog 159 #[.string s] w fun e w' => e = .returned (.string (bs (Tok.quoteL s.data.toList))) ∧ Below w.heap.size w w' := by
  have hq := hid (Tok.quote_any Ev.valid_told s w hs hw.tabs)
  rw [tx_quote ht, if_pos rfl] at hq
  generalize bs (Tok.quoteL s.data.toList) = q at *
  clear hs hw ht
  go_enter Tryz.func159, Tryz.ntmps159
  go_wp2_with fail
  refine hq.out.mono ?_
  rintro e w1 ⟨rfl, b1⟩
  have b1 := hid b1
  clear hq
  go_wp2_with fail
  go_ret
  exact ⟨rfl, b1.out⟩
theorem bs_self (s : ByteArray) : bs s.data.toList = s := by
  cases s
  rfl
set_option maxHeartbeats 4000000 in
theorem plabel_any (s : ByteArray) (w : World) (hs : s.size ≤ 140737488355328) (ht : nmB s = true) (hw : Sta w) :
    Calls Tryz.prog 163 #[.string s] w fun e w' => e = .returned (.string (bs (namedL s))) ∧ Below w.heap.size w w' := by
  have hn := hid (Nam.name_any s w hs)
  have hq := hid (fun W (b : Below w.heap.size w W) => quoted_any s W hs (nm_tx ht) (hw.below b))
  obtain ⟨R, hR⟩ : ∃ R, bs (namedL s) = R := ⟨_, rfl⟩
  rw [hR]
  replace hR := hid (hR.symm.trans (show bs (namedL s) = _ by unfold namedL; rfl))
  clear hs hw ht
  go_enter Tryz.func163, Tryz.ntmps163
  cases hb : Nam.nameB s with
  | true =>
    rw [hb] at hn hR
    replace hR := hid (show R = s by rw [hR.out, if_pos rfl, bs_self])
    clear hb
    go_wp2_with fail
    refine hn.out.mono ?_
    rintro e w1 ⟨rfl, rfl⟩
    have b1 := hid (Below.refl w1.heap.size w1)
    clear hn hq
    go_wp2_with fail
    go_ret
    exact ⟨by rw [hR.out]; rfl, b1.out⟩
  | false =>
    rw [hb] at hn hR
    replace hR := hid (show R = bs (Tok.quoteL s.data.toList) by rw [hR.out, if_neg (by simp)])
    clear hb
    go_wp2_with fail
    refine hn.out.mono ?_
    rintro e w1 ⟨rfl, rfl⟩
    have b1 := hid (Below.refl w1.heap.size w1)
    clear hn
    go_wp2_with fail
    refine (hq.out _ b1.out).mono ?_
    rintro e w2 ⟨rfl, b2⟩
    have b2 := hid (bt b1.out b2)
    clear hq b1
    go_wp2_with fail
    go_ret
    exact ⟨by rw [hR.out]; rfl, b2.out⟩
set_option maxHeartbeats 4000000 in
theorem fbool_any (b : Bool) (w : World) :
    Calls Tryz.prog 157 #[.bool b] w fun e w' => e = .returned (.string (bs (if b = true then [116, 114, 117, 101] else [102, 97, 108, 115, 101]))) ∧ Below w.heap.size w w' := by
  have key : Calls Tryz.prog 208 #[.bool b] w fun e w' => e = .returned (.string (bs (if b = true then [116, 114, 117, 101] else [102, 97, 108, 115, 101]))) ∧ Below w.heap.size w w' := by
    cases b <;> (go_enter Tryz.func208, Tryz.ntmps208; go_wp2_with fail; go_ret; exact ⟨rfl, Below.refl _ _⟩)
  generalize bs (if b = true then [116, 114, 117, 101] else [102, 97, 108, 115, 101]) = R at *
  go_enter Tryz.func157, Tryz.ntmps157
  go_wp2_with fail
  refine key.mono ?_
  rintro e w1 ⟨rfl, b1⟩
  have b1 := hid b1
  go_wp2_with fail
  go_ret
  exact ⟨rfl, b1.out⟩
theorem fint_any (n : Int) (w : World) (h0 : 0 ≤ n) (h1 : n ≤ 9223372036854775807) (hp : Pow w) :
    Calls Tryz.prog 158 #[.int .i64 n, .int .i64 10] w fun e w' => e = .returned (.string (bs (Lib.decDigits n.toNat))) ∧ Below w.heap.size w w' := by
  refine (Tryz.strconv_FormatInt_10 n (by omega) h1 w hp).mono ?_
  rintro e w' ⟨rfl, k, os, rfl⟩
  refine ⟨?_, ?_⟩
  · unfold Lib.itoa
    rw [if_neg (by omega)]
    rfl
  · exact Lib.below_grow w.heap.size w (Nat.le_refl _) k os
end Go.Proofs.YtbcjppbiihgfpaaGreatDoor.Ex
namespace Go.Proofs.YtbcjppbiihgfpaaGreatDoor.Ex
open Go.ChangeShapes Go.WideShapes Go.ChangeAt Go.RowKit
open Go.Proofs.YtbcjppbiihgfpaaGreatDoor.Mem Go.Proofs.YtbcjppbiihgfpaaGreatDoor.Lik
set_option linter.unusedVariables false
set_option linter.unusedSimpArgs false
set_option maxRecDepth 100000
theorem celld {w : World} {a : Addr} {v : Value} (h : w.cell? a = some v) : w.drew.cell? a = some v := h
theorem cella {w : World} {a : Addr} {v : Value} {o : Obj} (h : w.cell? a = some v) : (w.alloc o).cell? a = some v := cell_below ((Below.refl _ _).alloc (Nat.le_refl _) _) _ _ h
/-- six cells of a part from place o on, and its value -/
structure KidAt (X : World) (y : T) (b o : Nat) (no : Option Addr) (nc : Nat) (lo : Option Addr) (lc : Nat) : Prop where
  c0 : X.cell? ⟨b, o, none⟩ = some (.int .u8 (y.kind : Nat))
  c1 : X.cell? ⟨b, o + 1, none⟩ = some (.int .i64 y.num)
  c2 : X.cell? ⟨b, o + 2, none⟩ = some (.string y.str)
  c3 : X.cell? ⟨b, o + 3, none⟩ = some (.string y.typ)
  c4 : X.cell? ⟨b, o + 4, none⟩ = some (.slice no y.names.length nc)
  c5 : X.cell? ⟨b, o + 5, none⟩ = some (.slice lo y.list.length lc)
theorem kid_val {y : T} {no lo : Option Addr} {nc lc : Nat} (h1 : y.nv = .slice no y.names.length nc) (h2 : y.lv = .slice lo y.list.length lc) : y.val = .agg #[.int .u8 (y.kind : Nat), .int .i64 y.num, .string y.str, .string y.typ, .slice no y.names.length nc, .slice lo y.list.length lc] := T.val_eq h1 h2
theorem kid_at {w0 X : World} {x y : T} (h : x.ok w0) (hu : Below w0.heap.size w0 X) {lo : Option Addr} {lc : Nat} (e2 : x.lv = .slice lo x.list.length lc) (i : Nat) (hi : i < x.list.length) (hy : x.list[i] = y) {b off : Nat} (hlo : lo = some ⟨b, off, none⟩) {no lo' : Option Addr} {nc lc' : Nat} (h1 : y.nv = .slice no y.names.length nc) (h2 : y.lv = .slice lo' y.list.length lc') :
    KidAt X y b (off + i * 6) no nc lo' lc' := by
  obtain ⟨b', off', e, f0, f1, f2, f3, f4, f5⟩ := (h.below hu).part6 e2 i hi
  rw [hlo] at e
  simp only [Option.some.injEq, Addr.mk.injEq, and_true] at e
  obtain ⟨rfl, rfl⟩ := e
  rw [hy] at f0 f1 f2 f3 f4 f5
  rw [h1] at f4
  rw [h2] at f5
  exact ⟨f0, f1, f2, f3, f4, f5⟩
theorem base_of {w0 : World} {x : T} (h : x.ok w0) {lo : Option Addr} {lc : Nat} (e2 : x.lv = .slice lo x.list.length lc) (hi : 0 < x.list.length) : ∃ b off, lo = some ⟨b, off, none⟩ := by
  obtain ⟨b', off', e, _⟩ := h.part6 e2 0 hi
  exact ⟨b', off', e⟩
theorem node_of {x : T} (h : rightB x = true) : fldB x = true ∧ kidsB x.kind x.list.length = true := by
  rw [rightB_eq] at h
  simp only [Bool.and_eq_true] at h
  have := h.1
  unfold nodeB at this
  simpa only [Bool.and_eq_true] using this
theorem kids_of (x : T) : (∃ y, x.list = [y]) ∨ x.list.length ≠ 1 := by
  rcases h : x.list with _ | ⟨y, _ | ⟨z, r⟩⟩ <;> simp
theorem kids1 {x : T} (h : rightB x = true) (hk : x.kind = 8 ∨ x.kind = 9 ∨ x.kind = 10 ∨ x.kind = 11 ∨ x.kind = 12 ∨ x.kind = 13) : ∃ y, x.list = [y] := by
  have := (node_of h).2
  unfold kidsB at this
  rw [if_neg (by omega), if_neg (by omega), if_pos hk] at this
  exact List.length_eq_one_iff.1 (of_decide_eq_true this)
theorem kids3 {x : T} (h : rightB x = true) (hk : x.kind = 14) : ∃ y z u, x.list = [y, z, u] := by
  have := (node_of h).2
  unfold kidsB at this
  rw [if_neg (by omega), if_neg (by omega), if_neg (by omega), if_pos hk] at this
  rcases h' : x.list with _ | ⟨y, _ | ⟨z, _ | ⟨u, _ | ⟨v, r⟩⟩⟩⟩ <;> simp [h'] at this ⊢
theorem kids2 {x : T} (h : rightB x = true) (hk : 15 ≤ x.kind) : (∃ y z, x.list = [y, z]) ∧ x.kind ≤ 29 := by
  have := (node_of h).2
  unfold kidsB at this
  rw [if_neg (by omega), if_neg (by omega), if_neg (by omega), if_neg (by omega)] at this
  simp only [Bool.and_eq_true, decide_eq_true_eq] at this
  refine ⟨?_, this.1.2⟩
  rcases h' : x.list with _ | ⟨y, _ | ⟨z, _ | ⟨u, r⟩⟩⟩ <;> simp [h'] at this ⊢
end Go.Proofs.YtbcjppbiihgfpaaGreatDoor.Ex
