/-
  strings.Builder's WriteByte, WriteString and String at a builder that lies at the front of a block of any type: contracts.
-/
import Derived.Test.YtldlkoiekdlmhaaPkLikBuild
import Derived.Lib.FrozenHead2
namespace Go.Proofs.Ytldlkoiekdlmhaa.Bld
open Go.ChangeShapes Go.WideShapes Go.ChangeAt Go.RowKit
open Go.Proofs.Ytldlkoiekdlmhaa.Mem Go.Proofs.Ytldlkoiekdlmhaa.Lik
set_option linter.unusedVariables false
set_option linter.unusedSimpArgs false
set_option maxRecDepth 100000
/-- what is asked of the block's type -/
structure HT (T : TypeId) (n : Nat) : Prop where
  ne : T ≠ 5
  lies : liesAt Try.prog Try.prog.depth T ((n + 2) / Try.prog.cellsOf T) 0 56 1 = true
def At (T : TypeId) (R : List Value) (B b : Nat) (p : Value) (l : List UInt8) (w : World) : Prop :=
  B ≤ b ∧ ∃ v, Blk w b (p :: v :: R) T ∧ w.ownsRowF B 5 1 v l.length (Lib.byteCells l) ∧ v.ownBlock ≠ some b
def Is (T : TypeId) (R : List Value) (B b : Nat) (l : List UInt8) (w : World) : Prop := At T R B b (.pointer none) l w ∨ At T R B b (.pointer (some ⟨b, 0, none⟩)) l w
theorem Is.at {T : TypeId} {R : List Value} {B b : Nat} {l : List UInt8} {w : World} (h : Is T R B b l w) : ∃ p, (p = .pointer none ∨ p = .pointer (some ⟨b, 0, none⟩)) ∧ At T R B b p l w := by
  rcases h with h | h
  · exact ⟨_, .inl rfl, h⟩
  · exact ⟨_, .inr rfl, h⟩
theorem Is.of {T : TypeId} {R : List Value} {B b : Nat} {p : Value} {l : List UInt8} {w : World} (hp : p = .pointer none ∨ p = .pointer (some ⟨b, 0, none⟩)) (h : At T R B b p l w) : Is T R B b l w := by
  rcases hp with rfl | rfl
  · exact .inl h
  · exact .inr h
theorem At.lt {T : TypeId} {R : List Value} {B b : Nat} {p : Value} {l : List UInt8} {w : World} (h : At T R B b p l w) : b < w.heap.size := by
  obtain ⟨_, v, K, _⟩ := h
  exact K.lt
theorem At.grown {T : TypeId} {R : List Value} {B b : Nat} {p : Value} {l : List UInt8} {w w' : World} (h : At T R B b p l w) (hk : ∀ k, (k = b ∨ ∃ c fz, w.heap[k]? = some (.cells c 5 fz)) → w'.heap[k]? = w.heap[k]?) : At T R B b p l w' := by
  obtain ⟨hB, v, K, ho, hne⟩ := h
  refine ⟨hB, v, ⟨(hk b (.inl rfl)).trans K.at'⟩, ⟨ho.1, ?_⟩, hne⟩
  rcases ho.2 with h2 | ⟨g, cap, cur, fz, hv, q1, q2, r⟩
  · exact .inl h2
  · exact .inr ⟨g, cap, cur, fz, hv, q1, (hk g (.inr ⟨_, _, q2⟩)).trans q2, r⟩
theorem At.below {T : TypeId} {R : List Value} {B b : Nat} {p : Value} {l : List UInt8} {w w' : World} (h : At T R B b p l w) (hb : Below w.heap.size w w') : At T R B b p l w' := by
  have hlt := h.lt
  refine h.grown fun k hk => hb.block k ?_
  rcases hk with rfl | ⟨c, fz, e⟩
  · exact hlt
  · exact (Array.getElem?_eq_some_iff.1 e).1
theorem Is.below {T : TypeId} {R : List Value} {B b : Nat} {l : List UInt8} {w w' : World} (h : Is T R B b l w) (hb : Below w.heap.size w w') : Is T R B b l w' := h.imp (fun h => h.below hb) (fun h => h.below hb)
theorem Is.grown {T : TypeId} {R : List Value} {B b : Nat} {l : List UInt8} {w w' : World} (h : Is T R B b l w) (hk : ∀ k, (k = b ∨ ∃ c fz, w.heap[k]? = some (.cells c 5 fz)) → w'.heap[k]? = w.heap[k]?) : Is T R B b l w' := h.imp (fun h => h.grown hk) (fun h => h.grown hk)
theorem Is.lt {T : TypeId} {R : List Value} {B b : Nat} {l : List UInt8} {w : World} (h : Is T R B b l w) : b < w.heap.size := by
  rcases h with h | h <;> exact h.lt
theorem Is.drew {T : TypeId} {R : List Value} {B b : Nat} {l : List UInt8} {w : World} (h : Is T R B b l w) : Is T R B b l w.drew := h.grown fun k _ => rfl
theorem Is.alloc {T : TypeId} {R : List Value} {B b : Nat} {l : List UInt8} {w : World} (h : Is T R B b l w) (o : Obj) : Is T R B b l (w.alloc o) := h.below ((Below.refl _ w).alloc (Nat.le_refl _) o)
/-- a block that is no builder and no row of bytes, beside a builder that is written -/
theorem Is.kept {T : TypeId} {R : List Value} {B b : Nat} {l : List UInt8} {w w' : World} (h : Is T R B b l w) (k : Kept b w w') {c : Nat} {cs : List Value} {t : TypeId} (hc : Blk w c cs t) (hcb : c ≠ b) (h2 : t ≠ 5) : Blk w' c cs t := by
  refine ⟨k c _ hc.at' ?_ ?_⟩
  · intro e
    exact hcb (Option.some.inj e)
  · intro c' fz e
    simp only [Obj.cells.injEq] at e
    exact h2 e.2.1
theorem Is.new (T : TypeId) (R : List Value) (w : World) : Is T R w.heap.size w.heap.size [] (w.alloc (.cells (.pointer none :: .slice none 0 0 :: R).toArray T)) :=
  .inl ⟨Nat.le_refl _, .slice none 0 0, Blk.new w _ T, World.ownsRowF_nil _ _ _ _, by simp [Value.ownBlock]⟩
theorem lays240' : Go.Proofs.Lays.n240 Try.prog ren := { lays167 with }
theorem bconv_in (w : World) (b n : Nat) (T : TypeId) (hsh : w.shape? b = some (T, n + 2)) : (convert 54 129 (.pointer (some ⟨b, 0, none⟩))).run Try.prog w = .ok (.pointer (some ⟨b, 0, none⟩)) w := by
  obtain ⟨j, hj, hjs⟩ := Option.map_eq_some_iff.1 extra.sizeBuilder
  exact Lib.run_to_unsafe w ⟨b, 0, none⟩ Try.underlying54 Try.underlying129 hj (by rw [hjs]; decide) hsh (Nat.zero_lt_succ _)
theorem bconv_out (w : World) (b n : Nat) (T : TypeId) (hT : HT T n) (hsh : w.shape? b = some (T, n + 2)) : (convert 129 54 (.pointer (some ⟨b, 0, none⟩))).run Try.prog w = .ok (.pointer (some ⟨b, 0, none⟩)) w := by
  obtain ⟨j, hj, hjs⟩ := Option.map_eq_some_iff.1 extra.sizeBuilder
  exact Lib.run_from_unsafe w ⟨b, 0, none⟩ Try.underlying129 Try.underlying54 hj hsh hT.lies
theorem bcheck_fresh (b n : Nat) (T : TypeId) (hT : HT T n) (w : World) (h0 : w.cell? ⟨b, 0, none⟩ = some (.pointer none)) (hsh : w.shape? b = some (T, n + 2)) (hfz : w.frozen? ⟨b, 0, none⟩ = false) :
    Calls Try.prog 72 #[.pointer (some ⟨b, 0, none⟩)] w fun e w' => e = .returned (.tuple #[]) ∧ w' = w.setCell ⟨b, 0, none⟩ (.pointer (some ⟨b, 0, none⟩)) := by
  have hn := lays240'.f276
  rw [show ren.f 276 = 75 from rfl] at hn
  go_enter Try.func72, Try.ntmps72
  go_wp2
  rw [bconv_in w b n T hsh]
  simp only [Result.andThen]
  rw [Oper.upon_value]
  go_wp2
  rw [run_callFunc_extern hn (by kernel_rfl) (by kernel_rfl) (by kernel_rfl) (e := Extern.AbiNoEscape.same) (by kernel_rfl)]
  rw [Lib.run_noEscape]
  simp only [Result.andThen]
  rw [Oper.upon_value]
  go_wp2
  rw [bconv_out w b n T hT hsh]
  simp only [Result.andThen]
  rw [Oper.upon_value]
  go_wp2
  go_end0
  exact ⟨rfl, rfl⟩
theorem At.shape {T : TypeId} {R : List Value} {B b : Nat} {p : Value} {l : List UInt8} {w : World} (h : At T R B b p l w) : w.shape? b = some (T, R.length + 2) := by
  obtain ⟨_, v, K, _⟩ := h
  simp [World.shape?, K.at']
theorem At.cell0 {T : TypeId} {R : List Value} {B b : Nat} {p : Value} {l : List UInt8} {w : World} (h : At T R B b p l w) : w.cell? ⟨b, 0, none⟩ = some p := by
  obtain ⟨_, v, K, _⟩ := h
  exact K.cell 0 (by simp)
theorem ownsRowF_store {w : World} {B : Nat} {v : Value} {n : Nat} {xs : List Value} (h : w.ownsRowF B 5 1 v n xs) {b : Nat} (hne : v.ownBlock ≠ some b) (i : Nat) (x : Value) : (w.setCell ⟨b, i, none⟩ x).ownsRowF B 5 1 v n xs :=
  h.kept (row := some b) ⟨rfl, rfl, rfl, by simp [World.setCell], fun k _ hk => Below.heap_setCell _ _ _ _ (fun e => hk (by simp [e]))⟩ (Or.inr hne)
theorem bcheck_any (T : TypeId) (R : List Value) (hT : HT T R.length) (B b : Nat) (l : List UInt8) (w : World) (h : Is T R B b l w) :
    Calls Try.prog 72 #[.pointer (some ⟨b, 0, none⟩)] w fun e w' => e = .returned (.tuple #[]) ∧ (At T R B b (.pointer (some ⟨b, 0, none⟩)) l w' ∧ Below B w w' ∧ Kept b w w') := by
  rcases h with h | h
  · refine (bcheck_fresh b R.length T hT w h.cell0 h.shape (by obtain ⟨_, v, K, _⟩ := h; exact K.free 0)).mono ?_
    rintro e w' ⟨rfl, rfl⟩
    obtain ⟨hB, v, K, ho, hne⟩ := h
    exact ⟨rfl, ⟨hB, v, K.set 0 _, ownsRowF_store ho hne 0 _, hne⟩, (Below.refl B w).setCell (p := ⟨b, 0, none⟩) hB _, (Lib.OthersKept.refl _ _ w).setCell ⟨b, 0, none⟩ rfl _⟩
  · refine (Any.Builder_copyCheck_used lays240' extra.toX72 b w h.cell0).mono ?_
    rintro e w' ⟨rfl, rfl⟩
    exact ⟨rfl, h, Below.refl B _, Lib.OthersKept.refl _ _ _⟩
theorem binfo_byte : ∃ i, Try.prog.info? 5 = some i ∧ i.zero = some (.int .u8 0) ∧ i.size = 1 ∧ i.bytes = 1 := ⟨_, rfl, rfl, rfl, rfl⟩
theorem At.put {T : TypeId} {R : List Value} {B b : Nat} {p v v' : Value} {l : List UInt8} {w : World} (hB : B ≤ b) (K : Blk w b (p :: v :: R) T) (hown : w.ownsRowF B 5 1 v' l.length (Lib.byteCells l)) (hT : T ≠ 5) : At T R B b p l (w.setCell ⟨b, 1, none⟩ v') := by
  have hne := Lib.ownBlock_neF hown K.at' hT
  exact ⟨hB, v', K.set 1 _, ownsRowF_store hown hne 1 _, hne⟩
set_option maxHeartbeats 4000000 in
theorem bwrite_any (T : TypeId) (R : List Value) (hT : HT T R.length) (B b : Nat) (l : List UInt8) (s : ByteArray) (w : World) (h : Is T R B b l w) (hlen : l.length + s.size ≤ 140737488355328) (hBw : B ≤ w.heap.size) :
    Calls Try.prog 66 #[.pointer (some ⟨b, 0, none⟩), .string s] w fun e w' => e = .returned (.tuple #[.int .i64 s.size, .nilIface]) ∧ Is T R B b (l ++ s.data.toList) w' ∧ Below B w w' ∧ Kept b w w' := by
  obtain ⟨i0, hi, hz0, hz1, hz2⟩ := binfo_byte
  have hc := hid (bcheck_any T R hT B b l w h)
  have hll : (Lib.byteCells l).length = l.length := Lib.byteCells_length l
  have hsi : (s.size : Int) ≤ 140737488355328 := by omega
  have hne := hid hT.ne
  clear h hT
  go_enter Try.func66, Try.ntmps66
  go_wp2_with fail
  refine hc.out.mono ?_
  rintro e w1 ⟨rfl, ⟨hB, v, K, hown, hne1⟩, hb1, hk1⟩
  clear hc
  have c0 : w1.cell? ⟨b, 0, none⟩ = some (.pointer (some ⟨b, 0, none⟩)) := K.cell 0 (by simp)
  have c1 : w1.cell? ⟨b, 1, none⟩ = some v := K.cell 1 (by simp)
  have hb1 := hid hb1
  have hk1 := hid hk1
  have hll := hid hll
  go_wp2_with (at_builtin; refine Lib.wpList_append_own_stringF _ rfl _ _ 49 9 rfl B 5 i0 Try.underlying49 Try.underlying9 hi hz0 hz1 hz2 _ _ _ rfl hown s rfl ?c3 ?c4 ?c5 ?_)
  case c3 => unfold maxLen; omega
  case c4 => omega
  case c5 => have := hb1.out.size; omega
  intro v' w2 hown' hgrow _
  have K2 : Blk w2 b (.pointer (some ⟨b, 0, none⟩) :: v :: R) T := ⟨(hgrow.block b K.lt (fun e => hne1 e.symm)).trans K.at'⟩
  have d0 : w2.cell? ⟨b, 0, none⟩ = some (.pointer (some ⟨b, 0, none⟩)) := K2.cell 0 (by simp)
  have d1 : w2.cell? ⟨b, 1, none⟩ = some v := K2.cell 1 (by simp)
  have f1 : w2.frozen? ⟨b, 1, none⟩ = false := K2.free 1
  obtain ⟨ao, n', cap, rfl⟩ : ∃ ao n' cap, v' = .slice ao n' cap := by
    rcases hown'.2 with ⟨hv, _⟩ | ⟨g, cap, cur, fz, hv, _⟩
    · exact ⟨_, _, _, hv⟩
    · exact ⟨_, _, _, hv⟩
  have hfin := hid (show Is T R B b (l ++ s.data.toList) (w2.setCell ⟨b, 1, none⟩ (.slice ao n' cap)) ∧ Below B w (w2.setCell ⟨b, 1, none⟩ (.slice ao n' cap)) ∧ Kept b w (w2.setCell ⟨b, 1, none⟩ (.slice ao n' cap)) from by
    refine ⟨.inr ?_, ?_, (hk1.out.grown hgrow (Lib.ownsRowF_kind hown)).setCell ⟨b, 1, none⟩ rfl _⟩
    · have e : Lib.byteCells (l ++ s.data.toList) = Lib.byteCells l ++ Lib.strCells s := by simp [Lib.byteCells, Lib.strCells]
      have e2 : (l ++ s.data.toList).length = l.length + s.size := by simp
      exact At.put hB K2 (by rw [e, e2]; exact hown') hne.out
    · exact (hb1.out.grown hgrow (by have := hb1.out.size; omega) (fun k hk => (hown.lt k hk).1)).setCell (p := ⟨b, 1, none⟩) hB _)
  clear hown hown' hgrow hb1 hk1 K K2 c0 c1 hll
  go_wp2_with fail
  go_ret2
  exact ⟨rfl, hfin.out⟩
set_option maxHeartbeats 4000000 in
theorem bbyte_any (T : TypeId) (R : List Value) (hT : HT T R.length) (B b : Nat) (l : List UInt8) (c : UInt8) (w : World) (h : Is T R B b l w) (hlen : l.length + 1 ≤ 140737488355328) (hBw : B ≤ w.heap.size) :
    Calls Try.prog 68 #[.pointer (some ⟨b, 0, none⟩), .int .u8 c.toNat] w fun e w' => e = .returned .nilIface ∧ Is T R B b (l ++ [c]) w' ∧ Below B w w' ∧ Kept b w w' := by
  obtain ⟨i0, hi, hz0, hz1, hz2⟩ := binfo_byte
  have hc := hid (bcheck_any T R hT B b l w h)
  have hne := hid hT.ne
  clear h hT
  go_enter Try.func68, Try.ntmps68
  go_wp2_with fail
  refine hc.out.mono ?_
  rintro e w1 ⟨rfl, ⟨hB, v, K, hown, hne1⟩, hb1, hk1⟩
  clear hc
  have c0 : w1.cell? ⟨b, 0, none⟩ = some (.pointer (some ⟨b, 0, none⟩)) := K.cell 0 (by simp)
  have c1 : w1.cell? ⟨b, 1, none⟩ = some v := K.cell 1 (by simp)
  have hb1 := hid hb1
  have hk1 := hid hk1
  go_wp2_with (at_builtin; refine wpList_append_ownF _ rfl _ _ 49 rfl B 5 i0 (.int .u8 0) 1 1 Try.underlying49 hi hz0 hz1 hz2 rfl (by decide) _ _ _ rfl (hown.alloc _) ⟨w1.heap.size, 0, none⟩ 1 1 [.int .u8 c.toNat] rfl rfl ?c1 ?c2 ?c3 ?c4 ?c5 ?_)
  case c1 =>
    intro j u hj
    match j, hj with
    | 0, hj => simp at hj; subst hj; simp [Addr.add]
  case c2 => intro u hu; simp at hu; subst hu; rfl
  case c3 => unfold maxLen; omega
  case c4 => omega
  case c5 => have := hb1.out.size; simp; omega
  intro v' w2 hown' hgrow _
  have hgr : ∀ x : Obj, (w1.alloc x).grownBy w2 v.ownBlock → True := fun _ _ => trivial
  have K1 := K.alloc (.cells #[.int .u8 (c.toNat : Int)] 5)
  have K2 : Blk w2 b (.pointer (some ⟨b, 0, none⟩) :: v :: R) T := ⟨(hgrow.block b K1.lt (fun e => hne1 e.symm)).trans K1.at'⟩
  have d0 : w2.cell? ⟨b, 0, none⟩ = some (.pointer (some ⟨b, 0, none⟩)) := K2.cell 0 (by simp)
  have d1 : w2.cell? ⟨b, 1, none⟩ = some v := K2.cell 1 (by simp)
  have f1 : w2.frozen? ⟨b, 1, none⟩ = false := K2.free 1
  obtain ⟨ao, n', cap, rfl⟩ : ∃ ao n' cap, v' = .slice ao n' cap := by
    rcases hown'.2 with ⟨hv, _⟩ | ⟨g, cap, cur, fz, hv, _⟩
    · exact ⟨_, _, _, hv⟩
    · exact ⟨_, _, _, hv⟩
  have hfin := hid (show Is T R B b (l ++ [c]) (w2.setCell ⟨b, 1, none⟩ (.slice ao n' cap)) ∧ Below B w (w2.setCell ⟨b, 1, none⟩ (.slice ao n' cap)) ∧ Kept b w (w2.setCell ⟨b, 1, none⟩ (.slice ao n' cap)) from by
    refine ⟨.inr ?_, ?_, ((hk1.out.alloc _).grown hgrow (Lib.ownsRowF_kind (hown.alloc _))).setCell ⟨b, 1, none⟩ rfl _⟩
    · have e : Lib.byteCells (l ++ [c]) = Lib.byteCells l ++ [.int .u8 c.toNat] := by simp [Lib.byteCells]
      have e2 : (l ++ [c]).length = l.length + 1 := by simp
      exact At.put hB K2 (by rw [e, e2]; exact hown') hne.out
    · exact ((hb1.out.alloc (by have := hb1.out.size; omega) _).grown hgrow (by have := hb1.out.size; simp; omega) (fun k hk => (hown.lt k hk).1)).setCell (p := ⟨b, 1, none⟩) hB _)
  clear hown hown' hgrow hb1 hk1 K K1 K2 c0 c1 hgr
  go_wp2_with fail
  go_ret
  exact ⟨rfl, hfin.out⟩
set_option maxHeartbeats 4000000 in
theorem bstring_any (T : TypeId) (R : List Value) (hT : HT T R.length) (B b : Nat) (l : List UInt8) (w : World) (h : Is T R B b l w) (h0 : l ≠ []) :
    Calls Try.prog 20 #[.pointer (some ⟨b, 0, none⟩)] w fun e w' => e = .returned (.string (bs l)) ∧ Is T R B b l w' ∧ Below B w w' ∧ Kept b w w' := by
  obtain ⟨p, hp, hAt⟩ := h.at
  obtain ⟨hB, v, K, hown, hne⟩ := hAt
  have hl0 : l.length ≠ 0 := by simpa using h0
  obtain ⟨g, cap, cur, fz, rfl, hbg, hg, hfz, hnc, hcm, hcs, htake⟩ : ∃ g cap cur fz, v = .slice (some ⟨g, 0, none⟩) l.length cap ∧ B ≤ g ∧ w.heap[g]? = some (.cells cur 5 fz) ∧ fz.2 ≤ l.length * 1 ∧ l.length ≤ cap ∧ cap ≤ maxLen ∧ cur.size = cap * 1 ∧ cur.toList.take (l.length * 1) = Lib.byteCells l := by
    rcases hown.2 with ⟨_, hz⟩ | ⟨g, cap, cur, fz, hv, r⟩
    · exact absurd hz hl0
    · exact ⟨g, cap, cur, fz, hv, r⟩
  have hgb : g ≠ b := fun e => hne (by rw [e]; rfl)
  have c1 : w.drew.cell? ⟨b, 1, none⟩ = some (.slice (some ⟨g, 0, none⟩) l.length cap) := K.drew.cell 1 (by simp)
  have hSD : (Builtin.unsafeSliceData_ #[49] 85 #[.slice (some ⟨g, 0, none⟩) l.length cap]).run Try.prog w.drew = .ok (.pointer (some ⟨g, 0, none⟩)) w.drew :=
    Lib.run_unsafeSliceData_row _ _ _ _ _ _ (by omega)
  have hUS : (Builtin.unsafeString_ #[85, 3] 9 #[.pointer (some ⟨g, 0, none⟩), .int .i64 l.length]).run Try.prog w.drew = .ok (.string (bs l)) (w.drew.freeze ⟨g, 0, none⟩ l.length) := by
    refine Lib.run_unsafeString_row w.drew 85 3 9 5 lays169.t127 extra.cellsByte g cur.size (by have hg' : w.drew.heap[g]? = some (.cells cur 5 fz) := hg; simp [World.shape?, hg']) l h0 (by omega) (by unfold maxLen at hcm; omega) ?_
    intro j x hx
    exact hown.cells (g := g) rfl j (.int .u8 x.toNat) (by simp [Lib.byteCells, hx])
  have hkeep : Is T R B b l (w.drew.freeze ⟨g, 0, none⟩ l.length) := by
    refine Is.of hp ⟨hB, .slice (some ⟨g, 0, none⟩) l.length cap, ?_, ?_, hne⟩
    · refine ⟨?_⟩
      unfold World.freeze
      split
      · exact K.drew.at'
      · simp only [Array.getElem?_modify]
        rw [if_neg hgb]
        exact K.at'
    · refine ⟨hown.1, .inr ⟨g, cap, cur, ?_⟩⟩
      unfold World.freeze
      split
      · exact ⟨fz, rfl, hbg, hg, hfz, hnc, hcm, hcs, htake⟩
      · simp only [Array.getElem?_modify]
        have hg' : w.drew.heap[g]? = some (.cells cur 5 fz) := hg
        simp only [if_true]
        rw [hg']
        refine ⟨_, trivial, hbg, rfl, ?_, hnc, hcm, hcs, htake⟩
        split <;> simp <;> omega
  have hfin := hid (show Is T R B b l (w.drew.freeze ⟨g, 0, none⟩ l.length) ∧ Below B w (w.drew.freeze ⟨g, 0, none⟩ l.length) ∧ Kept b w (w.drew.freeze ⟨g, 0, none⟩ l.length) from
    ⟨hkeep, Lib.below_freeze (Below.drew (Below.refl B w)) (p := ⟨g, 0, none⟩) hbg _, ((Lib.OthersKept.refl _ _ w).drew).freeze ⟨g, 0, none⟩ _ ⟨cur, fz, hg⟩⟩)
  clear hkeep hown htake K hp hne hg hfz hcs
  go_enter Try.func20, Try.ntmps20
  go_wp2
  go_region
  all_goals (go_wp2; go_ret; exact ⟨rfl, hfin.out⟩)
end Go.Proofs.Ytldlkoiekdlmhaa.Bld
