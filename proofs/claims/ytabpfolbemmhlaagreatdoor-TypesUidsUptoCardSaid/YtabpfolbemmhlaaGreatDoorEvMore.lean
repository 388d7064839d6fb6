/-
  A checked evaluator of concrete calls: what a strings.Builder needs: pointers compared, turned to unsafe.Pointer and back, a text appended, bytes seen as a text. No walk.
-/
import Derived.Test.YtabpfolbemmhlaaGreatDoorEvAppend
import Derived.Lib.Builder
import Derived.Lib.AppendStr
import Derived.Lib.UnsafeStr
import Derived.Laws.Externs
import Derived.Laws.Pointers
import Derived.Laws.Cover3
import Derived.KernelRfl
namespace Go.Proofs.YtabpfolbemmhlaaGreatDoor.Ev
open Go.ChangeShapes Go.WideShapes Go.ChangeAt Go.RowKit
open Go.Proofs.YtabpfolbemmhlaaGreatDoor.Mem
set_option linter.unusedVariables false
set_option linter.unusedSimpArgs false
/-! ### compared with nil, or with itself -/
def isPtr (P : Program) (t : TypeId) : Bool := match P.underlying t with
  | some (.pointer e) => (P.info? e).isSome
  | _ => false
def isSl (P : Program) (t : TypeId) : Bool := match P.underlying t with
  | some (.slice _) => true
  | _ => false
def isIf (P : Program) (t : TypeId) : Bool := match P.underlying t with
  | some (.interface _) => true
  | _ => false
def isFnT (P : Program) (t : TypeId) : Bool := match P.underlying t with
  | some (.func _ _ _) => true
  | _ => false
def evSame (P : Program) (t : TypeId) : Value → Value → Option Bool
  | .pointer none, .pointer b => bif isPtr P t then some b.isNone else none
  | .pointer (some _), .pointer none => bif isPtr P t then some false else none
  | .pointer (some ⟨n, o, none⟩), .pointer (some ⟨n', o', none⟩) => bif isPtr P t && Nat.beq n n' && Nat.beq o o' then some true else none
  | .slice a _ _, .slice none 0 0 => bif isSl P t then some a.isNone else none
  | .iface _ _, .nilIface => bif isIf P t then some false else none
  | .nilIface, .iface _ _ => bif isIf P t then some false else none
  | .func _ _ _, .nilFunc => bif isFnT P t then some false else none
  | _, _ => none
theorem bif_some {α : Type} {b : Bool} {x y : α} (h : (bif b then some x else none) = some y) : b = true ∧ x = y := by
  cases b
  · cases h
  · cases h; exact ⟨rfl, rfl⟩
theorem isPtr_of {P : Program} {t : TypeId} (h : isPtr P t = true) : ∃ e j, P.underlying t = some (.pointer e) ∧ P.info? e = some j := by
  unfold isPtr at h
  split at h
  · rename_i e hu
    obtain ⟨j, hj⟩ := Option.isSome_iff_exists.1 h
    exact ⟨e, j, hu, hj⟩
  · cases h
theorem evSame_run {P : Program} {m : Mu} {t : TypeId} {x x' y y' : Value} {b : Bool} (hx : R m x x') (hy : R m y y') (h : evSame P t x y = some b) (ox oy : Operand) (W : World) :
    (do eqGuard .eql t ox oy x' y'; binOp .eql t x' y' : Sem Value).run P W = .ok (.bool b) W ∧ (do eqGuard .neq t ox oy x' y'; binOp .neq t x' y' : Sem Value).run P W = .ok (.bool (!b)) W := by
  have key : ∀ d, (Op.equalIn (d + 1) t x' y').run P W = .ok b W := by
    intro d
    unfold evSame at h
    split at h
    · obtain ⟨h1, h2⟩ := bif_some h
      obtain ⟨e, j, hu, hj⟩ := isPtr_of h1
      cases hx
      cases hy with
      | ptrNil => simp [Op.equalIn, run_underlying hu, ← h2]
      | ptr n o l hl => simp [Op.equalIn, run_underlying hu, ← h2]
    · obtain ⟨h1, h2⟩ := bif_some h
      obtain ⟨e, j, hu, hj⟩ := isPtr_of h1
      cases hy
      cases hx with
      | ptr n o l hl => simp [Op.equalIn, run_underlying hu, ← h2]
    · obtain ⟨h1, h2⟩ := bif_some h
      simp only [Bool.and_eq_true] at h1
      obtain ⟨⟨h1, h3⟩, h4⟩ := h1
      obtain ⟨e, j, hu, hj⟩ := isPtr_of h1
      have e1 := Nat.eq_of_beq_eq_true h3
      have e2 := Nat.eq_of_beq_eq_true h4
      subst e1 e2
      cases hx with
      | ptr _ _ l hl =>
        cases hy with
        | ptr _ _ l' hl' =>
          rw [hl] at hl'
          cases hl'
          simp [Op.equalIn, run_underlying hu, sizeOf, typeInfo, hj, run_sameAddr_same, ← h2]
    · obtain ⟨h1, h2⟩ := bif_some h
      unfold isSl at h1
      split at h1
      · rename_i e hu
        cases hy
        cases hx with
        | sliceNil => simp [Op.equalIn, run_underlying hu, ← h2]
        | slice n o len e l hl hc hm => simp [Op.equalIn, run_underlying hu, ← h2]
      · cases h1
    · obtain ⟨h1, h2⟩ := bif_some h
      unfold isIf at h1
      split at h1
      · rename_i ms hu
        cases hy
        cases hx with
        | iface t v v' hv => simp [Op.equalIn, run_underlying hu, ← h2]
      · cases h1
    · obtain ⟨h1, h2⟩ := bif_some h
      unfold isIf at h1
      split at h1
      · rename_i ms hu
        cases hx
        cases hy with
        | iface t v v' hv => simp [Op.equalIn, run_underlying hu, ← h2]
      · cases h1
    · obtain ⟨h1, h2⟩ := bif_some h
      unfold isFnT at h1
      split at h1
      · rename_i hu
        cases hy
        cases hx with
        | func f a b a' b' hf hg => simp [Op.equalIn, run_underlying hu, ← h2]
      · cases h1
    · cases h
  have hk := key 9999
  have hq : (Op.equal t x' y').run P W = .ok b W := by simpa [Op.equal, Op.maxDepth] using hk
  unfold evSame at h
  split at h <;> first | (cases h; done) | skip
  all_goals
    cases hx <;> cases hy <;> simp [eqGuard, binOp, Sem.run_bind, hq]
/-! ### to unsafe.Pointer and back -/
noncomputable def evConv (P : Program) (s : St) (src dst : TypeId) : Value → Option Value
  | .pointer (some ⟨n, o, none⟩) => match P.underlying src, P.underlying dst, s.get n with
    | some (.pointer t), some .unsafePointer, some c => match sizeB P t with
      | some (k + 1) => bif Nat.blt o c.cells.length then some (.pointer (some ⟨n, o, none⟩)) else none
      | _ => none
    | some .unsafePointer, some (.pointer u), some c => match c.row with
      | none => bif !c.ro && (P.info? u).isSome && liesAt P P.depth c.ty (c.cells.length / P.cellsOf c.ty) o u 1 then some (.pointer (some ⟨n, o, none⟩)) else none
      | some _ => none
    | _, _, _ => none
  | _ => none
theorem Blk.shape {W : World} {b : Nat} {cs : List Value} {t : TypeId} (h : Blk W b cs t) : W.shape? b = some (t, cs.length) := by
  simp [World.shape?, h.at']
theorem evConv_sound {P : Program} {m : Mu} {s : St} {B : Nat} {W : World} (h : Holds m s B W) {src dst : TypeId} {x x' v : Value} (hx : R m x x') (e : evConv P s src dst x = some v) : ∃ v', (convert src dst x').run P W = .ok v' W ∧ R m v v' := by
  unfold evConv at e
  split at e
  · rename_i n o
    cases hx with
    | ptr _ _ l hl =>
      split at e
      · rename_i t c hs hd hc
        split at e
        · rename_i k hk
          obtain ⟨e1, e2⟩ := bif_some e
          subst e2
          have ho : o < c.cells.length := by simpa [Nat.blt_eq] using e1
          obtain ⟨y, hy, hr⟩ := h.read hc hl o (List.getElem?_eq_getElem ho)
          unfold sizeB at hk
          obtain ⟨i, hi, hik⟩ := Option.map_eq_some_iff.1 hk
          obtain ⟨e', cells, hsh, hlt, -⟩ := World.shape?_of_cell? hy
          exact ⟨_, Lib.run_to_unsafe W ⟨l.blk, o, none⟩ hs hd hi (by rw [hik]; omega) hsh hlt, .ptr n o l hl⟩
        · cases e
      · rename_i u c hs hd hc
        split at e
        · rename_i hrow
          obtain ⟨e1, e2⟩ := bif_some e
          subst e2
          simp only [Bool.and_eq_true, Bool.not_eq_true'] at e1
          obtain ⟨⟨e1, e3⟩, e4⟩ := e1
          obtain ⟨j, hj⟩ := Option.isSome_iff_exists.1 e3
          obtain ⟨l', h1, h2⟩ := h.at' n c (R.name_lt h hl) hc
          rw [hl] at h1; cases h1
          obtain ⟨hB, rl, tail, h3, h4, h5, h6⟩ := h2.own e1
          have ht := h6 hrow
          subst ht
          have hsh := Blk.shape h4
          rw [List.append_nil, ← h3.length] at hsh
          exact ⟨_, Lib.run_from_unsafe W ⟨l.blk, o, none⟩ hs hd hj hsh e4, .ptr n o l hl⟩
        · cases e
      · cases e
  · cases e
/-! ### internal/abi.NoEscape -/
def isSameF (P : Program) (g : FuncId) : Bool := match P.funcs[g]? with
  | some fn => fn.name == "internal/abi.NoEscape" && fn.body.isNone && (Extern.findNext fn).isNone
  | none => false
theorem find_noEsc (fn : Func) (h : fn.name = "internal/abi.NoEscape") : Extern.find fn = some Extern.AbiNoEscape.same := by
  unfold Extern.find
  simp only [h]
  have g1 : Extern.allGenericRows.lookup "internal/abi.NoEscape" = none := by kernel_rfl
  have g2 : Extern.allTypedRows.lookup "internal/abi.NoEscape" = none := by kernel_rfl
  have g3 : Extern.allRows.lookup "internal/abi.NoEscape" = some Extern.AbiNoEscape.same := by kernel_rfl
  rw [g1, g2, g3]
  rfl
theorem isSameF_run {P : Program} {g : FuncId} (h : isSameF P g = true) (x : Value) (W : World) : (callFunc g #[x]).run P W = .ok (.value x) W := by
  unfold isSameF at h
  split at h
  · rename_i fn hf
    simp only [Bool.and_eq_true, beq_iff_eq] at h
    obtain ⟨⟨h1, h2⟩, h3⟩ := h
    rw [run_callFunc_extern hf (by rw [h1]; rfl) h2 (by simpa using h3) (find_noEsc fn h1)]
    rfl
  · cases h
/-! ### a text appended -/
theorem run_append_place_str {P : Program} (w : World) (base : Nat) (t u ty e : TypeId) (i : TypeInfo) (ht : P.underlying t = some (.slice e)) (hu : P.underlying u = some .string) (hi : P.info? e = some i) (hz : i.zero = some (.int .u8 0)) (hsize : i.size = 1) (hby : i.bytes = 1)
    (v : Value) (n : Nat) (xs : List Value) (hown : w.ownsRow base e 1 v n xs) (s : ByteArray) (h63 : n + s.size ≤ maxLen) (hbytes : n + s.size ≤ 140737488355328) (hbase : base ≤ w.heap.size) :
    ∃ v' w', (Builtin.append_ #[t, u] ty #[v, .string s]).run P w = .ok v' w' ∧ w'.ownsRow base e 1 v' (n + s.size) (xs ++ Lib.strCells s) ∧ w.grownBy w' v.ownBlock ∧ Placed w v v' := by
  obtain ⟨v', w', hrun, ho, hg, hiff⟩ := Lib.run_append_own_string (P := P) (w := w) base t u ty e i ht hu hi hz hsize hby v n xs hown s h63 hbytes hbase
  refine ⟨v', w', hrun, ho, hg, ?_⟩
  unfold maxLen at h63
  rcases hown.2 with ⟨rfl, h0⟩ | ⟨g, cap, cur, rfl, hb, hh, hnc, hcm, hcs, htake⟩
  · obtain ⟨v2, w2, hrun2, ho2, _, _⟩ := Lib.run_append_own_string (P := P) (w := w) w.heap.size t u ty e i ht hu hi hz hsize hby (.slice none 0 0) n xs ⟨hown.1, .inl ⟨rfl, h0⟩⟩ s (by unfold maxLen; exact h63) hbytes (Nat.le_refl _)
    rw [hrun] at hrun2
    simp only [Result.ok.injEq] at hrun2
    obtain ⟨rfl, rfl⟩ := hrun2
    cases hv : v'.ownBlock with
    | none => exact .inl hv
    | some g => exact .inr ⟨g, hv, (ho2.lt g hv).1⟩
  · have hcs' : cur.size = cap := by simpa using hcs
    by_cases hroom : n + s.size ≤ cap
    · have hr := Lib.run_append_room_string (P := P) (w := w) t u ty e i ht hu hi hsize g n cap cur hh s hroom (by omega)
      rw [hrun] at hr
      simp only [Result.ok.injEq] at hr
      rw [hr.1]
      exact .inl rfl
    · have holds : ∀ j u, xs[j]? = some u → w.cell? ((⟨g, 0, none⟩ : Addr).add j) = some u := hown.cells (g := g) rfl
      have hr := Lib.run_append_grow_string (P := P) (w := w) t u ty e i (.int .u8 0) ht hu hi hz ⟨g, 0, none⟩ n cap xs (by rw [hsize]; exact hown.1) holds s (by omega) (by omega) (by rw [hby]; exact growslice_fits (by omega) (by omega))
      rw [hrun] at hr
      simp only [Result.ok.injEq] at hr
      rw [hr.1]
      exact .inr ⟨w.heap.size, rfl, Nat.le_refl _⟩
end Go.Proofs.YtabpfolbemmhlaaGreatDoor.Ev
