/-
  strings.Builder's WriteByte, String and Reset, in a call that has rows of its own besides.
-/
import Derived.Shelf.Strings.BuilderK
import Derived.Test.YtldlkoiekdlmhaaProg
import Derived.Test.YtldlkoiekdlmhaaMem
namespace Go.Proofs.Ytldlkoiekdlmhaa.Lik
open Go.ChangeShapes Go.WideShapes Go.ChangeAt Go.RowKit Go.Shelf
open Go.Proofs.Ytldlkoiekdlmhaa.Mem
set_option linter.unusedVariables false
set_option linter.unusedSimpArgs false
set_option maxRecDepth 100000
def bs (l : List UInt8) : ByteArray := ⟨l.toArray⟩
def ren : Go.Shelf.Ren := ⟨fun | 167 => 68 | 240 => 72 | 276 => 75 | 169 => 20 | n => n,
  fun | 0 => 0 | 3 => 3 | 4 => 4 | 5 => 5 | 9 => 9 | 20 => 20 | 37 => 49 | 70 => 54 | 72 => 56 | 75 => 118 | 80 => 60 | 127 => 85 | 164 => 129 | n => n, fun n => n⟩
theorem lays167 : Go.Proofs.Lays.n167 Try.prog ren := {
  mixed := by kernel_rfl
  f167 := Try.func68.trans (congrArg some (by kernel_rfl))
  f240 := Try.func72.trans (congrArg some (by kernel_rfl))
  f276 := Try.func75.trans (congrArg some (by kernel_rfl))
  t0 := Try.underlying0
  a0 := Try.isAgg0
  z0 := Try.sizeOf0
  v0 := Try.zeroValue0
  t4 := Try.underlying4
  a4 := Try.isAgg4
  z4 := Try.sizeOf4
  v4 := Try.zeroValue4
  t5 := Try.underlying5
  a5 := Try.isAgg5
  z5 := Try.sizeOf5
  v5 := Try.zeroValue5
  t9 := Try.underlying9
  a9 := Try.isAgg9
  z9 := Try.sizeOf9
  v9 := Try.zeroValue9
  t20 := Try.underlying20
  a20 := Try.isAgg20
  z20 := Try.sizeOf20
  v20 := Try.zeroValue20
  t37 := Try.underlying49
  a37 := Try.isAgg49
  z37 := Try.sizeOf49
  v37 := Try.zeroValue49
  t70 := Try.underlying54
  a70 := Try.isAgg54
  z70 := Try.sizeOf54
  v70 := Try.zeroValue54
  t72 := Try.underlying56
  a72 := Try.isAgg56
  z72 := Try.sizeOf56
  v72 := Try.zeroValue56
  t75 := Try.underlying118
  a75 := Try.isAgg118
  z75 := Try.sizeOf118
  v75 := Try.zeroValue118
  t164 := Try.underlying129
  a164 := Try.isAgg129
  z164 := Try.sizeOf129
  v164 := Try.zeroValue129 }
theorem lays169 : Go.Proofs.Lays.n169 Try.prog ren := {
  mixed := by kernel_rfl
  f169 := Try.func20.trans (congrArg some (by kernel_rfl))
  t0 := Try.underlying0
  a0 := Try.isAgg0
  z0 := Try.sizeOf0
  v0 := Try.zeroValue0
  t3 := Try.underlying3
  a3 := Try.isAgg3
  z3 := Try.sizeOf3
  v3 := Try.zeroValue3
  t9 := Try.underlying9
  a9 := Try.isAgg9
  z9 := Try.sizeOf9
  v9 := Try.zeroValue9
  t37 := Try.underlying49
  a37 := Try.isAgg49
  z37 := Try.sizeOf49
  v37 := Try.zeroValue49
  t70 := Try.underlying54
  a70 := Try.isAgg54
  z70 := Try.sizeOf54
  v70 := Try.zeroValue54
  t72 := Try.underlying56
  a72 := Try.isAgg56
  z72 := Try.sizeOf56
  v72 := Try.zeroValue56
  t127 := Try.underlying85
  a127 := Try.isAgg85
  z127 := Try.sizeOf85
  v127 := Try.zeroValue85 }
theorem extra : Builder.Extra Try.prog ren := {
  sizeBuilder := by kernel_rfl
  liesBuilder := by kernel_rfl
  t5 := Try.underlying5
  a5 := Try.isAgg5
  z5 := Try.sizeOf5
  v5 := Try.zeroValue5
  infoByte := by kernel_rfl
  cellsByte := by kernel_rfl
  sizeByte := by kernel_rfl
  neB5 := by decide }
def IsB (B b : Nat) (l : List UInt8) (w : World) : Prop := Lib.IsBuilderF 56 5 B b (Lib.byteCells l) w
/-- all that is neither the builder nor a row of bytes is as it was -/
def Kept (b : Nat) (w w' : World) : Prop := Lib.OthersKept 5 (some b) w w'
theorem Kept.trans {b : Nat} {u v w : World} (h : Kept b u v) (g : Kept b v w) : Kept b u w := Lib.OthersKept.trans h g
theorem IsB.at {B b : Nat} {l : List UInt8} {w : World} (h : IsB B b l w) : ∃ p v, w.heap[b]? = some (.cells #[p, v] 56 (0, 0)) ∧ B ≤ b ∧ w.ownsRowF B 5 1 v (Lib.byteCells l).length (Lib.byteCells l) ∧ v.ownBlock ≠ some b := by
  rcases h with ⟨hB, v, h1, h2, h3⟩ | ⟨hB, v, h1, h2, h3⟩
  · exact ⟨_, v, h1, hB, h2, h3⟩
  · exact ⟨_, v, h1, hB, h2, h3⟩
theorem bld_byte (B b : Nat) (l : List UInt8) (c : UInt8) (w : World) (h : IsB B b l w) (hlen : l.length + 1 ≤ 140737488355328) (hBw : B ≤ w.heap.size) :
    Calls Try.prog 68 #[.pointer (some ⟨b, 0, none⟩), .int .u8 c.toNat] w fun e w' => e = .returned .nilIface ∧ IsB B b (l ++ [c]) w' ∧ Below B w w' ∧ Kept b w w' := by
  refine (Any.Builder_WriteByte_k lays167 extra B b (Lib.byteCells l) c.toNat w h (by simpa [Lib.byteCells] using hlen) hBw).mono ?_
  rintro e w' ⟨rfl, hb, hw, hk⟩
  refine ⟨rfl, .inr ?_, hw, hk⟩
  have e : Lib.byteCells (l ++ [c]) = Lib.byteCells l ++ [.int .u8 c.toNat] := by simp [Lib.byteCells]
  rw [e]; exact hb
theorem bld_string (B b : Nat) (l : List UInt8) (w : World) (h : IsB B b l w) (hBw : B ≤ w.heap.size) :
    Calls Try.prog 20 #[.pointer (some ⟨b, 0, none⟩)] w fun e w' => e = .returned (.string (bs l)) ∧ IsB B b l w' ∧ Below B w w' ∧ Kept b w w' :=
  Any.Builder_String_any_k lays169 extra B b l w h hBw
theorem IsB.fresh (w : World) : IsB w.heap.size w.heap.size [] (w.alloc (.cells #[.pointer none, .slice none 0 0] 56)) := Lib.IsBuilderF.of (Lib.fresh_isBuilder _ _ w)
/-- a row of the call's own that holds no bytes -/
theorem own_kept {b : Nat} {w w' : World} {base : Nat} {e T : TypeId} {size : Nat} {v : Value} {n : Nat} {xs cs : List Value} (h : w.ownsRow base e size v n xs) (k : Kept b w w') (hb : Blk w b cs T) (hT : T ≠ e) (h5 : e ≠ 5) : w'.ownsRow base e size v n xs := by
  refine ⟨h.1, ?_⟩
  rcases h.2 with h | ⟨g, cap, cur, rfl, h1, hg, r⟩
  · exact .inl h
  · refine .inr ⟨g, cap, cur, rfl, h1, k g _ hg ?_ ?_, r⟩
    · intro q
      have q := Option.some.inj q
      subst q
      rw [hb.at'] at hg
      simp only [Option.some.injEq, Obj.cells.injEq] at hg
      exact hT hg.2.1
    · intro c fz q
      simp only [Obj.cells.injEq] at q
      exact h5 q.2.1
/-- the builder, while another row grows -/
theorem IsB.grown {B b : Nat} {l : List UInt8} {w w' : World} {row : Option Nat} (h : IsB B b l w) (hg : w.grownBy w' row) (hrow : ∀ g, row = some g → ∃ c e fz, w.heap[g]? = some (.cells c e fz) ∧ e ≠ 5 ∧ e ≠ 56) : IsB B b l w' := by
  have key : ∀ p, Lib.BuilderAtF 56 5 B b p (Lib.byteCells l) w → Lib.BuilderAtF 56 5 B b p (Lib.byteCells l) w' := by
    rintro p ⟨hB, v, h1, h2, h3⟩
    have hlt : b < w.heap.size := (Array.getElem?_eq_some_iff.1 h1).1
    refine ⟨hB, v, ?_, ⟨h2.1, ?_⟩, h3⟩
    · rw [hg.block b hlt]
      · exact h1
      · intro q
        obtain ⟨c, e, fz, g1, g2, g3⟩ := hrow b q.symm
        rw [h1] at g1
        simp only [Option.some.injEq, Obj.cells.injEq] at g1
        exact g3 g1.2.1.symm
    · rcases h2.2 with h2 | ⟨g, cap, cur, fz, rfl, q1, q2, r⟩
      · exact .inl h2
      · refine .inr ⟨g, cap, cur, fz, rfl, q1, ?_, r⟩
        rw [hg.block g (Array.getElem?_eq_some_iff.1 q2).1]
        · exact q2
        · intro q
          obtain ⟨c, e, fz', g1, g2, g3⟩ := hrow g q.symm
          rw [q2] at g1
          simp only [Option.some.injEq, Obj.cells.injEq] at g1
          exact g2 g1.2.1.symm
  rcases h with h | h
  · exact .inl (key _ h)
  · exact .inr (key _ h)
end Go.Proofs.Ytldlkoiekdlmhaa.Lik
