/-
  strings.Builder's WriteByte, String and Reset, in a call that has rows of its own besides.
-/
import Derived.Shelf.Strings.BuilderK
import Derived.Test.YtklclfolmfhocaaGreatDoorProg
import Derived.Test.YtklclfolmfhocaaGreatDoorMem
namespace Go.Proofs.YtklclfolmfhocaaGreatDoor.Lik
open Go.ChangeShapes Go.WideShapes Go.ChangeAt Go.RowKit Go.Shelf
open Go.Proofs.YtklclfolmfhocaaGreatDoor.Mem
set_option linter.unusedVariables false
set_option linter.unusedSimpArgs false
set_option maxRecDepth 100000
def bs (l : List UInt8) : ByteArray := ⟨l.toArray⟩
def ren : Go.Shelf.Ren := ⟨fun | 167 => 164 | 240 => 193 | 276 => 211 | 169 => 165 | n => n,
  fun | 0 => 0 | 3 => 3 | 4 => 4 | 5 => 5 | 9 => 9 | 20 => 20 | 37 => 208 | 70 => 207 | 72 => 210 | 75 => 214 | 80 => 159 | 127 => 237 | 164 => 246 | n => n, fun n => n⟩
theorem lays167 : Go.Proofs.Lays.n167 Tryz.prog ren := {
  mixed := by kernel_rfl
  f167 := Tryz.func164.trans (congrArg some (by kernel_rfl))
  f240 := Tryz.func193.trans (congrArg some (by kernel_rfl))
  f276 := Tryz.func211.trans (congrArg some (by kernel_rfl))
  t0 := Tryz.underlying0
  a0 := Tryz.isAgg0
  z0 := Tryz.sizeOf0
  v0 := Tryz.zeroValue0
  t4 := Tryz.underlying4
  a4 := Tryz.isAgg4
  z4 := Tryz.sizeOf4
  v4 := Tryz.zeroValue4
  t5 := Tryz.underlying5
  a5 := Tryz.isAgg5
  z5 := Tryz.sizeOf5
  v5 := Tryz.zeroValue5
  t9 := Tryz.underlying9
  a9 := Tryz.isAgg9
  z9 := Tryz.sizeOf9
  v9 := Tryz.zeroValue9
  t20 := Tryz.underlying20
  a20 := Tryz.isAgg20
  z20 := Tryz.sizeOf20
  v20 := Tryz.zeroValue20
  t37 := Tryz.underlying208
  a37 := Tryz.isAgg208
  z37 := Tryz.sizeOf208
  v37 := Tryz.zeroValue208
  t70 := Tryz.underlying207
  a70 := Tryz.isAgg207
  z70 := Tryz.sizeOf207
  v70 := Tryz.zeroValue207
  t72 := Tryz.underlying210
  a72 := Tryz.isAgg210
  z72 := Tryz.sizeOf210
  v72 := Tryz.zeroValue210
  t75 := Tryz.underlying214
  a75 := Tryz.isAgg214
  z75 := Tryz.sizeOf214
  v75 := Tryz.zeroValue214
  t164 := Tryz.underlying246
  a164 := Tryz.isAgg246
  z164 := Tryz.sizeOf246
  v164 := Tryz.zeroValue246 }
theorem lays169 : Go.Proofs.Lays.n169 Tryz.prog ren := {
  mixed := by kernel_rfl
  f169 := Tryz.func165.trans (congrArg some (by kernel_rfl))
  t0 := Tryz.underlying0
  a0 := Tryz.isAgg0
  z0 := Tryz.sizeOf0
  v0 := Tryz.zeroValue0
  t3 := Tryz.underlying3
  a3 := Tryz.isAgg3
  z3 := Tryz.sizeOf3
  v3 := Tryz.zeroValue3
  t9 := Tryz.underlying9
  a9 := Tryz.isAgg9
  z9 := Tryz.sizeOf9
  v9 := Tryz.zeroValue9
  t37 := Tryz.underlying208
  a37 := Tryz.isAgg208
  z37 := Tryz.sizeOf208
  v37 := Tryz.zeroValue208
  t70 := Tryz.underlying207
  a70 := Tryz.isAgg207
  z70 := Tryz.sizeOf207
  v70 := Tryz.zeroValue207
  t72 := Tryz.underlying210
  a72 := Tryz.isAgg210
  z72 := Tryz.sizeOf210
  v72 := Tryz.zeroValue210
  t127 := Tryz.underlying237
  a127 := Tryz.isAgg237
  z127 := Tryz.sizeOf237
  v127 := Tryz.zeroValue237 }
theorem extra : Builder.Extra Tryz.prog ren := {
  sizeBuilder := by kernel_rfl
  liesBuilder := by kernel_rfl
  t5 := Tryz.underlying5
  a5 := Tryz.isAgg5
  z5 := Tryz.sizeOf5
  v5 := Tryz.zeroValue5
  infoByte := by kernel_rfl
  cellsByte := by kernel_rfl
  sizeByte := by kernel_rfl
  neB5 := by decide }
def IsB (B b : Nat) (l : List UInt8) (w : World) : Prop := Lib.IsBuilderF 210 5 B b (Lib.byteCells l) w
/-- all that is neither the builder nor a row of bytes is as it was -/
def Kept (b : Nat) (w w' : World) : Prop := Lib.OthersKept 5 (some b) w w'
theorem Kept.trans {b : Nat} {u v w : World} (h : Kept b u v) (g : Kept b v w) : Kept b u w := Lib.OthersKept.trans h g
theorem IsB.at {B b : Nat} {l : List UInt8} {w : World} (h : IsB B b l w) : ∃ p v, w.heap[b]? = some (.cells #[p, v] 210 (0, 0)) ∧ B ≤ b ∧ w.ownsRowF B 5 1 v (Lib.byteCells l).length (Lib.byteCells l) ∧ v.ownBlock ≠ some b := by
  rcases h with ⟨hB, v, h1, h2, h3⟩ | ⟨hB, v, h1, h2, h3⟩
  · exact ⟨_, v, h1, hB, h2, h3⟩
  · exact ⟨_, v, h1, hB, h2, h3⟩
theorem bld_byte (B b : Nat) (l : List UInt8) (c : UInt8) (w : World) (h : IsB B b l w) (hlen : l.length + 1 ≤ 140737488355328) (hBw : B ≤ w.heap.size) :
    Calls Tryz.prog 164 #[.pointer (some ⟨b, 0, none⟩), .int .u8 c.toNat] w fun e w' => e = .returned .nilIface ∧ IsB B b (l ++ [c]) w' ∧ Below B w w' ∧ Kept b w w' := by
  refine (Any.Builder_WriteByte_k lays167 extra B b (Lib.byteCells l) c.toNat w h (by simpa [Lib.byteCells] using hlen) hBw).mono ?_
  rintro e w' ⟨rfl, hb, hw, hk⟩
  refine ⟨rfl, .inr ?_, hw, hk⟩
  have e : Lib.byteCells (l ++ [c]) = Lib.byteCells l ++ [.int .u8 c.toNat] := by simp [Lib.byteCells]
  rw [e]; exact hb
theorem bld_string (B b : Nat) (l : List UInt8) (w : World) (h : IsB B b l w) (hBw : B ≤ w.heap.size) :
    Calls Tryz.prog 165 #[.pointer (some ⟨b, 0, none⟩)] w fun e w' => e = .returned (.string (bs l)) ∧ IsB B b l w' ∧ Below B w w' ∧ Kept b w w' :=
  Any.Builder_String_any_k lays169 extra B b l w h hBw
theorem IsB.fresh (w : World) : IsB w.heap.size w.heap.size [] (w.alloc (.cells #[.pointer none, .slice none 0 0] 210)) := Lib.IsBuilderF.of (Lib.fresh_isBuilder _ _ w)
/-- a row of the call's own that holds no bytes -/
theorem own_kept {b : Nat} {w w' : World} {base : Nat} {e T : TypeId} {size : Nat} {v : Value} {n : Nat} {xs cs : List Value} (h : w.ownsRow base e size v n xs) (k : Kept b w w') (hb : Blk w b cs T) (hT : T ≠ e) (h5 : e ≠ 5) : w'.ownsRow base e size v n xs := by
  refine ⟨h.1, ?_⟩
  rcases h.2 with h | ⟨g, cap, cur, rfl, h1, hg, r⟩
  · exact .inl h
  · refine .inr ⟨g, cap, cur, rfl, h1, k g _ hg ?_ ?_, r⟩
    · intro q
      have q := Option.some.inj q
      subst q
      rw [hb.at'] at hg
      simp only [Option.some.injEq, Obj.cells.injEq] at hg
      exact hT hg.2.1
    · intro c fz q
      simp only [Obj.cells.injEq] at q
      exact h5 q.2.1
/-- the builder, while another row grows -/
theorem IsB.grown {B b : Nat} {l : List UInt8} {w w' : World} {row : Option Nat} (h : IsB B b l w) (hg : w.grownBy w' row) (hrow : ∀ g, row = some g → ∃ c e fz, w.heap[g]? = some (.cells c e fz) ∧ e ≠ 5 ∧ e ≠ 210) : IsB B b l w' := by
  have key : ∀ p, Lib.BuilderAtF 210 5 B b p (Lib.byteCells l) w → Lib.BuilderAtF 210 5 B b p (Lib.byteCells l) w' := by
    rintro p ⟨hB, v, h1, h2, h3⟩
    have hlt : b < w.heap.size := (Array.getElem?_eq_some_iff.1 h1).1
    refine ⟨hB, v, ?_, ⟨h2.1, ?_⟩, h3⟩
    · rw [hg.block b hlt]
      · exact h1
      · intro q
        obtain ⟨c, e, fz, g1, g2, g3⟩ := hrow b q.symm
        rw [h1] at g1
        simp only [Option.some.injEq, Obj.cells.injEq] at g1
        exact g3 g1.2.1.symm
    · rcases h2.2 with h2 | ⟨g, cap, cur, fz, rfl, q1, q2, r⟩
      · exact .inl h2
      · refine .inr ⟨g, cap, cur, fz, rfl, q1, ?_, r⟩
        rw [hg.block g (Array.getElem?_eq_some_iff.1 q2).1]
        · exact q2
        · intro q
          obtain ⟨c, e, fz', g1, g2, g3⟩ := hrow g q.symm
          rw [q2] at g1
          simp only [Option.some.injEq, Obj.cells.injEq] at g1
          exact g2 g1.2.1.symm
  rcases h with h | h
  · exact .inl (key _ h)
  · exact .inr (key _ h)
end Go.Proofs.YtklclfolmfhocaaGreatDoor.Lik
