/-
  strings.Builder's WriteByte, String and Reset, in a call that has rows of its own besides.
-/
import Derived.WalkKit
import Derived.ProofKit
import Derived.OpenShut
import Derived.ShutString
import Derived.Handy
import Derived.Outline
import Derived.Laws.AppendOwn
import Derived.Shelf.Strings.BuilderK
import Derived.Test.YtldlkoiekdlmhaaProg
namespace Go.Proofs.Ytldlkoiekdlmhaa.Mem
open Go.ChangeShapes Go.WideShapes Go.ChangeAt Go.RowKit
set_option linter.unusedVariables false

theorem hid {p : Prop} (h : p) : Hid p := h
theorem bt {w a b : World} (h : Below w.heap.size w a) (g : Below a.heap.size a b) : Below w.heap.size w b := h.trans (g.mono h.size)

/-- v is a slice of n elements, whose cells hold cs. -/
def SlV (w : World) (v : Value) (n : Nat) (cs : List Value) : Prop :=
  ∃ ao cap, v = .slice ao n cap ∧ n ≤ cap ∧ cap ≤ maxLen ∧ (ao = none → cap = 0) ∧ (n = 0 → cs = []) ∧
    ∀ a, ao = some a → ∀ j (h : j < cs.length), w.cell? (a.add j) = some cs[j]

theorem add_plain (b o j : Nat) : (⟨b, o, none⟩ : Addr).add j = ⟨b, o + j, none⟩ := by unfold Addr.add; split <;> simp_all
theorem add_add (a : Addr) (i j : Nat) : (a.add i).add j = a.add (i + j) := by
  unfold Addr.add
  by_cases hi : i = 0 <;> by_cases hj : j = 0 <;> simp [hi, hj, Nat.add_assoc]

theorem SlV.keep {w w' : World} {v : Value} {n : Nat} {cs : List Value} (h : SlV w v n cs) (hb : ∀ (a : Addr) x, w.cell? a = some x → w'.cell? a = some x) : SlV w' v n cs := by
  obtain ⟨ao, cap, h1, h2, h3, h4, h5, h6⟩ := h
  exact ⟨ao, cap, h1, h2, h3, h4, h5, fun a ha j hj => hb _ _ (h6 a ha j hj)⟩
theorem cell_below {w w' : World} (hb : Below w.heap.size w w') (a : Addr) (x : Value) (h : w.cell? a = some x) : w'.cell? a = some x :=
  (hb.cell (World.block_lt_of_cell? w a h)).trans h
theorem SlV.below {w w' : World} {v : Value} {n : Nat} {cs : List Value} (h : SlV w v n cs) (hb : Below w.heap.size w w') : SlV w' v n cs := h.keep (cell_below hb)
theorem SlV.nil (w : World) : SlV w (.slice none 0 0) 0 [] := ⟨none, 0, rfl, Nat.le_refl _, by decide, fun _ => rfl, fun _ => rfl, fun _ _ j h => absurd h (by simp)⟩

/-- A slice with elements leads to plain cells. -/
theorem SlV.open {w : World} {v : Value} {n : Nat} {cs : List Value} (h : SlV w v n cs) (hc : 0 < cs.length) :
    ∃ b off cap, v = .slice (some ⟨b, off, none⟩) n cap ∧ n ≤ cap ∧ cap ≤ maxLen ∧ b < w.heap.size ∧ ∀ j (h : j < cs.length), w.cell? ⟨b, off + j, none⟩ = some cs[j] := by
  obtain ⟨ao, cap, rfl, h2, h3, h4, h5, h6⟩ := h
  cases ao with
  | none =>
    have := h4 rfl
    subst this
    have : n = 0 := by omega
    rw [h5 this] at hc
    simp at hc
  | some a =>
    obtain ⟨b, off, spot⟩ := a
    have h0 := h6 _ rfl 0 hc
    have hs : spot = none := by simpa [Addr.add] using World.cell?_spot h0
    subst hs
    have hb := World.block_lt_of_cell? w _ h0
    refine ⟨b, off, cap, rfl, h2, h3, ?_, fun j hj => ?_⟩
    · rw [add_plain] at hb; exact hb
    · have := h6 _ rfl j hj
      rw [add_plain] at this; exact this
theorem SlV.form {w : World} {v : Value} {n : Nat} {cs : List Value} (h : SlV w v n cs) : ∃ ao cap, v = .slice ao n cap ∧ n ≤ cap ∧ cap ≤ maxLen := by
  obtain ⟨ao, cap, h1, h2, h3, _⟩ := h
  exact ⟨ao, cap, h1, h2, h3⟩
theorem SlV.len {w : World} {v : Value} {n : Nat} {cs : List Value} (h : SlV w v n cs) : n ≤ maxLen := by
  obtain ⟨ao, cap, h1, h2, h3, _⟩ := h; omega

/-- A row of the call's own is a slice that is read. -/
theorem SlV.own {w : World} {base : Nat} {e : TypeId} {size : Nat} {v : Value} {n : Nat} {xs : List Value} (h : w.ownsRow base e size v n xs) : SlV w v n xs := by
  have hc := fun g (hg : v.ownBlock = some g) => h.cells hg
  rcases h.2 with ⟨rfl, rfl⟩ | ⟨g, cap, cur, rfl, hb, hg, hnc, hcm, hcs, htake⟩
  · have : xs = [] := List.eq_nil_of_length_eq_zero (by simpa using h.1)
    subst this
    exact SlV.nil w
  · refine ⟨some ⟨g, 0, none⟩, cap, rfl, hnc, hcm, by simp, fun hn => ?_, fun a ha j hj => ?_⟩
    · exact List.eq_nil_of_length_eq_zero (by rw [h.1, hn]; simp)
    · cases ha
      exact hc g rfl j _ (List.getElem?_eq_getElem hj)

/-- Strings, as cells. -/
def strC (l : List ByteArray) : List Value := l.map Value.string
/-- Pairs of a number and a text, as cells. -/
def prC (l : List (Int × ByteArray)) : List Value := l.flatMap fun p => [Value.int .i64 p.1, Value.string p.2]
theorem strC_len (l : List ByteArray) : (strC l).length = l.length := by simp [strC]
theorem strC_get (l : List ByteArray) (i : Nat) (h : i < l.length) : (strC l)[i]'(by rw [strC_len]; exact h) = .string l[i] := by simp [strC]
theorem strC_append (a b : List ByteArray) : strC (a ++ b) = strC a ++ strC b := by simp [strC]
theorem prC_len (l : List (Int × ByteArray)) : (prC l).length = l.length * 2 := by
  induction l with
  | nil => rfl
  | cons p l ih => simp [prC] at ih ⊢; omega
theorem prC_append (a b : List (Int × ByteArray)) : prC (a ++ b) = prC a ++ prC b := by simp [prC]
theorem prC_get0 (l : List (Int × ByteArray)) : ∀ (i : Nat) (h : i < l.length), (prC l)[i * 2]? = some (.int .i64 l[i].1) := by
  induction l with
  | nil => intro i h; simp at h
  | cons p l ih =>
    intro i h
    cases i with
    | zero => simp [prC]
    | succ i =>
      have := ih i (by simpa using h)
      show (Value.int .i64 p.1 :: Value.string p.2 :: prC l)[(i + 1) * 2]? = _
      rw [show (i + 1) * 2 = i * 2 + 1 + 1 by omega]
      simpa using this
theorem prC_get1 (l : List (Int × ByteArray)) : ∀ (i : Nat) (h : i < l.length), (prC l)[i * 2 + 1]? = some (.string l[i].2) := by
  induction l with
  | nil => intro i h; simp at h
  | cons p l ih =>
    intro i h
    cases i with
    | zero => simp [prC]
    | succ i =>
      have := ih i (by simpa using h)
      show (Value.int .i64 p.1 :: Value.string p.2 :: prC l)[(i + 1) * 2 + 1]? = _
      rw [show (i + 1) * 2 + 1 = (i * 2 + 1) + 1 + 1 by omega]
      simpa using this
def StrsV (w : World) (v : Value) (l : List ByteArray) : Prop := SlV w v l.length (strC l)
def PrsV (w : World) (v : Value) (l : List (Int × ByteArray)) : Prop := SlV w v l.length (prC l)
theorem StrsV.below {w w' : World} {v : Value} {l : List ByteArray} (h : StrsV w v l) (hb : Below w.heap.size w w') : StrsV w' v l := SlV.below h hb
theorem PrsV.below {w w' : World} {v : Value} {l : List (Int × ByteArray)} (h : PrsV w v l) (hb : Below w.heap.size w w') : PrsV w' v l := SlV.below h hb
theorem StrsV.open {w : World} {v : Value} {l : List ByteArray} (h : StrsV w v l) (hc : 0 < l.length) :
    ∃ b off cap, v = .slice (some ⟨b, off, none⟩) l.length cap ∧ l.length ≤ cap ∧ cap ≤ maxLen ∧ b < w.heap.size ∧ ∀ j (h : j < l.length), w.cell? ⟨b, off + j, none⟩ = some (.string l[j]) := by
  obtain ⟨b, off, cap, h1, h2, h3, h4, h5⟩ := SlV.open h (by rw [strC_len]; exact hc)
  exact ⟨b, off, cap, h1, h2, h3, h4, fun j hj => by rw [h5 j (by rw [strC_len]; exact hj), strC_get l j hj]⟩
theorem PrsV.open {w : World} {v : Value} {l : List (Int × ByteArray)} (h : PrsV w v l) (hc : 0 < l.length) :
    ∃ b off cap, v = .slice (some ⟨b, off, none⟩) l.length cap ∧ l.length ≤ cap ∧ cap ≤ maxLen ∧ b < w.heap.size ∧
      ∀ j (h : j < l.length), w.cell? ⟨b, off + j * 2, none⟩ = some (.int .i64 l[j].1) ∧ w.cell? ⟨b, off + j * 2 + 1, none⟩ = some (.string l[j].2) := by
  obtain ⟨b, off, cap, h1, h2, h3, h4, h5⟩ := SlV.open h (by rw [prC_len]; omega)
  refine ⟨b, off, cap, h1, h2, h3, h4, fun j hj => ⟨?_, ?_⟩⟩
  · have hl : j * 2 < (prC l).length := by rw [prC_len]; omega
    rw [h5 _ hl, ← List.getElem?_eq_getElem hl, prC_get0 l j hj]
  · have hl : j * 2 + 1 < (prC l).length := by rw [prC_len]; omega
    rw [Nat.add_assoc, h5 _ hl, ← List.getElem?_eq_getElem hl, prC_get1 l j hj]

/-! ### a block known whole -/
structure Blk (w : World) (b : Nat) (cs : List Value) (t : TypeId) : Prop where
  at' : w.heap[b]? = some (.cells cs.toArray t (0, 0))
theorem Blk.lt {w : World} {b : Nat} {cs : List Value} {t : TypeId} (h : Blk w b cs t) : b < w.heap.size := (Array.getElem?_eq_some_iff.1 h.at').1
theorem Blk.cell {w : World} {b : Nat} {cs : List Value} {t : TypeId} (h : Blk w b cs t) (i : Nat) (hi : i < cs.length) : w.cell? ⟨b, i, none⟩ = some cs[i] := by
  simp [World.cell?, h.at', hi]
theorem Blk.free {w : World} {b : Nat} {cs : List Value} {t : TypeId} (h : Blk w b cs t) (i : Nat) : w.frozen? ⟨b, i, none⟩ = false := by
  simp [World.frozen?, h.at']
theorem Blk.new (w : World) (cs : List Value) (t : TypeId) : Blk (w.alloc (.cells cs.toArray t)) w.heap.size cs t := ⟨by
  show (w.heap.push _)[w.heap.size]? = _
  simp⟩
theorem Blk.below {w w' : World} {b B : Nat} {cs : List Value} {t : TypeId} (h : Blk w b cs t) (hb : Below B w w') (hB : b < B) : Blk w' b cs t := ⟨(hb.block b hB).trans h.at'⟩
theorem Blk.alloc {w : World} {b : Nat} {cs : List Value} {t : TypeId} (h : Blk w b cs t) (o : Obj) : Blk (w.alloc o) b cs t := h.below ((Below.refl _ w).alloc (Nat.le_refl _) o) h.lt
theorem Blk.drew {w : World} {b : Nat} {cs : List Value} {t : TypeId} (h : Blk w b cs t) : Blk w.drew b cs t := ⟨h.at'⟩
theorem Blk.set {w : World} {b : Nat} {cs : List Value} {t : TypeId} (h : Blk w b cs t) (i : Nat) (v : Value) : Blk (w.setCell ⟨b, i, none⟩ v) b (cs.set i v) t := ⟨by
  simp only [World.setCell, Array.getElem?_modify, if_true, h.at', Option.map_some]
  simp⟩
theorem Blk.other {w : World} {b : Nat} {cs : List Value} {t : TypeId} (h : Blk w b cs t) {p : Addr} (hp : p.block ≠ b) (v : Value) : Blk (w.setCell p v) b cs t := ⟨by
  rw [Below.heap_setCell _ _ _ _ (fun e => hp e.symm)]; exact h.at'⟩
theorem Blk.four {w : World} {b : Nat} {a0 a1 a2 a3 : Value} {t : TypeId} (h : Blk w b [a0, a1, a2, a3] t) :
    w.cell? ⟨b, 0, none⟩ = some a0 ∧ w.cell? ⟨b, 1, none⟩ = some a1 ∧ w.cell? ⟨b, 2, none⟩ = some a2 ∧ w.cell? ⟨b, 3, none⟩ = some a3 ∧ ∀ o, w.frozen? ⟨b, o, none⟩ = false :=
  ⟨h.cell 0 (by simp), h.cell 1 (by simp), h.cell 2 (by simp), h.cell 3 (by simp), h.free⟩
theorem Blk.three {w : World} {b : Nat} {a0 a1 a2 : Value} {t : TypeId} (h : Blk w b [a0, a1, a2] t) :
    w.cell? ⟨b, 0, none⟩ = some a0 ∧ w.cell? ⟨b, 1, none⟩ = some a1 ∧ w.cell? ⟨b, 2, none⟩ = some a2 ∧ ∀ o, w.frozen? ⟨b, o, none⟩ = false :=
  ⟨h.cell 0 (by simp), h.cell 1 (by simp), h.cell 2 (by simp), h.free⟩
theorem Blk.two {w : World} {b : Nat} {a0 a1 : Value} {t : TypeId} (h : Blk w b [a0, a1] t) :
    w.cell? ⟨b, 0, none⟩ = some a0 ∧ w.cell? ⟨b, 1, none⟩ = some a1 ∧ ∀ o, w.frozen? ⟨b, o, none⟩ = false :=
  ⟨h.cell 0 (by simp), h.cell 1 (by simp), h.free⟩
theorem Blk.one {w : World} {b : Nat} {a0 : Value} {t : TypeId} (h : Blk w b [a0] t) : w.cell? ⟨b, 0, none⟩ = some a0 ∧ ∀ o, w.frozen? ⟨b, o, none⟩ = false :=
  ⟨h.cell 0 (by simp), h.free⟩
theorem Blk.new' (w : World) (cs : List Value) (t : TypeId) (b : Nat) (h : b = w.heap.size) : Blk (w.alloc (.cells cs.toArray t)) b cs t := h ▸ Blk.new w cs t
theorem ownsRow_mono {w : World} {base base' : Nat} {e : TypeId} {size : Nat} {v : Value} {n : Nat} {xs : List Value} (h : w.ownsRow base e size v n xs) (hb : base' ≤ base) : w.ownsRow base' e size v n xs := by
  obtain ⟨h1, h2⟩ := h
  refine ⟨h1, ?_⟩
  rcases h2 with h2 | ⟨g, cap, cur, hv, hg, r⟩
  · exact .inl h2
  · exact .inr ⟨g, cap, cur, hv, Nat.le_trans hb hg, r⟩
theorem ownsRow_below {w w' : World} {base : Nat} {e : TypeId} {size : Nat} {v : Value} {n : Nat} {xs : List Value} (h : w.ownsRow base e size v n xs) (hb : Below w.heap.size w w') : w'.ownsRow base e size v n xs := by
  obtain ⟨h1, h2⟩ := h
  refine ⟨h1, ?_⟩
  rcases h2 with h2 | ⟨g, cap, cur, hv, hg, hh, r⟩
  · exact .inl h2
  · exact .inr ⟨g, cap, cur, hv, hg, (hb.block g (Array.getElem?_eq_some_iff.1 hh).1).trans hh, r⟩
theorem ownBlock_lt {w : World} {base : Nat} {e : TypeId} {size : Nat} {v : Value} {n : Nat} {xs : List Value} (h : w.ownsRow base e size v n xs) {k : Nat} (hk : v.ownBlock = some k) : base ≤ k ∧ k < w.heap.size := h.lt k hk
theorem ownsRow_form {w : World} {base : Nat} {e : TypeId} {size : Nat} {v : Value} {n : Nat} {xs : List Value} (h : w.ownsRow base e size v n xs) : ∃ ao cap, v = .slice ao n cap ∧ n ≤ cap ∧ cap ≤ maxLen := (SlV.own h).form

/-- Below block B all but block db is as it was. -/
structure But (B db : Nat) (w w' : World) : Prop where
  os : w'.os = w.os
  tape : w'.tape = w.tape
  output : w'.output = w.output
  size : w.heap.size ≤ w'.heap.size
  block : ∀ k, k < B → k ≠ db → w'.heap[k]? = w.heap[k]?
theorem But.refl (B db : Nat) (w : World) : But B db w w := ⟨rfl, rfl, rfl, Nat.le_refl _, fun _ _ _ => rfl⟩
theorem But.of {B db : Nat} {w w1 : World} (h : Below B w w1) (i : Nat) (x : Value) : But B db w (w1.setCell ⟨db, i, none⟩ x) :=
  ⟨h.os, h.tape, h.output, by simpa using h.size, fun k hk hne => by rw [Below.heap_setCell _ _ _ _ (by simpa using hne)]; exact h.block k hk⟩
theorem But.below {B db B0 : Nat} {w w' : World} (h : But B db w w') (h1 : B0 ≤ db) (h2 : B0 ≤ B) : Below B0 w w' :=
  ⟨h.os, h.tape, h.output, h.size, fun k hk => h.block k (by omega) (by omega)⟩
theorem Blk.but {w w' : World} {b B db : Nat} {cs : List Value} {t : TypeId} (h : Blk w b cs t) (hb : But B db w w') (hB : b < B) (hne : b ≠ db) : Blk w' b cs t := ⟨(hb.block b hB hne).trans h.at'⟩
end Go.Proofs.Ytldlkoiekdlmhaa.Mem
namespace Go.Proofs.Ytldlkoiekdlmhaa.Lik
open Go.ChangeShapes Go.WideShapes Go.ChangeAt Go.RowKit Go.Shelf
open Go.Proofs.Ytldlkoiekdlmhaa.Mem
set_option linter.unusedVariables false
set_option linter.unusedSimpArgs false
set_option maxRecDepth 100000
def bs (l : List UInt8) : ByteArray := ⟨l.toArray⟩
def ren : Go.Shelf.Ren := ⟨fun | 167 => 68 | 240 => 72 | 276 => 75 | 169 => 20 | n => n,
  fun | 0 => 0 | 3 => 3 | 4 => 4 | 5 => 5 | 9 => 9 | 20 => 20 | 37 => 49 | 70 => 54 | 72 => 56 | 75 => 118 | 80 => 60 | 127 => 85 | 164 => 129 | n => n, fun n => n⟩
theorem lays167 : Go.Proofs.Lays.n167 Try.prog ren := {
  mixed := by kernel_rfl
  f167 := Try.func68.trans (congrArg some (by kernel_rfl))
  f240 := Try.func72.trans (congrArg some (by kernel_rfl))
  f276 := Try.func75.trans (congrArg some (by kernel_rfl))
  t0 := Try.underlying0
  a0 := Try.isAgg0
  z0 := Try.sizeOf0
  v0 := Try.zeroValue0
  t4 := Try.underlying4
  a4 := Try.isAgg4
  z4 := Try.sizeOf4
  v4 := Try.zeroValue4
  t5 := Try.underlying5
  a5 := Try.isAgg5
  z5 := Try.sizeOf5
  v5 := Try.zeroValue5
  t9 := Try.underlying9
  a9 := Try.isAgg9
  z9 := Try.sizeOf9
  v9 := Try.zeroValue9
  t20 := Try.underlying20
  a20 := Try.isAgg20
  z20 := Try.sizeOf20
  v20 := Try.zeroValue20
  t37 := Try.underlying49
  a37 := Try.isAgg49
  z37 := Try.sizeOf49
  v37 := Try.zeroValue49
  t70 := Try.underlying54
  a70 := Try.isAgg54
  z70 := Try.sizeOf54
  v70 := Try.zeroValue54
  t72 := Try.underlying56
  a72 := Try.isAgg56
  z72 := Try.sizeOf56
  v72 := Try.zeroValue56
  t75 := Try.underlying118
  a75 := Try.isAgg118
  z75 := Try.sizeOf118
  v75 := Try.zeroValue118
  t164 := Try.underlying129
  a164 := Try.isAgg129
  z164 := Try.sizeOf129
  v164 := Try.zeroValue129 }
theorem lays169 : Go.Proofs.Lays.n169 Try.prog ren := {
  mixed := by kernel_rfl
  f169 := Try.func20.trans (congrArg some (by kernel_rfl))
  t0 := Try.underlying0
  a0 := Try.isAgg0
  z0 := Try.sizeOf0
  v0 := Try.zeroValue0
  t3 := Try.underlying3
  a3 := Try.isAgg3
  z3 := Try.sizeOf3
  v3 := Try.zeroValue3
  t9 := Try.underlying9
  a9 := Try.isAgg9
  z9 := Try.sizeOf9
  v9 := Try.zeroValue9
  t37 := Try.underlying49
  a37 := Try.isAgg49
  z37 := Try.sizeOf49
  v37 := Try.zeroValue49
  t70 := Try.underlying54
  a70 := Try.isAgg54
  z70 := Try.sizeOf54
  v70 := Try.zeroValue54
  t72 := Try.underlying56
  a72 := Try.isAgg56
  z72 := Try.sizeOf56
  v72 := Try.zeroValue56
  t127 := Try.underlying85
  a127 := Try.isAgg85
  z127 := Try.sizeOf85
  v127 := Try.zeroValue85 }
theorem extra : Builder.Extra Try.prog ren := {
  sizeBuilder := by kernel_rfl
  liesBuilder := by kernel_rfl
  t5 := Try.underlying5
  a5 := Try.isAgg5
  z5 := Try.sizeOf5
  v5 := Try.zeroValue5
  infoByte := by kernel_rfl
  cellsByte := by kernel_rfl
  sizeByte := by kernel_rfl
  neB5 := by decide }
def IsB (B b : Nat) (l : List UInt8) (w : World) : Prop := Lib.IsBuilderF 56 5 B b (Lib.byteCells l) w
/-- all that is neither the builder nor a row of bytes is as it was -/
def Kept (b : Nat) (w w' : World) : Prop := Lib.OthersKept 5 (some b) w w'
theorem Kept.trans {b : Nat} {u v w : World} (h : Kept b u v) (g : Kept b v w) : Kept b u w := Lib.OthersKept.trans h g
theorem IsB.at {B b : Nat} {l : List UInt8} {w : World} (h : IsB B b l w) : ∃ p v, w.heap[b]? = some (.cells #[p, v] 56 (0, 0)) ∧ B ≤ b ∧ w.ownsRowF B 5 1 v (Lib.byteCells l).length (Lib.byteCells l) ∧ v.ownBlock ≠ some b := by
  rcases h with ⟨hB, v, h1, h2, h3⟩ | ⟨hB, v, h1, h2, h3⟩
  · exact ⟨_, v, h1, hB, h2, h3⟩
  · exact ⟨_, v, h1, hB, h2, h3⟩
theorem bld_byte (B b : Nat) (l : List UInt8) (c : UInt8) (w : World) (h : IsB B b l w) (hlen : l.length + 1 ≤ 140737488355328) (hBw : B ≤ w.heap.size) :
    Calls Try.prog 68 #[.pointer (some ⟨b, 0, none⟩), .int .u8 c.toNat] w fun e w' => e = .returned .nilIface ∧ IsB B b (l ++ [c]) w' ∧ Below B w w' ∧ Kept b w w' := by
  refine (Any.Builder_WriteByte_k lays167 extra B b (Lib.byteCells l) c.toNat w h (by simpa [Lib.byteCells] using hlen) hBw).mono ?_
  rintro e w' ⟨rfl, hb, hw, hk⟩
  refine ⟨rfl, .inr ?_, hw, hk⟩
  have e : Lib.byteCells (l ++ [c]) = Lib.byteCells l ++ [.int .u8 c.toNat] := by simp [Lib.byteCells]
  rw [e]; exact hb
theorem bld_string (B b : Nat) (l : List UInt8) (w : World) (h : IsB B b l w) (hBw : B ≤ w.heap.size) :
    Calls Try.prog 20 #[.pointer (some ⟨b, 0, none⟩)] w fun e w' => e = .returned (.string (bs l)) ∧ IsB B b l w' ∧ Below B w w' ∧ Kept b w w' :=
  Any.Builder_String_any_k lays169 extra B b l w h hBw
theorem IsB.fresh (w : World) : IsB w.heap.size w.heap.size [] (w.alloc (.cells #[.pointer none, .slice none 0 0] 56)) := Lib.IsBuilderF.of (Lib.fresh_isBuilder _ _ w)
/-- a row of the call's own that holds no bytes -/
theorem own_kept {b : Nat} {w w' : World} {base : Nat} {e T : TypeId} {size : Nat} {v : Value} {n : Nat} {xs cs : List Value} (h : w.ownsRow base e size v n xs) (k : Kept b w w') (hb : Blk w b cs T) (hT : T ≠ e) (h5 : e ≠ 5) : w'.ownsRow base e size v n xs := by
  refine ⟨h.1, ?_⟩
  rcases h.2 with h | ⟨g, cap, cur, rfl, h1, hg, r⟩
  · exact .inl h
  · refine .inr ⟨g, cap, cur, rfl, h1, k g _ hg ?_ ?_, r⟩
    · intro q
      have q := Option.some.inj q
      subst q
      rw [hb.at'] at hg
      simp only [Option.some.injEq, Obj.cells.injEq] at hg
      exact hT hg.2.1
    · intro c fz q
      simp only [Obj.cells.injEq] at q
      exact h5 q.2.1
/-- the builder, while another row grows -/
theorem IsB.grown {B b : Nat} {l : List UInt8} {w w' : World} {row : Option Nat} (h : IsB B b l w) (hg : w.grownBy w' row) (hrow : ∀ g, row = some g → ∃ c e fz, w.heap[g]? = some (.cells c e fz) ∧ e ≠ 5 ∧ e ≠ 56) : IsB B b l w' := by
  have key : ∀ p, Lib.BuilderAtF 56 5 B b p (Lib.byteCells l) w → Lib.BuilderAtF 56 5 B b p (Lib.byteCells l) w' := by
    rintro p ⟨hB, v, h1, h2, h3⟩
    have hlt : b < w.heap.size := (Array.getElem?_eq_some_iff.1 h1).1
    refine ⟨hB, v, ?_, ⟨h2.1, ?_⟩, h3⟩
    · rw [hg.block b hlt]
      · exact h1
      · intro q
        obtain ⟨c, e, fz, g1, g2, g3⟩ := hrow b q.symm
        rw [h1] at g1
        simp only [Option.some.injEq, Obj.cells.injEq] at g1
        exact g3 g1.2.1.symm
    · rcases h2.2 with h2 | ⟨g, cap, cur, fz, rfl, q1, q2, r⟩
      · exact .inl h2
      · refine .inr ⟨g, cap, cur, fz, rfl, q1, ?_, r⟩
        rw [hg.block g (Array.getElem?_eq_some_iff.1 q2).1]
        · exact q2
        · intro q
          obtain ⟨c, e, fz', g1, g2, g3⟩ := hrow g q.symm
          rw [q2] at g1
          simp only [Option.some.injEq, Obj.cells.injEq] at g1
          exact g2 g1.2.1.symm
  rcases h with h | h
  · exact .inl (key _ h)
  · exact .inr (key _ h)
end Go.Proofs.Ytldlkoiekdlmhaa.Lik
