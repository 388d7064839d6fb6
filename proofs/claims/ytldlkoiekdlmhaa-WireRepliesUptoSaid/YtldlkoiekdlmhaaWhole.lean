/-
  Blocks that are loaded and stored whole: what they are behind it. No program is named.
-/
import Derived.Test.YtldlkoiekdlmhaaKeep
namespace Go.Proofs.Ytldlkoiekdlmhaa.Mem
open Go.ChangeShapes Go.WideShapes Go.ChangeAt Go.RowKit
set_option linter.unusedVariables false
set_option linter.unusedSimpArgs false
theorem Blk.row {w : World} {g : Nat} {cs : List Value} {t : TypeId} (h : Blk w g cs t) (vs : List Value) : Blk (w.setRow g vs.toArray) g vs t := ⟨setRow_heap w g _ _ t (0, 0) h.at'⟩
theorem Blk.rowOther {w : World} {g b : Nat} {cs : List Value} {t : TypeId} (h : Blk w b cs t) (hg : b ≠ g) (vs : Array Value) : Blk (w.setRow g vs) b cs t := ⟨(setRow_other w g b vs hg).trans h.at'⟩
theorem below_row {B g : Nat} {w W : World} (h : Below B w W) (hg : B ≤ g) (vs : Array Value) : Below B w (W.setRow g vs) :=
  ⟨h.os, h.tape, h.output, by rw [setRow_size]; exact h.size, fun k hk => by rw [setRow_other _ _ _ _ (show k ≠ g by omega)]; exact h.block k hk⟩
theorem results_ct {P : Program} {fn : Func} {p q : Tmp} {ty : TypeId} (h : fn.results = #[.cell p ty, .tmp q]) (tmps : Array Value) (w : World) (g : Nat) (t : TypeId) (cs : Array Value) (fr : Nat × Nat) (d : TypeDesc)
    (hp : tmps.getD p undef = .pointer (some ⟨g, 0, none⟩)) (hg : w.heap[g]? = some (.cells cs t fr))
    (hu : P.underlying ty = some d) (hd : (match d with | .struct _ | .array _ _ => true | _ => false) = true) (hi : (P.info? ty).map (·.size) = some cs.size) :
    (results fn tmps).run P w = .ok (.tuple #[.agg cs, tmps.getD q undef]) w := by
  have hp' : tmps[p]?.getD undef = .pointer (some ⟨g, 0, none⟩) := by simpa using hp
  simp [results, h, hp', asAddr, run_loadVar_row w g t ty cs fr d hg hu hd hi]
theorem wpList_build0 {P : Program} {ops : Array Oper} {rest : List Oper} {o : Oper} {a : Act} {w : World} {Q : Exit → Act → World → Prop} (hg : o.guard = none) (t : TypeId) (ho : o.op = .build t #[]) (cs : Array Value) (hb : P.built t [] = some cs)
    (h : wpList P ops Q rest (a.put o.dst (.agg cs)) w) : wpList P ops Q (o :: rest) a w := by
  have e : P.built t ((#[] : Array (Nat × Operand)).map fun (i, x) => (i, a.eval x)).toList = some cs := by simpa using hb
  refine wpList_build hg t #[] ho (by rw [e]; rfl) ?_
  rw [e]
  exact h
end Go.Proofs.Ytldlkoiekdlmhaa.Mem
