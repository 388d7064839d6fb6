/-
  The start of an evaluated call: token.signs and expr.operators as the program's text lays them. Written by wip/startgen.py. No walk.
-/
import Derived.Test.YtklclfolmfhocaaGreatDoorEvStart
import Derived.Test.YtklclfolmfhocaaGreatDoorRows
import Derived.KernelRfl
namespace Go.Proofs.YtklclfolmfhocaaGreatDoor.Ev
open Go.ChangeShapes Go.WideShapes Go.ChangeAt Go.RowKit Go.Lib
open Go.Proofs.YtklclfolmfhocaaGreatDoor.Mem
set_option linter.unusedVariables false
set_option maxRecDepth 100000
def signsL : List (List UInt8) := [[61, 61], [33, 61], [60, 61], [62, 61], [38, 38], [124, 124], [58, 58], [60], [62], [43], [45], [42], [33], [40], [41], [91], [93], [123], [125], [44], [59], [58], [46]]
def opersL : List (List UInt8 × Int) := [([38, 38], 15), ([124, 124], 16), ([61, 61], 17), ([33, 61], 18), ([60], 19), ([60, 61], 20), ([62], 21), ([62, 61], 22), ([105, 110], 23), ([43], 24), ([45], 25), ([42], 26), ([99, 111, 110, 116, 97, 105, 110, 115], 27), ([99, 111, 110, 116, 97, 105, 110, 115, 65, 108, 108], 28), ([99, 111, 110, 116, 97, 105, 110, 115, 65, 110, 121], 29)]
theorem signs_fl (W : World) : Fl Tryz.prog W 228 Rows.laid_lictor_token_signs signC :=
  Fl.array (L := signsL) (f := fun l => .lit (.string l)) (g := fun l => [.string ⟨l.toArray⟩]) Tryz.underlying228 (k := 1) (by kernel_rfl) (by decide) (by kernel_rfl) rfl (fun x _ => ⟨rfl, Fl.str Tryz.underlying9 x⟩)
theorem oper_fl (W : World) (x : List UInt8) (z : Int) : Fl Tryz.prog W 219 (.agg [.lit (.string x), .lit (.int .u8 z)]) [.string ⟨x.toArray⟩, .int .u8 z] := by
  refine Fl.struct Tryz.underlying219 (by kernel_rfl) rfl (fun i f hf => ?_)
  match i, hf with
  | 0, hf => cases hf; exact ⟨rfl, by kernel_rfl, _, _, rfl, rfl, Fl.str Tryz.underlying9 x⟩
  | 1, hf => cases hf; exact ⟨rfl, by kernel_rfl, _, _, rfl, rfl, Fl.int (k := .u8) (by kernel_rfl) z⟩
  | i + 2, hf => simp at hf
theorem opers_fl (W : World) : Fl Tryz.prog W 220 Rows.laid_lictor_expr_operators operC :=
  Fl.array (L := opersL) (f := fun p => .agg [.lit (.string p.1), .lit (.int .u8 p.2)]) (g := fun p => [.string ⟨p.1.toArray⟩, .int .u8 p.2]) Tryz.underlying220 (k := 2) (by kernel_rfl) (by decide) (by kernel_rfl) rfl (fun x _ => ⟨rfl, oper_fl W x.1 x.2⟩)
noncomputable def st0 : St := ((⟨.leaf, 1000, [], none⟩ : St).put 4 (some ⟨signC, 0, none, true⟩)).put 3 (some ⟨operC, 0, none, true⟩)
def m0 : Mu := (Mu.put (fun _ => none) 4 ⟨4, 0⟩).put 3 ⟨3, 0⟩
theorem cell_lt {W : World} {g j : Nat} {v : Value} (h : W.cell? ⟨g, j, none⟩ = some v) : g < W.heap.size := by
  rcases Nat.lt_or_ge g W.heap.size with h1 | h1
  · exact h1
  · unfold World.cell? at h
    rw [Array.getElem?_eq_none h1] at h
    cases h
theorem begun {W : World} (h : Laid W) : Begun m0 st0 W.heap.size W := by
  have h0 := Begun.start (B := W.heap.size) (W := W) ⟨rfl, h.toCore⟩ 1000 (by decide)
  have h1 := h0.add 4 (by decide) (cell_lt (h.signs 0 (by decide))) rfl signC (by kernel_rfl) h.signs
  exact h1.add 3 (by decide) (cell_lt (h.opers 0 (by decide))) rfl operC (by kernel_rfl) h.opers
theorem laid_of {W : World} (hm : ∃ m, W.cell? ⟨2, 0, none⟩ = some (.int .i64 m)) (ht : Lib.Utf8Tabs 0 1 W) (hs : VarReads Tryz.prog W "lictor/token.signs" Rows.laid_lictor_token_signs) (ho : VarReads Tryz.prog W "lictor/expr.operators" Rows.laid_lictor_expr_operators) : Laid W :=
  ⟨⟨ht, hm⟩, Fl.cells (by kernel_rfl) (by kernel_rfl : _ = some 228) hs (signs_fl W), Fl.cells (by kernel_rfl) (by kernel_rfl : _ = some 220) ho (opers_fl W)⟩
theorem laidS_of {W : World} (hm : ∃ m, W.cell? ⟨2, 0, none⟩ = some (.int .i64 m)) (ht : Lib.Utf8Tabs 0 1 W) (hs : VarReads Tryz.prog W "lictor/token.signs" Rows.laid_lictor_token_signs) : LaidS W :=
  ⟨⟨ht, hm⟩, Fl.cells (by kernel_rfl) (by kernel_rfl : _ = some 228) hs (signs_fl W)⟩
/-- without the operators -/
noncomputable def st1 : St := (⟨.leaf, 1000, [], none⟩ : St).put 4 (some ⟨signC, 0, none, true⟩)
def m1 : Mu := Mu.put (fun _ => none) 4 ⟨4, 0⟩
theorem begunS {W : World} (h : LaidS W) : Begun m1 st1 W.heap.size W := by
  have h0 := Begun.start (B := W.heap.size) (W := W) ⟨rfl, h.toCore⟩ 1000 (by decide)
  exact h0.add 4 (by decide) (cell_lt (h.signs 0 (by decide))) rfl signC (by kernel_rfl) h.signs
theorem answersS {f n : Nat} {args : List Value} {v : Value} {s' : St} (e : evCall Tryz.prog (evDraw Tryz.prog) orc n f args st1 = some (v, s')) (ha : args.all scalB = true) (hv : flat v = true) {W : World} (h : LaidS W) :
    Calls Tryz.prog f args.toArray W fun e W' => e = .returned v ∧ Below W.heap.size W W' := by
  refine (evCall_sound (evDraw_ok Tryz.prog) orc_ok n f args st1 v s' e m1 W.heap.size W args (begunS h).holds (scal_rl _ _ ha)).mono ?_
  rintro e' W' ⟨m', v', rfl, hr, _, _, hb⟩
  rw [hr.flat_eq hv]
  exact ⟨rfl, hb⟩
/-- a call that the evaluator answers with a flat value, in any world that is laid -/
theorem answers {f n : Nat} {args : List Value} {v : Value} {s' : St} (e : evCall Tryz.prog (evDraw Tryz.prog) orc n f args st0 = some (v, s')) (ha : args.all scalB = true) (hv : flat v = true) {W : World} (h : Laid W) :
    Calls Tryz.prog f args.toArray W fun e W' => e = .returned v ∧ Below W.heap.size W W' := by
  refine (evCall_sound (evDraw_ok Tryz.prog) orc_ok n f args st0 v s' e m0 W.heap.size W args (begun h).holds (scal_rl _ _ ha)).mono ?_
  rintro e' W' ⟨m', v', rfl, hr, _, _, hb⟩
  rw [hr.flat_eq hv]
  exact ⟨rfl, hb⟩
end Go.Proofs.YtklclfolmfhocaaGreatDoor.Ev
