/-
  lictorlaw08.ExprRanks, in pieces: what is ahead of the two numbers, the region that makes them, the rest. No walk.
-/
import Derived.Test.YtkaihgpenhaaiaaGreatDoorEvOrc8
import Derived.Test.YtkaihgpenhaaiaaGreatDoorEvUnk
import Derived.KernelRfl
namespace Go.Proofs.YtkaihgpenhaaiaaGreatDoor.Ev
open Go.ChangeShapes Go.WideShapes Go.ChangeAt Go.RowKit
open Go.Proofs.YtkaihgpenhaaiaaGreatDoor.Mem
set_option linter.unusedVariables false
set_option maxRecDepth 100000
noncomputable abbrev fnR : Func := Tryz.f6
noncomputable def fstC : Code → Code | .seq x _ => x | c => c
noncomputable def sndC : Code → Code | .seq _ y => y | c => c
noncomputable def opsOf : Code → Array Oper | .region _ ops _ => ops | _ => #[]
noncomputable def idOf : Code → Nat | .region id _ _ => id | _ => 0
noncomputable def bodyR : Code := fnR.body.getD .skip
noncomputable def tail1 : Code := sndC bodyR
noncomputable def tail2 : Code := sndC tail1
noncomputable def tail3 : Code := sndC tail2
noncomputable def tail4 : Code := sndC tail3
noncomputable def tail5 : Code := sndC tail4
noncomputable def restR : Code := sndC tail5
noncomputable def preR : List Code := [fstC bodyR, fstC tail1, fstC tail2, fstC tail3, fstC tail4]
noncomputable def opsR : Array Oper := opsOf (fstC tail5)
noncomputable def idR : Nat := idOf (fstC tail5)
theorem body_is : fnR.body = some (seqs preR (.seq (.region idR opsR false) restR)) := by kernel_rfl
noncomputable def callR : CallF := evCall Tryz.prog (evDraw Tryz.prog) orc8 3000
noncomputable def preO : Option (Sls × St) := evSeq 126 Tryz.prog (evDraw Tryz.prog) callR preR (fillFrom [unkB, unkB] 0 .leaf) st0
theorem pre_some : preO.isSome = true := by kernel_rfl
noncomputable def a5 : Sls := match preO with | some (a, _) => a | none => .leaf
noncomputable def s5 : St := match preO with | some (_, s) => s | none => st0
theorem pre_is : preO = some (a5, s5) := by
  unfold a5 s5
  have := pre_some
  cases h : preO with
  | none => rw [h] at this; cases this
  | some p => rfl
noncomputable def aIn (x y : Value) : Sls := puts 126 (puts 126 a5 0 x) 1 y
def remV (a : Int) : Int := Int.tmod (IntKind.i64.wrap a) 8
theorem remV_is {a : Int} (h : 0 ≤ a) (h2 : a < 256) : remV a = a % 8 := by
  have e1 : IntKind.i64.wrap a = a := by simp [IntKind.wrap, IntKind.bits, IntKind.signed]; omega
  unfold remV
  rw [e1, Int.tmod_eq_emod_of_nonneg h]
noncomputable def outR (b1 b2 i1 i2 n k x y : Value) : Sls :=
  puts 126 (puts 126 (puts 126 (puts 126 (puts 126 (puts 126 (puts 126 (puts 126 (aIn x y) 18 b1) 19 i1) 20 n) 21 b2) 22 i2) 23 k) 8 n) 9 k
theorem reg_is (a b : Int) : evL 126 Tryz.prog callR opsR opsR.toList (aIn (.int .u8 a) (.int .u8 b)) s5 =
    some (outR (.int .u8 a) (.int .u8 b) (.int .i64 (IntKind.i64.wrap a)) (.int .i64 (IntKind.i64.wrap b)) (.int .i64 (remV a)) (.int .i64 (remV b)) (.int .u8 a) (.int .u8 b), s5) := by kernel_rfl
noncomputable def a7 (i k : Int) : Sls := outR unkB unkB unkI unkI (.int .i64 i) (.int .i64 k) unkB unkB
noncomputable def finR (i k : Int) : Option (Value × St) := match evC 126 Tryz.prog (evDraw Tryz.prog) callR restR (a7 i k) s5 with
  | some (x, a, s) => retOf Tryz.prog fnR.results.toList x a s
  | none => none
end Go.Proofs.YtkaihgpenhaaiaaGreatDoor.Ev
