/-
  wire's calls: contracts. Written by wip/wiretopgen.py.
-/
import Derived.Test.YtldlkoiekdlmhaaWireRefI1
import Derived.Test.YtldlkoiekdlmhaaWireRefI2
import Derived.Test.YtldlkoiekdlmhaaWireRefI3
import Derived.Test.YtldlkoiekdlmhaaWireRefI5
import Derived.Test.YtldlkoiekdlmhaaWireRefI6
namespace Go.Proofs.Ytldlkoiekdlmhaa.Wi
open Go.ChangeShapes Go.WideShapes Go.ChangeAt Go.RowKit
open Go.Proofs.Ytldlkoiekdlmhaa.Mem
open Go.Proofs.Ytldlkoiekdlmhaa.Lik (Kept)
open Go.Proofs.Ytldlkoiekdlmhaa.Crc hiding hid bt
set_option linter.unusedVariables false
set_option linter.unusedSimpArgs false
set_option maxRecDepth 100000
theorem writeask_ref (a : Ask) (w : World) (hF : askF a) :
    Calls Try.prog 10 #[.agg #[.int .u8 (a.k : Nat), .int .u64 (a.tx : Nat), .int .u8 (a.c.k : Nat), .string a.c.i, .string a.c.t, .string a.c.ut, .string a.c.ui, .int .u64 (a.v : Nat), .string a.s0, .string a.s1, .string a.s2, .string a.s3, .string a.s4, .string a.s5, .string a.s6]] w fun e w' => (∃ (s : ByteArray) (z : Int), e = .returned (.tuple #[.string s, .int .i64 z]) ∧ AskW a s z) ∧ Below w.heap.size w w' := by
  by_cases h1 : a.k = 1 ∨ a.k = 7 ∨ a.k = 8
  · exact writeask_ref1 a w hF h1
  by_cases h2 : a.k = 2
  · exact writeask_ref2 a w hF h2
  by_cases h3 : a.k = 3 ∨ a.k = 4
  · exact writeask_ref3 a w hF h3
  by_cases h5 : a.k = 5
  · exact writeask_ref5 a w hF h5
  by_cases h6 : a.k = 6
  · exact writeask_ref6 a w hF h6
  exact writeask_ref9 a w hF (by omega)
end Go.Proofs.Ytldlkoiekdlmhaa.Wi
