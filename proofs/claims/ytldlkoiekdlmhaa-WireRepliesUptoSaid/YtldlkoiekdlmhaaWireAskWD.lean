/-
  wire.walkAsk through a writer: contract. Written by wip/wirewgen.py.
-/
import Derived.Test.YtldlkoiekdlmhaaWireStW
namespace Go.Proofs.Ytldlkoiekdlmhaa.Wi
open Go.ChangeShapes Go.WideShapes Go.ChangeAt Go.RowKit
open Go.Proofs.Ytldlkoiekdlmhaa.Mem
open Go.Proofs.Ytldlkoiekdlmhaa.Lik (Kept)
open Go.Proofs.Ytldlkoiekdlmhaa.Crc hiding hid bt
set_option linter.unusedVariables false
set_option linter.unusedSimpArgs false
set_option maxRecDepth 100000
/-- what is written of a request -/
def wA (a : Ask) (o : Option (List UInt8)) : Option (List UInt8) :=
  if a.k = 2 then wC a.c (wN a.tx (w1 a.k o)) else if a.k = 3 ∨ a.k = 4 then wN a.tx (w1 a.k o) else if a.k = 5 then wQ a (w1 a.k o) else if a.k = 6 then wQ a (wN a.v (w1 a.k o)) else w1 a.k o
end Go.Proofs.Ytldlkoiekdlmhaa.Wi
