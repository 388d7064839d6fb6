/-
  wire.walkAsk through a writer: contract. Written by wip/wirewgen.py.
-/
import Derived.Test.YtldlkoiekdlmhaaWireAskW2
import Derived.Test.YtldlkoiekdlmhaaWireAskW34
import Derived.Test.YtldlkoiekdlmhaaWireAskW5
import Derived.Test.YtldlkoiekdlmhaaWireAskW6
import Derived.Test.YtldlkoiekdlmhaaWireAskW0
namespace Go.Proofs.Ytldlkoiekdlmhaa.Wi
open Go.ChangeShapes Go.WideShapes Go.ChangeAt Go.RowKit
open Go.Proofs.Ytldlkoiekdlmhaa.Mem
open Go.Proofs.Ytldlkoiekdlmhaa.Lik (Kept)
open Go.Proofs.Ytldlkoiekdlmhaa.Crc hiding hid bt
set_option linter.unusedVariables false
set_option linter.unusedSimpArgs false
set_option maxRecDepth 100000
theorem wask_any (B b n m : Nat) (o : Option (List UInt8)) (a : Ask) (w : World) (h : Wr w B b o n m) (hF : askF a) (hm : m ≤ 20000000) (hBw : B ≤ w.heap.size) :
    Calls Try.prog 19 #[.iface 53 (.pointer (some ⟨b, 0, none⟩)), .agg #[.int .u8 (a.k : Nat), .int .u64 (a.tx : Nat), .int .u8 (a.c.k : Nat), .string a.c.i, .string a.c.t, .string a.c.ut, .string a.c.ui, .int .u64 (a.v : Nat), .string a.s0, .string a.s1, .string a.s2, .string a.s3, .string a.s4, .string a.s5, .string a.s6]] w fun e w' => e = .returned (.agg #[.int .u8 (a.k : Nat), .int .u64 (a.tx : Nat), .int .u8 (a.c.k : Nat), .string a.c.i, .string a.c.t, .string a.c.ut, .string a.c.ui, .int .u64 (a.v : Nat), .string a.s0, .string a.s1, .string a.s2, .string a.s3, .string a.s4, .string a.s5, .string a.s6]) ∧ WrP w B b (wA a o) (n + 1) (m + 9000000) w' := by
  by_cases h2 : a.k = 2
  · have e : a = { a with k := 2 } := by cases a; simp_all
    rw [e] at hF ⊢
    exact wask2 B b n m o a w h hF hm hBw
  by_cases h3 : a.k = 3
  · have e : a = { a with k := 3 } := by cases a; simp_all
    rw [e] at hF ⊢
    exact wask3 B b n m o a w h hF hm hBw
  by_cases h4 : a.k = 4
  · have e : a = { a with k := 4 } := by cases a; simp_all
    rw [e] at hF ⊢
    exact wask4 B b n m o a w h hF hm hBw
  by_cases h5 : a.k = 5
  · have e : a = { a with k := 5 } := by cases a; simp_all
    rw [e] at hF ⊢
    exact wask5 B b n m o a w h hF hm hBw
  by_cases h6 : a.k = 6
  · have e : a = { a with k := 6 } := by cases a; simp_all
    rw [e] at hF ⊢
    exact wask6 B b n m o a w h hF hm hBw
  exact wask0 B b n m o a w h hF hm hBw h2 h3 h4 h5 h6
end Go.Proofs.Ytldlkoiekdlmhaa.Wi
