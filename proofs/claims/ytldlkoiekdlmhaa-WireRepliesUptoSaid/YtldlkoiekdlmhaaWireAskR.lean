/-
  wire.walkAsk through a reader, by kinds: contract. Written by wip/wireaskgen.py.
-/
import Derived.Test.YtldlkoiekdlmhaaWireAsk2
import Derived.Test.YtldlkoiekdlmhaaWireAsk34
import Derived.Test.YtldlkoiekdlmhaaWireAsk5
import Derived.Test.YtldlkoiekdlmhaaWireAsk6
import Derived.Test.YtldlkoiekdlmhaaWireAsk0
namespace Go.Proofs.Ytldlkoiekdlmhaa.Wi
open Go.ChangeShapes Go.WideShapes Go.ChangeAt Go.RowKit
open Go.Proofs.Ytldlkoiekdlmhaa.Mem
open Go.Proofs.Ytldlkoiekdlmhaa.Crc hiding hid bt
set_option linter.unusedVariables false
set_option linter.unusedSimpArgs false
set_option maxRecDepth 100000
theorem rask_any (b : Nat) (o : Option (List UInt8)) (w : World) (h : Rd w b o) :
    Calls Try.prog 19 #[.iface 65 (.pointer (some ⟨b, 0, none⟩)), .agg #[.int .u8 0, .int .u64 0, .int .u8 0, .string ⟨#[]⟩, .string ⟨#[]⟩, .string ⟨#[]⟩, .string ⟨#[]⟩, .int .u64 0, .string ⟨#[]⟩, .string ⟨#[]⟩, .string ⟨#[]⟩, .string ⟨#[]⟩, .string ⟨#[]⟩, .string ⟨#[]⟩, .string ⟨#[]⟩]] w fun e w' => ∃ a' : Ask, e = .returned (.agg #[.int .u8 (a'.k : Nat), .int .u64 (a'.tx : Nat), .int .u8 (a'.c.k : Nat), .string a'.c.i, .string a'.c.t, .string a'.c.ut, .string a'.c.ui, .int .u64 (a'.v : Nat), .string a'.s0, .string a'.s1, .string a'.s2, .string a'.s3, .string a'.s4, .string a'.s5, .string a'.s6]) ∧ askF a' ∧ RdP w b pA o a' w' := by
  obtain ⟨s, wr, K, hs, rfl⟩ := h
  obtain ⟨n, hn, hsm⟩ := small_at b s wr hs
  by_cases h2 : n = 2
  · subst h2; exact rask2 b s wr w K hs hsm
  by_cases h3 : n = 3
  · subst h3; exact rask3 b s wr w K hs hsm
  by_cases h4 : n = 4
  · subst h4; exact rask4 b s wr w K hs hsm
  by_cases h5 : n = 5
  · subst h5; exact rask5 b s wr w K hs hsm
  by_cases h6 : n = 6
  · subst h6; exact rask6 b s wr w K hs hsm
  exact rask0 b s wr w K hs n hn h2 h3 h4 h5 h6 hsm
end Go.Proofs.Ytldlkoiekdlmhaa.Wi
