/-
  A region that came in; a disk that was stored into a box.
-/
import Derived.Test.YtgplioocnbjhaaaWalCalls
import Derived.Test.YtgplioocnbjhaaaRecArgs
import Derived.Test.YtgplioocnbjhaaaSectorOpen
namespace Go.Proofs.Ytgplioocnbjhaaa.Wal
open Go.ChangeShapes Go.WideShapes Go.ChangeAt Go.RowKit
open Go.Proofs.Ytgplioocnbjhaaa.Mem Go.Proofs.Ytgplioocnbjhaaa.Rec Go.Proofs.Ytgplioocnbjhaaa.Sector
set_option linter.unusedVariables false
set_option maxRecDepth 100000
open Go.Joins Go.Deep
theorem open_region {H : Type} {enc : TypeId × Value → H} {W : World} {r : Reach} {b0 : Nat} {v : Value} {d : DataW H} {p : List MemPlace} (hv : Value.okWide Try.prog W r b0 54 v) (h : DataW.Trod enc Try.prog W 0 (fun _ => true) true 54 v d p) :
    ∃ f : Rg, v = rgV f ∧ f.has := by
  obtain ⟨v0, v1, y0, y1, n, rfl, _, _, t0, t1⟩ := open_agg2 Try.underlying54 (by kernel_rfl) (by kernel_rfl) hv h
  obtain ⟨a, e0, _, h0⟩ := DataW.trod_int Try.underlying3 t0
  obtain ⟨b, e1, _, h1⟩ := DataW.trod_int Try.underlying3 t1
  obtain rfl : v0 = .int .i64 a := by simpa using e0
  obtain rfl : v1 = .int .i64 b := by simpa using e1
  have g0 := bounds_i64 h0
  have g1 := bounds_i64 h1
  exact ⟨⟨a, b⟩, rfl, g0.1, g0.2, g1.1, g1.2⟩
end Go.Proofs.Ytgplioocnbjhaaa.Wal
