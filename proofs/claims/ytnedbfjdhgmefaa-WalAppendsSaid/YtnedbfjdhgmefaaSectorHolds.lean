/-
  The document's answers for sector: Holds, Read.
-/
import Derived.Test.YtnedbfjdhgmefaaSectorRef
namespace Go.Proofs.Ytnedbfjdhgmefaa.Sector
open Go.ChangeShapes Go.WideShapes Go.ChangeAt Go.RowKit
open Go.Proofs.Ytnedbfjdhgmefaa.Mem
set_option linter.unusedVariables false

theorem lastW_snoc (n : Int) (L : List (Int × ByteArray)) (p : Int × ByteArray) : lastW n (L ++ [p]) = if p.1 = n then some p.2 else lastW n L := by
  unfold lastW
  rw [List.reverse_append, List.reverse_singleton, List.singleton_append, List.find?_cons]
  by_cases h : p.1 = n
  · simp [h]
  · rw [if_neg h, show (p.1 == n) = false by simpa using h]
theorem heldS_snoc (secs : List ByteArray) (n : Int) (L : List (Int × ByteArray)) (p : Int × ByteArray) : heldS secs (L ++ [p]) n = if p.1 = n then p.2 else heldS secs L n := by
  unfold heldS; rw [lastW_snoc]; split <;> rfl
theorem heldS_nil (secs : List ByteArray) (m : Nat) (h : m < secs.length) : heldS secs [] m = secs[m] := by simp [heldS, lastW, List.getD, h]

end Go.Proofs.Ytnedbfjdhgmefaa.Sector
