/-
  Expressions: which are right, how deep and how much they are, as functions of the tree. No walk.
-/
import Derived.Test.YtbcjppbiihgfpaaGreatDoorExKids
import Derived.Test.YtbcjppbiihgfpaaGreatDoorExList
import Derived.Test.YtbcjppbiihgfpaaGreatDoorNameMath
import Derived.Test.YtbcjppbiihgfpaaGreatDoorUtfMath
namespace Go.Proofs.YtbcjppbiihgfpaaGreatDoor.Ex
open Go.ChangeShapes Go.WideShapes Go.ChangeAt Go.RowKit
open Go.Proofs.YtbcjppbiihgfpaaGreatDoor.Mem
set_option linter.unusedVariables false
set_option maxRecDepth 100000
/-- what a string may stand for -/
def txB (s : ByteArray) : Bool := Nam.utfB s && decide (s.size ≤ 256)
/-- an entity's type and id -/
def uidB (t s : ByteArray) : Bool := Nam.typeB t && (Nam.utfB s && decide (s.size ≤ 64))
/-- an attribute's name -/
def nmB (s : ByteArray) : Bool := !decide (s.size = 0) && (decide (s.size ≤ 64) && txB s)
def namesGo : List ByteArray → List ByteArray → Bool
  | _, [] => true
  | pre, x :: r => (nmB x && !hasB pre x) && namesGo (pre ++ [x]) r
def namesB (l : List ByteArray) : Bool := namesGo [] l
def namesAt (l : List ByteArray) (k : Nat) : Bool := namesGo (l.take k) (l.drop k)
theorem namesAt_step (l : List ByteArray) (k : Nat) (h : k < l.length) : namesAt l k = ((nmB l[k] && !hasB (l.take k) l[k]) && namesAt l (k + 1)) := by
  unfold namesAt
  rw [List.drop_eq_getElem_cons h, namesGo, List.take_succ_eq_append_getElem h]
theorem namesAt_end (l : List ByteArray) (k : Nat) (h : l.length ≤ k) : namesAt l k = true := by
  unfold namesAt
  rw [List.drop_eq_nil_of_le h, namesGo]
theorem namesAt_zero (l : List ByteArray) : namesAt l 0 = namesB l := rfl
def bareB (n : Int) (s t : ByteArray) (ln : Nat) : Bool := decide (n = 0) && (decide (s.size = 0) && (decide (t.size = 0) && decide (ln = 0)))
/-- a node's own fields -/
def fldB (x : T) : Bool :=
  if x.kind = 1 then decide (x.num = 0 ∨ x.num = 1) && bareB 0 x.str x.typ x.names.length
  else if x.kind = 2 then decide (0 ≤ x.num) && bareB 0 x.str x.typ x.names.length
  else if x.kind = 3 then txB x.str && bareB x.num ⟨#[]⟩ x.typ x.names.length
  else if x.kind = 4 then uidB x.typ x.str && bareB x.num ⟨#[]⟩ ⟨#[]⟩ x.names.length
  else if x.kind = 5 then varB x.str && bareB x.num ⟨#[]⟩ x.typ x.names.length
  else if x.kind = 7 then (decide (x.names.length = x.list.length) && namesB x.names) && bareB x.num x.str x.typ 0
  else if x.kind = 8 then nmB x.str && bareB x.num ⟨#[]⟩ x.typ x.names.length
  else if x.kind = 9 then nmB x.str && bareB x.num ⟨#[]⟩ x.typ x.names.length
  else if x.kind = 10 then Nam.typeB x.typ && bareB x.num x.str ⟨#[]⟩ x.names.length
  else if x.kind = 11 then txB x.str && bareB x.num ⟨#[]⟩ x.typ x.names.length
  else bareB x.num x.str x.typ x.names.length
def nodeB (x : T) : Bool := fldB x && kidsB x.kind x.list.length
mutual
def rightB : T → Bool
  | .mk k n s t na nv l lv => nodeB (.mk k n s t na nv l lv) && rightL l
def rightL : List T → Bool
  | [] => true
  | x :: r => rightB x && rightL r
end
theorem rightB_eq (x : T) : rightB x = (nodeB x && rightL x.list) := by
  cases x
  rw [rightB]
  rfl
theorem rightL_all (l : List T) : rightL l = l.all rightB := by
  induction l with
  | nil => rfl
  | cons x l ih => rw [rightL, ih, List.all_cons]
def chkN (x : T) : Int := if rightB x = false then 5 else if 16 < deepN x then 4 else if 128 < x.size then 2 else 0
end Go.Proofs.YtbcjppbiihgfpaaGreatDoor.Ex
