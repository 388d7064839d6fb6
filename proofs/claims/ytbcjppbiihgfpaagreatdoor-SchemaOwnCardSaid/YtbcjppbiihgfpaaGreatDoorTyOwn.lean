/-
  lictorlaw10.SchemaOwn: its walk, with lives.
-/
import Derived.Test.YtbcjppbiihgfpaaGreatDoorTyOwnWalk
import Derived.Test.YtbcjppbiihgfpaaGreatDoorEvLives10
import Derived.Test.YtbcjppbiihgfpaaGreatDoorValTold
namespace Go.Proofs.YtbcjppbiihgfpaaGreatDoor.Tyt
open Go.ChangeShapes Go.WideShapes Go.ChangeAt Go.RowKit
open Go.Proofs.YtbcjppbiihgfpaaGreatDoor.Mem
theorem own_walk (x : Sch) (s : ByteArray) (w : World) (h : x.ok w ∧ x.fit) (_ : s.size ≤ 140737488355328) (hw : Ev.LaidS w) :
    Calls Tryz.prog 5 #[x.val, .string s] w fun e w' => e = .returned (.bool true) ∧ Below w.heap.size w w' :=
  own_walk0 x s w h.1 h.2 (fun _ b => Ev.lives10_any (hw.below b))
end Go.Proofs.YtbcjppbiihgfpaaGreatDoor.Tyt
