/-
  As 'Below', and no draw is taken back.
-/
import Derived.Test.YtdjgkbpfmonebaaGreatDoorValTree
import Derived.WalkSmall
namespace Go.Proofs.YtdjgkbpfmonebaaGreatDoor.Val
open Go.ChangeShapes Go.WideShapes Go.ChangeAt Go.RowKit
open Go.Proofs.YtdjgkbpfmonebaaGreatDoor.Mem
set_option linter.unusedVariables false
structure Bel (B : Nat) (w w' : World) : Prop where
  b : Below B w w'
  d : w.drawn ≤ w'.drawn
theorem Bel.refl (B : Nat) (w : World) : Bel B w w := ⟨Below.refl B w, Nat.le_refl _⟩
theorem Bel.trans {B : Nat} {a b c : World} (h : Bel B a b) (g : Bel B b c) : Bel B a c := ⟨h.b.trans g.b, Nat.le_trans h.d g.d⟩
theorem Bel.alloc {B : Nat} {a w : World} (h : Bel B a w) (hB : B ≤ w.heap.size) (o : Obj) : Bel B a (w.alloc o) := ⟨h.b.alloc hB o, h.d⟩
theorem Bel.setCell {B : Nat} {a w : World} (h : Bel B a w) {p : Addr} (hp : B ≤ p.block) (u : Value) : Bel B a (w.setCell p u) := ⟨h.b.setCell hp u, h.d⟩
theorem Bel.drew {B : Nat} {a w : World} (h : Bel B a w) : Bel B a w.drew := ⟨h.b.drew, Nat.le_succ_of_le h.d⟩
theorem Bel.drewN {B : Nat} {a w : World} (h : Bel B a w) (n : Nat) : Bel B a (w.drewN n) := ⟨below_drewN h.b n, Nat.le_trans h.d (Nat.le_add_right _ _)⟩
theorem bel {w a b : World} (h : Bel w.heap.size w a) (g : Bel a.heap.size a b) : Bel w.heap.size w b := ⟨bt h.b g.b, Nat.le_trans h.d g.d⟩
end Go.Proofs.YtdjgkbpfmonebaaGreatDoor.Val
