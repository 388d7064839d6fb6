/-
  ExprWrites: the walk.
-/
import Derived.Test.YtbcjppbiihgfpaaGreatDoorExRefPrint
import Derived.Test.YtbcjppbiihgfpaaGreatDoorPrAll
import Derived.Test.YtbcjppbiihgfpaaGreatDoorEvLives8
namespace Go.Proofs.YtbcjppbiihgfpaaGreatDoor.Ex
open Go.ChangeShapes Go.WideShapes Go.ChangeAt Go.RowKit
open Go.Proofs.YtbcjppbiihgfpaaGreatDoor.Mem Go.Proofs.YtbcjppbiihgfpaaGreatDoor.Lik
set_option linter.unusedVariables false
set_option linter.unusedSimpArgs false
set_option maxRecDepth 100000
set_option maxHeartbeats 8000000 in
theorem writes_walk (x : T) (w : World) (h : x.ok w) (hz : x.size ≤ 1048576) (hw : Sta w ∧ Pow w) :
    Calls Tryz.prog 3 #[x.val] w fun e w' => e = .returned (.bool true) ∧ Below w.heap.size w w' := by
  have cP := hid (fun W (b : Below w.heap.size w W) => print_any x W (h.below b) (by omega) (hw.1.below b) (hw.2.below b))
  have cR := hid (fun W (b : Below w.heap.size w W) => rprint_any x W (h.below b) (by omega) (hw.1.below b))
  have cL := hid (fun W (b : Below w.heap.size w W) => Ev.lives_any (hw.1.below b).laid)
  have cC := hid (fun W (b : Below w.heap.size w W) => check_any x W (h.below b) (by omega) (hw.1.below b))
  have cD := hid (fun W (b : Below w.heap.size w W) => rcheck_any x W (h.below b) (by omega) (hw.1.below b))
  obtain ⟨no, nc, lo, lc, e1, e2, l1, l2⟩ := h.forms
  rw [T.val_eq e1 e2] at cP cR cC cD ⊢
  generalize (if chkN x = 0 then showT x else []) = sx at *
  generalize chkN x = c at *
  have bw0 := hid (Below.refl w.heap.size w)
  clear h hz hw e1 e2 l1 l2
  generalize x.list.length = ll at *
  generalize x.names.length = ln at *
  generalize x.kind = k at *
  go_enter Tryz.func3, Tryz.ntmps3
  go_upto_region 1 with fail
  have K1 := hid (Blk.new w [.int .u8 (k : Nat), .int .i64 x.num, .string x.str, .string x.typ, .slice no ln nc, .slice lo ll lc] 26)
  have bw := hid (bw0.out.alloc (Nat.le_refl _) (.cells #[.int .u8 (k : Nat), .int .i64 x.num, .string x.str, .string x.typ, .slice no ln nc, .slice lo ll lc] 26))
  generalize w.alloc (.cells #[.int .u8 (k : Nat), .int .i64 x.num, .string x.str, .string x.typ, .slice no ln nc, .slice lo ll lc] 26) = X0 at K1 bw ⊢
  clear bw0
  have cQ := hid (cP.out X0 bw.out)
  obtain ⟨c0, c1, c2, c3, c4, c5, cf⟩ := six K1.out
  go_wp2_with fail
  refine cQ.out.mono ?_
  rintro e X1 ⟨rfl, b1⟩
  replace K1 := hid (K1.out.below b1 K1.out.lt)
  replace bw := hid (bt bw.out b1)
  clear c0 c1 c2 c3 c4 c5 cf cQ cP b1
  have cT := hid (cR.out X1 bw.out)
  obtain ⟨c0, c1, c2, c3, c4, c5, cf⟩ := six K1.out
  go_wp2_with fail
  refine cT.out.mono ?_
  rintro e X2 ⟨rfl, b1⟩
  replace K1 := hid (K1.out.below b1 K1.out.lt)
  replace bw := hid (bt bw.out b1)
  clear c0 c1 c2 c3 c4 c5 cf cT cR b1
  obtain ⟨c0, c1, c2, c3, c4, c5, cf⟩ := six K1.out
  go_upto_region 3 with fail
  go_region_held3 (fun W => W.cell? ⟨w.heap.size, 0, none⟩ = some (.int .u8 (k : Nat)) ∧ W.cell? ⟨w.heap.size, 1, none⟩ = some (.int .i64 x.num) ∧ W.cell? ⟨w.heap.size, 2, none⟩ = some (.string x.str) ∧ W.cell? ⟨w.heap.size, 3, none⟩ = some (.string x.typ) ∧ W.cell? ⟨w.heap.size, 4, none⟩ = some (.slice no ln nc) ∧ W.cell? ⟨w.heap.size, 5, none⟩ = some (.slice lo ll lc)) (first | with_reducible exact ⟨c0, c1, c2, c3, c4, c5⟩ | with_reducible exact ⟨celld c0, celld c1, celld c2, celld c3, celld c4, celld c5⟩) (first
    | (go_at_call 8
       (with_reducible refine (cL.out _ bw.out.drew).mono ?_)
       rintro e X3 ⟨rfl, b3⟩
       replace K1 := hid (K1.out.drew.below b3 K1.out.drew.lt)
       replace bw := hid (bt bw.out.drew b3)
       clear c0 c1 c2 c3 c4 c5 cf cL b3
       obtain ⟨c0, c1, c2, c3, c4, c5, cf⟩ := six K1.out)
    | (go_at_call 9
       (with_reducible refine (cC.out _ bw.out).mono ?_)
       rintro e X4 ⟨rfl, b4⟩
       replace K1 := hid (K1.out.below b4 K1.out.lt)
       replace bw := hid (bt bw.out b4)
       clear c0 c1 c2 c3 c4 c5 cf cC b4
       obtain ⟨c0, c1, c2, c3, c4, c5, cf⟩ := six K1.out)
    | (go_at_call 10
       (with_reducible refine (cD.out _ bw.out).mono ?_)
       rintro e X5 ⟨rfl, b5⟩
       replace K1 := hid (K1.out.below b5 K1.out.lt)
       replace bw := hid (bt bw.out b5)
       clear c0 c1 c2 c3 c4 c5 cf cD b5
       obtain ⟨c0, c1, c2, c3, c4, c5, cf⟩ := six K1.out))
  all_goals (go_wp2_with fail; go_ret; exact ⟨rfl, bw.out⟩)
end Go.Proofs.YtbcjppbiihgfpaaGreatDoor.Ex
