/-
  lictorlaw06.ValueNames: the walk.
-/
import Derived.Test.YtiegocbdgimimaaDoorUtfCalls
import Derived.Deep.RegionHeld3
namespace Go.Proofs.YtiegocbdgimimaaDoor.Nam
open Go.ChangeShapes Go.WideShapes Go.ChangeAt Go.RowKit
open Go.Proofs.YtiegocbdgimimaaDoor.Mem
set_option linter.unusedVariables false
set_option linter.unusedSimpArgs false
set_option maxRecDepth 100000
theorem typeB_ab : typeB ⟨#[65, 58, 58, 66]⟩ = true := by decide +kernel
theorem nameB_if : nameB ⟨#[105, 102]⟩ = false := by decide +kernel
set_option maxHeartbeats 4000000 in
theorem names_walk (hS : SplitTold) (hV : ValidTold) (s t i : ByteArray) (w : World) (hs : s.size ≤ 140737488355328) (ht : t.size ≤ 140737488355328) (hi : i.size ≤ 140737488355328) (hm : ∃ m, w.cell? ⟨2, 0, none⟩ = some (.int .i64 m)) (hT : Lib.Utf8Tabs 0 1 w) :
    Calls Tryd.prog 3 #[.string s, .agg #[.string t, .string i]] w fun e w' => e = .returned (.bool true) ∧ Below w.heap.size w w' := by
  have hm' := hid (fun W (b : Below w.heap.size w W) => (show ∃ m, W.cell? ⟨2, 0, none⟩ = some (.int .i64 m) by
    obtain ⟨m, hm⟩ := hm
    exact ⟨m, (b.cell (World.block_lt_of_cell? _ _ hm)).trans hm⟩))
  have c1 := hid (fun W (b : Below w.heap.size w W) => type_any hS ⟨#[65, 58, 58, 66]⟩ W (by decide) (hm'.out W b))
  have c2 := hid (fun W => name_any ⟨#[105, 102]⟩ W (by decide))
  rw [typeB_ab] at c1
  rw [nameB_if] at c2
  have c3 := hid (fun W => name_any s W hs)
  have c4 := hid (fun W => rname_any s W hs)
  have c5 := hid (fun W (b : Below w.heap.size w W) => type_any hS s W hs (hm'.out W b))
  have c6 := hid (fun W => rtype_any s W hs)
  have c7 := hid (fun W (b : Below w.heap.size w W) => uid_any hS hV t i W ht hi (hm'.out W b) (Utf8Tabs_below hT b))
  have c8 := hid (fun W => ruid_any t i W ht hi)
  clear hm hm' hT hS hV hs ht hi
  generalize nameB s = x1 at c3 c4
  generalize typeB s = x2 at c5 c6
  generalize uidE t i = x3 at c7 c8
  go_enter Tryd.func3, Tryd.ntmps3
  go_upto_region 1 with fail
  have K := hid (Blk.new w [.string t, .string i] 23)
  have bw := hid ((Below.refl w.heap.size w).alloc (Nat.le_refl _) (.cells #[.string t, .string i] 23))
  generalize w.alloc (.cells #[.string t, .string i] 23) = X0 at K bw ⊢
  obtain ⟨k0, k1, kf⟩ := K.out.two
  have q1 : (x1 == x1) = true := by simp
  have q2 : (x2 == x2) = true := by simp
  have q3 : (x3 == x3) = true := by simp
  go_region_held3 (fun W => W.cell? ⟨w.heap.size, 0, none⟩ = some (.string t) ∧ W.cell? ⟨w.heap.size, 1, none⟩ = some (.string i)) (exact ⟨k0, k1⟩) (first
    | (go_at_call 5; (with_reducible refine (c1.out _ (bt bw.out (Below.refl _ X0).drew)).mono ?_); rintro e w1 ⟨rfl, b1⟩
       replace b1 := (Below.refl X0.heap.size X0).drew.trans b1
       replace K := hid (K.out.below b1 K.out.lt)
       replace bw := hid (bt bw.out b1)
       clear b1 k0 k1 kf c1
       obtain ⟨k0, k1, kf⟩ := K.out.two)
    | (go_at_call 6; (with_reducible refine (c2.out _).mono ?_); rintro e w1 ⟨rfl, rfl⟩; clear c2)
    | (go_at_call 6; (with_reducible refine (c3.out _).mono ?_); rintro e w1 ⟨rfl, rfl⟩; clear c3)
    | (go_at_call 7; (with_reducible refine (c4.out _).mono ?_); rintro e w1 ⟨rfl, b1⟩
       replace K := hid (K.out.below b1 K.out.lt)
       replace bw := hid (bt bw.out b1)
       clear b1 k0 k1 kf c4
       obtain ⟨k0, k1, kf⟩ := K.out.two)
    | (go_at_call 5; (with_reducible refine (c5.out _ bw.out).mono ?_); rintro e w1 ⟨rfl, b1⟩
       replace K := hid (K.out.below b1 K.out.lt)
       replace bw := hid (bt bw.out b1)
       clear b1 k0 k1 kf c5
       obtain ⟨k0, k1, kf⟩ := K.out.two)
    | (go_at_call 8; (with_reducible refine (c6.out _).mono ?_); rintro e w1 ⟨rfl, b1⟩
       replace K := hid (K.out.below b1 K.out.lt)
       replace bw := hid (bt bw.out b1)
       clear b1 k0 k1 kf c6
       obtain ⟨k0, k1, kf⟩ := K.out.two)
    | (go_at_call 9; (with_reducible refine (c7.out _ bw.out).mono ?_); rintro e w1 ⟨rfl, b1⟩
       replace K := hid (K.out.below b1 K.out.lt)
       replace bw := hid (bt bw.out b1)
       clear b1 k0 k1 kf c7
       obtain ⟨k0, k1, kf⟩ := K.out.two)
    | (go_at_call 10; (with_reducible refine (c8.out _).mono ?_); rintro e w1 ⟨rfl, b1⟩
       replace K := hid (K.out.below b1 K.out.lt)
       replace bw := hid (bt bw.out b1)
       clear b1 k0 k1 kf c8
       obtain ⟨k0, k1, kf⟩ := K.out.two))
  all_goals
    go_wp2_with fail
    go_ret
    exact ⟨rfl, bw.out⟩
end Go.Proofs.YtiegocbdgimimaaDoor.Nam
