/-
  lictorlaw06.lives: contract.
-/
import Derived.Test.YtdjgkbpfmonebaaGreatDoorValMake
import Derived.Test.YtdjgkbpfmonebaaGreatDoorValCalls
namespace Go.Proofs.YtdjgkbpfmonebaaGreatDoor.Val
open Go.ChangeShapes Go.WideShapes Go.ChangeAt Go.RowKit
open Go.Proofs.YtdjgkbpfmonebaaGreatDoor.Mem Go.Proofs.YtdjgkbpfmonebaaGreatDoor.Nam
set_option linter.unusedVariables false
set_option linter.unusedSimpArgs false
set_option maxRecDepth 100000
theorem typeAB : typeB ⟨#[65, 58, 58, 66]⟩ = true := by decide +kernel
theorem nameIf : nameB ⟨#[105, 102]⟩ = false := by decide +kernel
def lng (n : Int) : T := .mk 1 false n ⟨#[]⟩ ⟨#[]⟩ [] (.slice none 0 0) [] (.slice none 0 0)
def badT : T := .mk 0 false 1 ⟨#[]⟩ ⟨#[]⟩ [] (.slice none 0 0) [] (.slice none 0 0)
theorem plain_ok (k : Nat) (n : Int) (w : World) (hk : k < 256) (hn : -9223372036854775808 ≤ n ∧ n ≤ 9223372036854775807) : (T.mk k false n ⟨#[]⟩ ⟨#[]⟩ [] (.slice none 0 0) [] (.slice none 0 0)).ok w :=
  T.ok.mk' ⟨⟨hk, (by decide : 0 * 16 ≤ 140737488355328), (by decide : 0 * 96 ≤ 140737488355328)⟩, hn, (by decide : (⟨#[]⟩ : ByteArray).size ≤ 140737488355328), (by decide : (⟨#[]⟩ : ByteArray).size ≤ 140737488355328), (fun y hy => by cases (show y ∈ ([] : List ByteArray) from hy)), SlV.nil w, SlV.nil w, (fun y hy => by cases (show y ∈ ([] : List T) from hy))⟩
theorem lng_ok (n : Int) (w : World) (hn : -9223372036854775808 ≤ n ∧ n ≤ 9223372036854775807) : (lng n).ok w := plain_ok 1 n w (by decide) hn
theorem lng_cmp (a b : Int) : cmpT (lng a) (lng b) = sgn a b := by rw [cmpT_eq]; rfl
theorem bare_nil : bareB false 0 ⟨#[]⟩ ⟨#[]⟩ 0 0 = true := by decide
theorem lng_meas (a : Int) : measT (lng a) = some (1, 1) := by
  have hf : frB (lng a) = true := by
    unfold frB
    exact bare_nil
  rw [measT_eq, if_neg (by rw [hf]; simp), show (lng a).list = [] from rfl, measL]
  simp [RowKit.wrap64]
theorem lng_right (a : Int) : typeErr (lng a) = false := by
  unfold typeErr chkV
  rw [lng_meas]
  rfl
theorem bad_wrong : chkV badT = 7 := by
  have hf : frB badT = false := by
    unfold frB
    show bareB false 1 ⟨#[]⟩ ⟨#[]⟩ 0 0 = false
    decide
  unfold chkV
  rw [measT_eq, if_pos hf]
theorem pair_right (v : Value) : chkV (setT [lng 1, lng 2] v) = 0 := by
  have hf : frB (setT [lng 1, lng 2] v) = true := by
    unfold frB
    show (decide (2 ≤ 16) && riseB [lng 1, lng 2] && bareB false 0 ⟨#[]⟩ ⟨#[]⟩ 0 0) = true
    rw [bare_nil]
    simp only [riseB, lng_cmp]
    decide
  unfold chkV
  rw [measT_eq, if_neg (by rw [hf]; simp), show (setT [lng 1, lng 2] v).list = [lng 1, lng 2] from rfl]
  rw [measL, lng_meas]
  dsimp only
  rw [measL, lng_meas]
  dsimp only
  rw [measL]
  simp [RowKit.wrap64, maxI]
theorem set3 {w : World} {e : Ending} {w' : World} (h : SetP w [lng 2, lng 1, lng 2] e w') :
    ∃ y : T, e = .returned (.tuple #[y.val, .int .i64 0]) ∧ y.ok w' ∧ ∃ a b, y.list = [a, b] ∧ a.num = 1 := by
  rcases h with ⟨h1, _⟩ | ⟨_, l', v, hp, hs, hm⟩
  · exact absurd h1 (by simp [lng_right])
  · have hl : l'.length = 3 := hp.length_eq
    have hmem : ∀ x ∈ l', x = lng 1 ∨ x = lng 2 := fun x hx => by
      have := hp.mem_iff.1 hx
      simp only [List.mem_cons, List.mem_nil_iff, or_false] at this
      rcases this with h | h | h
      · exact .inr h
      · exact .inl h
      · exact .inr h
    have hn := hp.map T.num
    obtain ⟨a, b, c, rfl⟩ : ∃ a b c, l' = [a, b, c] := by
      match l', hl with
      | [a, b, c], _ => exact ⟨a, b, c, rfl⟩
    have h12 : cmpT (lng 1) (lng 2) < 0 := by rw [lng_cmp]; decide
    have hfix : a = lng 1 ∧ b = lng 2 ∧ c = lng 2 := by
      unfold SortedT at hs
      simp only [List.pairwise_cons, List.mem_cons, List.mem_nil_iff, or_false, forall_eq_or_imp, forall_eq, List.Pairwise.nil, and_true] at hs
      rcases hmem a (by simp) with rfl | rfl <;> rcases hmem b (by simp) with rfl | rfl <;> rcases hmem c (by simp) with rfl | rfl
      · exact absurd hn (by decide)
      · exact absurd hn (by decide)
      · exact absurd hn (by decide)
      · exact ⟨rfl, rfl, rfl⟩
      · exact absurd hn (by decide)
      · exact absurd h12 hs.1.1
      · exact absurd h12 hs.1.2
      · exact absurd hn (by decide)
    obtain ⟨rfl, rfl, rfl⟩ := hfix
    have hc : compactT [lng 1, lng 2, lng 2] = [lng 1, lng 2] := by
      simp only [compactT, dd, lng_cmp]
      rfl
    rw [hc] at hm
    have hchk := pair_right v
    rcases hm with ⟨h0, _⟩ | ⟨_, y, rfl, hlk, hok, _⟩
    · exact absurd hchk h0
    · refine ⟨y, rfl, hok, ?_⟩
      have hll := (T.like_iff.1 hlk).2.2.2.2.2.2
      have : T.likeL [lng 1, lng 2] y.list := hll
      generalize y.list = L at this
      match L, this with
      | [a, b], h => exact ⟨a, b, rfl, ((T.like_iff.1 h.1).2.2.1).symm⟩
set_option maxHeartbeats 1000000 in
theorem long_any (n : Int) (w : World) : Calls Tryz.prog 15 #[.int .i64 n] w fun e w' => e = .returned (.agg #[.int .u8 1, .bool false, .int .i64 n, .string ⟨#[]⟩, .string ⟨#[]⟩, .slice none 0 0, .slice none 0 0]) ∧ Below w.heap.size w w' := by
  go_enter Tryz.func15, Tryz.ntmps15
  go_wp2_with fail
  exact bodyPost_ret (v := .agg #[.int .u8 1, .bool false, .int .i64 n, .string ⟨#[]⟩, .string ⟨#[]⟩, .slice none 0 0, .slice none 0 0]) (by simp [results, Tryz.results15, go_sem]) rfl ⟨rfl, (Below.refl _ _).alloc (Nat.le_refl _) _⟩
theorem lv3 (W : World) : LV (W.alloc (.cells (T.encL [lng 2, lng 1, lng 2]).toArray 27)) (.slice (some ⟨W.heap.size, 0, none⟩) 3 3) [lng 2, lng 1, lng 2] := by
  refine LV.mk' (row_slv (l := [lng 2, lng 1, lng 2]) (rc := 3) (ro := some ⟨W.heap.size, 0, none⟩) (g := W.heap.size) (tail := []) (t := 27) (fun _ => ⟨rfl, by rw [List.append_nil]; exact Blk.new W _ _⟩) (by decide) (by decide) (by simp)) (fun x hx => ?_) (by decide)
  simp only [List.mem_cons, List.mem_nil_iff, or_false] at hx
  rcases hx with rfl | rfl | rfl
  · exact lng_ok 2 _ (by decide)
  · exact lng_ok 1 _ (by decide)
  · exact lng_ok 2 _ (by decide)
set_option maxHeartbeats 4000000 in
theorem lives_any (hS : SplitTold) (hV : ValidTold) (w : World) (hw : Start w) :
    Calls Tryz.prog 6 #[] w fun e w' => e = .returned (.bool true) ∧ Below w.heap.size w w' := by
  have cS := hid (fun W (b : Below w.heap.size w W) => set_any hS hV [lng 2, lng 1, lng 2] (.slice (some ⟨W.heap.size, 0, none⟩) 3 3) (W.alloc (.cells (T.encL [lng 2, lng 1, lng 2]).toArray 27)) (lv3 W) (hw.below (b.alloc b.size _)))
  have cP := hid (fun W => sum_any 43 9223372036854775807 1 W (by unfold I64; omega) (by unfold I64; omega))
  rw [show sumE 43 9223372036854775807 1 = (0, 11) from by decide +kernel] at cP
  have cT := hid (fun W (b : Below w.heap.size w W) => type_any hS ⟨#[65, 58, 58, 66]⟩ W (by decide) (hw.below b).ml)
  have cN := hid (fun W => name_any ⟨#[105, 102]⟩ W (by decide))
  rw [typeAB] at cT
  rw [nameIf] at cN
  have cC := hid (fun W (b : Below w.heap.size w W) => check_any hS hV badT W (plain_ok 0 1 W (by decide) (by decide)) (hw.below b))
  rw [bad_wrong] at cC
  have cM := hid (fun W => comp_any (lng 1) (lng 2) W (lng_ok 1 W (by decide)) (lng_ok 2 W (by decide)))
  rw [lng_cmp, show sgn 1 2 = -1 from rfl] at cM
  replace cC := hid (show ∀ W, Below w.heap.size w W → Calls Tryz.prog 10 #[.agg #[.int .u8 0, .bool false, .int .i64 1, .string ⟨#[]⟩, .string ⟨#[]⟩, .slice none 0 0, .slice none 0 0]] W fun e w' => e = .returned (.int .i64 7) ∧ Below W.heap.size W w' from cC.out)
  replace cM := hid (show ∀ W, Calls Tryz.prog 19 #[.agg #[.int .u8 1, .bool false, .int .i64 1, .string ⟨#[]⟩, .string ⟨#[]⟩, .slice none 0 0, .slice none 0 0], .agg #[.int .u8 1, .bool false, .int .i64 2, .string ⟨#[]⟩, .string ⟨#[]⟩, .slice none 0 0, .slice none 0 0]] W fun e w' => e = .returned (.int .i64 (-1)) ∧ Below W.heap.size W w' from cM.out)
  replace cS := hid (show ∀ W, Below w.heap.size w W → Calls Tryz.prog 12 #[.slice (some ⟨W.heap.size, 0, none⟩) 3 3] (W.alloc (.cells #[.int .u8 1, .bool false, .int .i64 2, .string ⟨#[]⟩, .string ⟨#[]⟩, .slice none 0 0, .slice none 0 0, .int .u8 1, .bool false, .int .i64 1, .string ⟨#[]⟩, .string ⟨#[]⟩, .slice none 0 0, .slice none 0 0, .int .u8 1, .bool false, .int .i64 2, .string ⟨#[]⟩, .string ⟨#[]⟩, .slice none 0 0, .slice none 0 0] 27)) fun e w' => (∃ y : T, e = .returned (.tuple #[y.val, .int .i64 0]) ∧ y.ok w' ∧ ∃ a b, y.list = [a, b] ∧ a.num = 1) ∧ Below w.heap.size w w' from
    fun W b => (cS.out W b).mono fun e w' ⟨h1, h2⟩ => ⟨set3 h1, (b.alloc b.size _).trans (h2.mono (by have := b.size; simp; omega))⟩)
  clear hw hS hV
  go_enter Tryz.func6, Tryz.ntmps6
  go_wp2_with fail
  refine (long_any 2 _).mono ?_
  rintro e w1 ⟨rfl, b1⟩
  have bw := hid b1
  clear b1
  go_wp2_with fail
  refine (long_any 1 _).mono ?_
  rintro e w2 ⟨rfl, b1⟩
  replace bw := hid (bt bw.out b1)
  clear b1
  go_wp2_with fail
  refine (long_any 2 _).mono ?_
  rintro e w3 ⟨rfl, b1⟩
  replace bw := hid (bt bw.out b1)
  clear b1
  go_wp2_with fail
  refine (cS.out w3 bw.out).mono ?_
  rintro e w4 ⟨⟨y, rfl, hyok, ya, yb, hyl, hya⟩, b4⟩
  replace bw := hid b4
  clear b4 cS
  obtain ⟨yno, ync, ylo, ylc, ey1, ey2, yl1, yl2⟩ := hyok.forms
  obtain ⟨g, off, rfl, hc0, hc1, hc2, hc3⟩ := hyok.part7 ey2 0 (by rw [hyl]; simp)
  have hnum : w4.cell? ⟨g, off + 2, none⟩ = some (.int .i64 1) := by
    have : y.list[0]'(by rw [hyl]; simp) = ya := by simp [hyl]
    rw [this, hya] at hc2
    simpa using hc2
  have hln : y.list.length = 2 := by rw [hyl]; rfl
  rw [T.lit, ey1, ey2, hln]
  have hg := World.block_lt_of_cell? _ _ hnum
  clear hc0 hc1 hc2 hc3 ey1 ey2 yl1 yl2 hyok hyl hya hln
  go_upto_region 2 with fail
  have hk := hid (show ∀ o, (w4.alloc o).cell? ⟨g, off + 2, none⟩ = some (.int .i64 1) from fun o => cell_below ((Below.refl _ w4).alloc (Nat.le_refl _) o) _ _ hnum)
  have K := hid (Blk.new w4 [.int .u8 (y.kind : Nat), .bool y.bool, .int .i64 y.num, .string y.str, .string y.typ, .slice yno y.names.length ync, .slice (some ⟨g, off, none⟩) 2 ylc] 27)
  replace bw := hid (bw.out.alloc bw.out.size (.cells #[.int .u8 (y.kind : Nat), .bool y.bool, .int .i64 y.num, .string y.str, .string y.typ, .slice yno y.names.length ync, .slice (some ⟨g, off, none⟩) 2 ylc] 27))
  replace hk := hid (hk.out (.cells #[.int .u8 (y.kind : Nat), .bool y.bool, .int .i64 y.num, .string y.str, .string y.typ, .slice yno y.names.length ync, .slice (some ⟨g, off, none⟩) 2 ylc] 27))
  clear hnum hg
  generalize w4.alloc (.cells #[.int .u8 (y.kind : Nat), .bool y.bool, .int .i64 y.num, .string y.str, .string y.typ, .slice yno y.names.length ync, .slice (some ⟨g, off, none⟩) 2 ylc] 27) = X1 at K bw hk ⊢
  generalize w4.heap.size = n4 at K ⊢
  go_wp2_with fail
  refine (cP.out _).mono ?_
  rintro e w5 ⟨rfl, rfl⟩
  clear cP
  obtain ⟨c0, c1, c2, c3, c4, c5, c6, cf⟩ := seven K.out
  have hk' := hk.out
  go_wp2_with fail
  refine (cT.out _ bw.out).mono ?_
  rintro e w5 ⟨rfl, b5⟩
  clear cT c0 c1 c2 c3 c4 c5 c6 cf hk hk' K
  replace bw := hid (bt bw.out b5)
  clear b5
  go_wp2_with fail
  refine (cN.out _).mono ?_
  rintro e w6 ⟨rfl, rfl⟩
  clear cN
  go_wp2_with fail
  refine (cC.out _ bw.out).mono ?_
  rintro e w7 ⟨rfl, b7⟩
  clear cC
  replace bw := hid (bt bw.out b7)
  clear b7
  go_wp2_with fail
  refine (long_any 1 _).mono ?_
  rintro e w8 ⟨rfl, b8⟩
  replace bw := hid (bt bw.out b8)
  clear b8
  go_wp2_with fail
  refine (long_any 2 _).mono ?_
  rintro e w9 ⟨rfl, b9⟩
  replace bw := hid (bt bw.out b9)
  clear b9
  go_wp2_with fail
  refine (cM.out _).mono ?_
  rintro e w10 ⟨rfl, b10⟩
  clear cM
  replace bw := hid (bt bw.out b10)
  clear b10
  go_wp2_with fail
  go_ret
  exact ⟨rfl, bw.out⟩
end Go.Proofs.YtdjgkbpfmonebaaGreatDoor.Val
