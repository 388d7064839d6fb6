/-
  lictorlaw08.ExprRanks: a call that ends by an evaluated piece. No walk.
-/
import Derived.Test.YtkaihgpenhaaiaaGreatDoorExprRanksEv
namespace Go.Proofs.YtkaihgpenhaaiaaGreatDoor.Ev
open Go.ChangeShapes Go.WideShapes Go.ChangeAt Go.RowKit
open Go.Proofs.YtkaihgpenhaaiaaGreatDoor.Mem
set_option linter.unusedVariables false
set_option maxRecDepth 100000
theorem post_any {N : Nat} {P : Program} {fn : Func} {m : Mu} {B : Nat} {W : World} {a : Sls} {s1 s' : St} {A' : Act} {W' : World} {x : X} {v : Value} {F : Ending → World → Prop} (hA : After N m B W a s1 A' W') (e : retOf P fn.results.toList x a s1 = some (v, s'))
    (hF : ∀ m' v', R m' v v' → Below B W W' → F (.returned v') W') : bodyPost P fn F x.e A' W' := by
  obtain ⟨m', h1, h2, h3, h4, h5⟩ := hA
  have key : ∀ e', (match evResults P s1 a fn.results.toList with | some l => some (packed l, s1) | none => none) = some (v, s') → e' = .normal ∨ e' = .ret → bodyPost P fn F e' A' W' := fun e' he hee => by
    split at he
    · rename_i l hl
      cases he
      obtain ⟨v', h6, h7⟩ := evResults_sound h2 h4 hl
      rcases hee with rfl | rfl
      · exact ⟨h5, v', h6, hF m' v' h7 h3⟩
      · exact ⟨h5, v', h6, hF m' v' h7 h3⟩
    · cases he
  cases x with
  | normal => exact key _ e (.inl rfl)
  | ret => exact key _ e (.inr rfl)
  | exit i => cases e
theorem RS.at_ {n k : Nat} (e : n = k) {m : Mu} {a : Sls} {A : Act} (h : RS n m a A) : RS k m a A := e ▸ h
theorem tmps_is : fnR.ntmps = 126 := by kernel_rfl
theorem slot0 : gets a5 0 = unkB := by kernel_rfl
theorem slot1 : gets a5 1 = unkB := by kernel_rfl
theorem less_out (m : Mu) {a b : Int} (ha : 0 ≤ a) (ha2 : a < 256) (hb : 0 ≤ b) (hb2 : b < 256) :
    Less m (outR (.int .u8 a) (.int .u8 b) (.int .i64 (IntKind.i64.wrap a)) (.int .i64 (IntKind.i64.wrap b)) (.int .i64 (remV a)) (.int .i64 (remV b)) (.int .u8 a) (.int .u8 b)) (a7 (a % 8) (b % 8)) := by
  have f1 : ∀ y, R m (.int .u8 a) y → R m unkB y := fun y h => by rw [h.flat_eq rfl]; exact R.unkB ha ha2
  have f2 : ∀ y, R m (.int .u8 b) y → R m unkB y := fun y h => by rw [h.flat_eq rfl]; exact R.unkB hb hb2
  have f3 : ∀ (z : Int) y, R m (.int .i64 z) y → R m unkI y := fun z y h => by rw [h.flat_eq rfl]; exact R.unkI _ _
  unfold a7 outR aIn
  rw [remV_is ha ha2, remV_is hb hb2]
  exact ((((((((((Less.refl m a5).puts 0 rfl (by decide) f1).puts 1 rfl (by decide) f2).puts 18 rfl (by decide) f1).puts 19 rfl (by decide) (f3 _)).keep 20 _ rfl (by decide)).puts 21 rfl (by decide) f2).puts 22 rfl (by decide) (f3 _)).keep 23 _ rfl (by decide)).keep 8 _ rfl (by decide)).keep 9 _ rfl (by decide)
theorem fin_is {i k : Int} (h : trueB (finR i k) = true) : ∃ x a s1 s', evC 126 Tryz.prog (evDraw Tryz.prog) callR restR (a7 i k) s5 = some (x, a, s1) ∧ retOf Tryz.prog fnR.results.toList x a s1 = some (.bool true, s') := by
  obtain ⟨s', hs⟩ := trueB_eq h
  unfold finR at hs
  split at hs
  · rename_i x a s1 h1
    exact ⟨x, a, s1, s', h1, hs⟩
  · cases hs
theorem ranks_any (hfin : ∀ i k : Int, 0 ≤ i → i < 8 → 0 ≤ k → k < 8 → trueB (finR i k) = true) {w : World} (hl : Laid w) {a b : Int} (ha : 0 ≤ a) (ha2 : a < 256) (hb : 0 ≤ b) (hb2 : b < 256) :
    Calls Tryz.prog 6 #[.int .u8 a, .int .u8 b] w fun e W' => e = .returned (.bool true) ∧ Below w.heap.size w W' := by
  have hcl : CallOk Tryz.prog callR := evCall_sound (evDraw_ok Tryz.prog) orc8_ok 3000
  have hg := begun hl
  refine calls_of_wp Tryz.func6 body_is ?_
  have hrs := enter_rs (m := m0) (fn := fnR) (args := [unkB, unkB]) (args' := [.int .u8 a, .int .u8 b]) (.cons (R.unkB ha ha2) (.cons (R.unkB hb hb2) .nil)) (by rw [tmps_is]; decide) (by rw [tmps_is]; decide)
  refine evSeq_sound (evDraw_ok Tryz.prog) hcl preR _ pre_is hg.holds (RS.at_ tmps_is hrs) rfl fun A1 W1 hA1 => ?_
  obtain ⟨m1, g1, g2, g3, g4, g5⟩ := hA1
  have c0 := g4.slot 0
  have c1 := g4.slot 1
  rw [slot0] at c0
  rw [slot1] at c1
  obtain ⟨x, ex, hx, hx2⟩ := c0.byte
  obtain ⟨y, ey, hy, hy2⟩ := c1.byte
  have hr0 : RS 126 m1 (aIn (.int .u8 x) (.int .u8 y)) A1 := (g4.know 0 rfl (by rw [ex]; exact .int _ _)).know 1 rfl (by rw [ey]; exact .int _ _)
  refine wp_seq (wp_region_list (evL_sound hcl opsR.toList (reg_is x y) g2 hr0 g5 fun A2 W2 hA2 => ?_))
  obtain ⟨m2, k1, k2, k3, k4, k5⟩ := hA2
  have hr7 : RS 126 m2 (a7 (x % 8) (y % 8)) A2 := k4.less (less_out m2 hx hx2 hy hy2)
  obtain ⟨z, a8, s8, s9, hC, hret⟩ := fin_is (hfin (x % 8) (y % 8) (by omega) (by omega) (by omega) (by omega))
  refine evC_sound (evDraw_ok Tryz.prog) hcl restR hC k2 hr7 k5 fun A3 W3 hA3 => ?_
  refine post_any ((hA3.trans k1 k3).trans g1 g3) hret fun m' v' hv hbel => ?_
  rw [hv.flat_eq rfl]
  exact ⟨rfl, hbel⟩
end Go.Proofs.YtkaihgpenhaaiaaGreatDoor.Ev
