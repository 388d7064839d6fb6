/-
  lictorref08.show, Print: contracts.
-/
import Derived.Test.YtbcjppbiihgfpaaGreatDoorExRefSA
import Derived.Test.YtbcjppbiihgfpaaGreatDoorExRefSB
import Derived.Test.YtbcjppbiihgfpaaGreatDoorExRefSC
import Derived.Test.YtbcjppbiihgfpaaGreatDoorPrAll
namespace Go.Proofs.YtbcjppbiihgfpaaGreatDoor.Ex
open Go.ChangeShapes Go.WideShapes Go.ChangeAt Go.RowKit
open Go.Proofs.YtbcjppbiihgfpaaGreatDoor.Mem Go.Proofs.YtbcjppbiihgfpaaGreatDoor.Lik
set_option linter.unusedVariables false
set_option linter.unusedSimpArgs false
set_option maxRecDepth 100000
theorem rshow_step (x : T) (ih : ∀ z ∈ x.list, RShow z) : RShow x := by
  intro w h hz hr
  have hk := kind_range hr
  have key : x.kind = 1 ∨ x.kind = 2 ∨ x.kind = 3 ∨ x.kind = 4 ∨ x.kind = 5 ∨ x.kind = 6 ∨ x.kind = 7 ∨ x.kind = 8 ∨ x.kind = 9 ∨ x.kind = 10 ∨ x.kind = 11 ∨ x.kind = 12 ∨ x.kind = 13 ∨ x.kind = 14 ∨ (15 ≤ x.kind ∧ x.kind ≤ 26) ∨ x.kind = 27 ∨ x.kind = 28 ∨ x.kind = 29 := by omega
  rcases key with e | e | e | e | e | e | e | e | e | e | e | e | e | e | e | e | e | e
  · exact rshow_bool x ih e w h hz hr
  · exact rshow_long x ih e w h hz hr
  · exact rshow_text x ih e w h hz hr
  · exact rshow_entity x ih e w h hz hr
  · exact rshow_var x ih e w h hz hr
  · rcases Nat.eq_zero_or_pos x.list.length with g | g
    · exact rshow_set_nil x ih e g w h hz hr
    · exact rshow_set_some x ih e g w h hz hr
  · rcases Nat.eq_zero_or_pos x.list.length with g | g
    · exact rshow_record_nil x ih e g w h hz hr
    · exact rshow_record_some x ih e g w h hz hr
  · exact rshow_attr x ih e w h hz hr
  · exact rshow_has x ih e w h hz hr
  · exact rshow_is x ih e w h hz hr
  · exact rshow_like x ih e w h hz hr
  · exact rshow_not x ih e w h hz hr
  · exact rshow_neg x ih e w h hz hr
  · exact rshow_choice x ih e w h hz hr
  · exact rshow_pair x ih e w h hz hr
  · exact rshow_call27 x ih e w h hz hr
  · exact rshow_call28 x ih e w h hz hr
  · exact rshow_call29 x ih e w h hz hr
theorem rshow_any (x : T) : RShow x := by
  suffices h : ∀ n (x : T), x.size ≤ n → RShow x from h x.size x (Nat.le_refl _)
  intro n
  induction n with
  | zero => intro x hx; have := x.size_pos; omega
  | succ n ih => intro x hx; exact rshow_step x (fun z hm => ih z (by have := T.size_part hm; omega))
theorem chk_right {x : T} (h : chkN x = 0) : rightB x = true := by
  unfold chkN at h
  cases q : rightB x with
  | true => rfl
  | false => rw [q, if_pos rfl] at h; cases h
set_option maxHeartbeats 4000000 in
/-- lictorref08.Print, of an expression of at most 8388608 nodes -/
theorem rprint_any (x : T) (w : World) (h : x.ok w) (hz : x.size ≤ 8388608) (hs : Sta w) :
    Calls Tryz.prog 7 #[x.val] w fun e w' => e = .returned (.tuple #[.string (bs (if chkN x = 0 then showT x else [])), .int .i64 (chkN x)]) ∧ Below w.heap.size w w' := by
  have cC := hid (fun W (b : Below w.heap.size w W) => rcheck_any x W (h.below b) hz (hs.below b))
  have cS := hid (fun (hc : chkN x = 0) W (b : Below w.heap.size w W) => rshow_any x W (h.below b) hz (chk_right hc))
  obtain ⟨no, nc, lo, lc, e1, e2, l1, l2⟩ := h.forms
  rw [T.val_eq e1 e2] at cC cS ⊢
  generalize showT x = sx at *
  generalize chkN x = c at *
  have bw0 := hid (Below.refl w.heap.size w)
  clear h hz hs e1 e2 l1 l2
  generalize x.list.length = ll at *
  generalize x.names.length = ln at *
  generalize x.kind = k at *
  by_cases h0 : c = 0
  · subst h0
    rw [if_pos rfl]
    replace cS := hid (cS.out rfl)
    go_enter Tryz.func7, Tryz.ntmps7
    go_upto_region 1 with fail
    have K1 := hid (Blk.new w [.int .u8 (k : Nat), .int .i64 x.num, .string x.str, .string x.typ, .slice no ln nc, .slice lo ll lc] 26)
    have bw := hid (bw0.out.alloc (Nat.le_refl _) (.cells #[.int .u8 (k : Nat), .int .i64 x.num, .string x.str, .string x.typ, .slice no ln nc, .slice lo ll lc] 26))
    generalize w.alloc (.cells #[.int .u8 (k : Nat), .int .i64 x.num, .string x.str, .string x.typ, .slice no ln nc, .slice lo ll lc] 26) = X0 at K1 bw ⊢
    clear bw0
    have cQ := hid (cC.out X0 bw.out)
    obtain ⟨c0, c1, c2, c3, c4, c5, cf⟩ := six K1.out
    go_wp2_with fail
    refine cQ.out.mono ?_
    rintro e X1 ⟨rfl, b1⟩
    replace K1 := hid (K1.out.below b1 K1.out.lt)
    replace bw := hid (bt bw.out b1)
    clear c0 c1 c2 c3 c4 c5 cf cQ cC b1
    have cT := hid (cS.out X1 bw.out)
    obtain ⟨c0, c1, c2, c3, c4, c5, cf⟩ := six K1.out
    go_wp2_with fail
    refine cT.out.mono ?_
    rintro e X2 ⟨rfl, b1⟩
    replace bw := hid (bt bw.out b1)
    clear c0 c1 c2 c3 c4 c5 cf cT cS b1 K1
    go_wp2_with fail
    go_ret2
    exact ⟨rfl, bw.out⟩
  · rw [if_neg h0]
    clear cS
    go_enter Tryz.func7, Tryz.ntmps7
    go_upto_region 1 with fail
    have K1 := hid (Blk.new w [.int .u8 (k : Nat), .int .i64 x.num, .string x.str, .string x.typ, .slice no ln nc, .slice lo ll lc] 26)
    have bw := hid (bw0.out.alloc (Nat.le_refl _) (.cells #[.int .u8 (k : Nat), .int .i64 x.num, .string x.str, .string x.typ, .slice no ln nc, .slice lo ll lc] 26))
    generalize w.alloc (.cells #[.int .u8 (k : Nat), .int .i64 x.num, .string x.str, .string x.typ, .slice no ln nc, .slice lo ll lc] 26) = X0 at K1 bw ⊢
    clear bw0
    have cQ := hid (cC.out X0 bw.out)
    obtain ⟨c0, c1, c2, c3, c4, c5, cf⟩ := six K1.out
    go_wp2_with fail
    refine cQ.out.mono ?_
    rintro e X1 ⟨rfl, b1⟩
    replace bw := hid (bt bw.out b1)
    clear c0 c1 c2 c3 c4 c5 cf cQ cC b1 K1
    go_wp2_with fail
    go_ret2
    exact ⟨rfl, bw.out⟩
end Go.Proofs.YtbcjppbiihgfpaaGreatDoor.Ex
