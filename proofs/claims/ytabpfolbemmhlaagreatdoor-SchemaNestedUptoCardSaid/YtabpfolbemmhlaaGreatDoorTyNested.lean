/-
  lictorlaw10.SchemaNested: the walk. Written by wip/tynestgen.py.
-/
import Derived.Test.YtabpfolbemmhlaaGreatDoorTyCheck
import Derived.Test.YtabpfolbemmhlaaGreatDoorEvLives10
namespace Go.Proofs.YtabpfolbemmhlaaGreatDoor.Tyt
open Go.ChangeShapes Go.WideShapes Go.ChangeAt Go.RowKit
open Go.Proofs.YtabpfolbemmhlaaGreatDoor.Mem
set_option linter.unusedVariables false
set_option linter.unusedSimpArgs false
set_option maxRecDepth 100000
def setOf (x : Ty) (v : Value) : Ty := .mk 5 ⟨#[]⟩ [x] v [] [] (.slice none 0 0)
def recOf (x : Ty) (v : Value) : Ty := .mk 6 ⟨#[]⟩ [] (.slice none 0 0) [⟨#[97]⟩] [x] v
theorem slv_one {W : World} {b n : Nat} {cs : List Value} {ty : TypeId} (hB : Blk W b cs ty) : SlV W (.slice (some ⟨b, 0, none⟩) 1 1) 1 cs := by
  refine ⟨some ⟨b, 0, none⟩, 1, rfl, by omega, by decide, (fun e => by cases e), (fun e => by cases e), fun a ha j hj => ?_⟩
  cases ha
  rw [Mem.add_plain, Nat.zero_add]
  exact hB.cell j hj
theorem set_ok {W : World} {x : Ty} {b : Nat} {ty : TypeId} (hx : x.ok W) (hB : Blk W b x.enc ty) : (setOf x (.slice (some ⟨b, 0, none⟩) 1 1)).ok W := by
  refine Ty.ok.mk' ⟨show 5 < 256 by omega, show (0 : Nat) ≤ _ by omega, (fun y (hy : y ∈ ([] : List ByteArray)) => by cases hy), rfl, ?_, SlV.nil W, ?_, (fun y (hy : y ∈ ([] : List Ty)) => by cases hy)⟩
  · show SlV W _ 1 (Ty.encL [x])
    rw [show Ty.encL [x] = x.enc from by unfold Ty.encL; simp]
    exact slv_one (n := 0) hB
  · intro y hy
    have hy2 : y ∈ [x] := hy
    rw [List.mem_singleton.1 hy2]
    exact hx
theorem rec_ok {W : World} {x : Ty} {b : Nat} {ty : TypeId} (hx : x.ok W) (hB : Blk W b (.string ⟨#[97]⟩ :: x.enc) ty) : (recOf x (.slice (some ⟨b, 0, none⟩) 1 1)).ok W := by
  refine Ty.ok.mk' ⟨show 6 < 256 by omega, show (0 : Nat) ≤ _ by omega, ?_, rfl, SlV.nil W, ?_, (fun y (hy : y ∈ ([] : List Ty)) => by cases hy), ?_⟩
  · intro y hy
    have hy2 : y ∈ [(⟨#[97]⟩ : ByteArray)] := hy
    rw [List.mem_singleton.1 hy2]
    show (1 : Nat) ≤ _
    omega
  · show SlV W _ 1 (Ty.encA [⟨#[97]⟩] [x])
    rw [show Ty.encA [⟨#[97]⟩] [x] = .string ⟨#[97]⟩ :: x.enc from by simp [Ty.encA, Ty.encP]]
    exact slv_one (n := 0) hB
  · intro y hy
    have hy2 : y ∈ [x] := hy
    rw [List.mem_singleton.1 hy2]
    exact hx
theorem set_fld (x : Ty) (v : Value) : fldB (setOf x v) = true := rfl
theorem attr_a : attrsB [⟨#[97]⟩] = true := by kernel_rfl
theorem rec_fld (x : Ty) (v : Value) : fldB (recOf x v) = true := by
  show (attrsB [⟨#[97]⟩] && _) = true
  rw [attr_a]
  rfl
theorem set_chk (x : Ty) (v : Value) : chkN (setOf x v) = if rightB x = false then 7 else if 8 < deepN x + 1 then 4 else 0 := by
  unfold chkN
  rw [rightB_eq, deepN_eq, set_fld]
  show (if (true && (rightL [x] && rightL [])) = false then (7 : Int) else if 8 < max (deepL [x]) (deepL []) + 1 then 4 else 0) = _
  simp [rightL, deepL]
theorem rec_chk (x : Ty) (v : Value) : chkN (recOf x v) = if rightB x = false then 7 else if 8 < deepN x + 1 then 4 else 0 := by
  unfold chkN
  rw [rightB_eq, deepN_eq, rec_fld]
  show (if (true && (rightL [] && rightL [x])) = false then (7 : Int) else if 8 < max (deepL []) (deepL [x]) + 1 then 4 else 0) = _
  simp [rightL, deepL]
set_option maxHeartbeats 8000000 in
theorem nested_walk (x : Ty) (w : World) (h : x.ok w) (hz : x.size ≤ 1048576) (hw : Ev.LaidS w) :
    Calls Tryz.prog 8 #[x.val] w fun e w' => e = .returned (.bool true) ∧ Below w.heap.size w w' := by
  have cL := hid (fun W (b : Below w.heap.size w W) => Ev.lives10_any (hw.below b))
  have cX := hid (fun W (b : Below w.heap.size w W) => check_any x W (h.below b) (by omega) (hw.below b).toCore)
  have cS := hid (fun (b : Nat) (cs : List Value) (ty : TypeId) (hc : cs = x.enc) W (b' : Below w.heap.size w W) (hB : Blk W b cs ty) =>
    check_any (setOf x (.slice (some ⟨b, 0, none⟩) 1 1)) W (set_ok (h.below b') (hc ▸ hB)) (by rw [Ty.size_eq]; show Ty.sizeL [x] + Ty.sizeL [] + 1 ≤ _; simp only [Ty.sizeL]; omega) (hw.below b').toCore)
  have cR := hid (fun (b : Nat) (cs : List Value) (ty : TypeId) (hc : cs = .string ⟨#[97]⟩ :: x.enc) W (b' : Below w.heap.size w W) (hB : Blk W b cs ty) =>
    check_any (recOf x (.slice (some ⟨b, 0, none⟩) 1 1)) W (rec_ok (h.below b') (hc ▸ hB)) (by rw [Ty.size_eq]; show Ty.sizeL [] + Ty.sizeL [x] + 1 ≤ _; simp only [Ty.sizeL]; omega) (hw.below b').toCore)
  obtain ⟨c, hc⟩ : ∃ c, chkN x = c := ⟨_, rfl⟩
  obtain ⟨d, hd⟩ : ∃ d : Int, (if rightB x = false then 7 else if 8 < deepN x + 1 then 4 else 0) = d := ⟨_, rfl⟩
  have hcd : (c = 7 ∧ d = 7) ∨ (c = 4 ∧ d = 4) ∨ (c = 0 ∧ d = 4) ∨ (c = 0 ∧ d = 0) := by
    rw [← hc, ← hd]
    unfold chkN
    cases rightB x with
    | false => exact .inl ⟨rfl, rfl⟩
    | true =>
      simp only [Bool.true_eq_false, if_false]
      by_cases h1 : 8 < deepN x
      · rw [if_pos h1, if_pos (by omega)]; exact .inr (.inl ⟨rfl, rfl⟩)
      · rw [if_neg h1]
        by_cases h2 : 8 < deepN x + 1
        · rw [if_pos h2]; exact .inr (.inr (.inl ⟨rfl, rfl⟩))
        · rw [if_neg h2]; exact .inr (.inr (.inr ⟨rfl, rfl⟩))
  have hS := hid (fun v => (set_chk x v).trans hd)
  have hRc := hid (fun v => (rec_chk x v).trans hd)
  rw [hc] at cX
  replace hcd := hid hcd
  clear hc hd
  obtain ⟨oo, oc, ao, ac, e1, e2, l1, l2⟩ := h.forms
  have hv := Ty.val_eq e1 e2
  rw [hv] at cX ⊢
  have hE : x.enc = [.int .u8 (x.kind : Nat), .string x.name, .slice oo x.of.length oc, .slice ao x.att.length ac] := by
    have : x.val = .agg x.enc.toArray := rfl
    rw [this, Value.agg.injEq] at hv
    have := congrArg Array.toList hv
    simpa using this
  have hE1 := hid (show [.int .u8 (x.kind : Nat), .string x.name, .slice oo x.of.length oc, .slice ao x.att.length ac] = x.enc from hE.symm)
  have hE2 := hid (show [.string ⟨#[97]⟩, .int .u8 (x.kind : Nat), .string x.name, .slice oo x.of.length oc, .slice ao x.att.length ac] = .string ⟨#[97]⟩ :: x.enc by rw [hE])
  clear hv hE h hw e1 e2 hz
  go_enter Tryz.func8, Tryz.ntmps8
  go_upto_region 1 with fail
  have K1 := hid (Blk.new w [.int .u8 (x.kind : Nat), .string x.name, .slice oo x.of.length oc, .slice ao x.att.length ac] 54)
  have bw := hid ((Below.refl w.heap.size w).alloc (Nat.le_refl _) (.cells #[.int .u8 (x.kind : Nat), .string x.name, .slice oo x.of.length oc, .slice ao x.att.length ac] 54))
  generalize w.alloc (.cells #[.int .u8 (x.kind : Nat), .string x.name, .slice oo x.of.length oc, .slice ao x.att.length ac] 54) = X0 at K1 bw ⊢
  go_wp2_with fail
  refine (cL.out _ bw.out).mono ?_
  rintro e w1 ⟨rfl, b1⟩
  replace K1 := hid (K1.out.below b1 K1.out.lt)
  replace bw := hid (bt bw.out b1)
  clear b1 cL
  obtain ⟨c0, c1, c2, c3, cf⟩ := K1.out.four
  go_wp2_with fail
  refine (cX.out _ bw.out).mono ?_
  rintro e w2 ⟨rfl, b1⟩
  replace K1 := hid (K1.out.below b1 K1.out.lt)
  replace bw := hid (bt bw.out b1)
  clear b1 cX c0 c1 c2 c3 cf
  obtain ⟨c0, c1, c2, c3, cf⟩ := K1.out.four
  go_wp2_with fail
  have G := hid (Blk.new w2 [.int .u8 (x.kind : Nat), .string x.name, .slice oo x.of.length oc, .slice ao x.att.length ac] 54)
  replace bw := hid (bw.out.alloc bw.out.size (.cells #[.int .u8 (x.kind : Nat), .string x.name, .slice oo x.of.length oc, .slice ao x.att.length ac] 54))
  replace K1 := hid (K1.out.alloc (.cells #[.int .u8 (x.kind : Nat), .string x.name, .slice oo x.of.length oc, .slice ao x.att.length ac] 54))
  have q1 := hS.out (.slice (some ⟨w2.heap.size, 0, none⟩) 1 1)
  have hcall := cS.out w2.heap.size _ _ hE1.out _ bw.out G.out
  rw [q1] at hcall
  refine hcall.mono ?_
  rintro e w3 ⟨rfl, b1⟩
  replace K1 := hid (K1.out.below b1 K1.out.lt)
  replace bw := hid (bt bw.out b1)
  clear b1 hcall q1 G cS c0 c1 c2 c3 cf
  obtain ⟨c0, c1, c2, c3, cf⟩ := K1.out.four
  go_wp2_with fail
  have G := hid (Blk.new w3 [.string ⟨#[97]⟩, .int .u8 (x.kind : Nat), .string x.name, .slice oo x.of.length oc, .slice ao x.att.length ac] 57)
  replace bw := hid (bw.out.alloc bw.out.size (.cells #[.string ⟨#[97]⟩, .int .u8 (x.kind : Nat), .string x.name, .slice oo x.of.length oc, .slice ao x.att.length ac] 57))
  have q1 := hRc.out (.slice (some ⟨w3.heap.size, 0, none⟩) 1 1)
  have hcall := cR.out w3.heap.size _ _ hE2.out _ bw.out G.out
  rw [q1] at hcall
  refine hcall.mono ?_
  rintro e w4 ⟨rfl, b1⟩
  replace bw := hid (bt bw.out b1)
  clear b1 hcall q1 G cR c0 c1 c2 c3 cf
  rcases hcd.out with ⟨rfl, rfl⟩ | ⟨rfl, rfl⟩ | ⟨rfl, rfl⟩ | ⟨rfl, rfl⟩
  all_goals
    go_wp2_with fail
    go_ret
    exact ⟨rfl, bw.out⟩
end Go.Proofs.YtabpfolbemmhlaaGreatDoor.Tyt
