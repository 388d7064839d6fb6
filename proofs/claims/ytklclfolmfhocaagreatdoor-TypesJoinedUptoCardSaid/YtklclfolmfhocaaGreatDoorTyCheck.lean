/-
  schema.typeRight, CheckType: contracts. Written by wip/tycheckgen.py.
-/
import Derived.Test.YtklclfolmfhocaaGreatDoorTyFields
namespace Go.Proofs.YtklclfolmfhocaaGreatDoor.Tyt
open Go.ChangeShapes Go.WideShapes Go.ChangeAt Go.RowKit
open Go.Proofs.YtklclfolmfhocaaGreatDoor.Mem
set_option linter.unusedVariables false
set_option linter.unusedSimpArgs false
set_option maxRecDepth 100000
mutual
def rightB : Ty → Bool
  | .mk k nm of ov an att av => fldB (.mk k nm of ov an att av) && (rightL of && rightL att)
def rightL : List Ty → Bool
  | [] => true
  | x :: r => rightB x && rightL r
end
theorem rightB_eq (x : Ty) : rightB x = (fldB x && (rightL x.of && rightL x.att)) := by
  cases x
  rw [rightB]
  rfl
theorem rightL_step (l : List Ty) (k : Nat) (h : k < l.length) : rightL (l.drop k) = (rightB l[k] && rightL (l.drop (k + 1))) := by
  rw [List.drop_eq_getElem_cons h, rightL]
theorem rightL_end (l : List Ty) (k : Nat) (h : l.length ≤ k) : rightL (l.drop k) = true := by
  rw [List.drop_eq_nil_of_le h, rightL]
def Right (x : Ty) : Prop := ∀ (w : World), x.ok w → Ev.Core w → Calls Tryz.prog 22 #[x.val] w fun e w' => e = .returned (.bool (rightB x)) ∧ Below w.heap.size w w'
set_option maxHeartbeats 8000000 in
theorem right_step (x : Ty) (iho : ∀ z ∈ x.of, Right z) (iha : ∀ z ∈ x.att, Right z) : Right x := by
  intro w h hw
  have cF := hid (fun W (b : Below w.heap.size w W) => fields_any x W (h.below b) (hw.below b))
  obtain ⟨oo, oc, ao, ac, e1, e2, l1, l2⟩ := h.forms
  rw [Ty.val_eq e1 e2] at cF ⊢
  have hR := hid (show rightB x = (fldB x && (rightL (x.of.drop 0) && rightL (x.att.drop 0))) from rightB_eq x)
  generalize rightB x = R at hR ⊢
  generalize fldB x = fb at hR cF
  have i1 : (x.of.length : Int) ≤ 9223372036854775807 := by omega
  have i2 : (x.att.length : Int) ≤ 9223372036854775807 := by omega
  have h' := hid h
  have hw' := hid hw
  have iho' := hid iho
  have iha' := hid iha
  have e1' := hid e1
  have e2' := hid e2
  clear iho iha h e1 e2 hw
  go_enter Tryz.func22, Tryz.ntmps22
  go_upto_region 1 with fail
  have K1 := hid (Blk.new w [.int .u8 (x.kind : Nat), .string x.name, .slice oo x.of.length oc, .slice ao x.att.length ac] 26)
  have bw := hid ((Below.refl w.heap.size w).alloc (Nat.le_refl _) (.cells #[.int .u8 (x.kind : Nat), .string x.name, .slice oo x.of.length oc, .slice ao x.att.length ac] 26))
  generalize w.alloc (.cells #[.int .u8 (x.kind : Nat), .string x.name, .slice oo x.of.length oc, .slice ao x.att.length ac] 26) = X0 at K1 bw ⊢
  obtain ⟨c0, c1, c2, c3, cf⟩ := K1.out.four
  go_wp2_with fail
  refine (cF.out _ bw.out).mono ?_
  rintro e w1 ⟨rfl, b1⟩
  replace K1 := hid (K1.out.below b1 K1.out.lt)
  replace bw := hid (bt bw.out b1)
  clear b1 cF c0 c1 c2 c3 cf
  obtain ⟨c0, c1, c2, c3, cf⟩ := K1.out.four
  cases fb with
  | false =>
    go_wp2_with fail
    go_ret
    exact ⟨by rw [hR.out]; rfl, bw.out⟩
  | true =>
    replace hR := hid (hR.out.trans (Bool.true_and _))
    go_wp2_with fail
    go_loopw [13] (fun i wr => ∃ k : Nat, k ≤ x.of.length ∧ i = .int .i64 k ∧ Hid (R = (rightL (x.of.drop k) && rightL (x.att.drop 0))) ∧ Hid (Blk wr w.heap.size [.int .u8 (x.kind : Nat), .string x.name, .slice oo x.of.length oc, .slice ao x.att.length ac] 26) ∧ Hid (Below w.heap.size w wr)) (fun i _ => x.of.length - (intOf i).toNat)
    case atStart => exact ⟨0, by omega, rfl, hR, K1, bw⟩
    case round =>
      obtain ⟨k, hk, rfl, hr, K1', bw'⟩ := hrel
      clear c0 c1 c2 c3 cf K1 bw
      rename_i wr _
      by_cases hkl : k < x.of.length
      · have hki : (k : Int) < (x.of.length : Int) := by omega
        have hst := hid (show R = ((rightB x.of[k] && rightL (x.of.drop (k + 1))) && rightL (x.att.drop 0)) by rw [hr.out, rightL_step x.of k hkl])
        clear hr
        obtain ⟨xb, xo, rfl, xf0, xf1, xf2, xf3⟩ := (h'.out.below bw'.out).part e1'.out k hkl
        have hrec := hid (fun W (b : Below w.heap.size w W) => iho'.out x.of[k] (List.getElem_mem hkl) W ((h'.out.below b).parts.2.2.2.2.2.2.1 _ (List.getElem_mem hkl)) (hw'.out.below b))
        have hzok := (h'.out.below bw'.out).parts.2.2.2.2.2.2.1 _ (List.getElem_mem hkl)
        generalize x.of[k] = z at xf0 xf1 xf2 xf3 hrec hst hzok
        obtain ⟨zoo, zoc, zao, zac, ez1, ez2, zl1, zl2⟩ := hzok.forms
        have hzv := Ty.val_eq ez1 ez2
        rw [ez1] at xf2
        rw [ez2] at xf3
        clear hzok ez1 ez2
        replace hrec := hid (show ∀ W, Below w.heap.size w W → Calls Tryz.prog 22 #[.agg #[.int .u8 (z.kind : Nat), .string z.name, .slice zoo z.of.length zoc, .slice zao z.att.length zac]] W fun e w' => e = .returned (.bool (rightB z)) ∧ Below W.heap.size W w' from fun W b => by have := hrec.out W b; rw [hzv] at this; exact this)
        clear hzv
        generalize rightB z = rz at hst hrec
        go_upto_region 6 with fail
        have K4 := hid (Blk.new wr [.int .u8 (z.kind : Nat), .string z.name, .slice zoo z.of.length zoc, .slice zao z.att.length zac] 26)
        replace K1' := hid (K1'.out.alloc (.cells #[.int .u8 (z.kind : Nat), .string z.name, .slice zoo z.of.length zoc, .slice zao z.att.length zac] 26))
        replace bw' := hid (bw'.out.alloc bw'.out.size (.cells #[.int .u8 (z.kind : Nat), .string z.name, .slice zoo z.of.length zoc, .slice zao z.att.length zac] 26))
        clear xf0 xf1 xf2 xf3
        generalize wr.alloc (.cells #[.int .u8 (z.kind : Nat), .string z.name, .slice zoo z.of.length zoc, .slice zao z.att.length zac] 26) = X3 at K4 K1' bw' ⊢
        obtain ⟨f0, f1, f2, f3, ff⟩ := K4.out.four
        go_wp2_with fail
        refine (hrec.out _ bw'.out).mono ?_
        rintro e w2 ⟨rfl, b1⟩
        replace K1' := hid (K1'.out.below b1 K1'.out.lt)
        replace bw' := hid (bt bw'.out b1)
        clear b1 hrec f0 f1 f2 f3 ff K4
        cases rz with
        | false =>
          have hn := hid (show R = false by rw [hst.out]; rfl)
          clear hst
          go_wp2_with fail
          go_ret
          exact ⟨by rw [hn.out]; rfl, bw'.out⟩
        | true =>
          rw [Bool.true_and] at hst
          go_wp2_with fail
          go_roundw
          case rel => exact ⟨k + 1, by omega, by go_num, hst, K1', bw'⟩
          case measure => simp [intOf]; omega
      · have hki : ¬ (k : Int) < (x.of.length : Int) := by omega
        replace hr := hid (show R = rightL (x.att.drop 0) by rw [hr.out, rightL_end x.of k (by omega), Bool.true_and])
        obtain ⟨c0, c1, c2, c3, cf⟩ := K1'.out.four
        go_wp2_with fail
        go_loopw [24] (fun i wr => ∃ k : Nat, k ≤ x.att.length ∧ i = .int .i64 k ∧ Hid (R = rightL (x.att.drop k)) ∧ Hid (Below w.heap.size w wr)) (fun i _ => x.att.length - (intOf i).toNat)
        case atStart => exact ⟨0, by omega, rfl, hr, bw'⟩
        case round =>
          obtain ⟨k, hk, rfl, hr, bw'⟩ := hrel
          clear c0 c1 c2 c3 cf K1'
          rename_i wr _
          by_cases hkl : k < x.att.length
          · have hki : (k : Int) < (x.att.length : Int) := by omega
            have hst := hid (show R = (rightB x.att[k] && rightL (x.att.drop (k + 1))) by rw [hr.out, rightL_step x.att k hkl])
            clear hr
            have hnl : k < x.an.length := by have := h'.out.parts.2.2.2.1; omega
            obtain ⟨xb, xo, rfl, xn, xf0, xf1, xf2, xf3⟩ := (h'.out.below bw'.out).attr e2'.out k hkl hnl
            have hrec := hid (fun W (b : Below w.heap.size w W) => iha'.out x.att[k] (List.getElem_mem hkl) W ((h'.out.below b).parts.2.2.2.2.2.2.2 _ (List.getElem_mem hkl)) (hw'.out.below b))
            have hzok := (h'.out.below bw'.out).parts.2.2.2.2.2.2.2 _ (List.getElem_mem hkl)
            generalize x.an[k] = pn at xn
            generalize x.att[k] = z at xf0 xf1 xf2 xf3 hrec hst hzok
            obtain ⟨zoo, zoc, zao, zac, ez1, ez2, zl1, zl2⟩ := hzok.forms
            have hzv := Ty.val_eq ez1 ez2
            rw [ez1] at xf2
            rw [ez2] at xf3
            clear hzok ez1 ez2
            replace hrec := hid (show ∀ W, Below w.heap.size w W → Calls Tryz.prog 22 #[.agg #[.int .u8 (z.kind : Nat), .string z.name, .slice zoo z.of.length zoc, .slice zao z.att.length zac]] W fun e w' => e = .returned (.bool (rightB z)) ∧ Below W.heap.size W w' from fun W b => by have := hrec.out W b; rw [hzv] at this; exact this)
            clear hzv
            generalize rightB z = rz at hst hrec
            go_upto_region 12 with fail
            have K4 := hid (Blk.new wr [.string pn, .int .u8 (z.kind : Nat), .string z.name, .slice zoo z.of.length zoc, .slice zao z.att.length zac] 53)
            replace bw' := hid (bw'.out.alloc bw'.out.size (.cells #[.string pn, .int .u8 (z.kind : Nat), .string z.name, .slice zoo z.of.length zoc, .slice zao z.att.length zac] 53))
            clear xn xf0 xf1 xf2 xf3
            generalize wr.alloc (.cells #[.string pn, .int .u8 (z.kind : Nat), .string z.name, .slice zoo z.of.length zoc, .slice zao z.att.length zac] 53) = X3 at K4 bw' ⊢
            obtain ⟨f0, f1, f2, f3, f4, ff⟩ := five K4.out
            go_wp2_with fail
            refine (hrec.out _ bw'.out).mono ?_
            rintro e w2 ⟨rfl, b1⟩
            replace bw' := hid (bt bw'.out b1)
            clear b1 hrec f0 f1 f2 f3 f4 ff K4
            cases rz with
            | false =>
              have hn := hid (show R = false by rw [hst.out]; rfl)
              clear hst
              go_wp2_with fail
              go_ret
              exact ⟨by rw [hn.out]; rfl, bw'.out⟩
            | true =>
              rw [Bool.true_and] at hst
              go_wp2_with fail
              go_roundw
              case rel => exact ⟨k + 1, by omega, by go_num, hst, bw'⟩
              case measure => simp [intOf]; omega
          · have hki : ¬ (k : Int) < (x.att.length : Int) := by omega
            have hn := hid (show R = true by rw [hr.out]; exact rightL_end x.att k (by omega))
            clear hr
            go_wp2_with fail
            go_ret
            exact ⟨by rw [hn.out]; rfl, bw'.out⟩
theorem right_any (x : Ty) : Right x := by
  suffices h : ∀ n (x : Ty), x.size ≤ n → Right x from h x.size x (Nat.le_refl _)
  intro n
  induction n with
  | zero => intro x hx; have := x.size_pos; omega
  | succ n ih => intro x hx; exact right_step x (fun z hm => ih z (by have := Ty.size_of hm; omega)) (fun z hm => ih z (by have := Ty.size_att hm; omega))
def chkN (x : Ty) : Int := if rightB x = false then 7 else if 8 < deepN x then 4 else 0
set_option maxHeartbeats 4000000 in
theorem check_any (x : Ty) (w : World) (h : x.ok w) (hz : x.size ≤ 8388608) (hw : Ev.Core w) :
    Calls Tryz.prog 9 #[x.val] w fun e w' => e = .returned (.int .i64 (chkN x)) ∧ Below w.heap.size w w' := by
  have cR := hid (fun W (b : Below w.heap.size w W) => right_any x W (h.below b) (hw.below b))
  have cD := hid (fun W (b : Below w.heap.size w W) => deep_any x hz W (h.below b))
  have hd : deepN x ≤ 8388608 := Nat.le_trans (deep_size x.size x (Nat.le_refl _)) hz
  obtain ⟨oo, oc, ao, ac, e1, e2, l1, l2⟩ := h.forms
  rw [Ty.val_eq e1 e2] at cR cD ⊢
  obtain ⟨R, hR⟩ : ∃ R, chkN x = R := ⟨_, rfl⟩
  rw [hR]
  replace hR := hid (hR.symm.trans (show chkN x = _ by unfold chkN; rfl))
  clear h e1 e2 hw
  generalize rightB x = rb at *
  generalize deepN x = dn at *
  go_enter Tryz.func9, Tryz.ntmps9
  go_upto_region 1 with fail
  have K1 := hid (Blk.new w [.int .u8 (x.kind : Nat), .string x.name, .slice oo x.of.length oc, .slice ao x.att.length ac] 26)
  have bw := hid ((Below.refl w.heap.size w).alloc (Nat.le_refl _) (.cells #[.int .u8 (x.kind : Nat), .string x.name, .slice oo x.of.length oc, .slice ao x.att.length ac] 26))
  generalize w.alloc (.cells #[.int .u8 (x.kind : Nat), .string x.name, .slice oo x.of.length oc, .slice ao x.att.length ac] 26) = X0 at K1 bw ⊢
  obtain ⟨c0, c1, c2, c3, cf⟩ := K1.out.four
  go_wp2_with fail
  refine (cR.out _ bw.out).mono ?_
  rintro e w1 ⟨rfl, b1⟩
  replace K1 := hid (K1.out.below b1 K1.out.lt)
  replace bw := hid (bt bw.out b1)
  clear b1 cR c0 c1 c2 c3 cf
  obtain ⟨c0, c1, c2, c3, cf⟩ := K1.out.four
  cases rb with
  | false =>
    replace hR := hid (hR.out.trans (if_pos rfl))
    go_wp2_with fail
    go_ret
    exact ⟨by rw [hR.out]; rfl, bw.out⟩
  | true =>
    replace hR := hid (hR.out.trans (if_neg (by simp)))
    go_wp2_with fail
    refine (cD.out _ bw.out).mono ?_
    rintro e w2 ⟨rfl, b1⟩
    replace bw := hid (bt bw.out b1)
    clear b1 cD c0 c1 c2 c3 cf
    by_cases h1 : 8 < dn
    · have h1i : (8 : Int) < (dn : Int) := by omega
      replace hR := hid (hR.out.trans (if_pos h1))
      clear h1
      go_wp2_with fail
      go_ret
      exact ⟨by rw [hR.out]; rfl, bw.out⟩
    · have h1i : ¬ (8 : Int) < (dn : Int) := by omega
      replace hR := hid (hR.out.trans (if_neg h1))
      clear h1
      go_wp2_with fail
      go_ret
      exact ⟨by rw [hR.out]; rfl, bw.out⟩
end Go.Proofs.YtklclfolmfhocaaGreatDoor.Tyt
