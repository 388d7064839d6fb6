/-
  schema.deep: how deep a type is nested; its contract. Written by wip/tygen.py.
-/
import Derived.Test.YtklclfolmfhocaaGreatDoorTyTree
import Derived.Test.YtklclfolmfhocaaGreatDoorRows
import Derived.WalkKit
import Derived.ProofKit
import Derived.OpenShut
import Derived.Handy
import Derived.Outline
import Derived.Deep.Cut
namespace Go.Proofs.YtklclfolmfhocaaGreatDoor.Tyt
open Go.ChangeShapes Go.WideShapes Go.ChangeAt Go.RowKit
open Go.Proofs.YtklclfolmfhocaaGreatDoor.Mem
set_option linter.unusedVariables false
set_option linter.unusedSimpArgs false
set_option maxRecDepth 100000
mutual
def deepN : Ty → Nat
  | .mk _ _ of _ _ att _ => max (deepL of) (deepL att) + 1
def deepL : List Ty → Nat
  | [] => 0
  | x :: r => max (deepN x) (deepL r)
end
theorem deepN_eq (x : Ty) : deepN x = max (deepL x.of) (deepL x.att) + 1 := by
  cases x
  rw [deepN]
  rfl
theorem deepL_append (a b : List Ty) : deepL (a ++ b) = max (deepL a) (deepL b) := by
  induction a with
  | nil => simp [deepL]
  | cons x a ih => rw [List.cons_append, deepL, deepL, ih]; omega
theorem deepL_size (n : Nat) (ih : ∀ y : Ty, y.size ≤ n → deepN y ≤ y.size) : ∀ l : List Ty, Ty.sizeL l ≤ n → deepL l ≤ Ty.sizeL l := by
  intro l
  induction l with
  | nil => intro _; simp [deepL]
  | cons y l ihl =>
    intro hl
    rw [Ty.sizeL] at hl ⊢
    rw [deepL]
    have h1 := ih y (by omega)
    have h2 := ihl (by omega)
    omega
theorem deep_size : ∀ (n : Nat) (x : Ty), x.size ≤ n → deepN x ≤ x.size := by
  intro n
  induction n with
  | zero => intro x h; have := x.size_pos; omega
  | succ n ih =>
    intro x h
    rw [deepN_eq]
    rw [Ty.size_eq] at h ⊢
    have h1 := deepL_size n ih x.of (by omega)
    have h2 := deepL_size n ih x.att (by omega)
    omega
/-- the greatest depth, beginning at a, of the first k -/
def to (a : Nat) (l : List Ty) (k : Nat) : Nat := max a (deepL (l.take k))
theorem to_zero (a : Nat) (l : List Ty) : to a l 0 = a := by unfold to; simp [deepL]
theorem to_step (a : Nat) (l : List Ty) (k : Nat) (h : k < l.length) : to a l (k + 1) = max (to a l k) (deepN l[k]) := by
  unfold to
  rw [List.take_succ_eq_append_getElem h, deepL_append, deepL, deepL]
  omega
theorem to_end (a : Nat) (l : List Ty) (k : Nat) (h : l.length ≤ k) : to a l k = max a (deepL l) := by
  unfold to
  rw [List.take_of_length_le h]
theorem to_le (a : Nat) (l : List Ty) (k : Nat) : to a l k ≤ max a (deepL l) := by
  unfold to
  have : deepL l = max (deepL (l.take k)) (deepL (l.drop k)) := by rw [← deepL_append, List.take_append_drop]
  omega
theorem max_run (a b : Nat) (ts : Array TypeId) (t : TypeId) (W : World) : (Builtin.max_ ts t #[.int .i64 (a : Int), .int .i64 (b : Int)]).run Tryz.prog W = .ok (.int .i64 ((max a b : Nat) : Int)) W := by
  rw [run_max_int2]
  have : (if (a : Int) < (b : Int) then (b : Int) else (a : Int)) = ((max a b : Nat) : Int) := by
    split <;> omega
  rw [this]
def Deep (x : Ty) : Prop := ∀ (w : World), x.ok w → Calls Tryz.prog 23 #[x.val] w fun e w' => e = .returned (.int .i64 (deepN x : Nat)) ∧ Below w.heap.size w w'
set_option maxHeartbeats 8000000 in
theorem deep_step (x : Ty) (hsz : x.size ≤ 8388608) (iho : ∀ z ∈ x.of, Deep z) (iha : ∀ z ∈ x.att, Deep z) : Deep x := by
  intro w h
  obtain ⟨oo, oc, ao, ac, e1, e2, l1, l2⟩ := h.forms
  rw [Ty.val_eq e1 e2]
  have hR' := hid (deepN_eq x)
  have hb : Hid (∀ k, to (deepL x.of) x.att k ≤ 8388608 - 1 ∧ to 0 x.of k ≤ 8388608 - 1) := hid (fun k => by
    have h1 := deep_size x.size x (Nat.le_refl _)
    rw [deepN_eq] at h1
    have h2 := to_le (deepL x.of) x.att k
    have h3 := to_le 0 x.of k
    omega)
  generalize deepN x = R at hR' ⊢
  have i1 : (x.of.length : Int) ≤ 9223372036854775807 := by omega
  have i2 : (x.att.length : Int) ≤ 9223372036854775807 := by omega
  have h' := hid h
  have iho' := hid iho
  have iha' := hid iha
  have e1' := hid e1
  have e2' := hid e2
  clear iho iha h e1 e2 hsz
  go_enter Tryz.func23, Tryz.ntmps23
  go_upto_region 1 with fail
  have K1 := hid (Blk.new w [.int .u8 (x.kind : Nat), .string x.name, .slice oo x.of.length oc, .slice ao x.att.length ac] 26)
  have bw := hid ((Below.refl w.heap.size w).alloc (Nat.le_refl _) (.cells #[.int .u8 (x.kind : Nat), .string x.name, .slice oo x.of.length oc, .slice ao x.att.length ac] 26))
  generalize w.alloc (.cells #[.int .u8 (x.kind : Nat), .string x.name, .slice oo x.of.length oc, .slice ao x.att.length ac] 26) = X0 at K1 bw ⊢
  obtain ⟨c0, c1, c2, c3, cf⟩ := K1.out.four
  go_wp2_with fail
  go_loopw [3, 11] (fun av i wr => ∃ k : Nat, k ≤ x.of.length ∧ i = .int .i64 k ∧ av = .int .i64 (to 0 x.of k : Nat) ∧ Hid (Blk wr w.heap.size [.int .u8 (x.kind : Nat), .string x.name, .slice oo x.of.length oc, .slice ao x.att.length ac] 26) ∧ Hid (Below w.heap.size w wr)) (fun _ i _ => x.of.length - (intOf i).toNat)
  case atStart => exact ⟨0, by omega, rfl, by rw [to_zero]; rfl, K1, bw⟩
  case round =>
    obtain ⟨k, hk, rfl, rfl, K1', bw'⟩ := hrel
    clear c0 c1 c2 c3 cf K1 bw
    rename_i wr _
    by_cases hkl : k < x.of.length
    · have hki : (k : Int) < (x.of.length : Int) := by omega
      have hst := to_step 0 x.of k hkl
      have hb1 := (hb.out k).2
      have hb2 := (hb.out (k + 1)).2
      obtain ⟨xb, xo, rfl, xf0, xf1, xf2, xf3⟩ := (h'.out.below bw'.out).part e1'.out k hkl
      have hrec := hid (fun W (b : Below w.heap.size w W) => iho'.out x.of[k] (List.getElem_mem hkl) W ((h'.out.below b).parts.2.2.2.2.2.2.1 _ (List.getElem_mem hkl))  )
      have hzok := (h'.out.below bw'.out).parts.2.2.2.2.2.2.1 _ (List.getElem_mem hkl)
      obtain ⟨A2, hA2⟩ : ∃ A2, to 0 x.of (k + 1) = A2 := ⟨_, rfl⟩
      rw [hA2] at hst hb2
      replace hA2 := hid hA2
      generalize to 0 x.of k = A1 at hst hb1 ⊢
      generalize x.of[k] = z at xf0 xf1 xf2 xf3 hrec hst hzok
      obtain ⟨zoo, zoc, zao, zac, ez1, ez2, zl1, zl2⟩ := hzok.forms
      have hzv := Ty.val_eq ez1 ez2
      rw [ez1] at xf2
      rw [ez2] at xf3
      clear hzok ez1 ez2
      replace hrec := hid (show ∀ W, Below w.heap.size w W → Calls Tryz.prog 23 #[.agg #[.int .u8 (z.kind : Nat), .string z.name, .slice zoo z.of.length zoc, .slice zao z.att.length zac]] W fun e w' => e = .returned (.int .i64 (deepN z : Nat)) ∧ Below W.heap.size W w' from fun W b => by have := hrec.out W b; rw [hzv] at this; exact this)
      clear hzv
      generalize deepN z = dz at hst hrec
      go_upto_region 5 with fail
      have K4 := hid (Blk.new wr [.int .u8 (z.kind : Nat), .string z.name, .slice zoo z.of.length zoc, .slice zao z.att.length zac] 26)
      replace K1' := hid (K1'.out.alloc (.cells #[.int .u8 (z.kind : Nat), .string z.name, .slice zoo z.of.length zoc, .slice zao z.att.length zac] 26))
      replace bw' := hid (bw'.out.alloc bw'.out.size (.cells #[.int .u8 (z.kind : Nat), .string z.name, .slice zoo z.of.length zoc, .slice zao z.att.length zac] 26))
      clear xf0 xf1 xf2 xf3
      generalize wr.alloc (.cells #[.int .u8 (z.kind : Nat), .string z.name, .slice zoo z.of.length zoc, .slice zao z.att.length zac] 26) = X3 at K4 K1' bw' ⊢
      obtain ⟨f0, f1, f2, f3, ff⟩ := K4.out.four
      go_wp2_with fail
      refine (hrec.out _ bw'.out).mono ?_
      rintro e w2 ⟨rfl, b1⟩
      replace K1' := hid (K1'.out.below b1 K1'.out.lt)
      replace bw' := hid (bt bw'.out b1)
      clear b1 hrec f0 f1 f2 f3 ff K4
      have hmx := fun ts t W => max_run A1 dz ts t W
      rw [← hst] at hmx
      go_wp2_with fail
      go_roundw
      case rel => exact ⟨k + 1, by omega, by go_num, by first | (rw [hA2.out, hst]; done) | (rw [hA2.out]; done) | (rw [hA2.out]; congr 1; omega), K1', bw'⟩
      case measure => simp [intOf]; omega
    · have hki : ¬ (k : Int) < (x.of.length : Int) := by omega
      have hz := to_end 0 x.of k (by omega)
      have hz0 : to 0 x.of k = deepL x.of := by omega
      rw [hz0]
      clear hz hz0
      have hstart := hid (to_zero (deepL x.of) x.att)
      obtain ⟨c0, c1, c2, c3, cf⟩ := K1'.out.four
      go_wp2_with fail
      go_loopw [3, 23] (fun av i wr => ∃ k : Nat, k ≤ x.att.length ∧ i = .int .i64 k ∧ av = .int .i64 (to (deepL x.of) x.att k : Nat) ∧ Hid (Below w.heap.size w wr)) (fun _ i _ => x.att.length - (intOf i).toNat)
      case atStart => exact ⟨0, by omega, rfl, by rw [hstart.out], bw'⟩
      case round =>
        obtain ⟨k, hk, rfl, rfl, bw'⟩ := hrel
        clear c0 c1 c2 c3 cf K1'
        rename_i wr _
        by_cases hkl : k < x.att.length
        · have hki : (k : Int) < (x.att.length : Int) := by omega
          have hst := to_step (deepL x.of) x.att k hkl
          have hb1 := (hb.out k).1
          have hb2 := (hb.out (k + 1)).1
          have hnl : k < x.an.length := by have := h'.out.parts.2.2.2.1; omega
          obtain ⟨xb, xo, rfl, xn, xf0, xf1, xf2, xf3⟩ := (h'.out.below bw'.out).attr e2'.out k hkl hnl
          have hrec := hid (fun W (b : Below w.heap.size w W) => iha'.out x.att[k] (List.getElem_mem hkl) W ((h'.out.below b).parts.2.2.2.2.2.2.2 _ (List.getElem_mem hkl))  )
          have hzok := (h'.out.below bw'.out).parts.2.2.2.2.2.2.2 _ (List.getElem_mem hkl)
          obtain ⟨A2, hA2⟩ : ∃ A2, to (deepL x.of) x.att (k + 1) = A2 := ⟨_, rfl⟩
          rw [hA2] at hst hb2
          replace hA2 := hid hA2
          generalize to (deepL x.of) x.att k = A1 at hst hb1 ⊢
          generalize x.an[k] = pn at xn
          generalize x.att[k] = z at xf0 xf1 xf2 xf3 hrec hst hzok
          obtain ⟨zoo, zoc, zao, zac, ez1, ez2, zl1, zl2⟩ := hzok.forms
          have hzv := Ty.val_eq ez1 ez2
          rw [ez1] at xf2
          rw [ez2] at xf3
          clear hzok ez1 ez2
          replace hrec := hid (show ∀ W, Below w.heap.size w W → Calls Tryz.prog 23 #[.agg #[.int .u8 (z.kind : Nat), .string z.name, .slice zoo z.of.length zoc, .slice zao z.att.length zac]] W fun e w' => e = .returned (.int .i64 (deepN z : Nat)) ∧ Below W.heap.size W w' from fun W b => by have := hrec.out W b; rw [hzv] at this; exact this)
          clear hzv
          generalize deepN z = dz at hst hrec
          go_upto_region 10 with fail
          have K4 := hid (Blk.new wr [.string pn, .int .u8 (z.kind : Nat), .string z.name, .slice zoo z.of.length zoc, .slice zao z.att.length zac] 53)
          replace bw' := hid (bw'.out.alloc bw'.out.size (.cells #[.string pn, .int .u8 (z.kind : Nat), .string z.name, .slice zoo z.of.length zoc, .slice zao z.att.length zac] 53))
          clear xn xf0 xf1 xf2 xf3
          generalize wr.alloc (.cells #[.string pn, .int .u8 (z.kind : Nat), .string z.name, .slice zoo z.of.length zoc, .slice zao z.att.length zac] 53) = X3 at K4 bw' ⊢
          obtain ⟨f0, f1, f2, f3, f4, ff⟩ := five K4.out
          go_wp2_with fail
          refine (hrec.out _ bw'.out).mono ?_
          rintro e w2 ⟨rfl, b1⟩
          replace bw' := hid (bt bw'.out b1)
          clear b1 hrec f0 f1 f2 f3 f4 ff K4
          have hmx := fun ts t W => max_run A1 dz ts t W
          rw [← hst] at hmx
          go_wp2_with fail
          go_roundw
          case rel => exact ⟨k + 1, by omega, by go_num, by first | (rw [hA2.out, hst]; done) | (rw [hA2.out]; done) | (rw [hA2.out]; congr 1; omega), bw'⟩
          case measure => simp [intOf]; omega
        · have hki : ¬ (k : Int) < (x.att.length : Int) := by omega
          have hn := hid (show to (deepL x.of) x.att k + 1 = R by rw [hR'.out, to_end _ _ _ (by omega)])
          have hb1 := (hb.out k).1
          generalize to (deepL x.of) x.att k = A1 at hb1 hn ⊢
          clear hR' hb
          go_wp2_with fail
          go_ret
          exact ⟨by rw [← hn.out]; first | rfl | (congr 2; omega), bw'.out⟩
theorem deep_any (x : Ty) (hsz : x.size ≤ 8388608) : Deep x := by
  suffices h : ∀ n (x : Ty), x.size ≤ n → x.size ≤ 8388608 → Deep x from h x.size x (Nat.le_refl _) hsz
  intro n
  induction n with
  | zero => intro x hx; have := x.size_pos; omega
  | succ n ih => intro x hx hz; exact deep_step x hz (fun z hm => ih z (by have := Ty.size_of hm; omega) (by have := Ty.size_of hm; omega)) (fun z hm => ih z (by have := Ty.size_att hm; omega) (by have := Ty.size_att hm; omega))
end Go.Proofs.YtklclfolmfhocaaGreatDoor.Tyt
