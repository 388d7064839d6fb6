/-
  Types that are alike; lictorref10.SameType, SameAttrs of such: contracts.
-/
import Derived.Test.YtklclfolmfhocaaGreatDoorTyTree
import Derived.Test.YtklclfolmfhocaaGreatDoorRows
import Derived.WalkKit
import Derived.ProofKit
import Derived.OpenShut
import Derived.Handy
import Derived.Outline
import Derived.Deep.Cut
import Derived.Deep.RegionHeld3
namespace Go.Proofs.YtklclfolmfhocaaGreatDoor.Tyt
open Go.ChangeShapes Go.WideShapes Go.ChangeAt Go.RowKit
open Go.Proofs.YtklclfolmfhocaaGreatDoor.Mem
set_option linter.unusedVariables false
set_option linter.unusedSimpArgs false
set_option maxRecDepth 100000
namespace Ty
mutual
/-- they hold the same, whatever their slices are -/
def like : Ty → Ty → Prop
  | .mk k nm of _ an att _, y => k = y.kind ∧ nm = y.name ∧ an = y.an ∧ likeL of y.of ∧ likeL att y.att
def likeL : List Ty → List Ty → Prop
  | [], [] => True
  | x :: a, y :: b => x.like y ∧ likeL a b
  | _, _ => False
end
theorem like_iff {x y : Ty} : x.like y ↔ x.kind = y.kind ∧ x.name = y.name ∧ x.an = y.an ∧ likeL x.of y.of ∧ likeL x.att y.att := by
  cases x
  rw [like]
  rfl
theorem likeL_length {a : List Ty} : ∀ {b : List Ty}, likeL a b → a.length = b.length := by
  induction a with
  | nil => intro b h; cases b with
    | nil => rfl
    | cons => exact absurd h (by simp [likeL])
  | cons x a ih => intro b h; cases b with
    | nil => exact absurd h (by simp [likeL])
    | cons y b => rw [likeL] at h; simp [ih h.2]
theorem likeL_at {a : List Ty} : ∀ {b : List Ty}, likeL a b → ∀ (i : Nat) (h1 : i < a.length) (h2 : i < b.length), a[i].like b[i] := by
  induction a with
  | nil => intro b _ i h1; simp at h1
  | cons x a ih => intro b h; cases b with
    | nil => exact absurd h (by simp [likeL])
    | cons y b =>
      rw [likeL] at h
      intro i h1 h2
      cases i with
      | zero => exact h.1
      | succ i => exact ih h.2 i (by simpa using h1) (by simpa using h2)
theorem likeL_snoc {a : List Ty} : ∀ {b : List Ty} {x y : Ty}, likeL a b → x.like y → likeL (a ++ [x]) (b ++ [y]) := by
  induction a with
  | nil => intro b x y h g; cases b with
    | nil => exact ⟨g, trivial⟩
    | cons => exact absurd h (by simp [likeL])
  | cons z a ih => intro b x y h g; cases b with
    | nil => exact absurd h (by simp [likeL])
    | cons u b => rw [likeL] at h; exact ⟨h.1, ih h.2 g⟩
end Ty
/-- attributes, as a slice of them stands -/
def AttrsV (w : World) (v : Value) (an : List ByteArray) (att : List Ty) : Prop :=
  an.length = att.length ∧ SlV w v att.length (Ty.encA an att) ∧ (∀ y ∈ att, y.ok w) ∧ ∀ n ∈ an, n.size ≤ 140737488355328
theorem AttrsV.below {w w' : World} {v : Value} {an : List ByteArray} {att : List Ty} (h : AttrsV w v an att) (b : Below w.heap.size w w') : AttrsV w' v an att :=
  ⟨h.1, h.2.1.below b, fun y hy => (h.2.2.1 y hy).below b, h.2.2.2⟩
theorem Ty.ok.attrs {w : World} {x : Ty} (h : x.ok w) : AttrsV w x.av x.an x.att := ⟨h.parts.2.2.2.1, h.parts.2.2.2.2.2.1, h.parts.2.2.2.2.2.2.2, h.parts.2.2.1⟩
theorem AttrsV.form {w : World} {v : Value} {an : List ByteArray} {att : List Ty} (h : AttrsV w v an att) : ∃ ao ac, v = .slice ao att.length ac ∧ att.length ≤ 9223372036854775807 := by
  obtain ⟨ao, ac, e, _⟩ := h.2.1.form
  have l := SlV.len h.2.1
  unfold maxLen at l
  exact ⟨ao, ac, e, by omega⟩
theorem AttrsV.attr {w : World} {an : List ByteArray} {att : List Ty} {ao : Option Addr} {n ac : Nat} (h : AttrsV w (.slice ao n ac) an att) (i : Nat) (hi : i < att.length) (hn : i < an.length) :
    ∃ b off, ao = some ⟨b, off, none⟩ ∧ w.cell? ⟨b, off + i * 5, none⟩ = some (.string an[i]) ∧ w.cell? ⟨b, off + i * 5 + 1, none⟩ = some (.int .u8 (att[i].kind : Nat)) ∧ w.cell? ⟨b, off + i * 5 + 2, none⟩ = some (.string att[i].name) ∧ w.cell? ⟨b, off + i * 5 + 3, none⟩ = some att[i].ov ∧ w.cell? ⟨b, off + i * 5 + 4, none⟩ = some att[i].av := by
  obtain ⟨hl, hs, _, _⟩ := h
  obtain ⟨b, off, cap, h1, h2, h3, h4, h5⟩ := SlV.open hs (by rw [Ty.encA_len _ _ hl]; omega)
  simp only [Value.slice.injEq] at h1
  have key : ∀ j, j < 5 → w.cell? ⟨b, off + i * 5 + j, none⟩ = (Ty.encP an[i] att[i])[j]? := fun j hj => by
    have hl2 : i * 5 + j < (Ty.encA an att).length := by rw [Ty.encA_len _ _ hl]; omega
    rw [Nat.add_assoc, h5 _ hl2, ← Ty.encA_get an att hl i hi j hj, List.getElem?_eq_getElem hl2]
  exact ⟨b, off, h1.1, key 0 (by omega), key 1 (by omega), key 2 (by omega), key 3 (by omega), key 4 (by omega)⟩
theorem celld {w : World} {a : Addr} {v : Value} (h : w.cell? a = some v) : w.drew.cell? a = some v := h
def SameTy (x y : Ty) : Prop := ∀ (w : World), x.ok w → y.ok w → Calls Tryz.prog 8 #[x.val, y.val] w fun e w' => e = .returned (.bool true) ∧ Below w.heap.size w w'
set_option maxHeartbeats 4000000 in
theorem sameattrs_step (an : List ByteArray) (a b : List Ty) (hl : Ty.likeL a b) (ih : ∀ (i : Nat) (h1 : i < a.length) (h2 : i < b.length), SameTy a[i] b[i]) (w : World) (av bv : Value) (ha : AttrsV w av an a) (hb : AttrsV w bv an b) :
    Calls Tryz.prog 21 #[av, bv] w fun e w' => e = .returned (.bool true) ∧ Below w.heap.size w w' := by
  have hll := Ty.likeL_length hl
  obtain ⟨ao, ac, rfl, l1⟩ := ha.form
  obtain ⟨bo, bc, rfl, l2⟩ := hb.form
  obtain ⟨n, hn⟩ : ∃ n, a.length = n := ⟨_, rfl⟩
  have hnb : b.length = n := by omega
  rw [hn] at l1
  rw [hn] at ha ⊢
  rw [hnb] at hb ⊢
  have i1 : (n : Int) ≤ 9223372036854775807 := by omega
  have ha' := hid ha
  have hb' := hid hb
  have hn' := hid hn
  have hnb' := hid hnb
  have ih' := hid ih
  have bw := hid (Below.refl w.heap.size w)
  clear hl ih hll ha hb hn hnb l1 l2
  go_enter Tryz.func21, Tryz.ntmps21
  go_wp2_with fail
  go_loopw [13] (fun i wr => ∃ k : Nat, k ≤ n ∧ i = .int .i64 k ∧ Hid (Below w.heap.size w wr)) (fun i _ => n - (intOf i).toNat)
  case atStart => exact ⟨0, by omega, rfl, bw⟩
  case round =>
    clear bw
    obtain ⟨k, hk, rfl, bw⟩ := hrel
    rename_i wr
    by_cases hkl : k < n
    · have hki : (k : Int) < (n : Int) := by omega
      have hka : k < a.length := by rw [hn'.out]; exact hkl
      have hkb : k < b.length := by rw [hnb'.out]; exact hkl
      have hkn : k < an.length := by rw [ha'.out.1]; exact hka
      obtain ⟨xb, xo, hxo, f0, f1, f2, f3, f4⟩ := (ha'.out.below bw.out).attr k hka hkn
      obtain ⟨yb, yo, hyo, g0, g1, g2, g3, g4⟩ := (hb'.out.below bw.out).attr k hkb hkn
      subst hxo
      subst hyo
      have hrec := hid (ih'.out k hka hkb wr.drew (((ha'.out.below bw.out).2.2.1 _ (List.getElem_mem hka)).below (Below.refl _ wr).drew) (((hb'.out.below bw.out).2.2.1 _ (List.getElem_mem hkb)).below (Below.refl _ wr).drew))
      have hxf := ((ha'.out.below bw.out).2.2.1 _ (List.getElem_mem hka)).forms
      have hyf := ((hb'.out.below bw.out).2.2.1 _ (List.getElem_mem hkb)).forms
      generalize a[k] = p at f1 f2 f3 f4 hrec hxf
      generalize b[k] = q at g1 g2 g3 g4 hrec hyf
      generalize an[k] = nm at f0 g0
      obtain ⟨po, pc, po2, pc2, pe1, pe2, _, _⟩ := hxf
      obtain ⟨qo, qc, qo2, qc2, qe1, qe2, _, _⟩ := hyf
      rw [Ty.val_eq pe1 pe2, Ty.val_eq qe1 qe2] at hrec
      rw [pe1] at f3
      rw [pe2] at f4
      rw [qe1] at g3
      rw [qe2] at g4
      clear pe1 pe2 qe1 qe2
      have hnn : (nm.toList != nm.toList) = false := by simp
      go_upto_region 6 with fail
      go_region_held3 (fun Y => Y.cell? ⟨xb, xo + k * 5, none⟩ = some (.string nm) ∧ Y.cell? ⟨xb, xo + k * 5 + 1, none⟩ = some (.int .u8 (p.kind : Nat)) ∧ Y.cell? ⟨xb, xo + k * 5 + 2, none⟩ = some (.string p.name) ∧ Y.cell? ⟨xb, xo + k * 5 + 3, none⟩ = some (.slice po p.of.length pc) ∧ Y.cell? ⟨xb, xo + k * 5 + 4, none⟩ = some (.slice po2 p.att.length pc2) ∧ Y.cell? ⟨yb, yo + k * 5, none⟩ = some (.string nm) ∧ Y.cell? ⟨yb, yo + k * 5 + 1, none⟩ = some (.int .u8 (q.kind : Nat)) ∧ Y.cell? ⟨yb, yo + k * 5 + 2, none⟩ = some (.string q.name) ∧ Y.cell? ⟨yb, yo + k * 5 + 3, none⟩ = some (.slice qo q.of.length qc) ∧ Y.cell? ⟨yb, yo + k * 5 + 4, none⟩ = some (.slice qo2 q.att.length qc2)) (first | with_reducible exact ⟨f0, f1, f2, f3, f4, g0, g1, g2, g3, g4⟩ | with_reducible exact ⟨celld f0, celld f1, celld f2, celld f3, celld f4, celld g0, celld g1, celld g2, celld g3, celld g4⟩) (first
        | (go_at_call 8
           (with_reducible refine hrec.out.mono ?_)
           rintro e w3 ⟨rfl, b3⟩
           have ca : ∀ {a : Addr} {v : Value}, wr.cell? a = some v → w3.cell? a = some v := fun h => cell_below b3 _ _ (show wr.drew.cell? _ = _ from h)
           replace f0 := ca f0; replace f1 := ca f1; replace f2 := ca f2; replace f3 := ca f3; replace f4 := ca f4; replace g0 := ca g0; replace g1 := ca g1; replace g2 := ca g2; replace g3 := ca g3; replace g4 := ca g4
           replace bw := hid (bt bw.out.drew b3)
           clear ca b3))
      clear f0 f1 f2 f3 f4 g0 g1 g2 g3 g4 hrec hnn
      go_wp2_with fail
      go_roundw
      case rel => exact ⟨k + 1, by omega, by go_num, bw⟩
      case measure => simp [intOf]; omega
    · have hki : ¬ (k : Int) < (n : Int) := by omega
      go_wp2_with fail
      go_ret
      exact ⟨rfl, bw.out⟩
end Go.Proofs.YtklclfolmfhocaaGreatDoor.Tyt
