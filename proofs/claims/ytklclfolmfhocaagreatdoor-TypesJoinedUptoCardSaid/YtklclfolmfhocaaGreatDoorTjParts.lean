/-
  types.entityOf, setOf, recordOf, partOf: contracts. Written by wip/tjgen.py.
-/
import Derived.Test.YtklclfolmfhocaaGreatDoorTjMath
import Derived.Test.YtklclfolmfhocaaGreatDoorTyCopy
namespace Go.Proofs.YtklclfolmfhocaaGreatDoor.Tyt
open Go.ChangeShapes Go.WideShapes Go.ChangeAt Go.RowKit
open Go.Proofs.YtklclfolmfhocaaGreatDoor.Mem
set_option linter.unusedVariables false
set_option linter.unusedSimpArgs false
set_option maxRecDepth 100000
def leaf (k : Nat) (s : ByteArray) : Ty := .mk k s [] (.slice none 0 0) [] [] (.slice none 0 0)
theorem leaf_ok (k : Nat) (s : ByteArray) (w : World) (hk : k < 256) (hs : s.size ≤ 140737488355328) : (leaf k s).ok w :=
  Ty.ok.mk' ⟨hk, hs, (fun y (hy : y ∈ ([] : List ByteArray)) => by cases hy), rfl, SlV.nil w, SlV.nil w, (fun y (hy : y ∈ ([] : List Ty)) => by cases hy), (fun y (hy : y ∈ ([] : List Ty)) => by cases hy)⟩
theorem nil_in (S : Nat → Prop) : SlIn S (.slice none 0 0) 0 := fun h => absurd h (by decide)
theorem leaf_in (k : Nat) (s : ByteArray) (S : Nat → Prop) : (leaf k s).inS S :=
  Ty.inS_iff.2 ⟨nil_in S, nil_in S, (fun y (hy : y ∈ ([] : List Ty)) => by cases hy), (fun y (hy : y ∈ ([] : List Ty)) => by cases hy)⟩
theorem er_leaf (k : Nat) (s : ByteArray) : er (leaf k s) = .mk k s [] [] [] := by unfold leaf; rw [er, erL]
theorem slv_one' {W : World} {b : Nat} {cs : List Value} {ty : TypeId} (hB : Blk W b cs ty) : SlV W (.slice (some ⟨b, 0, none⟩) 1 1) 1 cs := by
  refine ⟨some ⟨b, 0, none⟩, 1, rfl, by omega, by decide, (fun e => by cases e), (fun e => by cases e), fun a ha j hj => ?_⟩
  cases ha
  rw [Mem.add_plain, Nat.zero_add]
  exact hB.cell j hj
def setTy (x : Ty) (g : Nat) : Ty := .mk 5 ⟨#[]⟩ [x] (.slice (some ⟨g, 0, none⟩) 1 1) [] [] (.slice none 0 0)
theorem setTy_ok {W : World} {x : Ty} {b : Nat} {ty : TypeId} (hx : x.ok W) (hB : Blk W b x.enc ty) : (setTy x b).ok W := by
  refine Ty.ok.mk' ⟨show 5 < 256 by omega, show (0 : Nat) ≤ _ by omega, (fun y (hy : y ∈ ([] : List ByteArray)) => by cases hy), rfl, ?_, SlV.nil W, ?_, (fun y (hy : y ∈ ([] : List Ty)) => by cases hy)⟩
  · show SlV W _ 1 (Ty.encL [x])
    rw [show Ty.encL [x] = x.enc from by unfold Ty.encL; simp]
    exact slv_one' hB
  · intro y hy
    have hy2 : y ∈ [x] := hy
    rw [List.mem_singleton.1 hy2]
    exact hx
theorem setTy_in {x : Ty} {g : Nat} {S : Nat → Prop} (hx : x.inS S) (hg : S g) : (setTy x g).inS S :=
  Ty.inS_iff.2 ⟨(fun _ ao m cap e a ha => by
    simp only [setTy, Ty.ov, Value.slice.injEq] at e
    rw [← e.1] at ha
    cases ha
    exact hg), nil_in S, (fun y (hy : y ∈ [x]) => by rw [List.mem_singleton.1 hy]; exact hx), (fun y (hy : y ∈ ([] : List Ty)) => by cases hy)⟩
theorem er_setTy (x : Ty) (g : Nat) : er (setTy x g) = PT.set (er x) := by unfold setTy; rw [er, erL, erL, erL]; rfl
def rcdTy (an : List ByteArray) (att : List Ty) (av : Value) : Ty := .mk 6 ⟨#[]⟩ [] (.slice none 0 0) an att av
theorem rcdTy_ok {W : World} {an : List ByteArray} {att : List Ty} {av : Value} (h : AttrsV W av an att) : (rcdTy an att av).ok W :=
  Ty.ok.mk' ⟨show 6 < 256 by omega, show (0 : Nat) ≤ _ by omega, h.2.2.2, h.1, SlV.nil W, h.2.1, (fun y (hy : y ∈ ([] : List Ty)) => by cases hy), h.2.2.1⟩
theorem rcdTy_in {an : List ByteArray} {att : List Ty} {av : Value} {S : Nat → Prop} (h : SlIn S av att.length) (hs : ∀ y ∈ att, y.inS S) : (rcdTy an att av).inS S :=
  Ty.inS_iff.2 ⟨nil_in S, h, (fun y (hy : y ∈ ([] : List Ty)) => by cases hy), hs⟩
theorem er_rcdTy (an : List ByteArray) (att : List Ty) (av : Value) : er (rcdTy an att av) = PT.rcd an (erL att) := by unfold rcdTy; rw [er, erL]; rfl
set_option maxHeartbeats 4000000 in
theorem entityOf_any (s : ByteArray) (w : World) : Calls Tryz.prog 17 #[.string s] w fun e w' => e = .returned (leaf 4 s).val ∧ Below w.heap.size w w' := by
  have bw0 := hid (Below.refl w.heap.size w)
  go_enter Tryz.func17, Tryz.ntmps17
  go_upto_region 1 with fail
  have R := hid (Blk.new w [.int .u8 0, .string ⟨#[]⟩, .slice none 0 0, .slice none 0 0] 26)
  have bw := hid (bw0.out.alloc (Nat.le_refl _) (.cells #[.int .u8 0, .string ⟨#[]⟩, .slice none 0 0, .slice none 0 0] 26))
  clear bw0
  generalize w.alloc (.cells #[.int .u8 0, .string ⟨#[]⟩, .slice none 0 0, .slice none 0 0] 26) = X0 at R bw ⊢
  have hK := hid (blk_st4 R.out (.int .u8 4) (.string s) (.slice none 0 0) (.slice none 0 0))
  have hBw := hid (below_st4 bw.out (g := w.heap.size) (Nat.le_refl _) (.int .u8 4) (.string s) (.slice none 0 0) (.slice none 0 0))
  have hkp := hid (fun b (hb : b ≠ w.heap.size) => heap_st4 X0 (w.heap.size) (.int .u8 4) (.string s) (.slice none 0 0) (.slice none 0 0) hb)
  obtain ⟨d0, d1, d2, d3, df⟩ := four' R.out
  go_wp2_with fail
  obtain ⟨q0, q1, q2, q3, qf⟩ := four' hK.out
  exact bodyPost_ret (v := .agg #[.int .u8 4, .string s, .slice none 0 0, .slice none 0 0]) (by unfold st4 at q0 q1 q2 q3; simp [results, Tryz.results17, go_sem, q0, q1, q2, q3]) rfl ⟨rfl, hBw.out⟩
set_option maxHeartbeats 4000000 in
theorem recordOf_any (so : Option Addr) (n c : Nat) (w : World) : Calls Tryz.prog 27 #[.slice so n c] w fun e w' => e = .returned (.agg #[.int .u8 6, .string ⟨#[]⟩, .slice none 0 0, .slice so n c]) ∧ Below w.heap.size w w' := by
  have bw0 := hid (Below.refl w.heap.size w)
  go_enter Tryz.func27, Tryz.ntmps27
  go_upto_region 1 with fail
  have R := hid (Blk.new w [.int .u8 0, .string ⟨#[]⟩, .slice none 0 0, .slice none 0 0] 26)
  have bw := hid (bw0.out.alloc (Nat.le_refl _) (.cells #[.int .u8 0, .string ⟨#[]⟩, .slice none 0 0, .slice none 0 0] 26))
  clear bw0
  generalize w.alloc (.cells #[.int .u8 0, .string ⟨#[]⟩, .slice none 0 0, .slice none 0 0] 26) = X0 at R bw ⊢
  have hK := hid (blk_st4 R.out (.int .u8 6) (.string ⟨#[]⟩) (.slice none 0 0) (.slice so n c))
  have hBw := hid (below_st4 bw.out (g := w.heap.size) (Nat.le_refl _) (.int .u8 6) (.string ⟨#[]⟩) (.slice none 0 0) (.slice so n c))
  have hkp := hid (fun b (hb : b ≠ w.heap.size) => heap_st4 X0 (w.heap.size) (.int .u8 6) (.string ⟨#[]⟩) (.slice none 0 0) (.slice so n c) hb)
  obtain ⟨d0, d1, d2, d3, df⟩ := four' R.out
  go_wp2_with fail
  obtain ⟨q0, q1, q2, q3, qf⟩ := four' hK.out
  exact bodyPost_ret (v := .agg #[.int .u8 6, .string ⟨#[]⟩, .slice none 0 0, .slice so n c]) (by unfold st4 at q0 q1 q2 q3; simp [results, Tryz.results27, go_sem, q0, q1, q2, q3]) rfl ⟨rfl, hBw.out⟩
set_option maxHeartbeats 8000000 in
theorem setOf_any (x : Ty) (w : World) (h : x.ok w) : Calls Tryz.prog 19 #[x.val] w fun e w' => (∃ g, w.heap.size ≤ g ∧ e = .returned (setTy x g).val ∧ (setTy x g).ok w') ∧ Below w.heap.size w w' := by
  obtain ⟨oo, oc, ao, ac, e1, e2, l1, l2⟩ := h.forms
  have he := Ty.enc_eq e1 e2
  rw [Ty.val_eq e1 e2]
  have bw0 := hid (Below.refl w.heap.size w)
  replace he := hid he
  replace h := hid h
  clear e1 e2 l1 l2
  go_enter Tryz.func19, Tryz.ntmps19
  go_upto_region 1 with fail
  have K := hid (Blk.new w [.int .u8 (x.kind : Nat), .string x.name, .slice oo x.of.length oc, .slice ao x.att.length ac] 26)
  have bw1 := hid (bw0.out.alloc (Nat.le_refl _) (.cells #[.int .u8 (x.kind : Nat), .string x.name, .slice oo x.of.length oc, .slice ao x.att.length ac] 26))
  have hs : w.heap.size + 1 = (w.alloc (.cells #[.int .u8 (x.kind : Nat), .string x.name, .slice oo x.of.length oc, .slice ao x.att.length ac] 26)).heap.size := by simp
  clear bw0
  generalize w.alloc (.cells #[.int .u8 (x.kind : Nat), .string x.name, .slice oo x.of.length oc, .slice ao x.att.length ac] 26) = X0 at K bw1 hs ⊢
  have R := hid (Blk.new' X0 [.int .u8 0, .string ⟨#[]⟩, .slice none 0 0, .slice none 0 0] 26 (w.heap.size + 1) hs)
  replace K := hid (K.out.alloc (.cells #[.int .u8 0, .string ⟨#[]⟩, .slice none 0 0, .slice none 0 0] 26))
  have bw := hid (bw1.out.alloc (by omega) (.cells #[.int .u8 0, .string ⟨#[]⟩, .slice none 0 0, .slice none 0 0] 26))
  have hsz := hid (show w.heap.size + 2 = (X0.alloc (.cells #[.int .u8 0, .string ⟨#[]⟩, .slice none 0 0, .slice none 0 0] 26)).heap.size by simp; omega)
  clear bw1 hs
  generalize X0.alloc (.cells #[.int .u8 0, .string ⟨#[]⟩, .slice none 0 0, .slice none 0 0] 26) = X1 at K R bw hsz ⊢
  have G := hid (Blk.new X1 [.int .u8 (x.kind : Nat), .string x.name, .slice oo x.of.length oc, .slice ao x.att.length ac] 26)
  have hg := hid (show w.heap.size ≤ X1.heap.size ∧ X1.heap.size ≠ w.heap.size + 1 by have := hsz.out; omega)
  replace R := hid (R.out.alloc (.cells #[.int .u8 (x.kind : Nat), .string x.name, .slice oo x.of.length oc, .slice ao x.att.length ac] 26))
  have bw3 := hid (bw.out.alloc bw.out.size (.cells #[.int .u8 (x.kind : Nat), .string x.name, .slice oo x.of.length oc, .slice ao x.att.length ac] 26))
  change Hid (Blk (X1.alloc (.cells #[.int .u8 (x.kind : Nat), .string x.name, .slice oo x.of.length oc, .slice ao x.att.length ac] 26)) _ _ _) at G
  obtain ⟨X3, hX3⟩ : ∃ X, X1.alloc (.cells #[.int .u8 (x.kind : Nat), .string x.name, .slice oo x.of.length oc, .slice ao x.att.length ac] 26) = X := ⟨_, rfl⟩
  rw [hX3] at G R bw3
  obtain ⟨c0, c1, c2, c3, cf⟩ := four' K.out
  obtain ⟨g, hgn⟩ : ∃ g, X1.heap.size = g := ⟨_, rfl⟩
  rw [hgn] at G hg
  clear K bw hsz
  have hK := hid (blk_st4 R.out (.int .u8 5) (.string ⟨#[]⟩) (.slice (some ⟨g, 0, none⟩) 1 1) (.slice none 0 0))
  have hBw := hid (below_st4 bw3.out (g := w.heap.size + 1) (Nat.le_succ _) (.int .u8 5) (.string ⟨#[]⟩) (.slice (some ⟨g, 0, none⟩) 1 1) (.slice none 0 0))
  have hkp := hid (fun b (hb : b ≠ w.heap.size + 1) => heap_st4 X3 (w.heap.size + 1) (.int .u8 5) (.string ⟨#[]⟩) (.slice (some ⟨g, 0, none⟩) 1 1) (.slice none 0 0) hb)
  obtain ⟨d0, d1, d2, d3, df⟩ := four' R.out
  go_wp2_with fail
  obtain ⟨q0, q1, q2, q3, qf⟩ := four' hK.out
  exact bodyPost_ret (v := .agg #[.int .u8 5, .string ⟨#[]⟩, .slice (some ⟨g, 0, none⟩) 1 1, .slice none 0 0]) (by unfold st4 at q0 q1 q2 q3; simp [results, Tryz.results19, go_sem, q0, q1, q2, q3]) rfl ⟨⟨g, hg.out.1, rfl, setTy_ok (h.out.below hBw.out) (ty := 26) (by rw [he.out]; exact ⟨(hkp.out g hg.out.2).trans G.out.at'⟩)⟩, hBw.out⟩
set_option maxHeartbeats 8000000 in
theorem partOf_any (x : Ty) (w : World) (h : x.ok w) : Calls Tryz.prog 18 #[x.val] w fun e w' => (∃ y : Ty, e = .returned y.val ∧ (x.of = [] ∧ y = leaf 0 ⟨#[]⟩ ∨ ∃ l, x.of = y :: l)) ∧ Below w.heap.size w w' := by
  obtain ⟨oo, oc, ao, ac, e1, e2, l1, l2⟩ := h.forms
  rw [Ty.val_eq e1 e2]
  have bw0 := hid (Below.refl w.heap.size w)
  have i1 : (x.of.length : Int) ≤ 9223372036854775807 := by omega
  replace h := hid h
  have e1' := hid e1
  clear e1 e2 l1 l2
  go_enter Tryz.func18, Tryz.ntmps18
  go_upto_region 1 with fail
  have K := hid (Blk.new w [.int .u8 (x.kind : Nat), .string x.name, .slice oo x.of.length oc, .slice ao x.att.length ac] 26)
  have bw1 := hid (bw0.out.alloc (Nat.le_refl _) (.cells #[.int .u8 (x.kind : Nat), .string x.name, .slice oo x.of.length oc, .slice ao x.att.length ac] 26))
  have hs : w.heap.size + 1 = (w.alloc (.cells #[.int .u8 (x.kind : Nat), .string x.name, .slice oo x.of.length oc, .slice ao x.att.length ac] 26)).heap.size := by simp
  clear bw0
  generalize w.alloc (.cells #[.int .u8 (x.kind : Nat), .string x.name, .slice oo x.of.length oc, .slice ao x.att.length ac] 26) = X0 at K bw1 hs ⊢
  have R := hid (Blk.new' X0 [.int .u8 0, .string ⟨#[]⟩, .slice none 0 0, .slice none 0 0] 26 (w.heap.size + 1) hs)
  replace K := hid (K.out.alloc (.cells #[.int .u8 0, .string ⟨#[]⟩, .slice none 0 0, .slice none 0 0] 26))
  have bw := hid (bw1.out.alloc (by omega) (.cells #[.int .u8 0, .string ⟨#[]⟩, .slice none 0 0, .slice none 0 0] 26))
  have hsz := hid (show w.heap.size + 2 = (X0.alloc (.cells #[.int .u8 0, .string ⟨#[]⟩, .slice none 0 0, .slice none 0 0] 26)).heap.size by simp; omega)
  clear bw1 hs
  generalize X0.alloc (.cells #[.int .u8 0, .string ⟨#[]⟩, .slice none 0 0, .slice none 0 0] 26) = X1 at K R bw hsz ⊢
  obtain ⟨c0, c1, c2, c3, cf⟩ := four' K.out
  cases hx : x.of with
  | nil =>
    rw [hx] at c2
    clear K i1 hsz
    change X1.cell? ⟨w.heap.size, 2, none⟩ = some (.slice oo 0 oc) at c2
    replace hx := hid hx
    have hK := hid (blk_st4 R.out (.int .u8 0) (.string ⟨#[]⟩) (.slice none 0 0) (.slice none 0 0))
    have hBw := hid (below_st4 bw.out (g := w.heap.size + 1) (Nat.le_succ _) (.int .u8 0) (.string ⟨#[]⟩) (.slice none 0 0) (.slice none 0 0))
    have hkp := hid (fun b (hb : b ≠ w.heap.size + 1) => heap_st4 X1 (w.heap.size + 1) (.int .u8 0) (.string ⟨#[]⟩) (.slice none 0 0) (.slice none 0 0) hb)
    obtain ⟨d0, d1, d2, d3, df⟩ := four' R.out
    go_wp2_with fail
    obtain ⟨q0, q1, q2, q3, qf⟩ := four' hK.out
    exact bodyPost_ret (v := .agg #[.int .u8 0, .string ⟨#[]⟩, .slice none 0 0, .slice none 0 0]) (by unfold st4 at q0 q1 q2 q3; simp [results, Tryz.results18, go_sem, q0, q1, q2, q3]) rfl ⟨⟨leaf 0 ⟨#[]⟩, rfl, .inl ⟨hx.out, rfl⟩⟩, hBw.out⟩
  | cons y l =>
    have hpos : 0 < x.of.length := by rw [hx]; simp
    obtain ⟨xb, xo, hxo, f1, f2, f3, f4⟩ := (h.out.below bw.out).part e1'.out 0 hpos
    have hy : x.of[0] = y := by simp [hx]
    rw [hy] at f1 f2 f3 f4
    have hyok : y.ok w := h.out.parts.2.2.2.2.2.2.1 y (by rw [hx]; simp)
    obtain ⟨yoo, yoc, yao, yac, ey1, ey2, _, _⟩ := hyok.forms
    rw [ey1] at f3
    rw [ey2] at f4
    have hyv := hid (Ty.val_eq ey1 ey2)
    subst hxo
    obtain ⟨n, hn⟩ : ∃ n, x.of.length = n := ⟨_, rfl⟩
    rw [hn] at c2 hpos i1
    have hni : ¬ (n : Int) = 0 := by omega
    have hn0 : ((n : Int) == 0) = false := by simpa using hni
    simp only [Nat.zero_mul, Nat.add_zero] at f1 f2 f3 f4
    replace hx := hid hx
    clear K hsz hy hyok ey1 ey2 hn
    have hK := hid (blk_st4 R.out (.int .u8 (y.kind : Nat)) (.string y.name) (.slice yoo y.of.length yoc) (.slice yao y.att.length yac))
    have hBw := hid (below_st4 bw.out (g := w.heap.size + 1) (Nat.le_succ _) (.int .u8 (y.kind : Nat)) (.string y.name) (.slice yoo y.of.length yoc) (.slice yao y.att.length yac))
    have hkp := hid (fun b (hb : b ≠ w.heap.size + 1) => heap_st4 X1 (w.heap.size + 1) (.int .u8 (y.kind : Nat)) (.string y.name) (.slice yoo y.of.length yoc) (.slice yao y.att.length yac) hb)
    obtain ⟨d0, d1, d2, d3, df⟩ := four' R.out
    go_wp2_with fail
    obtain ⟨q0, q1, q2, q3, qf⟩ := four' hK.out
    exact bodyPost_ret (v := .agg #[.int .u8 (y.kind : Nat), .string y.name, .slice yoo y.of.length yoc, .slice yao y.att.length yac]) (by unfold st4 at q0 q1 q2 q3; simp [results, Tryz.results18, go_sem, q0, q1, q2, q3]) rfl ⟨⟨y, by rw [hyv.out], .inr ⟨l, hx.out⟩⟩, hBw.out⟩
end Go.Proofs.YtklclfolmfhocaaGreatDoor.Tyt
