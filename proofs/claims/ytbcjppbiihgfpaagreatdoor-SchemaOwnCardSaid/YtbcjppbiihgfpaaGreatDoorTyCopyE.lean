/-
  lictorref10.CopyType, CopyAction: contracts. Written by wip/tycopy3gen.py.
-/
import Derived.Test.YtbcjppbiihgfpaaGreatDoorTyFind
namespace Go.Proofs.YtbcjppbiihgfpaaGreatDoor.Tyt
open Go.ChangeShapes Go.WideShapes Go.ChangeAt Go.RowKit
open Go.Proofs.YtbcjppbiihgfpaaGreatDoor.Mem
set_option linter.unusedVariables false
set_option linter.unusedSimpArgs false
set_option maxRecDepth 100000
theorem copyattrs_any (an : List ByteArray) (att : List Ty) (w : World) (S : Nat → Prop) (v : Value) (h : AttsV w v an att) (hS : ∀ b, w.heap.size ≤ b → S b) :
    Calls Tryz.prog 95 #[v] w fun e w' => ABuilt S an att e w' ∧ Below w.heap.size w w' := copyattrs_step an att (fun z hz => copyty_any z (h.2.1 z hz)) h.2.2 w S v h.1 hS
/-- it may be read -/
def Et.rd (w : World) (x : Et) : Prop := x.name.size ≤ 140737488355328 ∧ StrsV w x.pv x.ps ∧ AttrsV w x.av x.an x.att
theorem Et.rd.parts {w : World} {x : Et} (h : x.rd w) : x.name.size ≤ 140737488355328 ∧ StrsV w x.pv x.ps ∧ AttrsV w x.av x.an x.att := h
theorem Et.ok.rd {w : World} {x : Et} (h : x.ok w) : x.rd w := ⟨h.parts.1, h.parts.2.1.1, h.parts.2.2.1⟩
theorem Et.rd.below {w w' : World} {x : Et} (h : x.rd w) (b : Below w.heap.size w w') : x.rd w' := ⟨h.parts.1, StrsV.below h.parts.2.1 b, h.parts.2.2.below b⟩
theorem Et.rd.forms {w : World} {x : Et} (h : x.rd w) : ∃ po pc ao ac, x.pv = .slice po x.ps.length pc ∧ x.av = .slice ao x.att.length ac := by
  obtain ⟨po, pc, e0, _⟩ := SlV.form h.parts.2.1
  obtain ⟨ao, ac, ea, _⟩ := SlV.form h.parts.2.2.2.1
  exact ⟨po, pc, ao, ac, e0, ea⟩
/-- alike -/
def Et.like (x y : Et) : Prop := x.name = y.name ∧ x.ps = y.ps ∧ x.an = y.an ∧ Ty.likeL x.att y.att
/-- where its slices lie -/
def Et.inS (S : Nat → Prop) (x : Et) : Prop := SlIn S x.pv x.ps.length ∧ SlIn S x.av x.att.length ∧ ∀ y ∈ x.att, y.inS S
theorem Et.inS.mono {S R : Nat → Prop} (hi : ∀ b, S b → R b) {x : Et} (h : x.inS S) : x.inS R := by
  unfold Et.inS at h ⊢
  exact ⟨sl_sub h.1 hi, sl_sub h.2.1 hi, fun y hy => (h.2.2 y hy).mono hi⟩
theorem Et.inS_and {S R : Nat → Prop} {x : Et} (h : x.inS S) (g : x.inS R) : x.inS (fun b => S b ∧ R b) := by
  unfold Et.inS at h g ⊢
  exact ⟨fun hn ao m cap e a ha => ⟨h.1 hn ao m cap e a ha, g.1 hn ao m cap e a ha⟩, fun hn ao m cap e a ha => ⟨h.2.1 hn ao m cap e a ha, g.2.1 hn ao m cap e a ha⟩, fun y hy => Ty.inS_and (h.2.2 y hy) (g.2.2 y hy)⟩
theorem Et.rd.inS {w : World} {x : Et} (h : x.rd w) : x.inS (· < w.heap.size) := by
  have h := h.parts
  unfold Et.inS
  exact ⟨Ty.sl_lt h.2.1 (fun hn => by rw [strC_len]; exact hn), Ty.sl_lt h.2.2.2.1 (fun hn => by rw [Ty.encA_len _ _ h.2.2.1]; omega), fun y hy => (h.2.2.2.2.1 y hy).inS⟩
theorem Et.rd.keep {w w' : World} {S : Nat → Prop} (hk : ∀ b, S b → w'.heap[b]? = w.heap[b]?) {x : Et} (h : x.rd w) (hS : x.inS S) : x.rd w' := by
  have h := h.parts
  unfold Et.inS at hS
  exact ⟨h.1, sl_stay h.2.1 (fun e => by rw [List.eq_nil_of_length_eq_zero e]; rfl) hS.1 hk, h.2.2.1, sl_stay h.2.2.2.1 (Ty.encA_nil _ _) hS.2.1 hk, fun y hy => (h.2.2.2.2.1 y hy).keep hk (hS.2.2 y hy), h.2.2.2.2.2⟩
def EtBuilt (S : Nat → Prop) (x : Et) (e : Ending) (w' : World) : Prop := ∃ y : Et, e = .returned y.val ∧ x.like y ∧ y.rd w' ∧ y.inS S
set_option maxHeartbeats 8000000 in
theorem copy_et (x : Et) (w : World) (S : Nat → Prop) (h : x.ok w) (hS : ∀ b, w.heap.size ≤ b → S b) : Calls Tryz.prog 46 #[x.val] w fun e w' => EtBuilt S x e w' ∧ Below w.heap.size w w' := by
  obtain ⟨ic, zc, hi, hz0, hz1, hz2, hz3⟩ := info_str
  obtain ⟨po, pc, ao, ac, e0, e1⟩ := h.forms
  rw [show x.val = .agg #[.string x.name, .slice po x.ps.length pc, .slice ao x.att.length ac] by unfold Et.val; rw [e0, e1]]
  have hv0 := hid (show ∀ W, Below w.heap.size w W → NamesV W (.slice po x.ps.length pc) x.ps from fun W B => e0 ▸ (h.below B).parts.2.1)
  have hva := hid (show ∀ W, Below w.heap.size w W → AttsV W (.slice ao x.att.length ac) x.an x.att from fun W B => e1 ▸ (h.below B).parts.2.2)
  have hnm := hid h.parts.1
  have hS' := hid hS
  have bw0 := hid (Below.refl w.heap.size w)
  clear h hS e0 e1
  go_enter Tryz.func46, Tryz.ntmps46
  go_upto_region 1 with fail
  have K1 := hid (Blk.new w [.string x.name, .slice po x.ps.length pc, .slice ao x.att.length ac] 53)
  have bw1 := hid (bw0.out.alloc (Nat.le_refl _) (.cells #[.string x.name, .slice po x.ps.length pc, .slice ao x.att.length ac] 53))
  have hs : w.heap.size + 1 = (w.alloc (.cells #[.string x.name, .slice po x.ps.length pc, .slice ao x.att.length ac] 53)).heap.size := by simp
  generalize w.alloc (.cells #[.string x.name, .slice po x.ps.length pc, .slice ao x.att.length ac] 53) = X0 at K1 bw1 hs ⊢
  have K2 := hid (Blk.new' X0 [.string ⟨#[]⟩, .slice none 0 0, .slice none 0 0] 53 (w.heap.size + 1) hs)
  replace K1 := hid (K1.out.alloc (.cells #[.string ⟨#[]⟩, .slice none 0 0, .slice none 0 0] 53))
  have bw := hid (bw1.out.alloc (by omega) (.cells #[.string ⟨#[]⟩, .slice none 0 0, .slice none 0 0] 53))
  have hB := hid (show w.heap.size + 2 ≤ (X0.alloc (.cells #[.string ⟨#[]⟩, .slice none 0 0, .slice none 0 0] 53)).heap.size by simp; omega)
  clear bw0 bw1 hs
  generalize X0.alloc (.cells #[.string ⟨#[]⟩, .slice none 0 0, .slice none 0 0] 53) = X1 at K1 K2 bw hB ⊢
  have hown := World.ownsRow_made (e := 9) (size := 1) X1 #[] 0 (Nat.le_refl _) (by decide) rfl
  have hal := (Below.refl X1.heap.size X1).alloc (Nat.le_refl _) (.cells #[] 9)
  obtain ⟨v1, W1, hrun, ho, hg, _⟩ := app_own (P := Tryz.prog) (X1.alloc (.cells #[] 9)) X1.heap.size 23 23 9 ic zc 1 16 Tryz.underlying23 hi hz0 hz1 hz2 hz3 (by decide) (.slice (some ⟨X1.heap.size, 0, none⟩) 0 0) 0 [] hown (.slice po x.ps.length pc) x.ps.length (strC x.ps) (SlV.below (hv0.out _ bw.out).1 hal) (by rw [strC_len, Nat.mul_one]) (fun u hu => by simp [strC] at hu; obtain ⟨a, _, rfl⟩ := hu; rfl) (by have := SlV.len (hv0.out _ bw.out).1; omega) (by have := (hv0.out _ bw.out).2; omega) hal.size
  rw [Nat.zero_add, List.nil_append] at ho
  obtain ⟨s0, k0, rfl, _, _⟩ := ownsRow_form ho
  have hb : Below X1.heap.size X1 W1 := hal.grown hg (by simp) (fun b hb => (hown.lt b hb).1)
  have hro := hid ho
  have K1w := hid (K1.out.below hb K1.out.lt)
  have K2w := hid (K2.out.below hb K2.out.lt)
  have bww := hid (bt bw.out hb)
  have hBw := hid (Nat.le_trans hB.out hb.size)
  replace hrun := hid hrun
  have hlt : w.heap.size < X1.heap.size := K1.out.lt
  have hne : w.heap.size ≠ X1.heap.size := by omega
  obtain ⟨c0, c1, c2, cf⟩ := three' K1.out
  obtain ⟨g0, g1, g2, gf⟩ := three' K1w.out
  clear hb ho hg hown hal
  go_upto_region 2 with (at_builtin; refine wpList_app3 rfl (.tmp 3) (.tmp 5) _ _ rfl _ _ _ _ rfl rfl hrun.out ?_)
  clear c0 g0 c1 g1 c2 g2 cf gf hrun K1 K2 bw hlt hne
  have K1 := hid (show Blk (W1.setCell ⟨w.heap.size, 1, none⟩ (.slice s0 x.ps.length k0)) w.heap.size [.string x.name, .slice s0 x.ps.length k0, .slice ao x.att.length ac] 53 from K1w.out.set 1 (.slice s0 x.ps.length k0))
  have K2 := hid (K2w.out.other (p := ⟨w.heap.size, 1, none⟩) (by show w.heap.size ≠ w.heap.size + 1; omega) (.slice s0 x.ps.length k0))
  have bw := hid (bww.out.setCell (p := ⟨w.heap.size, 1, none⟩) (Nat.le_refl _) (.slice s0 x.ps.length k0))
  have hkp := hid (show ∀ b, b ≠ w.heap.size → (W1.setCell ⟨w.heap.size, 1, none⟩ (.slice s0 x.ps.length k0)).heap[b]? = W1.heap[b]? from fun b hb => Below.heap_setCell _ _ _ _ hb)
  have hw0 := hid (show StrsV (W1.setCell ⟨w.heap.size, 1, none⟩ (.slice s0 x.ps.length k0)) (.slice s0 x.ps.length k0) x.ps ∧ SlIn (fun b => w.heap.size + 2 ≤ b) (.slice s0 x.ps.length k0) x.ps.length from ⟨sl_stay (SlV.own hro.out) (fun e => by rw [List.eq_nil_of_length_eq_zero e]; rfl) (own_in hro.out) (fun b hb => hkp.out b (by have := hb.1; have := hB.out; omega)), sl_sub (own_in hro.out) (fun b hb => by have := hb.1; have := hB.out; omega)⟩)
  replace hB := hid (show w.heap.size + 2 ≤ (W1.setCell ⟨w.heap.size, 1, none⟩ (.slice s0 x.ps.length k0)).heap.size by simp; exact hBw.out)
  clear K1w K2w bww hBw hro hkp
  generalize W1.setCell ⟨w.heap.size, 1, none⟩ (.slice s0 x.ps.length k0) = X2 at K1 K2 bw hw0 hB ⊢
  have cA := hid (copyattrs_any x.an x.att X2 (fun b => S b ∧ w.heap.size + 2 ≤ b) _ (hva.out _ bw.out) (fun b hb => ⟨hS'.out b (by have := hB.out; omega), by have := hB.out; omega⟩))
  obtain ⟨c0, c1, c2, cf⟩ := three' K1.out
  go_wp2_with fail
  refine cA.out.mono ?_
  rintro e w10 ⟨⟨att', bv, rfl, hal, hav, hain, hak⟩, b10⟩
  have hm2 : att'.length = x.att.length := (Ty.likeL_length hal).symm
  obtain ⟨bo, bc, rfl, _⟩ := hav.form
  rw [hm2] at hav hain ⊢
  replace K1 := hid (K1.out.below b10 K1.out.lt)
  replace K2 := hid (K2.out.below b10 K2.out.lt)
  replace bw := hid (bt bw.out b10)
  replace hw0 := hid (show _ ∧ _ from ⟨SlV.below hw0.out.1 b10, hw0.out.2⟩)
  have hm2' := hid hm2
  replace hal := hid hal
  replace hav := hid hav
  replace hain := hid hain
  replace hak := hid hak
  clear c0 c1 c2 cf cA b10 hm2
  obtain ⟨c0, c1, c2, cf⟩ := three' K1.out
  go_upto_region 3 with fail
  clear c0 c1 c2 cf
  have K1t := hid (show Blk (w10.setCell ⟨w.heap.size, 2, none⟩ (.slice bo x.att.length bc)) w.heap.size [.string x.name, .slice s0 x.ps.length k0, .slice bo x.att.length bc] 53 from K1.out.set 2 (.slice bo x.att.length bc))
  have K2t := hid (K2.out.other (p := ⟨w.heap.size, 2, none⟩) (by show w.heap.size ≠ w.heap.size + 1; omega) (.slice bo x.att.length bc))
  have bwt := hid (bw.out.setCell (p := ⟨w.heap.size, 2, none⟩) (Nat.le_refl _) (.slice bo x.att.length bc))
  have hkp := hid (show ∀ b, b ≠ w.heap.size → (w10.setCell ⟨w.heap.size, 2, none⟩ (.slice bo x.att.length bc)).heap[b]? = w10.heap[b]? from fun b hb => Below.heap_setCell _ _ _ _ hb)
  clear K1 K2 bw
  generalize w10.setCell ⟨w.heap.size, 2, none⟩ (.slice bo x.att.length bc) = W9 at K1t K2t bwt hkp ⊢
  have hK := hid (show Blk ((((W9.setCell ⟨w.heap.size + 1, 0, none⟩ (.string x.name)).setCell ⟨w.heap.size + 1, 1, none⟩ (.slice s0 x.ps.length k0)).setCell ⟨w.heap.size + 1, 2, none⟩ (.slice bo x.att.length bc))) (w.heap.size + 1) [.string x.name, .slice s0 x.ps.length k0, .slice bo x.att.length bc] 53 from (((K2t.out.set 0 (.string x.name)).set 1 (.slice s0 x.ps.length k0)).set 2 (.slice bo x.att.length bc)))
  have hBw := hid ((((bwt.out.setCell (p := ⟨w.heap.size + 1, 0, none⟩) (Nat.le_succ _) (.string x.name)).setCell (p := ⟨w.heap.size + 1, 1, none⟩) (Nat.le_succ _) (.slice s0 x.ps.length k0)).setCell (p := ⟨w.heap.size + 1, 2, none⟩) (Nat.le_succ _) (.slice bo x.att.length bc)))
  have hkq := hid (show ∀ b, b ≠ w.heap.size → b ≠ w.heap.size + 1 → ((((W9.setCell ⟨w.heap.size + 1, 0, none⟩ (.string x.name)).setCell ⟨w.heap.size + 1, 1, none⟩ (.slice s0 x.ps.length k0)).setCell ⟨w.heap.size + 1, 2, none⟩ (.slice bo x.att.length bc))).heap[b]? = w10.heap[b]? from fun b h1 h2 => by
    rw [Below.heap_setCell _ _ _ _ (by simpa using h2), Below.heap_setCell _ _ _ _ (by simpa using h2), Below.heap_setCell _ _ _ _ (by simpa using h2)]
    exact hkp.out b h1)
  have hlkf := hid (show x.like (⟨x.name, x.ps, .slice s0 x.ps.length k0, x.an, att', .slice bo x.att.length bc⟩ : Et) from ⟨rfl, rfl, rfl, hal.out⟩)
  have hrdf := hid (show (⟨x.name, x.ps, .slice s0 x.ps.length k0, x.an, att', .slice bo x.att.length bc⟩ : Et).rd ((((W9.setCell ⟨w.heap.size + 1, 0, none⟩ (.string x.name)).setCell ⟨w.heap.size + 1, 1, none⟩ (.slice s0 x.ps.length k0)).setCell ⟨w.heap.size + 1, 2, none⟩ (.slice bo x.att.length bc))) from by
    have hv := hav.out.2.1
    refine ⟨hnm.out, sl_stay hw0.out.1 (fun e => by rw [List.eq_nil_of_length_eq_zero e]; rfl) hw0.out.2 (fun b hb => hkq.out b (by omega) (by omega)), hav.out.1, ?_, fun u hu => ?_, hav.out.2.2.2⟩
    · show SlV _ (.slice bo x.att.length bc) att'.length (Ty.encA x.an att')
      rw [hm2'.out] at hv ⊢
      exact sl_stay hv (fun e => Ty.encA_nil _ _ (hm2'.out.trans e)) hain.out (fun b hb => hkq.out b (by have := hb.2; omega) (by have := hb.2; omega))
    · exact (hav.out.2.2.1 u hu).keep (fun b hb => hkq.out b (by have := hb.2; omega) (by have := hb.2; omega)) (hak.out u hu))
  have hinf := hid (show (⟨x.name, x.ps, .slice s0 x.ps.length k0, x.an, att', .slice bo x.att.length bc⟩ : Et).inS S from ⟨sl_sub hw0.out.2 (fun b hb => hS'.out b (by omega)), by
    show SlIn S (.slice bo x.att.length bc) att'.length
    rw [hm2'.out]
    exact sl_sub hain.out (fun b hb => hb.1), fun u hu => (hak.out u hu).mono (fun b hb => hb.1)⟩)
  obtain ⟨c0, c1, c2, cf⟩ := three' K1t.out
  obtain ⟨d0, d1, d2, df⟩ := three' K2t.out
  clear hal hav hain hak hkp hkq bwt hv0 hw0 hva hnm hS'
  go_wp2_with fail
  obtain ⟨q0, q1, q2, qf⟩ := three' hK.out
  exact bodyPost_ret (v := .agg #[.string x.name, .slice s0 x.ps.length k0, .slice bo x.att.length bc]) (by simp [results, Tryz.results46, go_sem, q0, q1, q2]) rfl ⟨⟨_, rfl, hlkf.out, hrdf.out, hinf.out⟩, hBw.out⟩
/-- it may be read -/
def Ac.rd (w : World) (x : Ac) : Prop := x.name.size ≤ 140737488355328 ∧ StrsV w x.pv x.ps ∧ StrsV w x.rv x.rs ∧ AttrsV w x.av x.an x.att
theorem Ac.rd.parts {w : World} {x : Ac} (h : x.rd w) : x.name.size ≤ 140737488355328 ∧ StrsV w x.pv x.ps ∧ StrsV w x.rv x.rs ∧ AttrsV w x.av x.an x.att := h
theorem Ac.ok.rd {w : World} {x : Ac} (h : x.ok w) : x.rd w := ⟨h.parts.1, h.parts.2.1.1, h.parts.2.2.1.1, h.parts.2.2.2.1⟩
theorem Ac.rd.below {w w' : World} {x : Ac} (h : x.rd w) (b : Below w.heap.size w w') : x.rd w' := ⟨h.parts.1, StrsV.below h.parts.2.1 b, StrsV.below h.parts.2.2.1 b, h.parts.2.2.2.below b⟩
theorem Ac.rd.forms {w : World} {x : Ac} (h : x.rd w) : ∃ po pc ro rc ao ac, x.pv = .slice po x.ps.length pc ∧ x.rv = .slice ro x.rs.length rc ∧ x.av = .slice ao x.att.length ac := by
  obtain ⟨po, pc, e0, _⟩ := SlV.form h.parts.2.1
  obtain ⟨ro, rc, e1, _⟩ := SlV.form h.parts.2.2.1
  obtain ⟨ao, ac, ea, _⟩ := SlV.form h.parts.2.2.2.2.1
  exact ⟨po, pc, ro, rc, ao, ac, e0, e1, ea⟩
/-- alike -/
def Ac.like (x y : Ac) : Prop := x.name = y.name ∧ x.ps = y.ps ∧ x.rs = y.rs ∧ x.an = y.an ∧ Ty.likeL x.att y.att
/-- where its slices lie -/
def Ac.inS (S : Nat → Prop) (x : Ac) : Prop := SlIn S x.pv x.ps.length ∧ SlIn S x.rv x.rs.length ∧ SlIn S x.av x.att.length ∧ ∀ y ∈ x.att, y.inS S
theorem Ac.inS.mono {S R : Nat → Prop} (hi : ∀ b, S b → R b) {x : Ac} (h : x.inS S) : x.inS R := by
  unfold Ac.inS at h ⊢
  exact ⟨sl_sub h.1 hi, sl_sub h.2.1 hi, sl_sub h.2.2.1 hi, fun y hy => (h.2.2.2 y hy).mono hi⟩
theorem Ac.inS_and {S R : Nat → Prop} {x : Ac} (h : x.inS S) (g : x.inS R) : x.inS (fun b => S b ∧ R b) := by
  unfold Ac.inS at h g ⊢
  exact ⟨fun hn ao m cap e a ha => ⟨h.1 hn ao m cap e a ha, g.1 hn ao m cap e a ha⟩, fun hn ao m cap e a ha => ⟨h.2.1 hn ao m cap e a ha, g.2.1 hn ao m cap e a ha⟩, fun hn ao m cap e a ha => ⟨h.2.2.1 hn ao m cap e a ha, g.2.2.1 hn ao m cap e a ha⟩, fun y hy => Ty.inS_and (h.2.2.2 y hy) (g.2.2.2 y hy)⟩
theorem Ac.rd.inS {w : World} {x : Ac} (h : x.rd w) : x.inS (· < w.heap.size) := by
  have h := h.parts
  unfold Ac.inS
  exact ⟨Ty.sl_lt h.2.1 (fun hn => by rw [strC_len]; exact hn), Ty.sl_lt h.2.2.1 (fun hn => by rw [strC_len]; exact hn), Ty.sl_lt h.2.2.2.2.1 (fun hn => by rw [Ty.encA_len _ _ h.2.2.2.1]; omega), fun y hy => (h.2.2.2.2.2.1 y hy).inS⟩
theorem Ac.rd.keep {w w' : World} {S : Nat → Prop} (hk : ∀ b, S b → w'.heap[b]? = w.heap[b]?) {x : Ac} (h : x.rd w) (hS : x.inS S) : x.rd w' := by
  have h := h.parts
  unfold Ac.inS at hS
  exact ⟨h.1, sl_stay h.2.1 (fun e => by rw [List.eq_nil_of_length_eq_zero e]; rfl) hS.1 hk, sl_stay h.2.2.1 (fun e => by rw [List.eq_nil_of_length_eq_zero e]; rfl) hS.2.1 hk, h.2.2.2.1, sl_stay h.2.2.2.2.1 (Ty.encA_nil _ _) hS.2.2.1 hk, fun y hy => (h.2.2.2.2.2.1 y hy).keep hk (hS.2.2.2 y hy), h.2.2.2.2.2.2⟩
def AcBuilt (S : Nat → Prop) (x : Ac) (e : Ending) (w' : World) : Prop := ∃ y : Ac, e = .returned y.val ∧ x.like y ∧ y.rd w' ∧ y.inS S
set_option maxHeartbeats 8000000 in
theorem copy_ac (x : Ac) (w : World) (S : Nat → Prop) (h : x.ok w) (hS : ∀ b, w.heap.size ≤ b → S b) : Calls Tryz.prog 47 #[x.val] w fun e w' => AcBuilt S x e w' ∧ Below w.heap.size w w' := by
  obtain ⟨ic, zc, hi, hz0, hz1, hz2, hz3⟩ := info_str
  obtain ⟨po, pc, ro, rc, ao, ac, e0, e1, e2⟩ := h.forms
  rw [show x.val = .agg #[.string x.name, .slice po x.ps.length pc, .slice ro x.rs.length rc, .slice ao x.att.length ac] by unfold Ac.val; rw [e0, e1, e2]]
  have hv0 := hid (show ∀ W, Below w.heap.size w W → NamesV W (.slice po x.ps.length pc) x.ps from fun W B => e0 ▸ (h.below B).parts.2.1)
  have hv1 := hid (show ∀ W, Below w.heap.size w W → NamesV W (.slice ro x.rs.length rc) x.rs from fun W B => e1 ▸ (h.below B).parts.2.2.1)
  have hva := hid (show ∀ W, Below w.heap.size w W → AttsV W (.slice ao x.att.length ac) x.an x.att from fun W B => e2 ▸ (h.below B).parts.2.2.2)
  have hnm := hid h.parts.1
  have hS' := hid hS
  have bw0 := hid (Below.refl w.heap.size w)
  clear h hS e0 e1 e2
  go_enter Tryz.func47, Tryz.ntmps47
  go_upto_region 1 with fail
  have K1 := hid (Blk.new w [.string x.name, .slice po x.ps.length pc, .slice ro x.rs.length rc, .slice ao x.att.length ac] 57)
  have bw1 := hid (bw0.out.alloc (Nat.le_refl _) (.cells #[.string x.name, .slice po x.ps.length pc, .slice ro x.rs.length rc, .slice ao x.att.length ac] 57))
  have hs : w.heap.size + 1 = (w.alloc (.cells #[.string x.name, .slice po x.ps.length pc, .slice ro x.rs.length rc, .slice ao x.att.length ac] 57)).heap.size := by simp
  generalize w.alloc (.cells #[.string x.name, .slice po x.ps.length pc, .slice ro x.rs.length rc, .slice ao x.att.length ac] 57) = X0 at K1 bw1 hs ⊢
  have K2 := hid (Blk.new' X0 [.string ⟨#[]⟩, .slice none 0 0, .slice none 0 0, .slice none 0 0] 57 (w.heap.size + 1) hs)
  replace K1 := hid (K1.out.alloc (.cells #[.string ⟨#[]⟩, .slice none 0 0, .slice none 0 0, .slice none 0 0] 57))
  have bw := hid (bw1.out.alloc (by omega) (.cells #[.string ⟨#[]⟩, .slice none 0 0, .slice none 0 0, .slice none 0 0] 57))
  have hB := hid (show w.heap.size + 2 ≤ (X0.alloc (.cells #[.string ⟨#[]⟩, .slice none 0 0, .slice none 0 0, .slice none 0 0] 57)).heap.size by simp; omega)
  clear bw0 bw1 hs
  generalize X0.alloc (.cells #[.string ⟨#[]⟩, .slice none 0 0, .slice none 0 0, .slice none 0 0] 57) = X1 at K1 K2 bw hB ⊢
  have hown := World.ownsRow_made (e := 9) (size := 1) X1 #[] 0 (Nat.le_refl _) (by decide) rfl
  have hal := (Below.refl X1.heap.size X1).alloc (Nat.le_refl _) (.cells #[] 9)
  obtain ⟨v1, W1, hrun, ho, hg, _⟩ := app_own (P := Tryz.prog) (X1.alloc (.cells #[] 9)) X1.heap.size 23 23 9 ic zc 1 16 Tryz.underlying23 hi hz0 hz1 hz2 hz3 (by decide) (.slice (some ⟨X1.heap.size, 0, none⟩) 0 0) 0 [] hown (.slice po x.ps.length pc) x.ps.length (strC x.ps) (SlV.below (hv0.out _ bw.out).1 hal) (by rw [strC_len, Nat.mul_one]) (fun u hu => by simp [strC] at hu; obtain ⟨a, _, rfl⟩ := hu; rfl) (by have := SlV.len (hv0.out _ bw.out).1; omega) (by have := (hv0.out _ bw.out).2; omega) hal.size
  rw [Nat.zero_add, List.nil_append] at ho
  obtain ⟨s0, k0, rfl, _, _⟩ := ownsRow_form ho
  have hb : Below X1.heap.size X1 W1 := hal.grown hg (by simp) (fun b hb => (hown.lt b hb).1)
  have hro := hid ho
  have K1w := hid (K1.out.below hb K1.out.lt)
  have K2w := hid (K2.out.below hb K2.out.lt)
  have bww := hid (bt bw.out hb)
  have hBw := hid (Nat.le_trans hB.out hb.size)
  replace hrun := hid hrun
  have hlt : w.heap.size < X1.heap.size := K1.out.lt
  have hne : w.heap.size ≠ X1.heap.size := by omega
  obtain ⟨c0, c1, c2, c3, cf⟩ := four' K1.out
  obtain ⟨g0, g1, g2, g3, gf⟩ := four' K1w.out
  clear hb ho hg hown hal
  go_upto_region 2 with (at_builtin; refine wpList_app3 rfl (.tmp 3) (.tmp 5) _ _ rfl _ _ _ _ rfl rfl hrun.out ?_)
  clear c0 g0 c1 g1 c2 g2 c3 g3 cf gf hrun K1 K2 bw hlt hne
  have K1 := hid (show Blk (W1.setCell ⟨w.heap.size, 1, none⟩ (.slice s0 x.ps.length k0)) w.heap.size [.string x.name, .slice s0 x.ps.length k0, .slice ro x.rs.length rc, .slice ao x.att.length ac] 57 from K1w.out.set 1 (.slice s0 x.ps.length k0))
  have K2 := hid (K2w.out.other (p := ⟨w.heap.size, 1, none⟩) (by show w.heap.size ≠ w.heap.size + 1; omega) (.slice s0 x.ps.length k0))
  have bw := hid (bww.out.setCell (p := ⟨w.heap.size, 1, none⟩) (Nat.le_refl _) (.slice s0 x.ps.length k0))
  have hkp := hid (show ∀ b, b ≠ w.heap.size → (W1.setCell ⟨w.heap.size, 1, none⟩ (.slice s0 x.ps.length k0)).heap[b]? = W1.heap[b]? from fun b hb => Below.heap_setCell _ _ _ _ hb)
  have hw0 := hid (show StrsV (W1.setCell ⟨w.heap.size, 1, none⟩ (.slice s0 x.ps.length k0)) (.slice s0 x.ps.length k0) x.ps ∧ SlIn (fun b => w.heap.size + 2 ≤ b) (.slice s0 x.ps.length k0) x.ps.length from ⟨sl_stay (SlV.own hro.out) (fun e => by rw [List.eq_nil_of_length_eq_zero e]; rfl) (own_in hro.out) (fun b hb => hkp.out b (by have := hb.1; have := hB.out; omega)), sl_sub (own_in hro.out) (fun b hb => by have := hb.1; have := hB.out; omega)⟩)
  replace hB := hid (show w.heap.size + 2 ≤ (W1.setCell ⟨w.heap.size, 1, none⟩ (.slice s0 x.ps.length k0)).heap.size by simp; exact hBw.out)
  clear K1w K2w bww hBw hro hkp
  generalize W1.setCell ⟨w.heap.size, 1, none⟩ (.slice s0 x.ps.length k0) = X2 at K1 K2 bw hw0 hB ⊢
  have hown := World.ownsRow_made (e := 9) (size := 1) X2 #[] 0 (Nat.le_refl _) (by decide) rfl
  have hal := (Below.refl X2.heap.size X2).alloc (Nat.le_refl _) (.cells #[] 9)
  obtain ⟨v1, W1, hrun, ho, hg, _⟩ := app_own (P := Tryz.prog) (X2.alloc (.cells #[] 9)) X2.heap.size 23 23 9 ic zc 1 16 Tryz.underlying23 hi hz0 hz1 hz2 hz3 (by decide) (.slice (some ⟨X2.heap.size, 0, none⟩) 0 0) 0 [] hown (.slice ro x.rs.length rc) x.rs.length (strC x.rs) (SlV.below (hv1.out _ bw.out).1 hal) (by rw [strC_len, Nat.mul_one]) (fun u hu => by simp [strC] at hu; obtain ⟨a, _, rfl⟩ := hu; rfl) (by have := SlV.len (hv1.out _ bw.out).1; omega) (by have := (hv1.out _ bw.out).2; omega) hal.size
  rw [Nat.zero_add, List.nil_append] at ho
  obtain ⟨s1, k1, rfl, _, _⟩ := ownsRow_form ho
  have hb : Below X2.heap.size X2 W1 := hal.grown hg (by simp) (fun b hb => (hown.lt b hb).1)
  have hro := hid ho
  have K1w := hid (K1.out.below hb K1.out.lt)
  have K2w := hid (K2.out.below hb K2.out.lt)
  have bww := hid (bt bw.out hb)
  have hBw := hid (Nat.le_trans hB.out hb.size)
  replace hrun := hid hrun
  have hlt : w.heap.size < X2.heap.size := K1.out.lt
  have hne : w.heap.size ≠ X2.heap.size := by omega
  replace hw0 := hid (show _ ∧ _ from ⟨SlV.below hw0.out.1 hb, hw0.out.2⟩)
  obtain ⟨c0, c1, c2, c3, cf⟩ := four' K1.out
  obtain ⟨g0, g1, g2, g3, gf⟩ := four' K1w.out
  clear hb ho hg hown hal
  go_upto_region 3 with (at_builtin; refine wpList_app3 rfl (.tmp 8) (.tmp 10) _ _ rfl _ _ _ _ rfl rfl hrun.out ?_)
  clear c0 g0 c1 g1 c2 g2 c3 g3 cf gf hrun K1 K2 bw hlt hne
  have K1 := hid (show Blk (W1.setCell ⟨w.heap.size, 2, none⟩ (.slice s1 x.rs.length k1)) w.heap.size [.string x.name, .slice s0 x.ps.length k0, .slice s1 x.rs.length k1, .slice ao x.att.length ac] 57 from K1w.out.set 2 (.slice s1 x.rs.length k1))
  have K2 := hid (K2w.out.other (p := ⟨w.heap.size, 2, none⟩) (by show w.heap.size ≠ w.heap.size + 1; omega) (.slice s1 x.rs.length k1))
  have bw := hid (bww.out.setCell (p := ⟨w.heap.size, 2, none⟩) (Nat.le_refl _) (.slice s1 x.rs.length k1))
  have hkp := hid (show ∀ b, b ≠ w.heap.size → (W1.setCell ⟨w.heap.size, 2, none⟩ (.slice s1 x.rs.length k1)).heap[b]? = W1.heap[b]? from fun b hb => Below.heap_setCell _ _ _ _ hb)
  have hw1 := hid (show StrsV (W1.setCell ⟨w.heap.size, 2, none⟩ (.slice s1 x.rs.length k1)) (.slice s1 x.rs.length k1) x.rs ∧ SlIn (fun b => w.heap.size + 2 ≤ b) (.slice s1 x.rs.length k1) x.rs.length from ⟨sl_stay (SlV.own hro.out) (fun e => by rw [List.eq_nil_of_length_eq_zero e]; rfl) (own_in hro.out) (fun b hb => hkp.out b (by have := hb.1; have := hB.out; omega)), sl_sub (own_in hro.out) (fun b hb => by have := hb.1; have := hB.out; omega)⟩)
  replace hw0 := hid (show StrsV (W1.setCell ⟨w.heap.size, 2, none⟩ (.slice s1 x.rs.length k1)) (.slice s0 x.ps.length k0) x.ps ∧ SlIn (fun b => w.heap.size + 2 ≤ b) (.slice s0 x.ps.length k0) x.ps.length from ⟨sl_stay hw0.out.1 (fun e => by rw [List.eq_nil_of_length_eq_zero e]; rfl) hw0.out.2 (fun b hb => hkp.out b (by omega)), hw0.out.2⟩)
  replace hB := hid (show w.heap.size + 2 ≤ (W1.setCell ⟨w.heap.size, 2, none⟩ (.slice s1 x.rs.length k1)).heap.size by simp; exact hBw.out)
  clear K1w K2w bww hBw hro hkp
  generalize W1.setCell ⟨w.heap.size, 2, none⟩ (.slice s1 x.rs.length k1) = X3 at K1 K2 bw hw0 hw1 hB ⊢
  have cA := hid (copyattrs_any x.an x.att X3 (fun b => S b ∧ w.heap.size + 2 ≤ b) _ (hva.out _ bw.out) (fun b hb => ⟨hS'.out b (by have := hB.out; omega), by have := hB.out; omega⟩))
  obtain ⟨c0, c1, c2, c3, cf⟩ := four' K1.out
  go_wp2_with fail
  refine cA.out.mono ?_
  rintro e w10 ⟨⟨att', bv, rfl, hal, hav, hain, hak⟩, b10⟩
  have hm2 : att'.length = x.att.length := (Ty.likeL_length hal).symm
  obtain ⟨bo, bc, rfl, _⟩ := hav.form
  rw [hm2] at hav hain ⊢
  replace K1 := hid (K1.out.below b10 K1.out.lt)
  replace K2 := hid (K2.out.below b10 K2.out.lt)
  replace bw := hid (bt bw.out b10)
  replace hw0 := hid (show _ ∧ _ from ⟨SlV.below hw0.out.1 b10, hw0.out.2⟩)
  replace hw1 := hid (show _ ∧ _ from ⟨SlV.below hw1.out.1 b10, hw1.out.2⟩)
  have hm2' := hid hm2
  replace hal := hid hal
  replace hav := hid hav
  replace hain := hid hain
  replace hak := hid hak
  clear c0 c1 c2 c3 cf cA b10 hm2
  obtain ⟨c0, c1, c2, c3, cf⟩ := four' K1.out
  go_upto_region 4 with fail
  clear c0 c1 c2 c3 cf
  have K1t := hid (show Blk (w10.setCell ⟨w.heap.size, 3, none⟩ (.slice bo x.att.length bc)) w.heap.size [.string x.name, .slice s0 x.ps.length k0, .slice s1 x.rs.length k1, .slice bo x.att.length bc] 57 from K1.out.set 3 (.slice bo x.att.length bc))
  have K2t := hid (K2.out.other (p := ⟨w.heap.size, 3, none⟩) (by show w.heap.size ≠ w.heap.size + 1; omega) (.slice bo x.att.length bc))
  have bwt := hid (bw.out.setCell (p := ⟨w.heap.size, 3, none⟩) (Nat.le_refl _) (.slice bo x.att.length bc))
  have hkp := hid (show ∀ b, b ≠ w.heap.size → (w10.setCell ⟨w.heap.size, 3, none⟩ (.slice bo x.att.length bc)).heap[b]? = w10.heap[b]? from fun b hb => Below.heap_setCell _ _ _ _ hb)
  clear K1 K2 bw
  generalize w10.setCell ⟨w.heap.size, 3, none⟩ (.slice bo x.att.length bc) = W9 at K1t K2t bwt hkp ⊢
  have hK := hid (show Blk (((((W9.setCell ⟨w.heap.size + 1, 0, none⟩ (.string x.name)).setCell ⟨w.heap.size + 1, 1, none⟩ (.slice s0 x.ps.length k0)).setCell ⟨w.heap.size + 1, 2, none⟩ (.slice s1 x.rs.length k1)).setCell ⟨w.heap.size + 1, 3, none⟩ (.slice bo x.att.length bc))) (w.heap.size + 1) [.string x.name, .slice s0 x.ps.length k0, .slice s1 x.rs.length k1, .slice bo x.att.length bc] 57 from ((((K2t.out.set 0 (.string x.name)).set 1 (.slice s0 x.ps.length k0)).set 2 (.slice s1 x.rs.length k1)).set 3 (.slice bo x.att.length bc)))
  have hBw := hid (((((bwt.out.setCell (p := ⟨w.heap.size + 1, 0, none⟩) (Nat.le_succ _) (.string x.name)).setCell (p := ⟨w.heap.size + 1, 1, none⟩) (Nat.le_succ _) (.slice s0 x.ps.length k0)).setCell (p := ⟨w.heap.size + 1, 2, none⟩) (Nat.le_succ _) (.slice s1 x.rs.length k1)).setCell (p := ⟨w.heap.size + 1, 3, none⟩) (Nat.le_succ _) (.slice bo x.att.length bc)))
  have hkq := hid (show ∀ b, b ≠ w.heap.size → b ≠ w.heap.size + 1 → (((((W9.setCell ⟨w.heap.size + 1, 0, none⟩ (.string x.name)).setCell ⟨w.heap.size + 1, 1, none⟩ (.slice s0 x.ps.length k0)).setCell ⟨w.heap.size + 1, 2, none⟩ (.slice s1 x.rs.length k1)).setCell ⟨w.heap.size + 1, 3, none⟩ (.slice bo x.att.length bc))).heap[b]? = w10.heap[b]? from fun b h1 h2 => by
    rw [Below.heap_setCell _ _ _ _ (by simpa using h2), Below.heap_setCell _ _ _ _ (by simpa using h2), Below.heap_setCell _ _ _ _ (by simpa using h2), Below.heap_setCell _ _ _ _ (by simpa using h2)]
    exact hkp.out b h1)
  have hlkf := hid (show x.like (⟨x.name, x.ps, .slice s0 x.ps.length k0, x.rs, .slice s1 x.rs.length k1, x.an, att', .slice bo x.att.length bc⟩ : Ac) from ⟨rfl, rfl, rfl, rfl, hal.out⟩)
  have hrdf := hid (show (⟨x.name, x.ps, .slice s0 x.ps.length k0, x.rs, .slice s1 x.rs.length k1, x.an, att', .slice bo x.att.length bc⟩ : Ac).rd (((((W9.setCell ⟨w.heap.size + 1, 0, none⟩ (.string x.name)).setCell ⟨w.heap.size + 1, 1, none⟩ (.slice s0 x.ps.length k0)).setCell ⟨w.heap.size + 1, 2, none⟩ (.slice s1 x.rs.length k1)).setCell ⟨w.heap.size + 1, 3, none⟩ (.slice bo x.att.length bc))) from by
    have hv := hav.out.2.1
    refine ⟨hnm.out, sl_stay hw0.out.1 (fun e => by rw [List.eq_nil_of_length_eq_zero e]; rfl) hw0.out.2 (fun b hb => hkq.out b (by omega) (by omega)), sl_stay hw1.out.1 (fun e => by rw [List.eq_nil_of_length_eq_zero e]; rfl) hw1.out.2 (fun b hb => hkq.out b (by omega) (by omega)), hav.out.1, ?_, fun u hu => ?_, hav.out.2.2.2⟩
    · show SlV _ (.slice bo x.att.length bc) att'.length (Ty.encA x.an att')
      rw [hm2'.out] at hv ⊢
      exact sl_stay hv (fun e => Ty.encA_nil _ _ (hm2'.out.trans e)) hain.out (fun b hb => hkq.out b (by have := hb.2; omega) (by have := hb.2; omega))
    · exact (hav.out.2.2.1 u hu).keep (fun b hb => hkq.out b (by have := hb.2; omega) (by have := hb.2; omega)) (hak.out u hu))
  have hinf := hid (show (⟨x.name, x.ps, .slice s0 x.ps.length k0, x.rs, .slice s1 x.rs.length k1, x.an, att', .slice bo x.att.length bc⟩ : Ac).inS S from ⟨sl_sub hw0.out.2 (fun b hb => hS'.out b (by omega)), sl_sub hw1.out.2 (fun b hb => hS'.out b (by omega)), by
    show SlIn S (.slice bo x.att.length bc) att'.length
    rw [hm2'.out]
    exact sl_sub hain.out (fun b hb => hb.1), fun u hu => (hak.out u hu).mono (fun b hb => hb.1)⟩)
  obtain ⟨c0, c1, c2, c3, cf⟩ := four' K1t.out
  obtain ⟨d0, d1, d2, d3, df⟩ := four' K2t.out
  clear hal hav hain hak hkp hkq bwt hv0 hw0 hv1 hw1 hva hnm hS'
  go_wp2_with fail
  obtain ⟨q0, q1, q2, q3, qf⟩ := four' hK.out
  exact bodyPost_ret (v := .agg #[.string x.name, .slice s0 x.ps.length k0, .slice s1 x.rs.length k1, .slice bo x.att.length bc]) (by simp [results, Tryz.results47, go_sem, q0, q1, q2, q3]) rfl ⟨⟨_, rfl, hlkf.out, hrdf.out, hinf.out⟩, hBw.out⟩
end Go.Proofs.YtbcjppbiihgfpaaGreatDoor.Tyt
