/-
  lictorref10.Copy: contract. Written by wip/tycopy4gen.py.
-/
import Derived.Test.YtbcjppbiihgfpaaGreatDoorTyCopyE
namespace Go.Proofs.YtbcjppbiihgfpaaGreatDoor.Tyt
open Go.ChangeShapes Go.WideShapes Go.ChangeAt Go.RowKit
open Go.Proofs.YtbcjppbiihgfpaaGreatDoor.Mem
set_option linter.unusedVariables false
set_option linter.unusedSimpArgs false
set_option maxRecDepth 100000
theorem two' {w : World} {b : Nat} {v0 v1 : Value} {t : TypeId} (h : Blk w b [v0, v1] t) :
    w.cell? ⟨b, 0, none⟩ = some v0 ∧ w.cell? ⟨b, 1, none⟩ = some v1 ∧ ∀ o, w.frozen? ⟨b, o, none⟩ = false := ⟨h.cell 0 (by simp), h.cell 1 (by simp), h.free⟩
theorem info_et : ∃ i z, Tryz.prog.info? 53 = some i ∧ i.zero = some z ∧ i.size = 3 ∧ i.bytes = 64 ∧ z.cells.size = 3 := ⟨_, _, rfl, rfl, rfl, rfl, rfl⟩
theorem Et.enc_snoc (l : List Et) (y : Et) : Et.enc (l ++ [y]) = Et.enc l ++ y.cells := by simp [Et.enc]
/-- alike, one by one -/
def Et.likes (l ys : List Et) : Prop := ∀ (j : Nat) (h1 : j < l.length) (h2 : j < ys.length), l[j].like ys[j]
theorem Et.likes_snoc {l ys : List Et} {y : Et} (h : Et.likes l ys) (k : Nat) (hk : ys.length = k) (h1 : k < l.length) (hy : l[k].like y) : Et.likes l (ys ++ [y]) := by
  intro j h1 h2
  by_cases hj : j < ys.length
  · rw [List.getElem_append_left hj]; exact h j h1 hj
  · have : j = k := by rw [List.length_append, List.length_singleton] at h2; omega
    subst this
    rw [List.getElem_append_right (by omega)]
    simp only [hk, Nat.sub_self, List.getElem_singleton]
    exact hy
/-- a row that may be read, and where its elements lie -/
def EtsR (w : World) (v : Value) (l : List Et) : Prop := SlV w v l.length (Et.enc l) ∧ ∀ y ∈ l, y.rd w
theorem EtsR.below {w w' : World} {v : Value} {l : List Et} (h : EtsR w v l) (b : Below w.heap.size w w') : EtsR w' v l := ⟨h.1.below b, fun x hx => (h.2 x hx).below b⟩
theorem EtsV.r {w : World} {v : Value} {l : List Et} (h : EtsV w v l) : EtsR w v l := ⟨h.1, fun x hx => (h.2 x hx).rd⟩
theorem info_ac : ∃ i z, Tryz.prog.info? 57 = some i ∧ i.zero = some z ∧ i.size = 4 ∧ i.bytes = 88 ∧ z.cells.size = 4 := ⟨_, _, rfl, rfl, rfl, rfl, rfl⟩
theorem Ac.enc_snoc (l : List Ac) (y : Ac) : Ac.enc (l ++ [y]) = Ac.enc l ++ y.cells := by simp [Ac.enc]
/-- alike, one by one -/
def Ac.likes (l ys : List Ac) : Prop := ∀ (j : Nat) (h1 : j < l.length) (h2 : j < ys.length), l[j].like ys[j]
theorem Ac.likes_snoc {l ys : List Ac} {y : Ac} (h : Ac.likes l ys) (k : Nat) (hk : ys.length = k) (h1 : k < l.length) (hy : l[k].like y) : Ac.likes l (ys ++ [y]) := by
  intro j h1 h2
  by_cases hj : j < ys.length
  · rw [List.getElem_append_left hj]; exact h j h1 hj
  · have : j = k := by rw [List.length_append, List.length_singleton] at h2; omega
    subst this
    rw [List.getElem_append_right (by omega)]
    simp only [hk, Nat.sub_self, List.getElem_singleton]
    exact hy
/-- a row that may be read, and where its elements lie -/
def AcsR (w : World) (v : Value) (l : List Ac) : Prop := SlV w v l.length (Ac.enc l) ∧ ∀ y ∈ l, y.rd w
theorem AcsR.below {w w' : World} {v : Value} {l : List Ac} (h : AcsR w v l) (b : Below w.heap.size w w') : AcsR w' v l := ⟨h.1.below b, fun x hx => (h.2 x hx).below b⟩
theorem AcsV.r {w : World} {v : Value} {l : List Ac} (h : AcsV w v l) : AcsR w v l := ⟨h.1, fun x hx => (h.2 x hx).rd⟩
def Sch.rd (w : World) (x : Sch) : Prop := EtsR w x.tv x.ts ∧ AcsR w x.cv x.acts
theorem Sch.rd.below {w w' : World} {x : Sch} (h : x.rd w) (b : Below w.heap.size w w') : x.rd w' := ⟨h.1.below b, h.2.below b⟩
def Sch.like (x y : Sch) : Prop := x.ts.length = y.ts.length ∧ x.acts.length = y.acts.length ∧ Et.likes x.ts y.ts ∧ Ac.likes x.acts y.acts
/-- what is made of it takes no more room than a slice may -/
def Sch.fit (x : Sch) : Prop := x.ts.length * 64 ≤ 140737488355328 ∧ x.acts.length * 88 ≤ 140737488355328
set_option maxHeartbeats 32000000 in
theorem copy_any (x : Sch) (w : World) (h : x.ok w) (hf : x.fit) : Calls Tryz.prog 20 #[x.val] w fun e w' => (∃ y : Sch, e = .returned y.val ∧ x.like y ∧ y.rd w') ∧ Below w.heap.size w w' := by
  obtain ⟨icet, zcet, hiet, hz0et, hz1et, hz2et, hz3et⟩ := info_et
  obtain ⟨icac, zcac, hiac, hz0ac, hz1ac, hz2ac, hz3ac⟩ := info_ac
  obtain ⟨to, tc, et, _⟩ := SlV.form h.1.1
  obtain ⟨co, cc, ec, _⟩ := SlV.form h.2.1
  rw [show x.val = .agg #[.slice to x.ts.length tc, .slice co x.acts.length cc] by unfold Sch.val; rw [et, ec]]
  obtain ⟨hf1, hf2⟩ := hf
  have h' := hid h
  have eEt := hid et
  have eAc := hid ec
  have bw0 := hid (Below.refl w.heap.size w)
  clear h et ec
  go_enter Tryz.func20, Tryz.ntmps20
  go_upto_region 2 with fail
  have K0 := hid (Blk.new w [.slice to x.ts.length tc, .slice co x.acts.length cc] 49)
  have bw1 := hid (bw0.out.alloc (Nat.le_refl _) (.cells #[.slice to x.ts.length tc, .slice co x.acts.length cc] 49))
  have hs : w.heap.size + 1 = (w.alloc (.cells #[.slice to x.ts.length tc, .slice co x.acts.length cc] 49)).heap.size := by simp
  generalize w.alloc (.cells #[.slice to x.ts.length tc, .slice co x.acts.length cc] 49) = X0 at K0 bw1 hs ⊢
  have K1 := hid (Blk.new' X0 [.slice none 0 0, .slice none 0 0] 49 (w.heap.size + 1) hs)
  replace K0 := hid (K0.out.alloc (.cells #[.slice none 0 0, .slice none 0 0] 49))
  have bw2 := hid (bw1.out.alloc (by omega) (.cells #[.slice none 0 0, .slice none 0 0] 49))
  have hs2 : w.heap.size + 1 + 1 = (X0.alloc (.cells #[.slice none 0 0, .slice none 0 0] 49)).heap.size := by simp; omega
  generalize X0.alloc (.cells #[.slice none 0 0, .slice none 0 0] 49) = X1 at K0 K1 bw2 hs2 ⊢
  have K2 := hid (Blk.new' X1 [.slice none 0 0, .slice none 0 0] 49 (w.heap.size + 1 + 1) hs2)
  replace K0 := hid (K0.out.alloc (.cells #[.slice none 0 0, .slice none 0 0] 49))
  replace K1 := hid (K1.out.alloc (.cells #[.slice none 0 0, .slice none 0 0] 49))
  have bw := hid (bw2.out.alloc (by omega) (.cells #[.slice none 0 0, .slice none 0 0] 49))
  clear bw0 bw1 bw2 hs hs2
  generalize X1.alloc (.cells #[.slice none 0 0, .slice none 0 0] 49) = X2 at K0 K1 K2 bw ⊢
  have hGB := hid (show w.heap.size + 1 + 1 < w.heap.size + 1 + 1 + 1 by omega)
  have hB := hid (show w.heap.size + 1 + 1 + 1 ≤ X2.heap.size from K2.out.lt)
  obtain ⟨c0, c1, cf⟩ := two' K0.out
  go_wp2_with fail
  clear c0 c1 cf
  go_loopw [11] (fun i wr => ∃ (k : Nat) (ts : List Et) (to2 : Option Addr) (tc2 : Nat), k ≤ x.ts.length ∧ i = .int .i64 k ∧ Hid (ts.length = k ∧ Et.likes x.ts ts) ∧ Hid (wr.ownsRow (w.heap.size + 1 + 1 + 1) 53 3 (.slice to2 k tc2) k (Et.enc ts)) ∧ Hid (∀ y ∈ ts, y.rd wr ∧ y.inS (fun b => w.heap.size + 1 + 1 + 1 ≤ b ∧ (Value.slice to2 k tc2).ownBlock ≠ some b)) ∧ Hid (Blk wr (w.heap.size) [.slice to x.ts.length tc, .slice co x.acts.length cc] 49) ∧ Hid (Blk wr (w.heap.size + 1) [.slice none 0 0, .slice none 0 0] 49) ∧ Hid (Blk wr (w.heap.size + 1 + 1) [.slice to2 k tc2, .slice none 0 0] 49) ∧ Hid (w.heap.size + 1 + 1 + 1 ≤ wr.heap.size) ∧ Hid (∀ b, b < w.heap.size + 1 + 1 + 1 → b ≠ w.heap.size + 1 + 1 → wr.heap[b]? = X2.heap[b]?) ∧ Hid (Below w.heap.size w wr)) (fun i _ => x.ts.length - (intOf i).toNat)
  case atStart => exact ⟨0, [], none, 0, by omega, rfl, hid ⟨rfl, fun j _ h => absurd h (by simp)⟩, hid (World.ownsRow_nil _ _ _ _), hid (fun y hy => by cases hy), K0, K1, K2, hB, hid (fun b _ _ => rfl), bw⟩
  case round =>
    clear K0 K1 K2 hB bw
    obtain ⟨k, ts, to2, tc2, hk, rfl, hlk, hown, hys, K0, K1, K2, hB, hk2, bw⟩ := hrel
    by_cases hkl : k < x.ts.length
    · have hki : (k : Int) < (x.ts.length : Int) := by omega
      obtain ⟨xb, xo, xcap, hxv, hxb, hxc⟩ := (h'.out.1).open (by omega)
      rw [eEt.out] at hxv
      simp only [Value.slice.injEq] at hxv
      obtain ⟨hx1, _, hx2⟩ := hxv
      subst hx1
      obtain ⟨f0, f1, f2⟩ := hxc k hkl
      have hok := hid (h'.out.1.2 _ (List.getElem_mem hkl))
      obtain ⟨z, hz⟩ : ∃ z, Hid (x.ts[k] = z) := ⟨_, hid rfl⟩
      rw [hz.out] at f0 f1 f2 hok
      obtain ⟨po, pc, ao, ac, e0, e1⟩ := hok.out.forms
      rw [e0] at f1
      rw [e1] at f2
      replace f0 := cell_below bw.out _ _ f0
      replace f1 := cell_below bw.out _ _ f1
      replace f2 := cell_below bw.out _ _ f2
      have hzv := hid (show z.val = .agg #[.string z.name, .slice po z.ps.length pc, .slice ao z.att.length ac] by unfold Et.val; rw [e0, e1])
      clear e0 e1 hxc hxb hx2
      go_upto_region 5 with fail
      have K5 := hid (Blk.new wr [.string z.name, .slice po z.ps.length pc, .slice ao z.att.length ac] 53)
      have hbX := (Below.refl wr.heap.size wr).alloc (Nat.le_refl _) (.cells #[.string z.name, .slice po z.ps.length pc, .slice ao z.att.length ac] 53)
      have hb5 := hid (show (Value.slice to2 k tc2).ownBlock ≠ some wr.heap.size from fun e => by have := (hown.out.lt _ e).2; omega)
      have hb52 := hid (show w.heap.size + 1 + 1 ≠ wr.heap.size from by have := K2.out.lt; omega)
      replace hown := hid (ownsRow_below hown.out hbX)
      replace hys := hid (fun u (hu : u ∈ ts) => (show _ ∧ _ from ⟨(hys.out u hu).1.below hbX, (hys.out u hu).2⟩))
      replace K0 := hid (K0.out.below hbX K0.out.lt)
      replace K1 := hid (K1.out.below hbX K1.out.lt)
      replace K2 := hid (K2.out.below hbX K2.out.lt)
      replace hk2 := hid (fun b (h1 : b < w.heap.size + 1 + 1 + 1) (h2 : b ≠ w.heap.size + 1 + 1) => ((hbX).block b (by have := hB.out; omega)).trans (hk2.out b h1 h2))
      replace bw := hid (bt bw.out hbX)
      replace hB := hid (Nat.le_trans hB.out (hbX).size)
      clear f0 f1 f2 hbX
      generalize wr.alloc (.cells #[.string z.name, .slice po z.ps.length pc, .slice ao z.att.length ac] 53) = X5 at K0 K1 K2 K5 hown hys hk2 hB bw ⊢
      generalize wr.heap.size = b5 at K5 hb5 hb52 ⊢
      refine wp_region_held_drew (S := (fun W => W.cell? ⟨b5, 0, none⟩ = some (.string z.name) ∧ W.cell? ⟨b5, 1, none⟩ = some (.slice po z.ps.length pc) ∧ W.cell? ⟨b5, 2, none⟩ = some (.slice ao z.att.length ac))) (by kernel_rfl) (by obtain ⟨s0, s1, s2, -⟩ := three' K5.out; exact ⟨s0, s1, s2⟩) (fun hHeld => ?_)
      replace hown := hid (ownsRow_below hown.out ((Below.refl X5.heap.size X5).drew))
      replace hys := hid (fun u (hu : u ∈ ts) => (show _ ∧ _ from ⟨(hys.out u hu).1.below ((Below.refl X5.heap.size X5).drew), (hys.out u hu).2⟩))
      replace K0 := hid (K0.out.below ((Below.refl X5.heap.size X5).drew) K0.out.lt)
      replace K1 := hid (K1.out.below ((Below.refl X5.heap.size X5).drew) K1.out.lt)
      replace K2 := hid (K2.out.below ((Below.refl X5.heap.size X5).drew) K2.out.lt)
      replace hk2 := hid (fun b (h1 : b < w.heap.size + 1 + 1 + 1) (h2 : b ≠ w.heap.size + 1 + 1) => ((((Below.refl X5.heap.size X5).drew)).block b (by have := hB.out; omega)).trans (hk2.out b h1 h2))
      replace bw := hid (bt bw.out ((Below.refl X5.heap.size X5).drew))
      replace hB := hid (Nat.le_trans hB.out (((Below.refl X5.heap.size X5).drew)).size)
      replace K5 := hid K5.out.drew
      generalize X5.drew = w5 at K0 K1 K2 K5 hown hys hk2 hB bw hHeld ⊢
      have hcl := hid (copy_et z w5 (fun b => w.heap.size + 1 + 1 + 1 ≤ b ∧ (Value.slice to2 k tc2).ownBlock ≠ some b) (hok.out.below bw.out) (fun b hb => ⟨by have := hB.out; omega, fun e => by have := (hown.out.lt b e).2; omega⟩))
      rw [hzv.out] at hcl
      clear hok hzv
      refine wpAnyH_take (i := 0) (v := ?_) rfl (by kernel_rfl) (by kernel_rfl) (by kernel_rfl) (fun _ _ _ h => h) (Or.inl ⟨by rfl, ?_⟩) (by assumption) ?_; rotate_left 1; (intro w hSw; (try dsimp only at hSw); go_simp; try with_reducible rfl); (try simp only [Act.put, List.getElem_toArray, List.getElem_cons_zero, List.getElem_cons_succ, List.setIfInBounds_toArray, List.set_cons_zero, List.set_cons_succ])
      refine wpAnyH_take (i := 2) (v := ?_) rfl (by kernel_rfl) (by kernel_rfl) (by kernel_rfl) (fun _ _ _ h => h) (Or.inl ⟨by rfl, ?_⟩) (by assumption) ?_; rotate_left 1; (intro w hSw; (try dsimp only at hSw); go_simp; try with_reducible rfl); (try simp only [Act.put, List.getElem_toArray, List.getElem_cons_zero, List.getElem_cons_succ, List.setIfInBounds_toArray, List.set_cons_zero, List.set_cons_succ])
      refine wpAnyH_ready (rs := [1, 3]) (by kernel_rfl) (by simp) ?_
      refine AllReadyH.cons rfl (fun K hK => ?_) ?_
      · skip
        obtain ⟨c0, c1, cf⟩ := two' K2.out
        go_simp
        clear c0 c1 cf
        refine hK.out _ _ (by obtain ⟨s0, s1, s2, -⟩ := three' K5.out; exact ⟨s0, s1, s2⟩) (fun hHeldN => ?_)
        clear hK K hHeld
        have hHeld := hHeldN
        clear hHeldN
        (try simp only [Act.put, List.getElem_toArray, List.getElem_cons_zero, List.getElem_cons_succ, List.setIfInBounds_toArray, List.set_cons_zero, List.set_cons_succ])
        refine wpAnyH_ready (rs := [3]) (by kernel_rfl) (by simp) ?_
        refine AllReadyH.cons rfl (fun K hK => ?_) AllReadyH.nil
        go_simp
        (with_reducible refine (hcl.out).mono ?_)
        rintro e w6 ⟨⟨y, rfl, hyl, hyrd, hyin⟩, b6⟩
        obtain ⟨ypo, ypc, yao, yac, e0, e1⟩ := hyrd.forms
        rw [show y.val = .agg #[.string y.name, .slice ypo y.ps.length ypc, .slice yao y.att.length yac] by unfold Et.val; rw [e0, e1]]
        have hye := hid (show y.cells = [.string y.name, .slice ypo y.ps.length ypc, .slice yao y.att.length yac] by unfold Et.cells; rw [e0, e1])
        replace hown := hid (ownsRow_below hown.out b6)
        replace hys := hid (fun u (hu : u ∈ ts) => (show _ ∧ _ from ⟨(hys.out u hu).1.below b6, (hys.out u hu).2⟩))
        replace K0 := hid (K0.out.below b6 K0.out.lt)
        replace K1 := hid (K1.out.below b6 K1.out.lt)
        replace K2 := hid (K2.out.below b6 K2.out.lt)
        replace hk2 := hid (fun b (h1 : b < w.heap.size + 1 + 1 + 1) (h2 : b ≠ w.heap.size + 1 + 1) => ((b6).block b (by have := hB.out; omega)).trans (hk2.out b h1 h2))
        replace bw := hid (bt bw.out b6)
        replace hB := hid (Nat.le_trans hB.out (b6).size)
        replace K5 := hid (K5.out.below b6 K5.out.lt)
        replace hyl := hid hyl
        replace hyrd := hid hyrd
        replace hyin := hid hyin
        clear b6 hcl e0 e1
        refine hK.out _ _ (by obtain ⟨s0, s1, s2, -⟩ := three' K5.out; exact ⟨s0, s1, s2⟩) (fun hHeldN => ?_)
        clear hK K hHeld
        have hHeld := hHeldN
        clear hHeldN
        (try simp only [Act.put, List.getElem_toArray, List.getElem_cons_zero, List.getElem_cons_succ, List.setIfInBounds_toArray, List.set_cons_zero, List.set_cons_succ])
        refine wpAnyH_ready (rs := [4]) (by kernel_rfl) (by simp) ?_
        refine AllReadyH.cons rfl (fun K hK => ?_) AllReadyH.nil
        go_simp
        have hb7 := (Below.refl w6.heap.size w6).alloc (Nat.le_refl _) (.cells #[.string y.name, .slice ypo y.ps.length ypc, .slice yao y.att.length yac] 53)
        have K9 := hid (Blk.new w6 [.string y.name, .slice ypo y.ps.length ypc, .slice yao y.att.length yac] 53)
        replace hown := hid (ownsRow_below hown.out hb7)
        replace hys := hid (fun u (hu : u ∈ ts) => (show _ ∧ _ from ⟨(hys.out u hu).1.below hb7, (hys.out u hu).2⟩))
        replace K0 := hid (K0.out.below hb7 K0.out.lt)
        replace K1 := hid (K1.out.below hb7 K1.out.lt)
        replace K2 := hid (K2.out.below hb7 K2.out.lt)
        replace hk2 := hid (fun b (h1 : b < w.heap.size + 1 + 1 + 1) (h2 : b ≠ w.heap.size + 1 + 1) => ((hb7).block b (by have := hB.out; omega)).trans (hk2.out b h1 h2))
        replace bw := hid (bt bw.out hb7)
        replace hB := hid (Nat.le_trans hB.out (hb7).size)
        replace K5 := hid (K5.out.below hb7 K5.out.lt)
        replace hyrd := hid (hyrd.out.below hb7)
        clear hb7
        generalize w6.alloc (.cells #[.string y.name, .slice ypo y.ps.length ypc, .slice yao y.att.length yac] 53) = X7 at K0 K1 K2 K5 K9 hown hys hyrd hk2 hB bw ⊢
        generalize w6.heap.size = b9 at K9 ⊢
        refine hK.out _ _ (by obtain ⟨s0, s1, s2, -⟩ := three' K5.out; exact ⟨s0, s1, s2⟩) (fun hHeldN => ?_)
        clear hK K hHeld
        have hHeld := hHeldN
        clear hHeldN
        (try simp only [Act.put, List.getElem_toArray, List.getElem_cons_zero, List.getElem_cons_succ, List.setIfInBounds_toArray, List.set_cons_zero, List.set_cons_succ])
        refine wpAnyH_ready (rs := [5]) (by kernel_rfl) (by simp) ?_
        refine AllReadyH.cons rfl (fun K hK => ?_) AllReadyH.nil
        have hys7 := hid (fun u (hu : u ∈ ts ++ [y]) => (show u.rd X7 ∧ u.inS (fun b => (fun b => w.heap.size + 1 + 1 + 1 ≤ b ∧ (Value.slice to2 k tc2).ownBlock ≠ some b) b ∧ b < X7.heap.size) from by
          rcases List.mem_append.1 hu with hu | hu
          · exact ⟨(hys.out u hu).1, Et.inS_and (hys.out u hu).2 (hys.out u hu).1.inS⟩
          · rw [List.mem_singleton] at hu
            subst hu
            exact ⟨hyrd.out, Et.inS_and hyin.out hyrd.out.inS⟩))
        obtain ⟨v', w8, hrun, ho, hg, hp⟩ := run_append_place (P := Tryz.prog) X7 (w.heap.size + 1 + 1 + 1) 46 46 53 icet zcet 3 64 Tryz.underlying46 hiet hz0et hz1et hz2et hz3et (by decide)
          (.slice to2 k tc2) k (Et.enc ts) hown.out ⟨b9, 0, none⟩ 1 1 [.string y.name, .slice ypo y.ps.length ypc, .slice yao y.att.length yac] rfl
          (getElem?_cells' (fun j hj => by rw [Mem.add_plain, Nat.zero_add]; exact K9.out.cell j hj)) (by simp [Value.oneCell']) (by unfold maxLen; omega) (by omega) hB.out
        have hrun2 := hrun
        clear hrun
        refine step_append_run rfl (.tmp 16) (.tmp 19) 46 rfl _ _ _ _ rfl rfl hrun2 ?_
        have hgr := hid hg
        have hge : ∀ b, (Value.slice to2 k tc2).ownBlock = some b → w.heap.size + 1 + 1 + 1 ≤ b := fun b hb => (hown.out.lt b hb).1
        have hkq : ∀ b, b < w.heap.size + 1 + 1 + 1 → w8.heap[b]? = X7.heap[b]? := fun b hb => hg.block b (by have := hB.out; omega) (fun e => by have := hge b e.symm; omega)
        replace bw := hid (bw.out.grown hg (by have := bw.out.size; omega) (fun b hb => by have := hge b hb; have := hGB.out; omega))
        replace hk2 := hid (fun b (h1 : b < w.heap.size + 1 + 1 + 1) (h2 : b ≠ w.heap.size + 1 + 1) => (hkq b h1).trans (hk2.out b h1 h2))
        replace K0 := hid (show Blk w8 (w.heap.size) _ _ from ⟨(hkq _ (by have := hGB.out; omega)).trans K0.out.at'⟩)
        replace K1 := hid (show Blk w8 (w.heap.size + 1) _ _ from ⟨(hkq _ (by have := hGB.out; omega)).trans K1.out.at'⟩)
        replace K2 := hid (show Blk w8 (w.heap.size + 1 + 1) _ _ from ⟨(hkq _ (by have := hGB.out; omega)).trans K2.out.at'⟩)
        replace K5 := hid (show Blk w8 b5 _ _ from ⟨(hg.block b5 K5.out.lt (fun e => hb5.out e.symm)).trans K5.out.at'⟩)
        obtain ⟨vo', vc', hv', _, _⟩ := ownsRow_form ho
        subst hv'
        have hrow8 := hid (show w8.ownsRow (w.heap.size + 1 + 1 + 1) 53 3 (.slice vo' (k + 1) vc') (k + 1) (Et.enc (ts ++ [y])) from by
          rw [Et.enc_snoc, hye.out]
          exact ho)
        have hysf := hid (show ∀ u ∈ ts ++ [y], u.rd w8 ∧ u.inS (fun b => w.heap.size + 1 + 1 + 1 ≤ b ∧ (Value.slice vo' (k + 1) vc').ownBlock ≠ some b) from fun u hu => by
          obtain ⟨h1, h2⟩ := hys7.out u hu
          refine ⟨h1.keep (fun b hb => hgr.out.block b hb.2 (fun e => hb.1.2 e.symm)) h2, h2.mono (fun b hb => ⟨hb.1.1, fun e => ?_⟩)⟩
          rcases hp with hp | ⟨g2, hp, hge⟩
          · exact hb.1.2 (hp.symm.trans e)
          · have h3 : g2 = b := Option.some.inj (hp.symm.trans e)
            have := hb.2
            omega)
        replace hB := hid (Nat.le_trans hB.out hg.size)
        have hrw2 := hid (show ∀ b, (Value.slice vo' (k + 1) vc').ownBlock = some b → w.heap.size + 1 + 1 + 1 ≤ b from fun b hb => (hrow8.out.lt b hb).1)
        clear hg hp ho hys7 hown hys K9 hgr hyrd hyin hye hrun2 hge hkq
        refine hK.out _ _ (by obtain ⟨s0, s1, s2, -⟩ := three' K5.out; exact ⟨s0, s1, s2⟩) (fun hHeldN => ?_)
        clear hK K hHeld
        have hHeld := hHeldN
        clear hHeldN
        (try simp only [Act.put, List.getElem_toArray, List.getElem_cons_zero, List.getElem_cons_succ, List.setIfInBounds_toArray, List.set_cons_zero, List.set_cons_succ])
        refine wpAnyH_take (i := 6) (v := ?_) rfl (by kernel_rfl) (by kernel_rfl) (by kernel_rfl) (fun _ _ _ h => h) (Or.inl ⟨by rfl, ?_⟩) (by assumption) ?_; rotate_left 1; (intro w hSw; (try dsimp only at hSw); go_simp; try with_reducible rfl); (try simp only [Act.put, List.getElem_toArray, List.getElem_cons_zero, List.getElem_cons_succ, List.setIfInBounds_toArray, List.set_cons_zero, List.set_cons_succ])
        refine wpAnyH_ready (rs := [7]) (by kernel_rfl) (by simp) ?_
        refine AllReadyH.cons rfl (fun K hK => ?_) AllReadyH.nil
        obtain ⟨c0, c1, cf⟩ := two' K2.out
        go_simp
        clear c0 c1 cf
        have K2s := hid (show Blk (w8.setCell ⟨w.heap.size + 1 + 1, 0, none⟩ (.slice vo' (k + 1) vc')) (w.heap.size + 1 + 1) [.slice vo' (k + 1) vc', .slice none 0 0] 49 from K2.out.set 0 (.slice vo' (k + 1) vc'))
        have K0s := hid (K0.out.other (p := ⟨w.heap.size + 1 + 1, 0, none⟩) (by show w.heap.size + 1 + 1 ≠ w.heap.size; omega) (.slice vo' (k + 1) vc'))
        have K1s := hid (K1.out.other (p := ⟨w.heap.size + 1 + 1, 0, none⟩) (by show w.heap.size + 1 + 1 ≠ w.heap.size + 1; omega) (.slice vo' (k + 1) vc'))
        have hks := hid (show ∀ b, b ≠ w.heap.size + 1 + 1 → (w8.setCell ⟨w.heap.size + 1 + 1, 0, none⟩ (.slice vo' (k + 1) vc')).heap[b]? = w8.heap[b]? from fun b hb => Below.heap_setCell _ _ _ _ hb)
        have hk2s := hid (fun b (h1 : b < w.heap.size + 1 + 1 + 1) (h2 : b ≠ w.heap.size + 1 + 1) => (hks.out b h2).trans (hk2.out b h1 h2))
        have bws := hid (bw.out.setCell (p := ⟨w.heap.size + 1 + 1, 0, none⟩) (by show w.heap.size ≤ w.heap.size + 1 + 1; omega) (.slice vo' (k + 1) vc'))
        have hBs := hid (show w.heap.size + 1 + 1 + 1 ≤ (w8.setCell ⟨w.heap.size + 1 + 1, 0, none⟩ (.slice vo' (k + 1) vc')).heap.size by simp; exact hB.out)
        have hrow9 := hid (ownsRow_setCell_below hrow8.out (a := ⟨w.heap.size + 1 + 1, 0, none⟩) (by have := hGB.out; show w.heap.size + 1 + 1 < w.heap.size + 1 + 1 + 1; omega) (.slice vo' (k + 1) vc'))
        have hysg := hid (fun u (hu : u ∈ ts ++ [y]) => (show _ ∧ _ from ⟨(hysf.out u hu).1.keep (fun b hb => hks.out b (by have := hb.1; have := hGB.out; omega)) (hysf.out u hu).2, (hysf.out u hu).2⟩))
        have hlkf := hid (show (ts ++ [y]).length = k + 1 ∧ Et.likes x.ts (ts ++ [y]) from ⟨by rw [List.length_append, hlk.out.1]; rfl, Et.likes_snoc hlk.out.2 k hlk.out.1 hkl (by rw [hz.out]; exact hyl.out)⟩)
        have hne5 := hid (show w.heap.size + 1 + 1 ≠ b5 from hb52.out)
        replace K5 := hid (K5.out.other (p := ⟨w.heap.size + 1 + 1, 0, none⟩) hne5.out (.slice vo' (k + 1) vc'))
        clear K0 K1 K2 hk2 bw hB hrow8 hysf hlk hks hyl hne5
        generalize w8.setCell ⟨w.heap.size + 1 + 1, 0, none⟩ (.slice vo' (k + 1) vc') = X9 at K0s K1s K2s hk2s bws hBs hrow9 hysg K5 ⊢
        refine hK.out _ _ (by obtain ⟨s0, s1, s2, -⟩ := three' K5.out; exact ⟨s0, s1, s2⟩) (fun hHeldN => ?_)
        clear hK K hHeld
        have hHeld := hHeldN
        clear hHeldN
        (try simp only [Act.put, List.getElem_toArray, List.getElem_cons_zero, List.getElem_cons_succ, List.setIfInBounds_toArray, List.set_cons_zero, List.set_cons_succ])
        refine wpAnyH_done (by kernel_rfl) ?_ _
        clear hHeld
        go_wp2_with fail
        go_roundw
        case rel => exact ⟨k + 1, ts ++ [y], vo', vc', by omega, by go_num, hlkf, hrow9, hysg, K0s, K1s, K2s, hBs, hk2s, bws⟩
        case measure => simp [intOf]; omega
      refine AllReadyH.cons rfl (fun K hK => ?_) AllReadyH.nil
      go_simp
      (with_reducible refine (hcl.out).mono ?_)
      rintro e w6 ⟨⟨y, rfl, hyl, hyrd, hyin⟩, b6⟩
      obtain ⟨ypo, ypc, yao, yac, e0, e1⟩ := hyrd.forms
      rw [show y.val = .agg #[.string y.name, .slice ypo y.ps.length ypc, .slice yao y.att.length yac] by unfold Et.val; rw [e0, e1]]
      have hye := hid (show y.cells = [.string y.name, .slice ypo y.ps.length ypc, .slice yao y.att.length yac] by unfold Et.cells; rw [e0, e1])
      replace hown := hid (ownsRow_below hown.out b6)
      replace hys := hid (fun u (hu : u ∈ ts) => (show _ ∧ _ from ⟨(hys.out u hu).1.below b6, (hys.out u hu).2⟩))
      replace K0 := hid (K0.out.below b6 K0.out.lt)
      replace K1 := hid (K1.out.below b6 K1.out.lt)
      replace K2 := hid (K2.out.below b6 K2.out.lt)
      replace hk2 := hid (fun b (h1 : b < w.heap.size + 1 + 1 + 1) (h2 : b ≠ w.heap.size + 1 + 1) => ((b6).block b (by have := hB.out; omega)).trans (hk2.out b h1 h2))
      replace bw := hid (bt bw.out b6)
      replace hB := hid (Nat.le_trans hB.out (b6).size)
      replace K5 := hid (K5.out.below b6 K5.out.lt)
      replace hyl := hid hyl
      replace hyrd := hid hyrd
      replace hyin := hid hyin
      clear b6 hcl e0 e1
      refine hK.out _ _ (by obtain ⟨s0, s1, s2, -⟩ := three' K5.out; exact ⟨s0, s1, s2⟩) (fun hHeldN => ?_)
      clear hK K hHeld
      have hHeld := hHeldN
      clear hHeldN
      (try simp only [Act.put, List.getElem_toArray, List.getElem_cons_zero, List.getElem_cons_succ, List.setIfInBounds_toArray, List.set_cons_zero, List.set_cons_succ])
      refine wpAnyH_ready (rs := [1, 4]) (by kernel_rfl) (by simp) ?_
      refine AllReadyH.cons rfl (fun K hK => ?_) ?_
      · skip
        obtain ⟨c0, c1, cf⟩ := two' K2.out
        go_simp
        clear c0 c1 cf
        refine hK.out _ _ (by obtain ⟨s0, s1, s2, -⟩ := three' K5.out; exact ⟨s0, s1, s2⟩) (fun hHeldN => ?_)
        clear hK K hHeld
        have hHeld := hHeldN
        clear hHeldN
        (try simp only [Act.put, List.getElem_toArray, List.getElem_cons_zero, List.getElem_cons_succ, List.setIfInBounds_toArray, List.set_cons_zero, List.set_cons_succ])
        refine wpAnyH_ready (rs := [4]) (by kernel_rfl) (by simp) ?_
        refine AllReadyH.cons rfl (fun K hK => ?_) AllReadyH.nil
        go_simp
        have hb7 := (Below.refl w6.heap.size w6).alloc (Nat.le_refl _) (.cells #[.string y.name, .slice ypo y.ps.length ypc, .slice yao y.att.length yac] 53)
        have K9 := hid (Blk.new w6 [.string y.name, .slice ypo y.ps.length ypc, .slice yao y.att.length yac] 53)
        replace hown := hid (ownsRow_below hown.out hb7)
        replace hys := hid (fun u (hu : u ∈ ts) => (show _ ∧ _ from ⟨(hys.out u hu).1.below hb7, (hys.out u hu).2⟩))
        replace K0 := hid (K0.out.below hb7 K0.out.lt)
        replace K1 := hid (K1.out.below hb7 K1.out.lt)
        replace K2 := hid (K2.out.below hb7 K2.out.lt)
        replace hk2 := hid (fun b (h1 : b < w.heap.size + 1 + 1 + 1) (h2 : b ≠ w.heap.size + 1 + 1) => ((hb7).block b (by have := hB.out; omega)).trans (hk2.out b h1 h2))
        replace bw := hid (bt bw.out hb7)
        replace hB := hid (Nat.le_trans hB.out (hb7).size)
        replace K5 := hid (K5.out.below hb7 K5.out.lt)
        replace hyrd := hid (hyrd.out.below hb7)
        clear hb7
        generalize w6.alloc (.cells #[.string y.name, .slice ypo y.ps.length ypc, .slice yao y.att.length yac] 53) = X7 at K0 K1 K2 K5 K9 hown hys hyrd hk2 hB bw ⊢
        generalize w6.heap.size = b9 at K9 ⊢
        refine hK.out _ _ (by obtain ⟨s0, s1, s2, -⟩ := three' K5.out; exact ⟨s0, s1, s2⟩) (fun hHeldN => ?_)
        clear hK K hHeld
        have hHeld := hHeldN
        clear hHeldN
        (try simp only [Act.put, List.getElem_toArray, List.getElem_cons_zero, List.getElem_cons_succ, List.setIfInBounds_toArray, List.set_cons_zero, List.set_cons_succ])
        refine wpAnyH_ready (rs := [5]) (by kernel_rfl) (by simp) ?_
        refine AllReadyH.cons rfl (fun K hK => ?_) AllReadyH.nil
        have hys7 := hid (fun u (hu : u ∈ ts ++ [y]) => (show u.rd X7 ∧ u.inS (fun b => (fun b => w.heap.size + 1 + 1 + 1 ≤ b ∧ (Value.slice to2 k tc2).ownBlock ≠ some b) b ∧ b < X7.heap.size) from by
          rcases List.mem_append.1 hu with hu | hu
          · exact ⟨(hys.out u hu).1, Et.inS_and (hys.out u hu).2 (hys.out u hu).1.inS⟩
          · rw [List.mem_singleton] at hu
            subst hu
            exact ⟨hyrd.out, Et.inS_and hyin.out hyrd.out.inS⟩))
        obtain ⟨v', w8, hrun, ho, hg, hp⟩ := run_append_place (P := Tryz.prog) X7 (w.heap.size + 1 + 1 + 1) 46 46 53 icet zcet 3 64 Tryz.underlying46 hiet hz0et hz1et hz2et hz3et (by decide)
          (.slice to2 k tc2) k (Et.enc ts) hown.out ⟨b9, 0, none⟩ 1 1 [.string y.name, .slice ypo y.ps.length ypc, .slice yao y.att.length yac] rfl
          (getElem?_cells' (fun j hj => by rw [Mem.add_plain, Nat.zero_add]; exact K9.out.cell j hj)) (by simp [Value.oneCell']) (by unfold maxLen; omega) (by omega) hB.out
        have hrun2 := hrun
        clear hrun
        refine step_append_run rfl (.tmp 16) (.tmp 19) 46 rfl _ _ _ _ rfl rfl hrun2 ?_
        have hgr := hid hg
        have hge : ∀ b, (Value.slice to2 k tc2).ownBlock = some b → w.heap.size + 1 + 1 + 1 ≤ b := fun b hb => (hown.out.lt b hb).1
        have hkq : ∀ b, b < w.heap.size + 1 + 1 + 1 → w8.heap[b]? = X7.heap[b]? := fun b hb => hg.block b (by have := hB.out; omega) (fun e => by have := hge b e.symm; omega)
        replace bw := hid (bw.out.grown hg (by have := bw.out.size; omega) (fun b hb => by have := hge b hb; have := hGB.out; omega))
        replace hk2 := hid (fun b (h1 : b < w.heap.size + 1 + 1 + 1) (h2 : b ≠ w.heap.size + 1 + 1) => (hkq b h1).trans (hk2.out b h1 h2))
        replace K0 := hid (show Blk w8 (w.heap.size) _ _ from ⟨(hkq _ (by have := hGB.out; omega)).trans K0.out.at'⟩)
        replace K1 := hid (show Blk w8 (w.heap.size + 1) _ _ from ⟨(hkq _ (by have := hGB.out; omega)).trans K1.out.at'⟩)
        replace K2 := hid (show Blk w8 (w.heap.size + 1 + 1) _ _ from ⟨(hkq _ (by have := hGB.out; omega)).trans K2.out.at'⟩)
        replace K5 := hid (show Blk w8 b5 _ _ from ⟨(hg.block b5 K5.out.lt (fun e => hb5.out e.symm)).trans K5.out.at'⟩)
        obtain ⟨vo', vc', hv', _, _⟩ := ownsRow_form ho
        subst hv'
        have hrow8 := hid (show w8.ownsRow (w.heap.size + 1 + 1 + 1) 53 3 (.slice vo' (k + 1) vc') (k + 1) (Et.enc (ts ++ [y])) from by
          rw [Et.enc_snoc, hye.out]
          exact ho)
        have hysf := hid (show ∀ u ∈ ts ++ [y], u.rd w8 ∧ u.inS (fun b => w.heap.size + 1 + 1 + 1 ≤ b ∧ (Value.slice vo' (k + 1) vc').ownBlock ≠ some b) from fun u hu => by
          obtain ⟨h1, h2⟩ := hys7.out u hu
          refine ⟨h1.keep (fun b hb => hgr.out.block b hb.2 (fun e => hb.1.2 e.symm)) h2, h2.mono (fun b hb => ⟨hb.1.1, fun e => ?_⟩)⟩
          rcases hp with hp | ⟨g2, hp, hge⟩
          · exact hb.1.2 (hp.symm.trans e)
          · have h3 : g2 = b := Option.some.inj (hp.symm.trans e)
            have := hb.2
            omega)
        replace hB := hid (Nat.le_trans hB.out hg.size)
        have hrw2 := hid (show ∀ b, (Value.slice vo' (k + 1) vc').ownBlock = some b → w.heap.size + 1 + 1 + 1 ≤ b from fun b hb => (hrow8.out.lt b hb).1)
        clear hg hp ho hys7 hown hys K9 hgr hyrd hyin hye hrun2 hge hkq
        refine hK.out _ _ (by obtain ⟨s0, s1, s2, -⟩ := three' K5.out; exact ⟨s0, s1, s2⟩) (fun hHeldN => ?_)
        clear hK K hHeld
        have hHeld := hHeldN
        clear hHeldN
        (try simp only [Act.put, List.getElem_toArray, List.getElem_cons_zero, List.getElem_cons_succ, List.setIfInBounds_toArray, List.set_cons_zero, List.set_cons_succ])
        refine wpAnyH_take (i := 6) (v := ?_) rfl (by kernel_rfl) (by kernel_rfl) (by kernel_rfl) (fun _ _ _ h => h) (Or.inl ⟨by rfl, ?_⟩) (by assumption) ?_; rotate_left 1; (intro w hSw; (try dsimp only at hSw); go_simp; try with_reducible rfl); (try simp only [Act.put, List.getElem_toArray, List.getElem_cons_zero, List.getElem_cons_succ, List.setIfInBounds_toArray, List.set_cons_zero, List.set_cons_succ])
        refine wpAnyH_ready (rs := [7]) (by kernel_rfl) (by simp) ?_
        refine AllReadyH.cons rfl (fun K hK => ?_) AllReadyH.nil
        obtain ⟨c0, c1, cf⟩ := two' K2.out
        go_simp
        clear c0 c1 cf
        have K2s := hid (show Blk (w8.setCell ⟨w.heap.size + 1 + 1, 0, none⟩ (.slice vo' (k + 1) vc')) (w.heap.size + 1 + 1) [.slice vo' (k + 1) vc', .slice none 0 0] 49 from K2.out.set 0 (.slice vo' (k + 1) vc'))
        have K0s := hid (K0.out.other (p := ⟨w.heap.size + 1 + 1, 0, none⟩) (by show w.heap.size + 1 + 1 ≠ w.heap.size; omega) (.slice vo' (k + 1) vc'))
        have K1s := hid (K1.out.other (p := ⟨w.heap.size + 1 + 1, 0, none⟩) (by show w.heap.size + 1 + 1 ≠ w.heap.size + 1; omega) (.slice vo' (k + 1) vc'))
        have hks := hid (show ∀ b, b ≠ w.heap.size + 1 + 1 → (w8.setCell ⟨w.heap.size + 1 + 1, 0, none⟩ (.slice vo' (k + 1) vc')).heap[b]? = w8.heap[b]? from fun b hb => Below.heap_setCell _ _ _ _ hb)
        have hk2s := hid (fun b (h1 : b < w.heap.size + 1 + 1 + 1) (h2 : b ≠ w.heap.size + 1 + 1) => (hks.out b h2).trans (hk2.out b h1 h2))
        have bws := hid (bw.out.setCell (p := ⟨w.heap.size + 1 + 1, 0, none⟩) (by show w.heap.size ≤ w.heap.size + 1 + 1; omega) (.slice vo' (k + 1) vc'))
        have hBs := hid (show w.heap.size + 1 + 1 + 1 ≤ (w8.setCell ⟨w.heap.size + 1 + 1, 0, none⟩ (.slice vo' (k + 1) vc')).heap.size by simp; exact hB.out)
        have hrow9 := hid (ownsRow_setCell_below hrow8.out (a := ⟨w.heap.size + 1 + 1, 0, none⟩) (by have := hGB.out; show w.heap.size + 1 + 1 < w.heap.size + 1 + 1 + 1; omega) (.slice vo' (k + 1) vc'))
        have hysg := hid (fun u (hu : u ∈ ts ++ [y]) => (show _ ∧ _ from ⟨(hysf.out u hu).1.keep (fun b hb => hks.out b (by have := hb.1; have := hGB.out; omega)) (hysf.out u hu).2, (hysf.out u hu).2⟩))
        have hlkf := hid (show (ts ++ [y]).length = k + 1 ∧ Et.likes x.ts (ts ++ [y]) from ⟨by rw [List.length_append, hlk.out.1]; rfl, Et.likes_snoc hlk.out.2 k hlk.out.1 hkl (by rw [hz.out]; exact hyl.out)⟩)
        have hne5 := hid (show w.heap.size + 1 + 1 ≠ b5 from hb52.out)
        replace K5 := hid (K5.out.other (p := ⟨w.heap.size + 1 + 1, 0, none⟩) hne5.out (.slice vo' (k + 1) vc'))
        clear K0 K1 K2 hk2 bw hB hrow8 hysf hlk hks hyl hne5
        generalize w8.setCell ⟨w.heap.size + 1 + 1, 0, none⟩ (.slice vo' (k + 1) vc') = X9 at K0s K1s K2s hk2s bws hBs hrow9 hysg K5 ⊢
        refine hK.out _ _ (by obtain ⟨s0, s1, s2, -⟩ := three' K5.out; exact ⟨s0, s1, s2⟩) (fun hHeldN => ?_)
        clear hK K hHeld
        have hHeld := hHeldN
        clear hHeldN
        (try simp only [Act.put, List.getElem_toArray, List.getElem_cons_zero, List.getElem_cons_succ, List.setIfInBounds_toArray, List.set_cons_zero, List.set_cons_succ])
        refine wpAnyH_done (by kernel_rfl) ?_ _
        clear hHeld
        go_wp2_with fail
        go_roundw
        case rel => exact ⟨k + 1, ts ++ [y], vo', vc', by omega, by go_num, hlkf, hrow9, hysg, K0s, K1s, K2s, hBs, hk2s, bws⟩
        case measure => simp [intOf]; omega
      refine AllReadyH.cons rfl (fun K hK => ?_) AllReadyH.nil
      go_simp
      have hb7 := (Below.refl w6.heap.size w6).alloc (Nat.le_refl _) (.cells #[.string y.name, .slice ypo y.ps.length ypc, .slice yao y.att.length yac] 53)
      have K9 := hid (Blk.new w6 [.string y.name, .slice ypo y.ps.length ypc, .slice yao y.att.length yac] 53)
      replace hown := hid (ownsRow_below hown.out hb7)
      replace hys := hid (fun u (hu : u ∈ ts) => (show _ ∧ _ from ⟨(hys.out u hu).1.below hb7, (hys.out u hu).2⟩))
      replace K0 := hid (K0.out.below hb7 K0.out.lt)
      replace K1 := hid (K1.out.below hb7 K1.out.lt)
      replace K2 := hid (K2.out.below hb7 K2.out.lt)
      replace hk2 := hid (fun b (h1 : b < w.heap.size + 1 + 1 + 1) (h2 : b ≠ w.heap.size + 1 + 1) => ((hb7).block b (by have := hB.out; omega)).trans (hk2.out b h1 h2))
      replace bw := hid (bt bw.out hb7)
      replace hB := hid (Nat.le_trans hB.out (hb7).size)
      replace K5 := hid (K5.out.below hb7 K5.out.lt)
      replace hyrd := hid (hyrd.out.below hb7)
      clear hb7
      generalize w6.alloc (.cells #[.string y.name, .slice ypo y.ps.length ypc, .slice yao y.att.length yac] 53) = X7 at K0 K1 K2 K5 K9 hown hys hyrd hk2 hB bw ⊢
      generalize w6.heap.size = b9 at K9 ⊢
      refine hK.out _ _ (by obtain ⟨s0, s1, s2, -⟩ := three' K5.out; exact ⟨s0, s1, s2⟩) (fun hHeldN => ?_)
      clear hK K hHeld
      have hHeld := hHeldN
      clear hHeldN
      (try simp only [Act.put, List.getElem_toArray, List.getElem_cons_zero, List.getElem_cons_succ, List.setIfInBounds_toArray, List.set_cons_zero, List.set_cons_succ])
      refine wpAnyH_ready (rs := [1]) (by kernel_rfl) (by simp) ?_
      refine AllReadyH.cons rfl (fun K hK => ?_) AllReadyH.nil
      obtain ⟨c0, c1, cf⟩ := two' K2.out
      go_simp
      clear c0 c1 cf
      refine hK.out _ _ (by obtain ⟨s0, s1, s2, -⟩ := three' K5.out; exact ⟨s0, s1, s2⟩) (fun hHeldN => ?_)
      clear hK K hHeld
      have hHeld := hHeldN
      clear hHeldN
      (try simp only [Act.put, List.getElem_toArray, List.getElem_cons_zero, List.getElem_cons_succ, List.setIfInBounds_toArray, List.set_cons_zero, List.set_cons_succ])
      refine wpAnyH_ready (rs := [5]) (by kernel_rfl) (by simp) ?_
      refine AllReadyH.cons rfl (fun K hK => ?_) AllReadyH.nil
      have hys7 := hid (fun u (hu : u ∈ ts ++ [y]) => (show u.rd X7 ∧ u.inS (fun b => (fun b => w.heap.size + 1 + 1 + 1 ≤ b ∧ (Value.slice to2 k tc2).ownBlock ≠ some b) b ∧ b < X7.heap.size) from by
        rcases List.mem_append.1 hu with hu | hu
        · exact ⟨(hys.out u hu).1, Et.inS_and (hys.out u hu).2 (hys.out u hu).1.inS⟩
        · rw [List.mem_singleton] at hu
          subst hu
          exact ⟨hyrd.out, Et.inS_and hyin.out hyrd.out.inS⟩))
      obtain ⟨v', w8, hrun, ho, hg, hp⟩ := run_append_place (P := Tryz.prog) X7 (w.heap.size + 1 + 1 + 1) 46 46 53 icet zcet 3 64 Tryz.underlying46 hiet hz0et hz1et hz2et hz3et (by decide)
        (.slice to2 k tc2) k (Et.enc ts) hown.out ⟨b9, 0, none⟩ 1 1 [.string y.name, .slice ypo y.ps.length ypc, .slice yao y.att.length yac] rfl
        (getElem?_cells' (fun j hj => by rw [Mem.add_plain, Nat.zero_add]; exact K9.out.cell j hj)) (by simp [Value.oneCell']) (by unfold maxLen; omega) (by omega) hB.out
      have hrun2 := hrun
      clear hrun
      refine step_append_run rfl (.tmp 16) (.tmp 19) 46 rfl _ _ _ _ rfl rfl hrun2 ?_
      have hgr := hid hg
      have hge : ∀ b, (Value.slice to2 k tc2).ownBlock = some b → w.heap.size + 1 + 1 + 1 ≤ b := fun b hb => (hown.out.lt b hb).1
      have hkq : ∀ b, b < w.heap.size + 1 + 1 + 1 → w8.heap[b]? = X7.heap[b]? := fun b hb => hg.block b (by have := hB.out; omega) (fun e => by have := hge b e.symm; omega)
      replace bw := hid (bw.out.grown hg (by have := bw.out.size; omega) (fun b hb => by have := hge b hb; have := hGB.out; omega))
      replace hk2 := hid (fun b (h1 : b < w.heap.size + 1 + 1 + 1) (h2 : b ≠ w.heap.size + 1 + 1) => (hkq b h1).trans (hk2.out b h1 h2))
      replace K0 := hid (show Blk w8 (w.heap.size) _ _ from ⟨(hkq _ (by have := hGB.out; omega)).trans K0.out.at'⟩)
      replace K1 := hid (show Blk w8 (w.heap.size + 1) _ _ from ⟨(hkq _ (by have := hGB.out; omega)).trans K1.out.at'⟩)
      replace K2 := hid (show Blk w8 (w.heap.size + 1 + 1) _ _ from ⟨(hkq _ (by have := hGB.out; omega)).trans K2.out.at'⟩)
      replace K5 := hid (show Blk w8 b5 _ _ from ⟨(hg.block b5 K5.out.lt (fun e => hb5.out e.symm)).trans K5.out.at'⟩)
      obtain ⟨vo', vc', hv', _, _⟩ := ownsRow_form ho
      subst hv'
      have hrow8 := hid (show w8.ownsRow (w.heap.size + 1 + 1 + 1) 53 3 (.slice vo' (k + 1) vc') (k + 1) (Et.enc (ts ++ [y])) from by
        rw [Et.enc_snoc, hye.out]
        exact ho)
      have hysf := hid (show ∀ u ∈ ts ++ [y], u.rd w8 ∧ u.inS (fun b => w.heap.size + 1 + 1 + 1 ≤ b ∧ (Value.slice vo' (k + 1) vc').ownBlock ≠ some b) from fun u hu => by
        obtain ⟨h1, h2⟩ := hys7.out u hu
        refine ⟨h1.keep (fun b hb => hgr.out.block b hb.2 (fun e => hb.1.2 e.symm)) h2, h2.mono (fun b hb => ⟨hb.1.1, fun e => ?_⟩)⟩
        rcases hp with hp | ⟨g2, hp, hge⟩
        · exact hb.1.2 (hp.symm.trans e)
        · have h3 : g2 = b := Option.some.inj (hp.symm.trans e)
          have := hb.2
          omega)
      replace hB := hid (Nat.le_trans hB.out hg.size)
      have hrw2 := hid (show ∀ b, (Value.slice vo' (k + 1) vc').ownBlock = some b → w.heap.size + 1 + 1 + 1 ≤ b from fun b hb => (hrow8.out.lt b hb).1)
      clear hg hp ho hys7 hown hys K9 hgr hyrd hyin hye hrun2 hge hkq
      refine hK.out _ _ (by obtain ⟨s0, s1, s2, -⟩ := three' K5.out; exact ⟨s0, s1, s2⟩) (fun hHeldN => ?_)
      clear hK K hHeld
      have hHeld := hHeldN
      clear hHeldN
      (try simp only [Act.put, List.getElem_toArray, List.getElem_cons_zero, List.getElem_cons_succ, List.setIfInBounds_toArray, List.set_cons_zero, List.set_cons_succ])
      refine wpAnyH_take (i := 6) (v := ?_) rfl (by kernel_rfl) (by kernel_rfl) (by kernel_rfl) (fun _ _ _ h => h) (Or.inl ⟨by rfl, ?_⟩) (by assumption) ?_; rotate_left 1; (intro w hSw; (try dsimp only at hSw); go_simp; try with_reducible rfl); (try simp only [Act.put, List.getElem_toArray, List.getElem_cons_zero, List.getElem_cons_succ, List.setIfInBounds_toArray, List.set_cons_zero, List.set_cons_succ])
      refine wpAnyH_ready (rs := [7]) (by kernel_rfl) (by simp) ?_
      refine AllReadyH.cons rfl (fun K hK => ?_) AllReadyH.nil
      obtain ⟨c0, c1, cf⟩ := two' K2.out
      go_simp
      clear c0 c1 cf
      have K2s := hid (show Blk (w8.setCell ⟨w.heap.size + 1 + 1, 0, none⟩ (.slice vo' (k + 1) vc')) (w.heap.size + 1 + 1) [.slice vo' (k + 1) vc', .slice none 0 0] 49 from K2.out.set 0 (.slice vo' (k + 1) vc'))
      have K0s := hid (K0.out.other (p := ⟨w.heap.size + 1 + 1, 0, none⟩) (by show w.heap.size + 1 + 1 ≠ w.heap.size; omega) (.slice vo' (k + 1) vc'))
      have K1s := hid (K1.out.other (p := ⟨w.heap.size + 1 + 1, 0, none⟩) (by show w.heap.size + 1 + 1 ≠ w.heap.size + 1; omega) (.slice vo' (k + 1) vc'))
      have hks := hid (show ∀ b, b ≠ w.heap.size + 1 + 1 → (w8.setCell ⟨w.heap.size + 1 + 1, 0, none⟩ (.slice vo' (k + 1) vc')).heap[b]? = w8.heap[b]? from fun b hb => Below.heap_setCell _ _ _ _ hb)
      have hk2s := hid (fun b (h1 : b < w.heap.size + 1 + 1 + 1) (h2 : b ≠ w.heap.size + 1 + 1) => (hks.out b h2).trans (hk2.out b h1 h2))
      have bws := hid (bw.out.setCell (p := ⟨w.heap.size + 1 + 1, 0, none⟩) (by show w.heap.size ≤ w.heap.size + 1 + 1; omega) (.slice vo' (k + 1) vc'))
      have hBs := hid (show w.heap.size + 1 + 1 + 1 ≤ (w8.setCell ⟨w.heap.size + 1 + 1, 0, none⟩ (.slice vo' (k + 1) vc')).heap.size by simp; exact hB.out)
      have hrow9 := hid (ownsRow_setCell_below hrow8.out (a := ⟨w.heap.size + 1 + 1, 0, none⟩) (by have := hGB.out; show w.heap.size + 1 + 1 < w.heap.size + 1 + 1 + 1; omega) (.slice vo' (k + 1) vc'))
      have hysg := hid (fun u (hu : u ∈ ts ++ [y]) => (show _ ∧ _ from ⟨(hysf.out u hu).1.keep (fun b hb => hks.out b (by have := hb.1; have := hGB.out; omega)) (hysf.out u hu).2, (hysf.out u hu).2⟩))
      have hlkf := hid (show (ts ++ [y]).length = k + 1 ∧ Et.likes x.ts (ts ++ [y]) from ⟨by rw [List.length_append, hlk.out.1]; rfl, Et.likes_snoc hlk.out.2 k hlk.out.1 hkl (by rw [hz.out]; exact hyl.out)⟩)
      have hne5 := hid (show w.heap.size + 1 + 1 ≠ b5 from hb52.out)
      replace K5 := hid (K5.out.other (p := ⟨w.heap.size + 1 + 1, 0, none⟩) hne5.out (.slice vo' (k + 1) vc'))
      clear K0 K1 K2 hk2 bw hB hrow8 hysf hlk hks hyl hne5
      generalize w8.setCell ⟨w.heap.size + 1 + 1, 0, none⟩ (.slice vo' (k + 1) vc') = X9 at K0s K1s K2s hk2s bws hBs hrow9 hysg K5 ⊢
      refine hK.out _ _ (by obtain ⟨s0, s1, s2, -⟩ := three' K5.out; exact ⟨s0, s1, s2⟩) (fun hHeldN => ?_)
      clear hK K hHeld
      have hHeld := hHeldN
      clear hHeldN
      (try simp only [Act.put, List.getElem_toArray, List.getElem_cons_zero, List.getElem_cons_succ, List.setIfInBounds_toArray, List.set_cons_zero, List.set_cons_succ])
      refine wpAnyH_done (by kernel_rfl) ?_ _
      clear hHeld
      go_wp2_with fail
      go_roundw
      case rel => exact ⟨k + 1, ts ++ [y], vo', vc', by omega, by go_num, hlkf, hrow9, hysg, K0s, K1s, K2s, hBs, hk2s, bws⟩
      case measure => simp [intOf]; omega
    · have hki : ¬ (k : Int) < (x.ts.length : Int) := by omega
      obtain rfl : k = x.ts.length := by omega
      obtain ⟨W7, hW7⟩ : ∃ W, W = wr := ⟨_, rfl⟩
      subst hW7
      have hfst := hid (show ts.length = x.ts.length ∧ Et.likes x.ts ts ∧ SlV W7 (.slice to2 x.ts.length tc2) x.ts.length (Et.enc ts) ∧ SlIn (fun b => w.heap.size + 1 + 1 < b ∧ b < W7.heap.size) (.slice to2 x.ts.length tc2) x.ts.length ∧ ∀ y ∈ ts, y.rd W7 ∧ y.inS (fun b => w.heap.size + 1 + 1 < b ∧ b < W7.heap.size) from ⟨hlk.out.1, hlk.out.2, SlV.own hown.out, sl_sub (own_in hown.out) (fun b hb => ⟨by have := hb.1; have := hGB.out; omega, hb.2⟩), fun y hy => ⟨(hys.out y hy).1, (Et.inS_and (hys.out y hy).2 (hys.out y hy).1.inS).mono (fun b hb => ⟨by have := hb.1.1; have := hGB.out; omega, hb.2⟩)⟩⟩)
      clear hlk hown hys hk2
      replace hGB := hid (show w.heap.size + 1 + 1 < W7.heap.size from K2.out.lt)
      replace hB := hid (Nat.le_refl W7.heap.size)
      obtain ⟨c0, c1, cf⟩ := two' K0.out
      go_wp2_with fail
      clear c0 c1 cf
      go_loopw [26] (fun i wr => ∃ (k : Nat) (ys : List Ac) (vo : Option Addr) (vc : Nat), k ≤ x.acts.length ∧ i = .int .i64 k ∧ Hid (ys.length = k ∧ Ac.likes x.acts ys) ∧ Hid (wr.ownsRow (W7.heap.size) 57 4 (.slice vo k vc) k (Ac.enc ys)) ∧ Hid (∀ y ∈ ys, y.rd wr ∧ y.inS (fun b => W7.heap.size ≤ b ∧ (Value.slice vo k vc).ownBlock ≠ some b)) ∧ Hid (Blk wr (w.heap.size) [.slice to x.ts.length tc, .slice co x.acts.length cc] 49) ∧ Hid (Blk wr (w.heap.size + 1) [.slice none 0 0, .slice none 0 0] 49) ∧ Hid (Blk wr (w.heap.size + 1 + 1) [.slice to2 x.ts.length tc2, .slice vo k vc] 49) ∧ Hid (W7.heap.size ≤ wr.heap.size) ∧ Hid (∀ b, b < W7.heap.size → b ≠ w.heap.size + 1 + 1 → wr.heap[b]? = W7.heap[b]?) ∧ Hid (Below w.heap.size w wr)) (fun i _ => x.acts.length - (intOf i).toNat)
      case atStart => exact ⟨0, [], none, 0, by omega, rfl, hid ⟨rfl, fun j _ h => absurd h (by simp)⟩, hid (World.ownsRow_nil _ _ _ _), hid (fun y hy => by cases hy), K0, K1, K2, hB, hid (fun b _ _ => rfl), bw⟩
      case round =>
        clear K0 K1 K2 hB bw
        obtain ⟨k, ys, vo, vc, hk, rfl, hlk, hown, hys, K0, K1, K2, hB, hk2, bw⟩ := hrel
        by_cases hkl : k < x.acts.length
        · have hki : (k : Int) < (x.acts.length : Int) := by omega
          obtain ⟨xb, xo, xcap, hxv, hxb, hxc⟩ := (h'.out.2).open (by omega)
          rw [eAc.out] at hxv
          simp only [Value.slice.injEq] at hxv
          obtain ⟨hx1, _, hx2⟩ := hxv
          subst hx1
          obtain ⟨f0, f1, f2, f3⟩ := hxc k hkl
          have hok := hid (h'.out.2.2 _ (List.getElem_mem hkl))
          obtain ⟨z, hz⟩ : ∃ z, Hid (x.acts[k] = z) := ⟨_, hid rfl⟩
          rw [hz.out] at f0 f1 f2 f3 hok
          obtain ⟨po, pc, ro, rc, ao, ac, e0, e1, e2⟩ := hok.out.forms
          rw [e0] at f1
          rw [e1] at f2
          rw [e2] at f3
          replace f0 := cell_below bw.out _ _ f0
          replace f1 := cell_below bw.out _ _ f1
          replace f2 := cell_below bw.out _ _ f2
          replace f3 := cell_below bw.out _ _ f3
          have hzv := hid (show z.val = .agg #[.string z.name, .slice po z.ps.length pc, .slice ro z.rs.length rc, .slice ao z.att.length ac] by unfold Ac.val; rw [e0, e1, e2])
          clear e0 e1 e2 hxc hxb hx2
          go_upto_region 10 with fail
          have K5 := hid (Blk.new wr [.string z.name, .slice po z.ps.length pc, .slice ro z.rs.length rc, .slice ao z.att.length ac] 57)
          have hbX := (Below.refl wr.heap.size wr).alloc (Nat.le_refl _) (.cells #[.string z.name, .slice po z.ps.length pc, .slice ro z.rs.length rc, .slice ao z.att.length ac] 57)
          have hb5 := hid (show (Value.slice vo k vc).ownBlock ≠ some wr.heap.size from fun e => by have := (hown.out.lt _ e).2; omega)
          have hb52 := hid (show w.heap.size + 1 + 1 ≠ wr.heap.size from by have := K2.out.lt; omega)
          replace hown := hid (ownsRow_below hown.out hbX)
          replace hys := hid (fun u (hu : u ∈ ys) => (show _ ∧ _ from ⟨(hys.out u hu).1.below hbX, (hys.out u hu).2⟩))
          replace K0 := hid (K0.out.below hbX K0.out.lt)
          replace K1 := hid (K1.out.below hbX K1.out.lt)
          replace K2 := hid (K2.out.below hbX K2.out.lt)
          replace hk2 := hid (fun b (h1 : b < W7.heap.size) (h2 : b ≠ w.heap.size + 1 + 1) => ((hbX).block b (by have := hB.out; omega)).trans (hk2.out b h1 h2))
          replace bw := hid (bt bw.out hbX)
          replace hB := hid (Nat.le_trans hB.out (hbX).size)
          clear f0 f1 f2 f3 hbX
          generalize wr.alloc (.cells #[.string z.name, .slice po z.ps.length pc, .slice ro z.rs.length rc, .slice ao z.att.length ac] 57) = X5 at K0 K1 K2 K5 hown hys hk2 hB bw ⊢
          generalize wr.heap.size = b5 at K5 hb5 hb52 ⊢
          refine wp_region_held_drew (S := (fun W => W.cell? ⟨b5, 0, none⟩ = some (.string z.name) ∧ W.cell? ⟨b5, 1, none⟩ = some (.slice po z.ps.length pc) ∧ W.cell? ⟨b5, 2, none⟩ = some (.slice ro z.rs.length rc) ∧ W.cell? ⟨b5, 3, none⟩ = some (.slice ao z.att.length ac))) (by kernel_rfl) (by obtain ⟨s0, s1, s2, s3, -⟩ := four' K5.out; exact ⟨s0, s1, s2, s3⟩) (fun hHeld => ?_)
          replace hown := hid (ownsRow_below hown.out ((Below.refl X5.heap.size X5).drew))
          replace hys := hid (fun u (hu : u ∈ ys) => (show _ ∧ _ from ⟨(hys.out u hu).1.below ((Below.refl X5.heap.size X5).drew), (hys.out u hu).2⟩))
          replace K0 := hid (K0.out.below ((Below.refl X5.heap.size X5).drew) K0.out.lt)
          replace K1 := hid (K1.out.below ((Below.refl X5.heap.size X5).drew) K1.out.lt)
          replace K2 := hid (K2.out.below ((Below.refl X5.heap.size X5).drew) K2.out.lt)
          replace hk2 := hid (fun b (h1 : b < W7.heap.size) (h2 : b ≠ w.heap.size + 1 + 1) => ((((Below.refl X5.heap.size X5).drew)).block b (by have := hB.out; omega)).trans (hk2.out b h1 h2))
          replace bw := hid (bt bw.out ((Below.refl X5.heap.size X5).drew))
          replace hB := hid (Nat.le_trans hB.out (((Below.refl X5.heap.size X5).drew)).size)
          replace K5 := hid K5.out.drew
          generalize X5.drew = w5 at K0 K1 K2 K5 hown hys hk2 hB bw hHeld ⊢
          have hcl := hid (copy_ac z w5 (fun b => W7.heap.size ≤ b ∧ (Value.slice vo k vc).ownBlock ≠ some b) (hok.out.below bw.out) (fun b hb => ⟨by have := hB.out; omega, fun e => by have := (hown.out.lt b e).2; omega⟩))
          rw [hzv.out] at hcl
          clear hok hzv
          refine wpAnyH_take (i := 0) (v := ?_) rfl (by kernel_rfl) (by kernel_rfl) (by kernel_rfl) (fun _ _ _ h => h) (Or.inl ⟨by rfl, ?_⟩) (by assumption) ?_; rotate_left 1; (intro w hSw; (try dsimp only at hSw); go_simp; try with_reducible rfl); (try simp only [Act.put, List.getElem_toArray, List.getElem_cons_zero, List.getElem_cons_succ, List.setIfInBounds_toArray, List.set_cons_zero, List.set_cons_succ])
          refine wpAnyH_take (i := 2) (v := ?_) rfl (by kernel_rfl) (by kernel_rfl) (by kernel_rfl) (fun _ _ _ h => h) (Or.inl ⟨by rfl, ?_⟩) (by assumption) ?_; rotate_left 1; (intro w hSw; (try dsimp only at hSw); go_simp; try with_reducible rfl); (try simp only [Act.put, List.getElem_toArray, List.getElem_cons_zero, List.getElem_cons_succ, List.setIfInBounds_toArray, List.set_cons_zero, List.set_cons_succ])
          refine wpAnyH_ready (rs := [1, 3]) (by kernel_rfl) (by simp) ?_
          refine AllReadyH.cons rfl (fun K hK => ?_) ?_
          · skip
            obtain ⟨c0, c1, cf⟩ := two' K2.out
            go_simp
            clear c0 c1 cf
            refine hK.out _ _ (by obtain ⟨s0, s1, s2, s3, -⟩ := four' K5.out; exact ⟨s0, s1, s2, s3⟩) (fun hHeldN => ?_)
            clear hK K hHeld
            have hHeld := hHeldN
            clear hHeldN
            (try simp only [Act.put, List.getElem_toArray, List.getElem_cons_zero, List.getElem_cons_succ, List.setIfInBounds_toArray, List.set_cons_zero, List.set_cons_succ])
            refine wpAnyH_ready (rs := [3]) (by kernel_rfl) (by simp) ?_
            refine AllReadyH.cons rfl (fun K hK => ?_) AllReadyH.nil
            go_simp
            (with_reducible refine (hcl.out).mono ?_)
            rintro e w6 ⟨⟨y, rfl, hyl, hyrd, hyin⟩, b6⟩
            obtain ⟨ypo, ypc, yro, yrc, yao, yac, e0, e1, e2⟩ := hyrd.forms
            rw [show y.val = .agg #[.string y.name, .slice ypo y.ps.length ypc, .slice yro y.rs.length yrc, .slice yao y.att.length yac] by unfold Ac.val; rw [e0, e1, e2]]
            have hye := hid (show y.cells = [.string y.name, .slice ypo y.ps.length ypc, .slice yro y.rs.length yrc, .slice yao y.att.length yac] by unfold Ac.cells; rw [e0, e1, e2])
            replace hown := hid (ownsRow_below hown.out b6)
            replace hys := hid (fun u (hu : u ∈ ys) => (show _ ∧ _ from ⟨(hys.out u hu).1.below b6, (hys.out u hu).2⟩))
            replace K0 := hid (K0.out.below b6 K0.out.lt)
            replace K1 := hid (K1.out.below b6 K1.out.lt)
            replace K2 := hid (K2.out.below b6 K2.out.lt)
            replace hk2 := hid (fun b (h1 : b < W7.heap.size) (h2 : b ≠ w.heap.size + 1 + 1) => ((b6).block b (by have := hB.out; omega)).trans (hk2.out b h1 h2))
            replace bw := hid (bt bw.out b6)
            replace hB := hid (Nat.le_trans hB.out (b6).size)
            replace K5 := hid (K5.out.below b6 K5.out.lt)
            replace hyl := hid hyl
            replace hyrd := hid hyrd
            replace hyin := hid hyin
            clear b6 hcl e0 e1 e2
            refine hK.out _ _ (by obtain ⟨s0, s1, s2, s3, -⟩ := four' K5.out; exact ⟨s0, s1, s2, s3⟩) (fun hHeldN => ?_)
            clear hK K hHeld
            have hHeld := hHeldN
            clear hHeldN
            (try simp only [Act.put, List.getElem_toArray, List.getElem_cons_zero, List.getElem_cons_succ, List.setIfInBounds_toArray, List.set_cons_zero, List.set_cons_succ])
            refine wpAnyH_ready (rs := [4]) (by kernel_rfl) (by simp) ?_
            refine AllReadyH.cons rfl (fun K hK => ?_) AllReadyH.nil
            go_simp
            have hb7 := (Below.refl w6.heap.size w6).alloc (Nat.le_refl _) (.cells #[.string y.name, .slice ypo y.ps.length ypc, .slice yro y.rs.length yrc, .slice yao y.att.length yac] 57)
            have K9 := hid (Blk.new w6 [.string y.name, .slice ypo y.ps.length ypc, .slice yro y.rs.length yrc, .slice yao y.att.length yac] 57)
            replace hown := hid (ownsRow_below hown.out hb7)
            replace hys := hid (fun u (hu : u ∈ ys) => (show _ ∧ _ from ⟨(hys.out u hu).1.below hb7, (hys.out u hu).2⟩))
            replace K0 := hid (K0.out.below hb7 K0.out.lt)
            replace K1 := hid (K1.out.below hb7 K1.out.lt)
            replace K2 := hid (K2.out.below hb7 K2.out.lt)
            replace hk2 := hid (fun b (h1 : b < W7.heap.size) (h2 : b ≠ w.heap.size + 1 + 1) => ((hb7).block b (by have := hB.out; omega)).trans (hk2.out b h1 h2))
            replace bw := hid (bt bw.out hb7)
            replace hB := hid (Nat.le_trans hB.out (hb7).size)
            replace K5 := hid (K5.out.below hb7 K5.out.lt)
            replace hyrd := hid (hyrd.out.below hb7)
            clear hb7
            generalize w6.alloc (.cells #[.string y.name, .slice ypo y.ps.length ypc, .slice yro y.rs.length yrc, .slice yao y.att.length yac] 57) = X7 at K0 K1 K2 K5 K9 hown hys hyrd hk2 hB bw ⊢
            generalize w6.heap.size = b9 at K9 ⊢
            refine hK.out _ _ (by obtain ⟨s0, s1, s2, s3, -⟩ := four' K5.out; exact ⟨s0, s1, s2, s3⟩) (fun hHeldN => ?_)
            clear hK K hHeld
            have hHeld := hHeldN
            clear hHeldN
            (try simp only [Act.put, List.getElem_toArray, List.getElem_cons_zero, List.getElem_cons_succ, List.setIfInBounds_toArray, List.set_cons_zero, List.set_cons_succ])
            refine wpAnyH_ready (rs := [5]) (by kernel_rfl) (by simp) ?_
            refine AllReadyH.cons rfl (fun K hK => ?_) AllReadyH.nil
            have hys7 := hid (fun u (hu : u ∈ ys ++ [y]) => (show u.rd X7 ∧ u.inS (fun b => (fun b => W7.heap.size ≤ b ∧ (Value.slice vo k vc).ownBlock ≠ some b) b ∧ b < X7.heap.size) from by
              rcases List.mem_append.1 hu with hu | hu
              · exact ⟨(hys.out u hu).1, Ac.inS_and (hys.out u hu).2 (hys.out u hu).1.inS⟩
              · rw [List.mem_singleton] at hu
                subst hu
                exact ⟨hyrd.out, Ac.inS_and hyin.out hyrd.out.inS⟩))
            obtain ⟨v', w8, hrun, ho, hg, hp⟩ := run_append_place (P := Tryz.prog) X7 (W7.heap.size) 47 47 57 icac zcac 4 88 Tryz.underlying47 hiac hz0ac hz1ac hz2ac hz3ac (by decide)
              (.slice vo k vc) k (Ac.enc ys) hown.out ⟨b9, 0, none⟩ 1 1 [.string y.name, .slice ypo y.ps.length ypc, .slice yro y.rs.length yrc, .slice yao y.att.length yac] rfl
              (getElem?_cells' (fun j hj => by rw [Mem.add_plain, Nat.zero_add]; exact K9.out.cell j hj)) (by simp [Value.oneCell']) (by unfold maxLen; omega) (by omega) hB.out
            have hrun2 := hrun
            clear hrun
            refine step_append_run rfl (.tmp 31) (.tmp 34) 47 rfl _ _ _ _ rfl rfl hrun2 ?_
            have hgr := hid hg
            have hge : ∀ b, (Value.slice vo k vc).ownBlock = some b → W7.heap.size ≤ b := fun b hb => (hown.out.lt b hb).1
            have hkq : ∀ b, b < W7.heap.size → w8.heap[b]? = X7.heap[b]? := fun b hb => hg.block b (by have := hB.out; omega) (fun e => by have := hge b e.symm; omega)
            replace bw := hid (bw.out.grown hg (by have := bw.out.size; omega) (fun b hb => by have := hge b hb; have := hGB.out; omega))
            replace hk2 := hid (fun b (h1 : b < W7.heap.size) (h2 : b ≠ w.heap.size + 1 + 1) => (hkq b h1).trans (hk2.out b h1 h2))
            replace K0 := hid (show Blk w8 (w.heap.size) _ _ from ⟨(hkq _ (by have := hGB.out; omega)).trans K0.out.at'⟩)
            replace K1 := hid (show Blk w8 (w.heap.size + 1) _ _ from ⟨(hkq _ (by have := hGB.out; omega)).trans K1.out.at'⟩)
            replace K2 := hid (show Blk w8 (w.heap.size + 1 + 1) _ _ from ⟨(hkq _ (by have := hGB.out; omega)).trans K2.out.at'⟩)
            replace K5 := hid (show Blk w8 b5 _ _ from ⟨(hg.block b5 K5.out.lt (fun e => hb5.out e.symm)).trans K5.out.at'⟩)
            obtain ⟨vo', vc', hv', _, _⟩ := ownsRow_form ho
            subst hv'
            have hrow8 := hid (show w8.ownsRow (W7.heap.size) 57 4 (.slice vo' (k + 1) vc') (k + 1) (Ac.enc (ys ++ [y])) from by
              rw [Ac.enc_snoc, hye.out]
              exact ho)
            have hysf := hid (show ∀ u ∈ ys ++ [y], u.rd w8 ∧ u.inS (fun b => W7.heap.size ≤ b ∧ (Value.slice vo' (k + 1) vc').ownBlock ≠ some b) from fun u hu => by
              obtain ⟨h1, h2⟩ := hys7.out u hu
              refine ⟨h1.keep (fun b hb => hgr.out.block b hb.2 (fun e => hb.1.2 e.symm)) h2, h2.mono (fun b hb => ⟨hb.1.1, fun e => ?_⟩)⟩
              rcases hp with hp | ⟨g2, hp, hge⟩
              · exact hb.1.2 (hp.symm.trans e)
              · have h3 : g2 = b := Option.some.inj (hp.symm.trans e)
                have := hb.2
                omega)
            replace hB := hid (Nat.le_trans hB.out hg.size)
            have hrw2 := hid (show ∀ b, (Value.slice vo' (k + 1) vc').ownBlock = some b → W7.heap.size ≤ b from fun b hb => (hrow8.out.lt b hb).1)
            clear hg hp ho hys7 hown hys K9 hgr hyrd hyin hye hrun2 hge hkq
            refine hK.out _ _ (by obtain ⟨s0, s1, s2, s3, -⟩ := four' K5.out; exact ⟨s0, s1, s2, s3⟩) (fun hHeldN => ?_)
            clear hK K hHeld
            have hHeld := hHeldN
            clear hHeldN
            (try simp only [Act.put, List.getElem_toArray, List.getElem_cons_zero, List.getElem_cons_succ, List.setIfInBounds_toArray, List.set_cons_zero, List.set_cons_succ])
            refine wpAnyH_take (i := 6) (v := ?_) rfl (by kernel_rfl) (by kernel_rfl) (by kernel_rfl) (fun _ _ _ h => h) (Or.inl ⟨by rfl, ?_⟩) (by assumption) ?_; rotate_left 1; (intro w hSw; (try dsimp only at hSw); go_simp; try with_reducible rfl); (try simp only [Act.put, List.getElem_toArray, List.getElem_cons_zero, List.getElem_cons_succ, List.setIfInBounds_toArray, List.set_cons_zero, List.set_cons_succ])
            refine wpAnyH_ready (rs := [7]) (by kernel_rfl) (by simp) ?_
            refine AllReadyH.cons rfl (fun K hK => ?_) AllReadyH.nil
            obtain ⟨c0, c1, cf⟩ := two' K2.out
            go_simp
            clear c0 c1 cf
            have K2s := hid (show Blk (w8.setCell ⟨w.heap.size + 1 + 1, 1, none⟩ (.slice vo' (k + 1) vc')) (w.heap.size + 1 + 1) [.slice to2 x.ts.length tc2, .slice vo' (k + 1) vc'] 49 from K2.out.set 1 (.slice vo' (k + 1) vc'))
            have K0s := hid (K0.out.other (p := ⟨w.heap.size + 1 + 1, 1, none⟩) (by show w.heap.size + 1 + 1 ≠ w.heap.size; omega) (.slice vo' (k + 1) vc'))
            have K1s := hid (K1.out.other (p := ⟨w.heap.size + 1 + 1, 1, none⟩) (by show w.heap.size + 1 + 1 ≠ w.heap.size + 1; omega) (.slice vo' (k + 1) vc'))
            have hks := hid (show ∀ b, b ≠ w.heap.size + 1 + 1 → (w8.setCell ⟨w.heap.size + 1 + 1, 1, none⟩ (.slice vo' (k + 1) vc')).heap[b]? = w8.heap[b]? from fun b hb => Below.heap_setCell _ _ _ _ hb)
            have hk2s := hid (fun b (h1 : b < W7.heap.size) (h2 : b ≠ w.heap.size + 1 + 1) => (hks.out b h2).trans (hk2.out b h1 h2))
            have bws := hid (bw.out.setCell (p := ⟨w.heap.size + 1 + 1, 1, none⟩) (by show w.heap.size ≤ w.heap.size + 1 + 1; omega) (.slice vo' (k + 1) vc'))
            have hBs := hid (show W7.heap.size ≤ (w8.setCell ⟨w.heap.size + 1 + 1, 1, none⟩ (.slice vo' (k + 1) vc')).heap.size by simp; exact hB.out)
            have hrow9 := hid (ownsRow_setCell_below hrow8.out (a := ⟨w.heap.size + 1 + 1, 1, none⟩) (by have := hGB.out; show w.heap.size + 1 + 1 < W7.heap.size; omega) (.slice vo' (k + 1) vc'))
            have hysg := hid (fun u (hu : u ∈ ys ++ [y]) => (show _ ∧ _ from ⟨(hysf.out u hu).1.keep (fun b hb => hks.out b (by have := hb.1; have := hGB.out; omega)) (hysf.out u hu).2, (hysf.out u hu).2⟩))
            have hlkf := hid (show (ys ++ [y]).length = k + 1 ∧ Ac.likes x.acts (ys ++ [y]) from ⟨by rw [List.length_append, hlk.out.1]; rfl, Ac.likes_snoc hlk.out.2 k hlk.out.1 hkl (by rw [hz.out]; exact hyl.out)⟩)
            have hne5 := hid (show w.heap.size + 1 + 1 ≠ b5 from hb52.out)
            replace K5 := hid (K5.out.other (p := ⟨w.heap.size + 1 + 1, 1, none⟩) hne5.out (.slice vo' (k + 1) vc'))
            clear K0 K1 K2 hk2 bw hB hrow8 hysf hlk hks hyl hne5
            generalize w8.setCell ⟨w.heap.size + 1 + 1, 1, none⟩ (.slice vo' (k + 1) vc') = X9 at K0s K1s K2s hk2s bws hBs hrow9 hysg K5 ⊢
            refine hK.out _ _ (by obtain ⟨s0, s1, s2, s3, -⟩ := four' K5.out; exact ⟨s0, s1, s2, s3⟩) (fun hHeldN => ?_)
            clear hK K hHeld
            have hHeld := hHeldN
            clear hHeldN
            (try simp only [Act.put, List.getElem_toArray, List.getElem_cons_zero, List.getElem_cons_succ, List.setIfInBounds_toArray, List.set_cons_zero, List.set_cons_succ])
            refine wpAnyH_done (by kernel_rfl) ?_ _
            clear hHeld
            go_wp2_with fail
            go_roundw
            case rel => exact ⟨k + 1, ys ++ [y], vo', vc', by omega, by go_num, hlkf, hrow9, hysg, K0s, K1s, K2s, hBs, hk2s, bws⟩
            case measure => simp [intOf]; omega
          refine AllReadyH.cons rfl (fun K hK => ?_) AllReadyH.nil
          go_simp
          (with_reducible refine (hcl.out).mono ?_)
          rintro e w6 ⟨⟨y, rfl, hyl, hyrd, hyin⟩, b6⟩
          obtain ⟨ypo, ypc, yro, yrc, yao, yac, e0, e1, e2⟩ := hyrd.forms
          rw [show y.val = .agg #[.string y.name, .slice ypo y.ps.length ypc, .slice yro y.rs.length yrc, .slice yao y.att.length yac] by unfold Ac.val; rw [e0, e1, e2]]
          have hye := hid (show y.cells = [.string y.name, .slice ypo y.ps.length ypc, .slice yro y.rs.length yrc, .slice yao y.att.length yac] by unfold Ac.cells; rw [e0, e1, e2])
          replace hown := hid (ownsRow_below hown.out b6)
          replace hys := hid (fun u (hu : u ∈ ys) => (show _ ∧ _ from ⟨(hys.out u hu).1.below b6, (hys.out u hu).2⟩))
          replace K0 := hid (K0.out.below b6 K0.out.lt)
          replace K1 := hid (K1.out.below b6 K1.out.lt)
          replace K2 := hid (K2.out.below b6 K2.out.lt)
          replace hk2 := hid (fun b (h1 : b < W7.heap.size) (h2 : b ≠ w.heap.size + 1 + 1) => ((b6).block b (by have := hB.out; omega)).trans (hk2.out b h1 h2))
          replace bw := hid (bt bw.out b6)
          replace hB := hid (Nat.le_trans hB.out (b6).size)
          replace K5 := hid (K5.out.below b6 K5.out.lt)
          replace hyl := hid hyl
          replace hyrd := hid hyrd
          replace hyin := hid hyin
          clear b6 hcl e0 e1 e2
          refine hK.out _ _ (by obtain ⟨s0, s1, s2, s3, -⟩ := four' K5.out; exact ⟨s0, s1, s2, s3⟩) (fun hHeldN => ?_)
          clear hK K hHeld
          have hHeld := hHeldN
          clear hHeldN
          (try simp only [Act.put, List.getElem_toArray, List.getElem_cons_zero, List.getElem_cons_succ, List.setIfInBounds_toArray, List.set_cons_zero, List.set_cons_succ])
          refine wpAnyH_ready (rs := [1, 4]) (by kernel_rfl) (by simp) ?_
          refine AllReadyH.cons rfl (fun K hK => ?_) ?_
          · skip
            obtain ⟨c0, c1, cf⟩ := two' K2.out
            go_simp
            clear c0 c1 cf
            refine hK.out _ _ (by obtain ⟨s0, s1, s2, s3, -⟩ := four' K5.out; exact ⟨s0, s1, s2, s3⟩) (fun hHeldN => ?_)
            clear hK K hHeld
            have hHeld := hHeldN
            clear hHeldN
            (try simp only [Act.put, List.getElem_toArray, List.getElem_cons_zero, List.getElem_cons_succ, List.setIfInBounds_toArray, List.set_cons_zero, List.set_cons_succ])
            refine wpAnyH_ready (rs := [4]) (by kernel_rfl) (by simp) ?_
            refine AllReadyH.cons rfl (fun K hK => ?_) AllReadyH.nil
            go_simp
            have hb7 := (Below.refl w6.heap.size w6).alloc (Nat.le_refl _) (.cells #[.string y.name, .slice ypo y.ps.length ypc, .slice yro y.rs.length yrc, .slice yao y.att.length yac] 57)
            have K9 := hid (Blk.new w6 [.string y.name, .slice ypo y.ps.length ypc, .slice yro y.rs.length yrc, .slice yao y.att.length yac] 57)
            replace hown := hid (ownsRow_below hown.out hb7)
            replace hys := hid (fun u (hu : u ∈ ys) => (show _ ∧ _ from ⟨(hys.out u hu).1.below hb7, (hys.out u hu).2⟩))
            replace K0 := hid (K0.out.below hb7 K0.out.lt)
            replace K1 := hid (K1.out.below hb7 K1.out.lt)
            replace K2 := hid (K2.out.below hb7 K2.out.lt)
            replace hk2 := hid (fun b (h1 : b < W7.heap.size) (h2 : b ≠ w.heap.size + 1 + 1) => ((hb7).block b (by have := hB.out; omega)).trans (hk2.out b h1 h2))
            replace bw := hid (bt bw.out hb7)
            replace hB := hid (Nat.le_trans hB.out (hb7).size)
            replace K5 := hid (K5.out.below hb7 K5.out.lt)
            replace hyrd := hid (hyrd.out.below hb7)
            clear hb7
            generalize w6.alloc (.cells #[.string y.name, .slice ypo y.ps.length ypc, .slice yro y.rs.length yrc, .slice yao y.att.length yac] 57) = X7 at K0 K1 K2 K5 K9 hown hys hyrd hk2 hB bw ⊢
            generalize w6.heap.size = b9 at K9 ⊢
            refine hK.out _ _ (by obtain ⟨s0, s1, s2, s3, -⟩ := four' K5.out; exact ⟨s0, s1, s2, s3⟩) (fun hHeldN => ?_)
            clear hK K hHeld
            have hHeld := hHeldN
            clear hHeldN
            (try simp only [Act.put, List.getElem_toArray, List.getElem_cons_zero, List.getElem_cons_succ, List.setIfInBounds_toArray, List.set_cons_zero, List.set_cons_succ])
            refine wpAnyH_ready (rs := [5]) (by kernel_rfl) (by simp) ?_
            refine AllReadyH.cons rfl (fun K hK => ?_) AllReadyH.nil
            have hys7 := hid (fun u (hu : u ∈ ys ++ [y]) => (show u.rd X7 ∧ u.inS (fun b => (fun b => W7.heap.size ≤ b ∧ (Value.slice vo k vc).ownBlock ≠ some b) b ∧ b < X7.heap.size) from by
              rcases List.mem_append.1 hu with hu | hu
              · exact ⟨(hys.out u hu).1, Ac.inS_and (hys.out u hu).2 (hys.out u hu).1.inS⟩
              · rw [List.mem_singleton] at hu
                subst hu
                exact ⟨hyrd.out, Ac.inS_and hyin.out hyrd.out.inS⟩))
            obtain ⟨v', w8, hrun, ho, hg, hp⟩ := run_append_place (P := Tryz.prog) X7 (W7.heap.size) 47 47 57 icac zcac 4 88 Tryz.underlying47 hiac hz0ac hz1ac hz2ac hz3ac (by decide)
              (.slice vo k vc) k (Ac.enc ys) hown.out ⟨b9, 0, none⟩ 1 1 [.string y.name, .slice ypo y.ps.length ypc, .slice yro y.rs.length yrc, .slice yao y.att.length yac] rfl
              (getElem?_cells' (fun j hj => by rw [Mem.add_plain, Nat.zero_add]; exact K9.out.cell j hj)) (by simp [Value.oneCell']) (by unfold maxLen; omega) (by omega) hB.out
            have hrun2 := hrun
            clear hrun
            refine step_append_run rfl (.tmp 31) (.tmp 34) 47 rfl _ _ _ _ rfl rfl hrun2 ?_
            have hgr := hid hg
            have hge : ∀ b, (Value.slice vo k vc).ownBlock = some b → W7.heap.size ≤ b := fun b hb => (hown.out.lt b hb).1
            have hkq : ∀ b, b < W7.heap.size → w8.heap[b]? = X7.heap[b]? := fun b hb => hg.block b (by have := hB.out; omega) (fun e => by have := hge b e.symm; omega)
            replace bw := hid (bw.out.grown hg (by have := bw.out.size; omega) (fun b hb => by have := hge b hb; have := hGB.out; omega))
            replace hk2 := hid (fun b (h1 : b < W7.heap.size) (h2 : b ≠ w.heap.size + 1 + 1) => (hkq b h1).trans (hk2.out b h1 h2))
            replace K0 := hid (show Blk w8 (w.heap.size) _ _ from ⟨(hkq _ (by have := hGB.out; omega)).trans K0.out.at'⟩)
            replace K1 := hid (show Blk w8 (w.heap.size + 1) _ _ from ⟨(hkq _ (by have := hGB.out; omega)).trans K1.out.at'⟩)
            replace K2 := hid (show Blk w8 (w.heap.size + 1 + 1) _ _ from ⟨(hkq _ (by have := hGB.out; omega)).trans K2.out.at'⟩)
            replace K5 := hid (show Blk w8 b5 _ _ from ⟨(hg.block b5 K5.out.lt (fun e => hb5.out e.symm)).trans K5.out.at'⟩)
            obtain ⟨vo', vc', hv', _, _⟩ := ownsRow_form ho
            subst hv'
            have hrow8 := hid (show w8.ownsRow (W7.heap.size) 57 4 (.slice vo' (k + 1) vc') (k + 1) (Ac.enc (ys ++ [y])) from by
              rw [Ac.enc_snoc, hye.out]
              exact ho)
            have hysf := hid (show ∀ u ∈ ys ++ [y], u.rd w8 ∧ u.inS (fun b => W7.heap.size ≤ b ∧ (Value.slice vo' (k + 1) vc').ownBlock ≠ some b) from fun u hu => by
              obtain ⟨h1, h2⟩ := hys7.out u hu
              refine ⟨h1.keep (fun b hb => hgr.out.block b hb.2 (fun e => hb.1.2 e.symm)) h2, h2.mono (fun b hb => ⟨hb.1.1, fun e => ?_⟩)⟩
              rcases hp with hp | ⟨g2, hp, hge⟩
              · exact hb.1.2 (hp.symm.trans e)
              · have h3 : g2 = b := Option.some.inj (hp.symm.trans e)
                have := hb.2
                omega)
            replace hB := hid (Nat.le_trans hB.out hg.size)
            have hrw2 := hid (show ∀ b, (Value.slice vo' (k + 1) vc').ownBlock = some b → W7.heap.size ≤ b from fun b hb => (hrow8.out.lt b hb).1)
            clear hg hp ho hys7 hown hys K9 hgr hyrd hyin hye hrun2 hge hkq
            refine hK.out _ _ (by obtain ⟨s0, s1, s2, s3, -⟩ := four' K5.out; exact ⟨s0, s1, s2, s3⟩) (fun hHeldN => ?_)
            clear hK K hHeld
            have hHeld := hHeldN
            clear hHeldN
            (try simp only [Act.put, List.getElem_toArray, List.getElem_cons_zero, List.getElem_cons_succ, List.setIfInBounds_toArray, List.set_cons_zero, List.set_cons_succ])
            refine wpAnyH_take (i := 6) (v := ?_) rfl (by kernel_rfl) (by kernel_rfl) (by kernel_rfl) (fun _ _ _ h => h) (Or.inl ⟨by rfl, ?_⟩) (by assumption) ?_; rotate_left 1; (intro w hSw; (try dsimp only at hSw); go_simp; try with_reducible rfl); (try simp only [Act.put, List.getElem_toArray, List.getElem_cons_zero, List.getElem_cons_succ, List.setIfInBounds_toArray, List.set_cons_zero, List.set_cons_succ])
            refine wpAnyH_ready (rs := [7]) (by kernel_rfl) (by simp) ?_
            refine AllReadyH.cons rfl (fun K hK => ?_) AllReadyH.nil
            obtain ⟨c0, c1, cf⟩ := two' K2.out
            go_simp
            clear c0 c1 cf
            have K2s := hid (show Blk (w8.setCell ⟨w.heap.size + 1 + 1, 1, none⟩ (.slice vo' (k + 1) vc')) (w.heap.size + 1 + 1) [.slice to2 x.ts.length tc2, .slice vo' (k + 1) vc'] 49 from K2.out.set 1 (.slice vo' (k + 1) vc'))
            have K0s := hid (K0.out.other (p := ⟨w.heap.size + 1 + 1, 1, none⟩) (by show w.heap.size + 1 + 1 ≠ w.heap.size; omega) (.slice vo' (k + 1) vc'))
            have K1s := hid (K1.out.other (p := ⟨w.heap.size + 1 + 1, 1, none⟩) (by show w.heap.size + 1 + 1 ≠ w.heap.size + 1; omega) (.slice vo' (k + 1) vc'))
            have hks := hid (show ∀ b, b ≠ w.heap.size + 1 + 1 → (w8.setCell ⟨w.heap.size + 1 + 1, 1, none⟩ (.slice vo' (k + 1) vc')).heap[b]? = w8.heap[b]? from fun b hb => Below.heap_setCell _ _ _ _ hb)
            have hk2s := hid (fun b (h1 : b < W7.heap.size) (h2 : b ≠ w.heap.size + 1 + 1) => (hks.out b h2).trans (hk2.out b h1 h2))
            have bws := hid (bw.out.setCell (p := ⟨w.heap.size + 1 + 1, 1, none⟩) (by show w.heap.size ≤ w.heap.size + 1 + 1; omega) (.slice vo' (k + 1) vc'))
            have hBs := hid (show W7.heap.size ≤ (w8.setCell ⟨w.heap.size + 1 + 1, 1, none⟩ (.slice vo' (k + 1) vc')).heap.size by simp; exact hB.out)
            have hrow9 := hid (ownsRow_setCell_below hrow8.out (a := ⟨w.heap.size + 1 + 1, 1, none⟩) (by have := hGB.out; show w.heap.size + 1 + 1 < W7.heap.size; omega) (.slice vo' (k + 1) vc'))
            have hysg := hid (fun u (hu : u ∈ ys ++ [y]) => (show _ ∧ _ from ⟨(hysf.out u hu).1.keep (fun b hb => hks.out b (by have := hb.1; have := hGB.out; omega)) (hysf.out u hu).2, (hysf.out u hu).2⟩))
            have hlkf := hid (show (ys ++ [y]).length = k + 1 ∧ Ac.likes x.acts (ys ++ [y]) from ⟨by rw [List.length_append, hlk.out.1]; rfl, Ac.likes_snoc hlk.out.2 k hlk.out.1 hkl (by rw [hz.out]; exact hyl.out)⟩)
            have hne5 := hid (show w.heap.size + 1 + 1 ≠ b5 from hb52.out)
            replace K5 := hid (K5.out.other (p := ⟨w.heap.size + 1 + 1, 1, none⟩) hne5.out (.slice vo' (k + 1) vc'))
            clear K0 K1 K2 hk2 bw hB hrow8 hysf hlk hks hyl hne5
            generalize w8.setCell ⟨w.heap.size + 1 + 1, 1, none⟩ (.slice vo' (k + 1) vc') = X9 at K0s K1s K2s hk2s bws hBs hrow9 hysg K5 ⊢
            refine hK.out _ _ (by obtain ⟨s0, s1, s2, s3, -⟩ := four' K5.out; exact ⟨s0, s1, s2, s3⟩) (fun hHeldN => ?_)
            clear hK K hHeld
            have hHeld := hHeldN
            clear hHeldN
            (try simp only [Act.put, List.getElem_toArray, List.getElem_cons_zero, List.getElem_cons_succ, List.setIfInBounds_toArray, List.set_cons_zero, List.set_cons_succ])
            refine wpAnyH_done (by kernel_rfl) ?_ _
            clear hHeld
            go_wp2_with fail
            go_roundw
            case rel => exact ⟨k + 1, ys ++ [y], vo', vc', by omega, by go_num, hlkf, hrow9, hysg, K0s, K1s, K2s, hBs, hk2s, bws⟩
            case measure => simp [intOf]; omega
          refine AllReadyH.cons rfl (fun K hK => ?_) AllReadyH.nil
          go_simp
          have hb7 := (Below.refl w6.heap.size w6).alloc (Nat.le_refl _) (.cells #[.string y.name, .slice ypo y.ps.length ypc, .slice yro y.rs.length yrc, .slice yao y.att.length yac] 57)
          have K9 := hid (Blk.new w6 [.string y.name, .slice ypo y.ps.length ypc, .slice yro y.rs.length yrc, .slice yao y.att.length yac] 57)
          replace hown := hid (ownsRow_below hown.out hb7)
          replace hys := hid (fun u (hu : u ∈ ys) => (show _ ∧ _ from ⟨(hys.out u hu).1.below hb7, (hys.out u hu).2⟩))
          replace K0 := hid (K0.out.below hb7 K0.out.lt)
          replace K1 := hid (K1.out.below hb7 K1.out.lt)
          replace K2 := hid (K2.out.below hb7 K2.out.lt)
          replace hk2 := hid (fun b (h1 : b < W7.heap.size) (h2 : b ≠ w.heap.size + 1 + 1) => ((hb7).block b (by have := hB.out; omega)).trans (hk2.out b h1 h2))
          replace bw := hid (bt bw.out hb7)
          replace hB := hid (Nat.le_trans hB.out (hb7).size)
          replace K5 := hid (K5.out.below hb7 K5.out.lt)
          replace hyrd := hid (hyrd.out.below hb7)
          clear hb7
          generalize w6.alloc (.cells #[.string y.name, .slice ypo y.ps.length ypc, .slice yro y.rs.length yrc, .slice yao y.att.length yac] 57) = X7 at K0 K1 K2 K5 K9 hown hys hyrd hk2 hB bw ⊢
          generalize w6.heap.size = b9 at K9 ⊢
          refine hK.out _ _ (by obtain ⟨s0, s1, s2, s3, -⟩ := four' K5.out; exact ⟨s0, s1, s2, s3⟩) (fun hHeldN => ?_)
          clear hK K hHeld
          have hHeld := hHeldN
          clear hHeldN
          (try simp only [Act.put, List.getElem_toArray, List.getElem_cons_zero, List.getElem_cons_succ, List.setIfInBounds_toArray, List.set_cons_zero, List.set_cons_succ])
          refine wpAnyH_ready (rs := [1]) (by kernel_rfl) (by simp) ?_
          refine AllReadyH.cons rfl (fun K hK => ?_) AllReadyH.nil
          obtain ⟨c0, c1, cf⟩ := two' K2.out
          go_simp
          clear c0 c1 cf
          refine hK.out _ _ (by obtain ⟨s0, s1, s2, s3, -⟩ := four' K5.out; exact ⟨s0, s1, s2, s3⟩) (fun hHeldN => ?_)
          clear hK K hHeld
          have hHeld := hHeldN
          clear hHeldN
          (try simp only [Act.put, List.getElem_toArray, List.getElem_cons_zero, List.getElem_cons_succ, List.setIfInBounds_toArray, List.set_cons_zero, List.set_cons_succ])
          refine wpAnyH_ready (rs := [5]) (by kernel_rfl) (by simp) ?_
          refine AllReadyH.cons rfl (fun K hK => ?_) AllReadyH.nil
          have hys7 := hid (fun u (hu : u ∈ ys ++ [y]) => (show u.rd X7 ∧ u.inS (fun b => (fun b => W7.heap.size ≤ b ∧ (Value.slice vo k vc).ownBlock ≠ some b) b ∧ b < X7.heap.size) from by
            rcases List.mem_append.1 hu with hu | hu
            · exact ⟨(hys.out u hu).1, Ac.inS_and (hys.out u hu).2 (hys.out u hu).1.inS⟩
            · rw [List.mem_singleton] at hu
              subst hu
              exact ⟨hyrd.out, Ac.inS_and hyin.out hyrd.out.inS⟩))
          obtain ⟨v', w8, hrun, ho, hg, hp⟩ := run_append_place (P := Tryz.prog) X7 (W7.heap.size) 47 47 57 icac zcac 4 88 Tryz.underlying47 hiac hz0ac hz1ac hz2ac hz3ac (by decide)
            (.slice vo k vc) k (Ac.enc ys) hown.out ⟨b9, 0, none⟩ 1 1 [.string y.name, .slice ypo y.ps.length ypc, .slice yro y.rs.length yrc, .slice yao y.att.length yac] rfl
            (getElem?_cells' (fun j hj => by rw [Mem.add_plain, Nat.zero_add]; exact K9.out.cell j hj)) (by simp [Value.oneCell']) (by unfold maxLen; omega) (by omega) hB.out
          have hrun2 := hrun
          clear hrun
          refine step_append_run rfl (.tmp 31) (.tmp 34) 47 rfl _ _ _ _ rfl rfl hrun2 ?_
          have hgr := hid hg
          have hge : ∀ b, (Value.slice vo k vc).ownBlock = some b → W7.heap.size ≤ b := fun b hb => (hown.out.lt b hb).1
          have hkq : ∀ b, b < W7.heap.size → w8.heap[b]? = X7.heap[b]? := fun b hb => hg.block b (by have := hB.out; omega) (fun e => by have := hge b e.symm; omega)
          replace bw := hid (bw.out.grown hg (by have := bw.out.size; omega) (fun b hb => by have := hge b hb; have := hGB.out; omega))
          replace hk2 := hid (fun b (h1 : b < W7.heap.size) (h2 : b ≠ w.heap.size + 1 + 1) => (hkq b h1).trans (hk2.out b h1 h2))
          replace K0 := hid (show Blk w8 (w.heap.size) _ _ from ⟨(hkq _ (by have := hGB.out; omega)).trans K0.out.at'⟩)
          replace K1 := hid (show Blk w8 (w.heap.size + 1) _ _ from ⟨(hkq _ (by have := hGB.out; omega)).trans K1.out.at'⟩)
          replace K2 := hid (show Blk w8 (w.heap.size + 1 + 1) _ _ from ⟨(hkq _ (by have := hGB.out; omega)).trans K2.out.at'⟩)
          replace K5 := hid (show Blk w8 b5 _ _ from ⟨(hg.block b5 K5.out.lt (fun e => hb5.out e.symm)).trans K5.out.at'⟩)
          obtain ⟨vo', vc', hv', _, _⟩ := ownsRow_form ho
          subst hv'
          have hrow8 := hid (show w8.ownsRow (W7.heap.size) 57 4 (.slice vo' (k + 1) vc') (k + 1) (Ac.enc (ys ++ [y])) from by
            rw [Ac.enc_snoc, hye.out]
            exact ho)
          have hysf := hid (show ∀ u ∈ ys ++ [y], u.rd w8 ∧ u.inS (fun b => W7.heap.size ≤ b ∧ (Value.slice vo' (k + 1) vc').ownBlock ≠ some b) from fun u hu => by
            obtain ⟨h1, h2⟩ := hys7.out u hu
            refine ⟨h1.keep (fun b hb => hgr.out.block b hb.2 (fun e => hb.1.2 e.symm)) h2, h2.mono (fun b hb => ⟨hb.1.1, fun e => ?_⟩)⟩
            rcases hp with hp | ⟨g2, hp, hge⟩
            · exact hb.1.2 (hp.symm.trans e)
            · have h3 : g2 = b := Option.some.inj (hp.symm.trans e)
              have := hb.2
              omega)
          replace hB := hid (Nat.le_trans hB.out hg.size)
          have hrw2 := hid (show ∀ b, (Value.slice vo' (k + 1) vc').ownBlock = some b → W7.heap.size ≤ b from fun b hb => (hrow8.out.lt b hb).1)
          clear hg hp ho hys7 hown hys K9 hgr hyrd hyin hye hrun2 hge hkq
          refine hK.out _ _ (by obtain ⟨s0, s1, s2, s3, -⟩ := four' K5.out; exact ⟨s0, s1, s2, s3⟩) (fun hHeldN => ?_)
          clear hK K hHeld
          have hHeld := hHeldN
          clear hHeldN
          (try simp only [Act.put, List.getElem_toArray, List.getElem_cons_zero, List.getElem_cons_succ, List.setIfInBounds_toArray, List.set_cons_zero, List.set_cons_succ])
          refine wpAnyH_take (i := 6) (v := ?_) rfl (by kernel_rfl) (by kernel_rfl) (by kernel_rfl) (fun _ _ _ h => h) (Or.inl ⟨by rfl, ?_⟩) (by assumption) ?_; rotate_left 1; (intro w hSw; (try dsimp only at hSw); go_simp; try with_reducible rfl); (try simp only [Act.put, List.getElem_toArray, List.getElem_cons_zero, List.getElem_cons_succ, List.setIfInBounds_toArray, List.set_cons_zero, List.set_cons_succ])
          refine wpAnyH_ready (rs := [7]) (by kernel_rfl) (by simp) ?_
          refine AllReadyH.cons rfl (fun K hK => ?_) AllReadyH.nil
          obtain ⟨c0, c1, cf⟩ := two' K2.out
          go_simp
          clear c0 c1 cf
          have K2s := hid (show Blk (w8.setCell ⟨w.heap.size + 1 + 1, 1, none⟩ (.slice vo' (k + 1) vc')) (w.heap.size + 1 + 1) [.slice to2 x.ts.length tc2, .slice vo' (k + 1) vc'] 49 from K2.out.set 1 (.slice vo' (k + 1) vc'))
          have K0s := hid (K0.out.other (p := ⟨w.heap.size + 1 + 1, 1, none⟩) (by show w.heap.size + 1 + 1 ≠ w.heap.size; omega) (.slice vo' (k + 1) vc'))
          have K1s := hid (K1.out.other (p := ⟨w.heap.size + 1 + 1, 1, none⟩) (by show w.heap.size + 1 + 1 ≠ w.heap.size + 1; omega) (.slice vo' (k + 1) vc'))
          have hks := hid (show ∀ b, b ≠ w.heap.size + 1 + 1 → (w8.setCell ⟨w.heap.size + 1 + 1, 1, none⟩ (.slice vo' (k + 1) vc')).heap[b]? = w8.heap[b]? from fun b hb => Below.heap_setCell _ _ _ _ hb)
          have hk2s := hid (fun b (h1 : b < W7.heap.size) (h2 : b ≠ w.heap.size + 1 + 1) => (hks.out b h2).trans (hk2.out b h1 h2))
          have bws := hid (bw.out.setCell (p := ⟨w.heap.size + 1 + 1, 1, none⟩) (by show w.heap.size ≤ w.heap.size + 1 + 1; omega) (.slice vo' (k + 1) vc'))
          have hBs := hid (show W7.heap.size ≤ (w8.setCell ⟨w.heap.size + 1 + 1, 1, none⟩ (.slice vo' (k + 1) vc')).heap.size by simp; exact hB.out)
          have hrow9 := hid (ownsRow_setCell_below hrow8.out (a := ⟨w.heap.size + 1 + 1, 1, none⟩) (by have := hGB.out; show w.heap.size + 1 + 1 < W7.heap.size; omega) (.slice vo' (k + 1) vc'))
          have hysg := hid (fun u (hu : u ∈ ys ++ [y]) => (show _ ∧ _ from ⟨(hysf.out u hu).1.keep (fun b hb => hks.out b (by have := hb.1; have := hGB.out; omega)) (hysf.out u hu).2, (hysf.out u hu).2⟩))
          have hlkf := hid (show (ys ++ [y]).length = k + 1 ∧ Ac.likes x.acts (ys ++ [y]) from ⟨by rw [List.length_append, hlk.out.1]; rfl, Ac.likes_snoc hlk.out.2 k hlk.out.1 hkl (by rw [hz.out]; exact hyl.out)⟩)
          have hne5 := hid (show w.heap.size + 1 + 1 ≠ b5 from hb52.out)
          replace K5 := hid (K5.out.other (p := ⟨w.heap.size + 1 + 1, 1, none⟩) hne5.out (.slice vo' (k + 1) vc'))
          clear K0 K1 K2 hk2 bw hB hrow8 hysf hlk hks hyl hne5
          generalize w8.setCell ⟨w.heap.size + 1 + 1, 1, none⟩ (.slice vo' (k + 1) vc') = X9 at K0s K1s K2s hk2s bws hBs hrow9 hysg K5 ⊢
          refine hK.out _ _ (by obtain ⟨s0, s1, s2, s3, -⟩ := four' K5.out; exact ⟨s0, s1, s2, s3⟩) (fun hHeldN => ?_)
          clear hK K hHeld
          have hHeld := hHeldN
          clear hHeldN
          (try simp only [Act.put, List.getElem_toArray, List.getElem_cons_zero, List.getElem_cons_succ, List.setIfInBounds_toArray, List.set_cons_zero, List.set_cons_succ])
          refine wpAnyH_done (by kernel_rfl) ?_ _
          clear hHeld
          go_wp2_with fail
          go_roundw
          case rel => exact ⟨k + 1, ys ++ [y], vo', vc', by omega, by go_num, hlkf, hrow9, hysg, K0s, K1s, K2s, hBs, hk2s, bws⟩
          case measure => simp [intOf]; omega
        · have hki : ¬ (k : Int) < (x.acts.length : Int) := by omega
          obtain rfl : k = x.acts.length := by omega
          have hK := hid (show Blk ((wr.setCell ⟨w.heap.size + 1, 0, none⟩ (.slice to2 x.ts.length tc2)).setCell ⟨w.heap.size + 1, 1, none⟩ (.slice vo x.acts.length vc)) (w.heap.size + 1) [.slice to2 x.ts.length tc2, .slice vo x.acts.length vc] 49 from (K1.out.set 0 (.slice to2 x.ts.length tc2)).set 1 (.slice vo x.acts.length vc))
          have hBw := hid ((bw.out.setCell (p := ⟨w.heap.size + 1, 0, none⟩) (Nat.le_succ _) (.slice to2 x.ts.length tc2)).setCell (p := ⟨w.heap.size + 1, 1, none⟩) (Nat.le_succ _) (.slice vo x.acts.length vc))
          have hkq := hid (show ∀ b, b ≠ w.heap.size + 1 → ((wr.setCell ⟨w.heap.size + 1, 0, none⟩ (.slice to2 x.ts.length tc2)).setCell ⟨w.heap.size + 1, 1, none⟩ (.slice vo x.acts.length vc)).heap[b]? = wr.heap[b]? from fun b h1 => by rw [Below.heap_setCell _ _ _ _ (by simpa using h1), Below.heap_setCell _ _ _ _ (by simpa using h1)])
          have hrdf := hid (show (⟨ts, .slice to2 x.ts.length tc2, ys, .slice vo x.acts.length vc⟩ : Sch).rd ((wr.setCell ⟨w.heap.size + 1, 0, none⟩ (.slice to2 x.ts.length tc2)).setCell ⟨w.heap.size + 1, 1, none⟩ (.slice vo x.acts.length vc)) from by
            refine ⟨⟨?_, fun y hy => ?_⟩, ?_, fun y hy => ?_⟩
            · show SlV _ (.slice to2 x.ts.length tc2) ts.length (Et.enc ts)
              have hl := hfst.out.1
              rw [hl]
              exact sl_stay hfst.out.2.2.1 (fun e => by rw [List.eq_nil_of_length_eq_zero (hl.trans e)]; rfl) hfst.out.2.2.2.1 (fun b hb => (hkq.out b (by have := hb.1; omega)).trans (hk2.out b hb.2 (by have := hb.1; omega)))
            · exact ((hfst.out.2.2.2.2 y hy).1).keep (fun b hb => (hkq.out b (by have := hb.1; omega)).trans (hk2.out b hb.2 (by have := hb.1; omega))) (hfst.out.2.2.2.2 y hy).2
            · show SlV _ (.slice vo x.acts.length vc) ys.length (Ac.enc ys)
              have hl := hlk.out.1
              rw [hl]
              exact sl_stay (SlV.own hown.out) (fun e => by rw [List.eq_nil_of_length_eq_zero (hl.trans e)]; rfl) (own_in hown.out) (fun b hb => hkq.out b (by have := hb.1; have := hGB.out; omega))
            · exact ((hys.out y hy).1).keep (fun b hb => hkq.out b (by have := hb.1; have := hGB.out; omega)) (hys.out y hy).2)
          have hlkf := hid (show x.like (⟨ts, .slice to2 x.ts.length tc2, ys, .slice vo x.acts.length vc⟩ : Sch) from ⟨hfst.out.1.symm, hlk.out.1.symm, hfst.out.2.1, hlk.out.2⟩)
          obtain ⟨c0, c1, cf⟩ := two' K2.out
          obtain ⟨d0, d1, df⟩ := two' K1.out
          clear hown hys hk2 hfst hlk hkq K0 K1 K2 bw h'
          go_wp2_with fail
          obtain ⟨q0, q1, qf⟩ := two' hK.out
          exact bodyPost_ret (v := .agg #[.slice to2 x.ts.length tc2, .slice vo x.acts.length vc]) (by simp [results, Tryz.results20, go_sem, q0, q1]) rfl ⟨⟨_, rfl, hlkf.out, hrdf.out⟩, hBw.out⟩
end Go.Proofs.YtbcjppbiihgfpaaGreatDoor.Tyt
