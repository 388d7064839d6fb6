/-
  lictorref10.copyOf: contract. Written by wip/tycopy2gen.py.
-/
import Derived.Test.YtklclfolmfhocaaGreatDoorTyCopyA
import Derived.Test.YtklclfolmfhocaaGreatDoorTySame
namespace Go.Proofs.YtklclfolmfhocaaGreatDoor.Tyt
open Go.ChangeShapes Go.WideShapes Go.ChangeAt Go.RowKit
open Go.Proofs.YtklclfolmfhocaaGreatDoor.Mem
set_option linter.unusedVariables false
set_option linter.unusedSimpArgs false
set_option maxRecDepth 100000
theorem wpList_app3 {P : Program} {ops : Array Oper} {rest : List Oper} {o : Oper} {a : Act} {w : World} {Q : Exit → Act → World → Prop} (hgd : o.guard = none) (s x : Operand) (t t' : TypeId)
    (ho : o.op = .call { callee := .builtin .append, args := #[s, x], argTypes := #[t, t'] }) (v1 v2 v : Value) (w' : World) (hs : a.eval s = v1) (hx : a.eval x = v2)
    (hrun : (Builtin.append_ #[t, t'] o.type #[v1, v2]).run P w = .ok v w') (h : ∀ W, W = w' → wpList P ops Q rest (a.put o.dst v) W) : wpList P ops Q (o :: rest) a w :=
  wpList_plain hgd fun _ hK => by
    unfold Oper.wp
    simp [execOp, ho, resolve, invoke, builtin, hs, hx, hrun, Result.andThen]
    exact hK _ _ (h _ rfl)
def st4 (W : World) (g : Nat) (a0 a1 a2 a3 : Value) : World := (((W.setCell ⟨g, 0, none⟩ a0).setCell ⟨g, 1, none⟩ a1).setCell ⟨g, 2, none⟩ a2).setCell ⟨g, 3, none⟩ a3
theorem heap_st4 (W : World) (g : Nat) (a0 a1 a2 a3 : Value) {k : Nat} (hk : k ≠ g) : (st4 W g a0 a1 a2 a3).heap[k]? = W.heap[k]? := by
  unfold st4
  repeat rw [Below.heap_setCell _ _ _ _ (by simpa using hk)]
theorem below_st4 {B : Nat} {w W : World} (h : Below B w W) {g : Nat} (hg : B ≤ g) (a0 a1 a2 a3 : Value) : Below B w (st4 W g a0 a1 a2 a3) := by
  unfold st4
  exact (((h.setCell hg _).setCell hg _).setCell hg _).setCell hg _
theorem blk_st4 {W : World} {g : Nat} {b0 b1 b2 b3 : Value} {t : TypeId} (h : Blk W g [b0, b1, b2, b3] t) (a0 a1 a2 a3 : Value) : Blk (st4 W g a0 a1 a2 a3) g [a0, a1, a2, a3] t := (((h.set 0 a0).set 1 a1).set 2 a2).set 3 a3
set_option maxHeartbeats 16000000 in
theorem copyty_step (x : Ty) (ihof : ∀ z ∈ x.of, CopTy z) (ihatt : ∀ z ∈ x.att, CopTy z) (hf : x.fit) : CopTy x := by
  intro w S h hS
  obtain ⟨ft1, ft2, _, _⟩ := Ty.fit_iff.1 hf
  obtain ⟨ic, zc, hi, hz0, hz1, hz2, hz3⟩ := info_type
  obtain ⟨oo, oc, so, sc, e1, e2, l1, l2⟩ := h.forms
  have hcat := hid (fun W (S' : Nat → Prop) (B : Below w.heap.size w W) (hS' : ∀ b, W.heap.size ≤ b → S' b) => copyattrs_step x.an x.att ihatt ft2 W S' x.av ((h.below B).attrs) hS')
  rw [Ty.val_eq e1 e2]
  rw [e2] at hcat
  obtain ⟨n, hn⟩ : ∃ n, x.of.length = n := ⟨_, rfl⟩
  obtain ⟨m, hm⟩ : ∃ m, x.att.length = m := ⟨_, rfl⟩
  rw [hn] at l1 ft1 e1 ⊢
  rw [hm] at hcat ⊢
  have i1 : (n : Int) ≤ 9223372036854775807 := by omega
  have h' := hid h
  have hn' := hid hn
  have hm' := hid hm
  have e1' := hid e1
  have ih' := hid ihof
  have hS' := hid hS
  have bw0 := hid (Below.refl w.heap.size w)
  clear h hn hm ihof ihatt hS l1 l2 e1 e2 ft2 hf
  go_enter Tryz.func97, Tryz.ntmps97
  go_upto_region 1 with fail
  have K1 := hid (Blk.new w [.int .u8 (x.kind : Nat), .string x.name, .slice oo n oc, .slice so m sc] 26)
  have bw1 := hid (bw0.out.alloc (Nat.le_refl _) (.cells #[.int .u8 (x.kind : Nat), .string x.name, .slice oo n oc, .slice so m sc] 26))
  have hs : w.heap.size + 1 = (w.alloc (.cells #[.int .u8 (x.kind : Nat), .string x.name, .slice oo n oc, .slice so m sc] 26)).heap.size := by simp
  generalize w.alloc (.cells #[.int .u8 (x.kind : Nat), .string x.name, .slice oo n oc, .slice so m sc] 26) = X0 at K1 bw1 hs ⊢
  have K2 := hid (Blk.new' X0 [.int .u8 0, .string ⟨#[]⟩, .slice none 0 0, .slice none 0 0] 26 (w.heap.size + 1) hs)
  replace K1 := hid (K1.out.alloc (.cells #[.int .u8 0, .string ⟨#[]⟩, .slice none 0 0, .slice none 0 0] 26))
  have bw := hid (bw1.out.alloc (by omega) (.cells #[.int .u8 0, .string ⟨#[]⟩, .slice none 0 0, .slice none 0 0] 26))
  have hB := hid (show w.heap.size + 2 ≤ (X0.alloc (.cells #[.int .u8 0, .string ⟨#[]⟩, .slice none 0 0, .slice none 0 0] 26)).heap.size by simp; omega)
  clear bw0 bw1 hs
  generalize X0.alloc (.cells #[.int .u8 0, .string ⟨#[]⟩, .slice none 0 0, .slice none 0 0] 26) = X1 at K1 K2 bw hB ⊢
  obtain ⟨c0, c1, c2, c3, cf⟩ := four' K1.out
  go_wp2_with fail
  clear c0 c1 c2 c3 cf
  go_loopw [3, 9] (fun v i wr => ∃ (k : Nat) (ys : List Ty), k ≤ n ∧ i = .int .i64 k ∧ (∃ ao cap, v = .slice ao k cap ∧ Hid (wr.ownsRow (w.heap.size + 2) 26 4 (.slice ao k cap) k (Ty.encL ys)) ∧ Hid (∀ y ∈ ys, y.ok wr ∧ y.inS (fun b => S b ∧ b ≠ w.heap.size ∧ b ≠ w.heap.size + 1 ∧ (Value.slice ao k cap).ownBlock ≠ some b))) ∧ Hid (Ty.likeL (x.of.take k) ys) ∧ Hid (Blk wr w.heap.size [.int .u8 (x.kind : Nat), .string x.name, .slice oo n oc, .slice so m sc] 26) ∧ Hid (Blk wr (w.heap.size + 1) [.int .u8 0, .string ⟨#[]⟩, .slice none 0 0, .slice none 0 0] 26) ∧ Hid (w.heap.size + 2 ≤ wr.heap.size) ∧ Hid (Below w.heap.size w wr)) (fun _ i _ => n - (intOf i).toNat)
  case atStart => exact ⟨0, [], by omega, rfl, ⟨none, 0, rfl, hid (World.ownsRow_nil _ _ _ _), hid (fun y hy => by cases hy)⟩, hid trivial, K1, K2, hB, bw⟩
  case round =>
    clear K1 K2 bw hB
    obtain ⟨k, ys, hk, rfl, ⟨ao, cap, rfl, hown, hys⟩, hlk, K1, K2, hB, bw⟩ := hrel
    rename_i wr _
    by_cases hkn : k < n
    · have hki : (k : Int) < (n : Int) := by omega
      have hka : k < x.of.length := by rw [hn'.out]; exact hkn
      obtain ⟨xb, xo, hxo, f1, f2, f3, f4⟩ := (h'.out.below bw.out).part (oo := oo) (oc := oc) (by rw [e1'.out, hn'.out]) k hka
      subst hxo
      have hzok := hid (h'.out.parts.2.2.2.2.2.2.1 _ (List.getElem_mem hka))
      have hrec := hid (ih'.out _ (List.getElem_mem hka))
      have hst := hid (show x.of.take (k + 1) = x.of.take k ++ [x.of[k]] from List.take_succ_eq_append_getElem hka)
      generalize x.of[k] = z at f1 f2 f3 f4 hzok hrec hst
      obtain ⟨zoo, zoc, zao, zac, e3, e4, _, _⟩ := hzok.out.forms
      rw [e3] at f3
      rw [e4] at f4
      have hzv := hid (Ty.val_eq e3 e4)
      clear e3 e4
      go_upto_region 5 with fail
      have K5 := hid (Blk.new wr [.int .u8 (z.kind : Nat), .string z.name, .slice zoo z.of.length zoc, .slice zao z.att.length zac] 26)
      have hbX := (Below.refl wr.heap.size wr).alloc (Nat.le_refl _) (.cells #[.int .u8 (z.kind : Nat), .string z.name, .slice zoo z.of.length zoc, .slice zao z.att.length zac] 26)
      have hown3 := hid (ownsRow_below hown.out hbX)
      have hys3 := hid (fun y (hy : y ∈ ys) => (show _ ∧ _ from ⟨(hys.out y hy).1.below hbX, (hys.out y hy).2⟩))
      replace K1 := hid (K1.out.below hbX K1.out.lt)
      replace K2 := hid (K2.out.below hbX K2.out.lt)
      replace hB := hid (Nat.le_trans hB.out hbX.size)
      replace bw := hid (bt bw.out hbX)
      clear f1 f2 f3 f4 hown hys hbX
      generalize wr.alloc (.cells #[.int .u8 (z.kind : Nat), .string z.name, .slice zoo z.of.length zoc, .slice zao z.att.length zac] 26) = X5 at K1 K2 K5 hown3 hys3 hB bw ⊢
      generalize wr.heap.size = b5 at K5 ⊢
      have hcl := hid (hrec.out X5 (fun b => S b ∧ b ≠ w.heap.size ∧ b ≠ w.heap.size + 1 ∧ (Value.slice ao k cap).ownBlock ≠ some b) (hzok.out.below bw.out) (fun b hb => ⟨hS'.out b (by have := hB.out; omega), by have := hB.out; omega, by have := hB.out; omega, fun e => by have := (hown3.out.lt b e).2; omega⟩))
      rw [hzv.out] at hcl
      obtain ⟨s0, s1, s2, s3, sf⟩ := four' K5.out
      go_wp2_with fail
      refine hcl.out.mono ?_
      rintro e w6 ⟨⟨y, rfl, hyl, hyok, hyin⟩, b6⟩
      obtain ⟨yoo, yoc, yao, yac, ey1, ey2, yl1, yl2⟩ := hyok.forms
      have hye := hid (Ty.enc_eq ey1 ey2)
      rw [Ty.val_eq ey1 ey2]
      have hown6 := ownsRow_below hown3.out b6
      have hys6 := hid (fun u (hu : u ∈ ys) => (show _ ∧ _ from ⟨(hys3.out u hu).1.below b6, (hys3.out u hu).2⟩))
      replace K1 := hid (K1.out.below b6 K1.out.lt)
      replace K2 := hid (K2.out.below b6 K2.out.lt)
      replace hB := hid (Nat.le_trans hB.out b6.size)
      replace bw := hid (bt bw.out b6)
      clear b6 s0 s1 s2 s3 sf K5 hcl ey1 ey2 hown3 hys3 hzv hrec hzok
      obtain ⟨X7, hX7⟩ : ∃ X, w6.alloc (.cells #[.int .u8 (y.kind : Nat), .string y.name, .slice yoo y.of.length yoc, .slice yao y.att.length yac] 26) = X := ⟨_, rfl⟩
      have hb7 := (Below.refl w6.heap.size w6).alloc (Nat.le_refl _) (.cells #[.int .u8 (y.kind : Nat), .string y.name, .slice yoo y.of.length yoc, .slice yao y.att.length yac] 26)
      have K9 := Blk.new w6 [.int .u8 (y.kind : Nat), .string y.name, .slice yoo y.of.length yoc, .slice yao y.att.length yac] 26
      rw [hX7] at hb7 K9
      have hown7 := ownsRow_below hown6 hb7
      have hys7 := hid (fun u (hu : u ∈ ys ++ [y]) => (show u.ok X7 ∧ u.inS (fun b => (fun b => S b ∧ b ≠ w.heap.size ∧ b ≠ w.heap.size + 1 ∧ (Value.slice ao k cap).ownBlock ≠ some b) b ∧ b < X7.heap.size) from by
        have key : ∀ u : Ty, u.ok w6 → u.inS (fun b => S b ∧ b ≠ w.heap.size ∧ b ≠ w.heap.size + 1 ∧ (Value.slice ao k cap).ownBlock ≠ some b) → (u.ok X7 ∧ u.inS (fun b => (fun b => S b ∧ b ≠ w.heap.size ∧ b ≠ w.heap.size + 1 ∧ (Value.slice ao k cap).ownBlock ≠ some b) b ∧ b < X7.heap.size)) := fun u h1 h2 => ⟨h1.below hb7, Ty.inS_and h2 (h1.below hb7).inS⟩
        rcases List.mem_append.1 hu with hu | hu
        · exact key u (hys6.out u hu).1 (hys6.out u hu).2
        · rw [List.mem_singleton] at hu
          subst hu
          exact key u hyok hyin))
      replace K1 := hid (K1.out.below hb7 K1.out.lt)
      replace K2 := hid (K2.out.below hb7 K2.out.lt)
      replace hB := hid (Nat.le_trans hB.out hb7.size)
      replace bw := hid (bt bw.out hb7)
      obtain ⟨v', w8, hrun, ho, hg, hp⟩ := run_append_place (P := Tryz.prog) X7 (w.heap.size + 2) 23 23 26 ic zc 4 72 Tryz.underlying23 hi hz0 hz1 hz2 hz3 (by decide)
        (.slice ao k cap) k (Ty.encL ys) hown7 ⟨w6.heap.size, 0, none⟩ 1 1 [.int .u8 (y.kind : Nat), .string y.name, .slice yoo y.of.length yoc, .slice yao y.att.length yac] rfl
        (getElem?_cells' (fun j hj => by rw [Mem.add_plain, Nat.zero_add]; exact K9.cell j hj)) (by simp [Value.oneCell']) (by unfold maxLen; omega) (by omega) hB.out
      have hgr := hid hg
      have hb8 := hid (bw.out.grown hg (by have := bw.out.size; omega) (fun k hk => by have := (hown7.lt k hk).1; omega))
      have K1f := hid (show Blk w8 w.heap.size [.int .u8 (x.kind : Nat), .string x.name, .slice (some ⟨xb, xo, none⟩) n oc, .slice so m sc] 26 from ⟨(hg.block w.heap.size (by have := K1.out.lt; omega) (fun e => by have := (hown7.lt _ e.symm).1; omega)).trans K1.out.at'⟩)
      have K2f := hid (show Blk w8 (w.heap.size + 1) [.int .u8 0, .string ⟨#[]⟩, .slice none 0 0, .slice none 0 0] 26 from ⟨(hg.block (w.heap.size + 1) (by have := K2.out.lt; omega) (fun e => by have := (hown7.lt _ e.symm).1; omega)).trans K2.out.at'⟩)
      have hBf := hid (Nat.le_trans hB.out hg.size)
      obtain ⟨ao', cap', hv', _, _⟩ := ownsRow_form ho
      subst hv'
      have hrow8 := hid (show w8.ownsRow (w.heap.size + 2) 26 4 (.slice ao' (k + 1) cap') (k + 1) (Ty.encL (ys ++ [y])) from by
        rw [Ty.encL_snoc, hye.out]
        exact ho)
      have hysf := hid (show ∀ u ∈ ys ++ [y], u.ok w8 ∧ u.inS (fun b => S b ∧ b ≠ w.heap.size ∧ b ≠ w.heap.size + 1 ∧ (Value.slice ao' (k + 1) cap').ownBlock ≠ some b) from fun u hu => by
        obtain ⟨h1, h2⟩ := hys7.out u hu
        refine ⟨h1.keep (fun b hb => hgr.out.block b hb.2 (fun e => hb.1.2.2.2 e.symm)) h2, h2.mono (fun b hb => ⟨hb.1.1, hb.1.2.1, hb.1.2.2.1, fun e => ?_⟩)⟩
        rcases hp with hp | ⟨g2, hp, hge⟩
        · exact hb.1.2.2.2 (hp.symm.trans e)
        · have h3 : g2 = b := Option.some.inj (hp.symm.trans e)
          have := hb.2
          omega)
      have hlkf := hid (show Ty.likeL (x.of.take (k + 1)) (ys ++ [y]) by rw [hst.out]; exact Ty.likeL_snoc hlk.out hyl)
      replace hrun := hid hrun
      clear hg hp ho hown7 hys7 hown6 hys6 K9 hb7 K1 K2 bw hgr hyok hyin hyl hst hlk hye hB
      go_wp2_with (at_builtin; refine wpList_app3 rfl (.tmp 13) (.tmp 16) _ _ rfl _ _ _ _ rfl rfl hrun.out ?_)
      go_roundw
      case rel => exact ⟨k + 1, ys ++ [y], by omega, by go_num, ⟨ao', cap', rfl, hrow8, hysf⟩, hlkf, K1f, K2f, hBf, hb8⟩
      case measure => simp [intOf]; omega
    · have hki : ¬ (k : Int) < (n : Int) := by omega
      obtain rfl : k = n := by omega
      have hlk2 := hid (show Ty.likeL x.of ys by have := hlk.out; rwa [List.take_of_length_le (by rw [hn'.out]; exact Nat.le_refl _)] at this)
      have hlen := hid (show ys.length = k by have := Ty.likeL_length hlk2.out; rw [hn'.out] at this; exact this.symm)
      obtain ⟨c0, c1, c2, c3, cf⟩ := four' K1.out
      go_upto_region 8 with fail
      clear c0 c1 c2 c3 cf
      have K1s := hid (show Blk (wr.setCell ⟨w.heap.size, 2, none⟩ (.slice ao k cap)) w.heap.size [.int .u8 (x.kind : Nat), .string x.name, .slice ao k cap, .slice so m sc] 26 from K1.out.set 2 (.slice ao k cap))
      have K2s := hid (K2.out.other (p := ⟨w.heap.size, 2, none⟩) (by show w.heap.size ≠ w.heap.size + 1; omega) (.slice ao k cap))
      have bws := hid (bw.out.setCell (p := ⟨w.heap.size, 2, none⟩) (Nat.le_refl _) (.slice ao k cap))
      have hkp1 := hid (show ∀ b, b ≠ w.heap.size → (wr.setCell ⟨w.heap.size, 2, none⟩ (.slice ao k cap)).heap[b]? = wr.heap[b]? from fun b hb => Below.heap_setCell _ _ _ _ hb)
      have hsz1 := hid (show (wr.setCell ⟨w.heap.size, 2, none⟩ (.slice ao k cap)).heap.size = wr.heap.size by simp)
      clear K1 K2 bw
      generalize wr.setCell ⟨w.heap.size, 2, none⟩ (.slice ao k cap) = W9 at K1s K2s bws hkp1 hsz1 ⊢
      have cA := hid (hcat.out W9 (fun b => S b ∧ b ≠ w.heap.size ∧ b ≠ w.heap.size + 1) bws.out (fun b hb => ⟨hS'.out b (by have := bws.out.size; omega), by have := hB.out; have := hsz1.out; omega, by have := hB.out; have := hsz1.out; omega⟩))
      obtain ⟨c0, c1, c2, c3, cf⟩ := four' K1s.out
      go_wp2_with fail
      refine cA.out.mono ?_
      rintro e w10 ⟨⟨att', bv, rfl, hal, hav, hain, hak⟩, b10⟩
      have hm2 : att'.length = m := by have := Ty.likeL_length hal; rw [hm'.out] at this; exact this.symm
      obtain ⟨bo, bc, rfl, _⟩ := hav.form
      rw [hm2] at hav hain ⊢
      replace K1s := hid (K1s.out.below b10 K1s.out.lt)
      replace K2s := hid (K2s.out.below b10 K2s.out.lt)
      have hkp2 := hid (show ∀ b, b ≠ w.heap.size → b < wr.heap.size → w10.heap[b]? = wr.heap[b]? from fun b hb hl => (b10.block b (by have := hsz1.out; omega)).trans (hkp1.out b hb))
      replace bws := hid (bt bws.out b10)
      have hm2' := hid hm2
      replace hal := hid hal
      replace hav := hid hav
      replace hain := hid hain
      replace hak := hid hak
      clear c0 c1 c2 c3 cf cA b10 hkp1 hsz1 hm2
      obtain ⟨c0, c1, c2, c3, cf⟩ := four' K1s.out
      go_upto_region 9 with fail
      clear c0 c1 c2 c3 cf
      have K1t := hid (show Blk (w10.setCell ⟨w.heap.size, 3, none⟩ (.slice bo m bc)) w.heap.size [.int .u8 (x.kind : Nat), .string x.name, .slice ao k cap, .slice bo m bc] 26 from K1s.out.set 3 (.slice bo m bc))
      have K2t := hid (K2s.out.other (p := ⟨w.heap.size, 3, none⟩) (by show w.heap.size ≠ w.heap.size + 1; omega) (.slice bo m bc))
      have bwt := hid (bws.out.setCell (p := ⟨w.heap.size, 3, none⟩) (Nat.le_refl _) (.slice bo m bc))
      have hkp3 := hid (show ∀ b, b ≠ w.heap.size → (w10.setCell ⟨w.heap.size, 3, none⟩ (.slice bo m bc)).heap[b]? = w10.heap[b]? from fun b hb => Below.heap_setCell _ _ _ _ hb)
      clear K1s K2s bws
      generalize w10.setCell ⟨w.heap.size, 3, none⟩ (.slice bo m bc) = W11 at K1t K2t bwt hkp3 ⊢
      have hK := hid (blk_st4 K2t.out (.int .u8 (x.kind : Nat)) (.string x.name) (.slice ao k cap) (.slice bo m bc))
      have hBw := hid (below_st4 bwt.out (g := w.heap.size + 1) (Nat.le_succ _) (.int .u8 (x.kind : Nat)) (.string x.name) (.slice ao k cap) (.slice bo m bc))
      have hkp4 := hid (fun b (hb : b ≠ w.heap.size + 1) => heap_st4 W11 (w.heap.size + 1) (.int .u8 (x.kind : Nat)) (.string x.name) (.slice ao k cap) (.slice bo m bc) hb)
      have hka := hid (show ∀ b, b ≠ w.heap.size → b ≠ w.heap.size + 1 → (st4 W11 (w.heap.size + 1) (.int .u8 (x.kind : Nat)) (.string x.name) (.slice ao k cap) (.slice bo m bc)).heap[b]? = w10.heap[b]? from fun b h1 h2 => (hkp4.out b h2).trans (hkp3.out b h1))
      have hkb := hid (show ∀ b, b ≠ w.heap.size → b ≠ w.heap.size + 1 → b < wr.heap.size → (st4 W11 (w.heap.size + 1) (.int .u8 (x.kind : Nat)) (.string x.name) (.slice ao k cap) (.slice bo m bc)).heap[b]? = wr.heap[b]? from fun b h1 h2 h3 => (hka.out b h1 h2).trans (hkp2.out b h1 h3))
      have hlk3 := hid (show x.like (Ty.mk x.kind x.name ys (.slice ao k cap) x.an att' (.slice bo m bc)) from Ty.like_iff.2 ⟨rfl, rfl, rfl, hlk2.out, hal.out⟩)
      have hokf := hid (show (Ty.mk x.kind x.name ys (.slice ao k cap) x.an att' (.slice bo m bc)).ok (st4 W11 (w.heap.size + 1) (.int .u8 (x.kind : Nat)) (.string x.name) (.slice ao k cap) (.slice bo m bc)) from by
        obtain ⟨p1, p2, p3, p4, _⟩ := h'.out.parts
        refine Ty.ok.mk' ⟨p1, p2, p3, by show x.an.length = att'.length; rw [p4, hm2'.out, hm'.out], ?_, ?_, fun u hu => ?_, fun u hu => ?_⟩
        · show SlV _ (.slice ao k cap) ys.length (Ty.encL ys)
          rw [hlen.out]
          exact sl_stay (SlV.own hown.out) (fun e => Ty.encL_nil _ (hlen.out.trans e)) (own_in hown.out) (fun b hb => hkb.out b (by have := hb.1; omega) (by have := hb.1; omega) hb.2)
        · show SlV _ (.slice bo m bc) att'.length (Ty.encA x.an att')
          have hv := hav.out.2.1
          rw [hm2'.out] at hv ⊢
          exact sl_stay hv (fun e => Ty.encA_nil _ _ (hm2'.out.trans e)) hain.out (fun b hb => hka.out b hb.2.1 hb.2.2)
        · obtain ⟨q1, q2⟩ := hys.out u hu
          exact q1.keep (fun b hb => hkb.out b hb.1.2.1 hb.1.2.2.1 hb.2) (Ty.inS_and q2 q1.inS)
        · exact (hav.out.2.2.1 u hu).keep (fun b hb => hka.out b hb.2.1 hb.2.2) (hak.out u hu))
      have hinf := hid (show (Ty.mk x.kind x.name ys (.slice ao k cap) x.an att' (.slice bo m bc)).inS S from Ty.inS_iff.2 ⟨by
        show SlIn S (.slice ao k cap) ys.length
        rw [hlen.out]
        exact sl_sub (own_in hown.out) (fun b hb => hS'.out b (by have := hb.1; omega)), by
        show SlIn S (.slice bo m bc) att'.length
        rw [hm2'.out]
        exact sl_sub hain.out (fun b hb => hb.1), fun u hu => (hys.out u hu).2.mono (fun b hb => hb.1), fun u hu => (hak.out u hu).mono (fun b hb => hb.1)⟩)
      obtain ⟨c0, c1, c2, c3, cf⟩ := four' K1t.out
      obtain ⟨d0, d1, d2, d3, df⟩ := four' K2t.out
      have hval := hid (show (Ty.mk x.kind x.name ys (.slice ao k cap) x.an att' (.slice bo m bc)).val = .agg #[.int .u8 (x.kind : Nat), .string x.name, .slice ao k cap, .slice bo m bc] from rfl)
      clear hown hys hlk hlk2 hav hain hak hal hka hkb hkp2 hkp3 hkp4 bwt h' ih'
      go_wp2_with fail
      obtain ⟨q0, q1, q2, q3, qf⟩ := four' hK.out
      exact bodyPost_ret (v := .agg #[.int .u8 (x.kind : Nat), .string x.name, .slice ao k cap, .slice bo m bc]) (by unfold st4 at q0 q1 q2 q3; simp [results, Tryz.results97, go_sem, q0, q1, q2, q3]) rfl ⟨⟨_, by rw [hval.out], hlk3.out, hokf.out, hinf.out⟩, hBw.out⟩
theorem copyty_any : ∀ (x : Ty), x.fit → CopTy x := by
  suffices g : ∀ n (x : Ty), x.size ≤ n → x.fit → CopTy x from fun x => g x.size x (Nat.le_refl _)
  intro n
  induction n with
  | zero => intro x hx; have := x.size_pos; omega
  | succ n ih =>
    intro x hx hf
    obtain ⟨_, _, f1, f2⟩ := Ty.fit_iff.1 hf
    exact copyty_step x (fun z hz => ih z (by have := Ty.size_of hz; omega) (f1 z hz)) (fun z hz => ih z (by have := Ty.size_att hz; omega) (f2 z hz)) hf
end Go.Proofs.YtklclfolmfhocaaGreatDoor.Tyt
