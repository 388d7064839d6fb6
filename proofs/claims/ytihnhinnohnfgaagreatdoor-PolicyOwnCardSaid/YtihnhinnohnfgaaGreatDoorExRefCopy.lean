/-
  lictorref08.Copy of an expression: contract. Written by wip/exrefcopygen.py.
-/
import Derived.Test.YtihnhinnohnfgaaGreatDoorPolBody3
import Derived.Test.YtihnhinnohnfgaaGreatDoorRowApp
namespace Go.Proofs.YtihnhinnohnfgaaGreatDoor.Pol
open Go.ChangeShapes Go.WideShapes Go.ChangeAt Go.RowKit
open Go.Proofs.YtihnhinnohnfgaaGreatDoor.Mem
open Go.Proofs.YtihnhinnohnfgaaGreatDoor.Ex (T)
set_option linter.unusedVariables false
set_option linter.unusedSimpArgs false
set_option maxRecDepth 100000
theorem info_str : ∃ i z, Tryz.prog.info? 9 = some i ∧ i.zero = some z ∧ i.size = 1 ∧ i.bytes = 16 ∧ z.cells.size = 1 := ⟨_, _, rfl, rfl, rfl, rfl, rfl⟩
def RCop (x : T) : Prop := ∀ (w : World) (S : Nat → Prop), x.ok w → (∀ b, w.heap.size ≤ b → S b) → Calls Tryz.prog 39 #[x.val] w fun e w' => Built S x e w' ∧ Below w.heap.size w w'
set_option maxHeartbeats 8000000 in
theorem rcopy_step (x : T) (ih : ∀ z ∈ x.list, RCop z) : RCop x := by
  intro w S h hS
  obtain ⟨no, nc, lo, lc, e1, e2, l1, l2⟩ := h.forms
  rw [Ex.T.val_eq e1 e2]
  have hnames := hid (fun W (B : Below w.heap.size w W) => (show StrsV W (.slice no x.names.length nc) x.names from e1 ▸ (h.below B).parts.2.2.2.2.2.1))
  have hnl : x.names.length * 16 ≤ 140737488355328 := h.parts.1.2.1
  have hll : x.list.length * 96 ≤ 140737488355328 := h.parts.1.2.2
  have h' := hid h
  have ih' := hid ih
  have e2' := hid e2
  have hone := hid (show ∀ u ∈ strC x.names, u.oneCell' = true from fun u hu => by simp [strC] at hu; obtain ⟨a, _, rfl⟩ := hu; rfl)
  obtain ⟨is, zs, si, sz0, sz1, sz2, sz3⟩ := info_str
  obtain ⟨ie, hi, hz0, hz1, hz2⟩ := Ex.info_parts' Ex.info_expr
  obtain ⟨n, hn⟩ : ∃ n, x.list.length = n := ⟨_, rfl⟩
  rw [hn] at l2 hll ⊢
  rw [hn] at e2'
  replace hn := hid hn
  have i2 : (n : Int) ≤ 9223372036854775807 := by omega
  clear h ih e1 e2
  go_enter Tryz.func39, Tryz.ntmps39
  go_upto_region 1 with fail
  have K1 := hid (Blk.new w [.int .u8 (x.kind : Nat), .int .i64 x.num, .string x.str, .string x.typ, .slice no x.names.length nc, .slice lo n lc] 26)
  have bw := hid ((Below.refl w.heap.size w).alloc (Nat.le_refl _) (.cells #[.int .u8 (x.kind : Nat), .int .i64 x.num, .string x.str, .string x.typ, .slice no x.names.length nc, .slice lo n lc] 26))
  have hs : w.heap.size + 1 = (w.alloc (.cells #[.int .u8 (x.kind : Nat), .int .i64 x.num, .string x.str, .string x.typ, .slice no x.names.length nc, .slice lo n lc] 26)).heap.size := by simp
  generalize w.alloc (.cells #[.int .u8 (x.kind : Nat), .int .i64 x.num, .string x.str, .string x.typ, .slice no x.names.length nc, .slice lo n lc] 26) = X0 at K1 bw hs ⊢
  have K2 := hid (Blk.new' X0 [.int .u8 0, .int .i64 0, .string ⟨#[]⟩, .string ⟨#[]⟩, .slice none 0 0, .slice none 0 0] 26 (w.heap.size + 1) hs)
  replace K1 := hid (K1.out.alloc (.cells #[.int .u8 0, .int .i64 0, .string ⟨#[]⟩, .string ⟨#[]⟩, .slice none 0 0, .slice none 0 0] 26))
  replace bw := hid (bw.out.alloc (by omega) (.cells #[.int .u8 0, .int .i64 0, .string ⟨#[]⟩, .string ⟨#[]⟩, .slice none 0 0, .slice none 0 0] 26))
  have hs2 := hid (show w.heap.size + 2 = (X0.alloc (.cells #[.int .u8 0, .int .i64 0, .string ⟨#[]⟩, .string ⟨#[]⟩, .slice none 0 0, .slice none 0 0] 26)).heap.size by simp; omega)
  clear hs
  generalize X0.alloc (.cells #[.int .u8 0, .int .i64 0, .string ⟨#[]⟩, .string ⟨#[]⟩, .slice none 0 0, .slice none 0 0] 26) = X1 at K1 K2 bw hs2 ⊢
  obtain ⟨X2, hX2⟩ : ∃ X, X1.alloc (.cells #[] 9) = X := ⟨_, rfl⟩
  have hb2 := (Below.refl X1.heap.size X1).alloc (Nat.le_refl _) (.cells #[] 9)
  have hr0 := World.ownsRow_made (base := w.heap.size + 2) (e := 9) (size := 1) X1 #[] 0 (by have := hs2.out; omega) (by decide) rfl
  rw [hX2] at hb2 hr0
  replace K1 := hid (K1.out.below hb2 K1.out.lt)
  replace K2 := hid (K2.out.below hb2 K2.out.lt)
  replace bw := hid (bt bw.out hb2)
  obtain ⟨v1, X3, hrun, ho, hg, _⟩ := app_own (P := Tryz.prog) X2 (w.heap.size + 2) 23 23 9 is zs 1 16 Tryz.underlying23 si sz0 sz1 sz2 sz3 (by decide) (.slice (some ⟨X1.heap.size, 0, none⟩) 0 0) 0 [] hr0 (.slice no x.names.length nc) x.names.length (strC x.names) (hnames.out _ bw.out) (by rw [strC_len]; omega) hone.out (by unfold maxLen; omega) (by omega) (by have := K2.out.lt; omega)
  have K1a := hid (show Blk X3 w.heap.size [.int .u8 (x.kind : Nat), .int .i64 x.num, .string x.str, .string x.typ, .slice no x.names.length nc, .slice lo n lc] 26 from ⟨(hg.block _ K1.out.lt (fun e => by have := (hr0.lt _ e.symm).1; omega)).trans K1.out.at'⟩)
  have K2a := hid (show Blk X3 (w.heap.size + 1) [.int .u8 0, .int .i64 0, .string ⟨#[]⟩, .string ⟨#[]⟩, .slice none 0 0, .slice none 0 0] 26 from ⟨(hg.block _ K2.out.lt (fun e => by have := (hr0.lt _ e.symm).1; omega)).trans K2.out.at'⟩)
  have bwa := hid (bw.out.grown hg (by have := bw.out.size; omega) (fun k hk => by have := (hr0.lt k hk).1; omega))
  obtain ⟨so, sc, rfl, _, _⟩ := ownsRow_form ho
  rw [Nat.zero_add, List.nil_append] at ho
  rw [Nat.zero_add] at hrun
  have hnv := hid (SlV.own ho)
  have hnin := hid (own_in ho)
  replace hrun := hid hrun
  obtain ⟨c0, c1, c2, c3, c4, c5, cf⟩ := Ex.six K1.out
  obtain ⟨a0, a1, a2, a3, a4, a5, af⟩ := Ex.six K1a.out
  clear hb2 hr0 ho hg K1 K2 bw hs2
  go_upto_region 2 with (at_builtin; refine wpList_app2 rfl (.tmp 6) (.tmp 8) _ _ rfl _ _ _ _ rfl rfl hrun.out ?_)
  clear c0 c1 c2 c3 c4 c5 cf a0 a1 a2 a3 a4 a5 af hrun hX2
  have K1 := hid (show Blk (X3.setCell ⟨w.heap.size, 4, none⟩ (.slice so x.names.length sc)) w.heap.size [.int .u8 (x.kind : Nat), .int .i64 x.num, .string x.str, .string x.typ, .slice so x.names.length sc, .slice lo n lc] 26 from K1a.out.set 4 (.slice so x.names.length sc))
  have K2 := hid (K2a.out.other (p := ⟨w.heap.size, 4, none⟩) (by show w.heap.size ≠ w.heap.size + 1; omega) (.slice so x.names.length sc))
  have bw := hid (bwa.out.setCell (p := ⟨w.heap.size, 4, none⟩) (Nat.le_refl _) (.slice so x.names.length sc))
  have hsz := hid (show (X3.setCell ⟨w.heap.size, 4, none⟩ (.slice so x.names.length sc)).heap.size = X3.heap.size by simp)
  have hnv2 := hid (sl_stay (w' := X3.setCell ⟨w.heap.size, 4, none⟩ (.slice so x.names.length sc)) hnv.out (fun e => by rw [List.eq_nil_of_length_eq_zero e]; rfl) hnin.out (fun k hk => Below.heap_setCell _ _ _ _ (by have := hk.1; show k ≠ w.heap.size; omega)))
  have hge := hid (show w.heap.size + 2 ≤ X3.heap.size by have := K2a.out.lt; omega)
  clear K1a K2a bwa hnv
  obtain ⟨BB, hBB⟩ : ∃ B, X3.heap.size = B := ⟨_, rfl⟩
  rw [hBB] at hnin hsz hge
  clear hBB
  generalize X3.setCell ⟨w.heap.size, 4, none⟩ (.slice so x.names.length sc) = X4 at K1 K2 bw hsz hnv2 ⊢
  obtain ⟨c0, c1, c2, c3, c4, c5, cf⟩ := Ex.six K1.out
  go_wp2_with fail
  clear c0 c1 c2 c3 c4 c5 cf
  go_loopw [3, 14] (fun av i wr => ∃ (k : Nat) (ys : List T), k ≤ n ∧ i = .int .i64 k ∧ (∃ ao cap, av = .slice ao k cap ∧ Hid (wr.ownsRow BB 26 6 (.slice ao k cap) k (T.encL ys)) ∧ Hid (∀ y ∈ ys, y.ok wr ∧ y.inS (fun b => S b ∧ b ≠ w.heap.size ∧ b ≠ w.heap.size + 1 ∧ (Value.slice ao k cap).ownBlock ≠ some b))) ∧ Hid (T.likeL (x.list.take k) ys) ∧ Hid (SlV wr (.slice so x.names.length sc) x.names.length (strC x.names)) ∧ Hid (Blk wr w.heap.size [.int .u8 (x.kind : Nat), .int .i64 x.num, .string x.str, .string x.typ, .slice so x.names.length sc, .slice lo n lc] 26) ∧ Hid (Blk wr (w.heap.size + 1) [.int .u8 0, .int .i64 0, .string ⟨#[]⟩, .string ⟨#[]⟩, .slice none 0 0, .slice none 0 0] 26) ∧ Hid (BB ≤ wr.heap.size) ∧ Hid (Below w.heap.size w wr)) (fun _ i _ => n - (intOf i).toNat)
  case atStart => exact ⟨0, [], by omega, rfl, ⟨none, 0, rfl, hid (World.ownsRow_nil _ _ _ _), hid (fun y hy => by cases hy)⟩, hid trivial, hnv2, K1, K2, hid (by have := hsz.out; omega), bw⟩
  case round =>
    clear K1 K2 bw hnv2 hsz
    obtain ⟨k, ys, hk, rfl, ⟨ao, cap, rfl, hown, hys⟩, hlk, hnv, K1, K2, hB, bw⟩ := hrel
    rename_i wr _
    by_cases hkn : k < n
    · have hki : (k : Int) < (n : Int) := by omega
      have hkl : k < x.list.length := by have := hn.out; omega
      obtain ⟨xb, xo, hxo, z0, z1, z2, z3, z4, z5⟩ := (h'.out.below bw.out).part6 (lo := lo) (lc := lc) (by rw [e2'.out, hn.out]) k hkl
      subst hxo
      obtain ⟨z, hz⟩ : ∃ z, x.list[k] = z := ⟨_, rfl⟩
      have hst := hid (show x.list.take (k + 1) = x.list.take k ++ [z] by rw [List.take_succ_eq_append_getElem hkl, hz])
      have hzok := hid (show z.ok w from hz ▸ h'.out.parts.2.2.2.2.2.2.2 _ (List.getElem_mem hkl))
      have hrec := hid (show RCop z from hz ▸ ih'.out _ (List.getElem_mem hkl))
      rw [hz] at z0 z1 z2 z3 z4 z5
      obtain ⟨zno, znc, zlo, zlc, ez1, ez2, zl1, zl2⟩ := hzok.out.forms
      rw [ez1] at z4
      rw [ez2] at z5
      have hzv := hid (Ex.T.val_eq ez1 ez2)
      clear ez1 ez2 hz hkl
      go_upto_region 6 with fail
      have K5 := hid (Blk.new wr [.int .u8 (z.kind : Nat), .int .i64 z.num, .string z.str, .string z.typ, .slice zno z.names.length znc, .slice zlo z.list.length zlc] 26)
      have hbX := (Below.refl wr.heap.size wr).alloc (Nat.le_refl _) (.cells #[.int .u8 (z.kind : Nat), .int .i64 z.num, .string z.str, .string z.typ, .slice zno z.names.length znc, .slice zlo z.list.length zlc] 26)
      replace K1 := hid (K1.out.below hbX K1.out.lt)
      replace K2 := hid (K2.out.below hbX K2.out.lt)
      have hown3 := hid (ownsRow_below hown.out hbX)
      have hys3 := hid (fun y (hy : y ∈ ys) => (show _ ∧ _ from ⟨(hys.out y hy).1.below hbX, (hys.out y hy).2⟩))
      replace hnv := hid (SlV.below hnv.out hbX)
      replace hB := hid (Nat.le_trans hB.out hbX.size)
      replace bw := hid (bt bw.out hbX)
      clear z0 z1 z2 z3 z4 z5 hown hys hbX
      generalize wr.alloc (.cells #[.int .u8 (z.kind : Nat), .int .i64 z.num, .string z.str, .string z.typ, .slice zno z.names.length znc, .slice zlo z.list.length zlc] 26) = X5 at K1 K2 K5 hown3 hys3 hnv hB bw ⊢
      generalize wr.heap.size = b5 at K5 ⊢
      have hcl := hid (hrec.out X5 (fun b => S b ∧ b ≠ w.heap.size ∧ b ≠ w.heap.size + 1 ∧ (Value.slice ao k cap).ownBlock ≠ some b) (hzok.out.below bw.out) (fun b hb => ⟨hS b (by have := bw.out.size; omega), by have := K2.out.lt; omega, by have := K2.out.lt; omega, fun e => by have := (hown3.out.lt b e).2; omega⟩))
      rw [hzv.out] at hcl
      obtain ⟨f0, f1, f2, f3, f4, f5, ff⟩ := Ex.six K5.out
      go_wp2_with fail
      refine hcl.out.mono ?_
      rintro e w6 ⟨⟨y, rfl, hyl, hyok, hyin⟩, b6⟩
      obtain ⟨yno, ync, ylo, ylc, ey1, ey2, yl1, yl2⟩ := hyok.forms
      have hye := enc_eq ey1 ey2
      rw [Ex.T.val_eq ey1 ey2]
      have hown6 := ownsRow_below hown3.out b6
      have hys6 := hid (fun u (hu : u ∈ ys) => (show _ ∧ _ from ⟨(hys3.out u hu).1.below b6, (hys3.out u hu).2⟩))
      replace K1 := hid (K1.out.below b6 K1.out.lt)
      replace K2 := hid (K2.out.below b6 K2.out.lt)
      replace hnv := hid (SlV.below hnv.out b6)
      replace hB := hid (Nat.le_trans hB.out b6.size)
      replace bw := hid (bt bw.out b6)
      clear b6 f0 f1 f2 f3 f4 f5 ff K5 hcl ey1 ey2 hown3 hys3 hzv hrec hzok
      obtain ⟨X7, hX7⟩ : ∃ X, w6.alloc (.cells #[.int .u8 (y.kind : Nat), .int .i64 y.num, .string y.str, .string y.typ, .slice yno y.names.length ync, .slice ylo y.list.length ylc] 26) = X := ⟨_, rfl⟩
      have hb7 := (Below.refl w6.heap.size w6).alloc (Nat.le_refl _) (.cells #[.int .u8 (y.kind : Nat), .int .i64 y.num, .string y.str, .string y.typ, .slice yno y.names.length ync, .slice ylo y.list.length ylc] 26)
      have K9 := Blk.new w6 [.int .u8 (y.kind : Nat), .int .i64 y.num, .string y.str, .string y.typ, .slice yno y.names.length ync, .slice ylo y.list.length ylc] 26
      rw [hX7] at hb7 K9
      have hown7 := ownsRow_below hown6 hb7
      have hys7 := hid (fun u (hu : u ∈ ys ++ [y]) => (show u.ok X7 ∧ u.inS (fun b => (fun b => S b ∧ b ≠ w.heap.size ∧ b ≠ w.heap.size + 1 ∧ (Value.slice ao k cap).ownBlock ≠ some b) b ∧ b < X7.heap.size) from by
        have key : ∀ u : T, u.ok w6 → u.inS (fun b => S b ∧ b ≠ w.heap.size ∧ b ≠ w.heap.size + 1 ∧ (Value.slice ao k cap).ownBlock ≠ some b) → _ := fun u h1 h2 => (show u.ok X7 ∧ u.inS (fun b => (fun b => S b ∧ b ≠ w.heap.size ∧ b ≠ w.heap.size + 1 ∧ (Value.slice ao k cap).ownBlock ≠ some b) b ∧ b < X7.heap.size) from ⟨h1.below hb7, inS_and h2 (h1.below hb7).inS⟩)
        rcases List.mem_append.1 hu with hu | hu
        · exact key u (hys6.out u hu).1 (hys6.out u hu).2
        · rw [List.mem_singleton] at hu
          subst hu
          exact key u hyok hyin))
      replace K1 := hid (K1.out.below hb7 K1.out.lt)
      replace K2 := hid (K2.out.below hb7 K2.out.lt)
      replace hnv := hid (SlV.below hnv.out hb7)
      replace hB := hid (Nat.le_trans hB.out hb7.size)
      replace bw := hid (bt bw.out hb7)
      obtain ⟨v', w8, hrun, ho, hg, hp⟩ := run_append_place (P := Tryz.prog) X7 BB 24 24 26 ie (.agg #[.int .u8 0, .int .i64 0, .string ⟨#[]⟩, .string ⟨#[]⟩, .slice none 0 0, .slice none 0 0]) 6 96 Tryz.underlying24 hi hz0 hz1 hz2 rfl (by decide)
        (.slice ao k cap) k (T.encL ys) hown7 ⟨w6.heap.size, 0, none⟩ 1 1 [.int .u8 (y.kind : Nat), .int .i64 y.num, .string y.str, .string y.typ, .slice yno y.names.length ync, .slice ylo y.list.length ylc] rfl
        (getElem?_cells' (fun j hj => by rw [Mem.add_plain, Nat.zero_add]; exact K9.cell j hj)) (by simp [Value.oneCell']) (by unfold maxLen; omega) (by omega) hB.out
      have hgr := hid hg
      have hb8 := hid (bw.out.grown hg (by have := bw.out.size; omega) (fun k hk => by have := (hown7.lt k hk).1; have := hge.out; omega))
      have K1f := hid (show Blk w8 w.heap.size [.int .u8 (x.kind : Nat), .int .i64 x.num, .string x.str, .string x.typ, .slice so x.names.length sc, .slice (some ⟨xb, xo, none⟩) n lc] 26 from ⟨(hg.block w.heap.size (by have := K1.out.lt; omega) (fun e => by have := (hown7.lt _ e.symm).1; have := hge.out; omega)).trans K1.out.at'⟩)
      have K2f := hid (show Blk w8 (w.heap.size + 1) [.int .u8 0, .int .i64 0, .string ⟨#[]⟩, .string ⟨#[]⟩, .slice none 0 0, .slice none 0 0] 26 from ⟨(hg.block (w.heap.size + 1) (by have := K2.out.lt; omega) (fun e => by have := (hown7.lt _ e.symm).1; have := hge.out; omega)).trans K2.out.at'⟩)
      have hnvf := hid (sl_stay (w' := w8) hnv.out (fun e => by rw [List.eq_nil_of_length_eq_zero e]; rfl) hnin.out (fun b hb => hgr.out.block b (by have := hb.2; have := hB.out; omega) (fun e => by have := (hown7.lt _ e.symm).1; have := hb.2; omega)))
      have hBf := hid (Nat.le_trans hB.out hg.size)
      obtain ⟨ao', cap', hv', _, _⟩ := ownsRow_form ho
      subst hv'
      have hrow8 := hid (show w8.ownsRow BB 26 6 (.slice ao' (k + 1) cap') (k + 1) (T.encL (ys ++ [y])) from by
        rw [Ex.encL_append, show T.encL [y] = y.enc from by simp [T.encL], hye]
        exact ho)
      have hysf := hid (show ∀ u ∈ ys ++ [y], u.ok w8 ∧ u.inS (fun b => S b ∧ b ≠ w.heap.size ∧ b ≠ w.heap.size + 1 ∧ (Value.slice ao' (k + 1) cap').ownBlock ≠ some b) from fun u hu => by
        obtain ⟨h1, h2⟩ := hys7.out u hu
        refine ⟨h1.keep (fun b hb => hgr.out.block b hb.2 (fun e => hb.1.2.2.2 e.symm)) h2, h2.mono (fun b hb => ⟨hb.1.1, hb.1.2.1, hb.1.2.2.1, fun e => ?_⟩)⟩
        rcases hp with hp | ⟨g2, hp, hge⟩
        · exact hb.1.2.2.2 (hp.symm.trans e)
        · have h3 : g2 = b := Option.some.inj (hp.symm.trans e)
          have := hb.2
          omega)
      have hlkf := hid (show T.likeL (x.list.take (k + 1)) (ys ++ [y]) by rw [hst.out]; exact like_snoc hlk.out hyl)
      replace hrun := hid hrun
      clear hg hp ho hown7 hys7 hown6 hys6 K9 hb7 K1 K2 bw hgr hyok hyin hyl hst hlk hye hnv hB
      go_wp2_with (at_builtin; refine wpList_app2 rfl (.tmp 18) (.tmp 21) _ _ rfl _ _ _ _ rfl rfl hrun.out ?_)
      go_roundw
      case rel => exact ⟨k + 1, ys ++ [y], by omega, by go_num, ⟨ao', cap', rfl, hrow8, hysf⟩, hlkf, hnvf, K1f, K2f, hBf, hb8⟩
      case measure => simp [intOf]; omega
    · have hki : ¬ (k : Int) < (n : Int) := by omega
      obtain rfl : k = n := by omega
      have hlen := hid (show ys.length = k by
        have := T.likeL_length hlk.out
        rw [List.length_take] at this
        have := hn.out
        omega)
      have hlk2 := hid (show T.likeL x.list ys by have := hlk.out; rwa [List.take_of_length_le (by have := hn.out; omega)] at this)
      have K1s := hid (show Blk (wr.setCell ⟨w.heap.size, 5, none⟩ (.slice ao k cap)) w.heap.size [.int .u8 (x.kind : Nat), .int .i64 x.num, .string x.str, .string x.typ, .slice so x.names.length sc, .slice ao k cap] 26 from K1.out.set 5 (.slice ao k cap))
      have K2s := hid (K2.out.other (p := ⟨w.heap.size, 5, none⟩) (by show w.heap.size ≠ w.heap.size + 1; omega) (.slice ao k cap))
      have bws := hid (bw.out.setCell (p := ⟨w.heap.size, 5, none⟩) (Nat.le_refl _) (.slice ao k cap))
      have hkeep := hid (show ∀ b, b ≠ w.heap.size → b ≠ w.heap.size + 1 → (Ex.st6 (wr.setCell ⟨w.heap.size, 5, none⟩ (.slice ao k cap)) (w.heap.size + 1) 0 (.int .u8 (x.kind : Nat)) (.int .i64 x.num) (.string x.str) (.string x.typ) (.slice so x.names.length sc) (.slice ao k cap)).heap[b]? = wr.heap[b]? from fun b h1 h2 => (Ex.heap_st6 _ _ _ _ _ _ _ _ _ h2).trans (Below.heap_setCell _ _ _ _ h1))
      have hBw := hid (Ex.below_st6 bws.out (g := w.heap.size + 1) (Nat.le_succ _) 0 (.int .u8 (x.kind : Nat)) (.int .i64 x.num) (.string x.str) (.string x.typ) (.slice so x.names.length sc) (.slice ao k cap))
      have hokf := hid (show (T.mk x.kind x.num x.str x.typ x.names (.slice so x.names.length sc) ys (.slice ao k cap)).ok (Ex.st6 (wr.setCell ⟨w.heap.size, 5, none⟩ (.slice ao k cap)) (w.heap.size + 1) 0 (.int .u8 (x.kind : Nat)) (.int .i64 x.num) (.string x.str) (.string x.typ) (.slice so x.names.length sc) (.slice ao k cap)) from by
        obtain ⟨⟨p1, p2, p3⟩, p4, p5, p6, p7, _, _, _⟩ := h'.out.parts
        refine T.ok.mk' ⟨⟨p1, p2, by show ys.length * 96 ≤ _; rw [hlen.out]; exact hll⟩, p4, p5, p6, p7, ?_, ?_, fun u hu => (hys.out u hu).1.keep (fun b hb => hkeep.out b hb.2.1 hb.2.2.1) (hys.out u hu).2⟩
        · exact sl_stay hnv.out (fun e => by rw [List.eq_nil_of_length_eq_zero e]; rfl) hnin.out (fun b hb => hkeep.out b (by have := hb.1; omega) (by have := hb.1; omega))
        · show SlV _ (.slice ao k cap) ys.length (T.encL ys)
          rw [hlen.out]
          exact sl_stay (SlV.own hown.out) (fun e => by rw [List.eq_nil_of_length_eq_zero (hlen.out.trans e)]; rfl) (own_in hown.out) (fun b hb => hkeep.out b (by have := hb.1; have := hge.out; omega) (by have := hb.1; have := hge.out; omega)))
      have hinf := hid (show (T.mk x.kind x.num x.str x.typ x.names (.slice so x.names.length sc) ys (.slice ao k cap)).inS S from T.inS_iff.2 ⟨sl_sub hnin.out (fun b hb => hS b (by have := hb.1; omega)), by
        show SlIn S (.slice ao k cap) ys.length
        rw [hlen.out]
        exact sl_sub (own_in hown.out) (fun b hb => hS b (by have := hb.1; have := hge.out; omega)), fun u hu => (hys.out u hu).2.mono (fun b hb => hb.1)⟩)
      have hlkf := hid (show x.like (T.mk x.kind x.num x.str x.typ x.names (.slice so x.names.length sc) ys (.slice ao k cap)) from T.like_iff.2 ⟨rfl, rfl, rfl, rfl, rfl, hlk2.out⟩)
      obtain ⟨c0, c1, c2, c3, c4, c5, cf⟩ := Ex.six K1.out
      obtain ⟨d0, d1, d2, d3, d4, d5, df⟩ := Ex.six K2.out
      clear hown hys hlk hnv hlk2 hkeep K1s bws hnin h' ih' hnames hone
      have hK := hid (show Blk _ (w.heap.size + 1) [.int .u8 (x.kind : Nat), .int .i64 x.num, .string x.str, .string x.typ, .slice so x.names.length sc, .slice ao k cap] 26 from Ex.blk_st6 (A := []) (C := []) (o := 0) K2s.out rfl (.int .u8 (x.kind : Nat)) (.int .i64 x.num) (.string x.str) (.string x.typ) (.slice so x.names.length sc) (.slice ao k cap))
      go_wp2_with fail
      obtain ⟨q0, q1, q2, q3, q4, q5, qf⟩ := Ex.six hK.out
      exact bodyPost_ret (v := .agg #[.int .u8 (x.kind : Nat), .int .i64 x.num, .string x.str, .string x.typ, .slice so x.names.length sc, .slice ao k cap]) (by unfold Ex.st6 at q0 q1 q2 q3 q4 q5; simp [results, Tryz.results39, go_sem, q0, q1, q2, q3, q4, q5]) rfl ⟨⟨_, rfl, hlkf.out, hokf.out, hinf.out⟩, hBw.out⟩
theorem rcopy_any (x : T) : RCop x := by
  suffices h : ∀ n (x : T), x.size ≤ n → RCop x from h x.size x (Nat.le_refl _)
  intro n
  induction n with
  | zero => intro x hx; have := x.size_pos; omega
  | succ n ih => intro x hx; exact rcopy_step x (fun z hz => ih z (by have := T.size_part hz; omega))
end Go.Proofs.YtihnhinnohnfgaaGreatDoor.Pol
