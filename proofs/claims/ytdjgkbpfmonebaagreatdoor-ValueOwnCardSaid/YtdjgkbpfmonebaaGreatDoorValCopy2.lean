/-
  lictorref06.Copy: contract.
-/
import Derived.Test.YtdjgkbpfmonebaaGreatDoorValCopies
namespace Go.Proofs.YtdjgkbpfmonebaaGreatDoor.Val
open Go.ChangeShapes Go.WideShapes Go.ChangeAt Go.RowKit
open Go.Proofs.YtdjgkbpfmonebaaGreatDoor.Mem Go.Proofs.YtdjgkbpfmonebaaGreatDoor.Nam
set_option linter.unusedVariables false
set_option linter.unusedSimpArgs false
set_option maxRecDepth 100000
theorem copy_ok2 {x : T} {W : World} {ys : List T} {so ro : Option Addr} {sc rc B : Nat} {S R : Nat → Prop} (h : x.ok W) (hl : ys.length = x.list.length) (hlk : T.likeL x.list ys) (hys : ∀ y ∈ ys, y.ok W ∧ y.inS (B ≤ ·)) (hnv : SlV W (.slice so x.names.length sc) x.names.length (strC x.names)) (hnin : SlIn S (.slice so x.names.length sc) x.names.length)
    (hS : ∀ k, S k → B ≤ k) (hlv : SlV W (.slice ro x.list.length rc) x.list.length (T.encL ys)) (hlin : SlIn R (.slice ro x.list.length rc) x.list.length) (hR : ∀ k, R k → B ≤ k) :
    ∃ y : T, y.val = .agg #[.int .u8 (x.kind : Nat), .bool x.bool, .int .i64 x.num, .string x.str, .string x.typ, .slice so x.names.length sc, .slice ro x.list.length rc] ∧ x.like y ∧ y.ok W ∧ y.inS (B ≤ ·) := by
  obtain ⟨⟨p1, p2, p3⟩, p4, p5, p6, p7, _, _, _⟩ := h.parts
  refine ⟨.mk x.kind x.bool x.num x.str x.typ x.names (.slice so x.names.length sc) ys (.slice ro x.list.length rc), rfl, T.like_iff.2 ⟨rfl, rfl, rfl, rfl, rfl, rfl, hlk⟩, ?_, ?_⟩
  · refine T.ok.mk' ⟨⟨p1, p2, ?_⟩, p4, p5, p6, p7, hnv, ?_, fun y hy => (hys y hy).1⟩
    · show ys.length * 96 ≤ _; rw [hl]; exact p3
    · show SlV W (.slice ro x.list.length rc) ys.length (T.encL ys)
      rw [hl]; exact hlv
  · refine T.inS_iff.2 ⟨fun hn ao m cap e a ha => hS _ (hnin hn ao m cap e a ha), fun hn ao m cap e a ha => ?_, fun y hy => (hys y hy).2⟩
    have hn' : 0 < ys.length := hn
    exact hR _ (hlin (by omega) ao m cap e a ha)
set_option maxHeartbeats 4000000 in
theorem copy_step (x : T) (ih : ∀ z ∈ x.list, CopyP z) : CopyP x := by
  intro w h
  obtain ⟨no, nc, lo, lc, e1, e2, l1, l2⟩ := h.forms
  rw [show x.val = .agg #[.int .u8 (x.kind : Nat), .bool x.bool, .int .i64 x.num, .string x.str, .string x.typ, x.nv, x.lv] from rfl, e1, e2]
  have h' := hid h
  have cA := hid (fun W (b : Below w.heap.size w W) => copyall_step x.list ih x.lv W (LV.of (h.below b)))
  rw [e2] at cA
  have e1' := hid e1
  have e2' := hid e2
  clear h ih e1 e2
  go_enter Tryz.func26, Tryz.ntmps26
  go_upto_region 1 with fail
  have K1 := hid (Blk.new w [.int .u8 (x.kind : Nat), .bool x.bool, .int .i64 x.num, .string x.str, .string x.typ, .slice no x.names.length nc, .slice lo x.list.length lc] 27)
  have bw := hid ((Below.refl w.heap.size w).alloc (Nat.le_refl _) (.cells #[.int .u8 (x.kind : Nat), .bool x.bool, .int .i64 x.num, .string x.str, .string x.typ, .slice no x.names.length nc, .slice lo x.list.length lc] 27))
  have hs : w.heap.size + 1 = (w.alloc (.cells #[.int .u8 (x.kind : Nat), .bool x.bool, .int .i64 x.num, .string x.str, .string x.typ, .slice no x.names.length nc, .slice lo x.list.length lc] 27)).heap.size := by simp
  generalize w.alloc (.cells #[.int .u8 (x.kind : Nat), .bool x.bool, .int .i64 x.num, .string x.str, .string x.typ, .slice no x.names.length nc, .slice lo x.list.length lc] 27) = X0 at K1 bw hs ⊢
  have K2 := hid (Blk.new' X0 [.int .u8 0, .bool false, .int .i64 0, .string ⟨#[]⟩, .string ⟨#[]⟩, .slice none 0 0, .slice none 0 0] 27 (w.heap.size + 1) hs)
  replace K1 := hid (K1.out.alloc (.cells #[.int .u8 0, .bool false, .int .i64 0, .string ⟨#[]⟩, .string ⟨#[]⟩, .slice none 0 0, .slice none 0 0] 27))
  replace bw := hid (bw.out.alloc (by omega) (.cells #[.int .u8 0, .bool false, .int .i64 0, .string ⟨#[]⟩, .string ⟨#[]⟩, .slice none 0 0, .slice none 0 0] 27))
  clear hs
  generalize X0.alloc (.cells #[.int .u8 0, .bool false, .int .i64 0, .string ⟨#[]⟩, .string ⟨#[]⟩, .slice none 0 0, .slice none 0 0] 27) = X1 at K1 K2 bw ⊢
  obtain ⟨so, sc, W1, hrun, ho, hb⟩ := app_strs1 x.names (.slice no x.names.length nc) X1 (e1'.out ▸ (h'.out.below bw.out).parts.2.2.2.2.2.1) (h'.out.parts.1.2.1)
  have hnv := hid (SlV.own ho)
  have hnin := hid (own_in ho)
  clear ho
  replace hrun := hid hrun
  have hlt1 := hid K2.out.lt
  have K1a := hid (K1.out.alloc (.cells #[] 9))
  obtain ⟨c0, c1, c2, c3, c4, c5, c6, cf⟩ := seven K1.out
  have K1w := hid (K1.out.below hb K1.out.lt)
  have K2w := hid (K2.out.below hb K2.out.lt)
  have bww := hid (bt bw.out hb)
  obtain ⟨-, -, -, -, -, c5', c6', cf'⟩ := seven K1w.out
  obtain ⟨-, -, -, -, -, a5, a6, af⟩ := seven K1a.out
  clear hb
  go_upto_region 2 with (at_builtin; refine wpList_app rfl (.tmp 3) (.tmp 5) _ _ rfl _ _ _ _ rfl rfl hrun.out ?_)
  clear c0 c1 c2 c3 c4 c5 c6 cf c5' c6' cf' a5 a6 af K1a hrun K1 K2 bw
  have K1 := hid (show Blk _ _ [.int .u8 (x.kind : Nat), .bool x.bool, .int .i64 x.num, .string x.str, .string x.typ, .slice so x.names.length sc, .slice lo x.list.length lc] _ from K1w.out.set 5 (.slice so x.names.length sc))
  have K2 := hid (K2w.out.other (p := ⟨w.heap.size, 5, none⟩) (by show w.heap.size ≠ w.heap.size + 1; omega) (.slice so x.names.length sc))
  have bw := hid (bww.out.setCell (p := ⟨w.heap.size, 5, none⟩) (Nat.le_refl _) (.slice so x.names.length sc))
  have hnv2 := hid (sl_stay (w' := W1.setCell ⟨w.heap.size, 5, none⟩ (.slice so x.names.length sc)) hnv.out (fun e => by rw [List.eq_nil_of_length_eq_zero e]; rfl) hnin.out (fun k hk => Below.heap_setCell _ _ _ _ (by have := hlt1.out; have := hk.1; show k ≠ w.heap.size; omega)))
  have hz : (W1.setCell ⟨w.heap.size, 5, none⟩ (.slice so x.names.length sc)).heap.size = W1.heap.size := by simp
  have hnin2 := hid (show SlIn (fun k => X1.heap.size ≤ k ∧ k < (W1.setCell ⟨w.heap.size, 5, none⟩ (.slice so x.names.length sc)).heap.size) _ _ from hz ▸ hnin.out)
  clear hz hnv hnin K1w K2w bww
  generalize W1.setCell ⟨w.heap.size, 5, none⟩ (.slice so x.names.length sc) = X2 at K1 K2 bw hnv2 hnin2 ⊢
  have hlt2 := hid K2.out.lt
  obtain ⟨c0, c1, c2, c3, c4, c5, c6, cf⟩ := seven K1.out
  go_wp2_with fail
  refine (cA.out _ bw.out).mono ?_
  rintro e w5 ⟨⟨ys, v', rfl, hcps⟩, b5⟩
  have hyl := hid (T.likeL_length hcps.1)
  have hlk := hid hcps.1
  obtain ⟨ro, rc, rfl, hrc1, hrc2⟩ := ownsRow_form hcps.2.1
  rw [← hyl.out] at hcps ⊢
  have hr := hcps.2.1
  rw [← hyl.out] at hr
  have hlv := hid (SlV.own hr)
  have hlin := hid (own_in hr)
  have hyok := hid (fun y hy => And.intro (hcps.2.2 y hy).1 ((hcps.2.2 y hy).2.mono (R := (X2.heap.size ≤ ·)) (fun k hk => hk.1)))
  replace K1 := hid (K1.out.below b5 K1.out.lt)
  replace K2 := hid (K2.out.below b5 K2.out.lt)
  replace bw := hid (bt bw.out b5)
  have hnv3 := hid (SlV.below hnv2.out b5)
  clear c0 c1 c2 c3 c4 c5 c6 cf b5 hcps hr hrc1 hrc2 hnv2 cA
  obtain ⟨c0, c1, c2, c3, c4, c5, c6, cf⟩ := seven K1.out
  go_upto_region 3 with fail
  clear c0 c1 c2 c3 c4 c5 c6 cf
  replace K1 := hid (show Blk _ _ [.int .u8 (x.kind : Nat), .bool x.bool, .int .i64 x.num, .string x.str, .string x.typ, .slice so x.names.length sc, .slice ro x.list.length rc] _ from K1.out.set 6 (.slice ro x.list.length rc))
  replace K2 := hid (K2.out.other (p := ⟨w.heap.size, 6, none⟩) (by show w.heap.size ≠ w.heap.size + 1; omega) (.slice ro x.list.length rc))
  replace bw := hid (bw.out.setCell (p := ⟨w.heap.size, 6, none⟩) (Nat.le_refl _) (.slice ro x.list.length rc))
  have hst : ∀ k, k ≠ w.heap.size → (w5.setCell ⟨w.heap.size, 6, none⟩ (.slice ro x.list.length rc)).heap[k]? = w5.heap[k]? := fun k hk => Below.heap_setCell _ _ _ _ hk
  have hnv4 := hid (sl_stay hnv3.out (fun e => by rw [List.eq_nil_of_length_eq_zero e]; rfl) hnin2.out (fun k hk => hst k (by have := hlt1.out; have := hk.1; omega)))
  have hlv4 := hid (sl_stay hlv.out (fun e => by rw [show ys = [] from List.eq_nil_of_length_eq_zero (hyl.out.symm.trans e)]; rfl) hlin.out (fun k hk => hst k (by have := hlt2.out; have := hk.1; omega)))
  have hyok4 := hid (fun y hy => And.intro ((hyok.out y hy).1.keep (fun k hk => hst k (by have := hlt2.out; omega)) (hyok.out y hy).2) (hyok.out y hy).2)
  clear hst hnv3 hlv hyok
  generalize w5.setCell ⟨w.heap.size, 6, none⟩ (.slice ro x.list.length rc) = X3 at K1 K2 bw hnv4 hlv4 hyok4 ⊢
  have hst : ∀ k, k ≠ w.heap.size + 1 → (st7 X3 (w.heap.size + 1) 0 (.int .u8 (x.kind : Nat)) (.bool x.bool) (.int .i64 x.num) (.string x.str) (.string x.typ) (.slice so x.names.length sc) (.slice ro x.list.length rc)).heap[k]? = X3.heap[k]? := fun k hk => heap_st7 _ _ _ _ _ _ _ _ _ _ hk
  obtain ⟨y, hy1, hy2, hy3, hy4⟩ := copy_ok2 (B := w.heap.size) (W := st7 X3 (w.heap.size + 1) 0 (.int .u8 (x.kind : Nat)) (.bool x.bool) (.int .i64 x.num) (.string x.str) (.string x.typ) (.slice so x.names.length sc) (.slice ro x.list.length rc)) (x := x) (ys := ys) (so := so) (ro := ro) (sc := sc) (rc := rc)
    ((h'.out.below bw.out).keep (S := (· < w.heap.size)) (fun k hk => hst k (by omega)) h'.out.inS) hyl.out.symm hlk.out (fun y hy => ⟨(hyok4.out y hy).1.keep (fun k hk => hst k (by have := hlt2.out; omega)) (hyok4.out y hy).2, (hyok4.out y hy).2.mono (fun k hk => by have := hlt2.out; omega)⟩)
    (sl_stay hnv4.out (fun e => by rw [List.eq_nil_of_length_eq_zero e]; rfl) hnin2.out (fun k hk => hst k (by have := hlt1.out; have := hk.1; omega))) hnin2.out (fun k hk => by have := hlt1.out; have := hk.1; omega)
    (sl_stay hlv4.out (fun e => by rw [show ys = [] from List.eq_nil_of_length_eq_zero (hyl.out.symm.trans e)]; rfl) hlin.out (fun k hk => hst k (by have := hlt2.out; have := hk.1; omega))) hlin.out (fun k hk => by have := hlt2.out; have := hk.1; omega)
  have hK := hid (show Blk _ (w.heap.size + 1) [.int .u8 (x.kind : Nat), .bool x.bool, .int .i64 x.num, .string x.str, .string x.typ, .slice so x.names.length sc, .slice ro x.list.length rc] 27 from blk_st7 (A := []) (C := []) (o := 0) K2.out rfl (.int .u8 (x.kind : Nat)) (.bool x.bool) (.int .i64 x.num) (.string x.str) (.string x.typ) (.slice so x.names.length sc) (.slice ro x.list.length rc))
  have hBF := hid (below_st7 bw.out (g := w.heap.size + 1) (Nat.le_succ _) 0 (.int .u8 (x.kind : Nat)) (.bool x.bool) (.int .i64 x.num) (.string x.str) (.string x.typ) (.slice so x.names.length sc) (.slice ro x.list.length rc))
  replace hy1 := hid hy1
  replace hy2 := hid hy2
  replace hy3 := hid hy3
  replace hy4 := hid hy4
  clear hst hnv4 hlv4 hyok4 hlin hnin2 hlk hyl
  obtain ⟨c0, c1, c2, c3, c4, c5, c6, cf⟩ := seven K1.out
  obtain ⟨d0, d1, d2, d3, d4, d5, d6, df⟩ := seven K2.out
  go_wp2_with fail
  clear c0 c1 c2 c3 c4 c5 c6 cf d0 d1 d2 d3 d4 d5 d6 df
  obtain ⟨q0, q1, q2, q3, q4, q5, q6, qf⟩ := seven hK.out
  exact bodyPost_ret (v := .agg #[.int .u8 (x.kind : Nat), .bool x.bool, .int .i64 x.num, .string x.str, .string x.typ, .slice so x.names.length sc, .slice ro x.list.length rc]) (by unfold st7 at q0 q1 q2 q3 q4 q5 q6; simp [results, Tryz.results26, go_sem, q0, q1, q2, q3, q4, q5, q6]) rfl ⟨⟨y, by rw [hy1.out], hy2.out, hy3.out, hy4.out⟩, hBF.out⟩
theorem copy_any (x : T) : CopyP x := by
  suffices h : ∀ n (x : T), x.size ≤ n → CopyP x from h x.size x (Nat.le_refl _)
  intro n
  induction n with
  | zero => intro x hx; have := x.size_pos; omega
  | succ n ih => intro x hx; exact copy_step x (fun z hz => ih z (by have := T.size_part hz; omega))
theorem copyall_any (l : List T) (v : Value) (w : World) (h : LV w v l) :
    Calls Tryz.prog 11 #[v] w fun e w' => (∃ ys v', e = .returned v' ∧ Cps w.heap.size w' v' l ys) ∧ Below w.heap.size w w' := copyall_step l (fun z _ => copy_any z) v w h
end Go.Proofs.YtdjgkbpfmonebaaGreatDoor.Val
