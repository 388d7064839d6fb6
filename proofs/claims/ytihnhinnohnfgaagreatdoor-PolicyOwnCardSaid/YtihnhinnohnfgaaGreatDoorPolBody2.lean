/-
  policy.scope, all, body: contracts. Written by wip/polbodygen.py.
-/
import Derived.Test.YtihnhinnohnfgaaGreatDoorPolBody
import Derived.Deep.RegionHeld3
namespace Go.Proofs.YtihnhinnohnfgaaGreatDoor.Pol
open Go.ChangeShapes Go.WideShapes Go.ChangeAt Go.RowKit
open Go.Proofs.YtihnhinnohnfgaaGreatDoor.Mem
open Go.Proofs.YtihnhinnohnfgaaGreatDoor.Ex (T)
set_option linter.unusedVariables false
set_option linter.unusedSimpArgs false
set_option maxRecDepth 100000
theorem cell_drew {w : World} {a : Addr} {v : Value} (h : w.cell? a = some v) : w.drew.cell? a = some v := h
theorem cell_alloc {w : World} {a : Addr} {v : Value} {o : Obj} (h : w.cell? a = some v) : (w.alloc o).cell? a = some v := cell_below ((Below.refl _ _).alloc (Nat.le_refl _) _) _ _ h
theorem cell_set {w : World} {a p : Addr} {v x : Value} (hne : a.block ≠ p.block) (h : w.cell? a = some x) : (w.setCell p v).cell? a = some x := by
  unfold World.cell? at h ⊢
  rw [Below.heap_setCell _ _ _ _ hne]
  exact h
theorem cell_set6 {w : World} {a p0 p1 p2 p3 p4 p5 : Addr} {v0 v1 v2 v3 v4 v5 x : Value} (hne : a.block ≠ p0.block ∧ a.block ≠ p1.block ∧ a.block ≠ p2.block ∧ a.block ≠ p3.block ∧ a.block ≠ p4.block ∧ a.block ≠ p5.block) (h : w.cell? a = some x) :
    ((((((w.setCell p0 v0).setCell p1 v1).setCell p2 v2).setCell p3 v3).setCell p4 v4).setCell p5 v5).cell? a = some x :=
  cell_set hne.2.2.2.2.2 (cell_set hne.2.2.2.2.1 (cell_set hne.2.2.2.1 (cell_set hne.2.2.1 (cell_set hne.2.1 (cell_set hne.1 h)))))
set_option maxHeartbeats 8000000 in
theorem scope_built (nm : ByteArray) (hnm : nm.size ≤ 140737488355328) (act : Bool) (hact : (nm.toList == [97, 99, 116, 105, 111, 110]) = act) (s : Sc) (w : World) (h : s.ok w) (h0 : s.k = 1 ∨ s.k = 2 → 1 ≤ s.us.length ∧ s.us.length ≤ 16) (S : Nat → Prop) (hS : ∀ b, w.heap.size ≤ b → S b) :
    Calls Tryz.prog 74 #[.string nm, s.val] w fun e w' => Built S (scT nm act s) e w' ∧ Below w.heap.size w w' := by
  obtain ⟨uo, uc, e1, hl⟩ := h.form
  have cN := hid (fun (hk : s.k = 1 ∨ s.k = 2) W (b : Below w.heap.size w W) => fun (hb : w.heap.size + 2 ≤ W.heap.size) => named_any nm act hact s W (h.below b) (h0 hk).1 (h0 hk).2 (fun b => S b ∧ b ≠ w.heap.size + 1) (fun b hb2 => ⟨hS b (by omega), by omega⟩))
  rw [show s.val = .agg #[.int .u8 (s.k : Nat), .slice uo s.us.length uc, .string s.t] from by unfold Sc.val Sc.enc; rw [e1]] at cN ⊢
  have ht := hid h.2.1
  obtain ⟨n, hn⟩ : ∃ n, s.us.length = n := ⟨_, rfl⟩
  obtain ⟨kk, hkk⟩ : ∃ n, s.k = n := ⟨_, rfl⟩
  obtain ⟨st, hst⟩ : ∃ n, s.t = n := ⟨_, rfl⟩
  obtain ⟨NT, hNT⟩ : ∃ x, namedT act s = x := ⟨_, rfl⟩
  obtain ⟨R, hR⟩ : ∃ x, scT nm act s = x := ⟨_, rfl⟩
  rw [hR]
  replace hR := hid (hR.symm.trans (show scT nm act s = if kk = 1 then wrapT 17 ⟨#[]⟩ [leaf 5 0 nm ⟨#[]⟩, NT] else if kk = 2 then wrapT 23 ⟨#[]⟩ [leaf 5 0 nm ⟨#[]⟩, NT] else if kk = 3 then wrapT 10 st [leaf 5 0 nm ⟨#[]⟩] else leaf 1 1 ⟨#[]⟩ ⟨#[]⟩ by
    unfold scT
    rw [hkk, hNT, hst]))
  rw [hn, hkk, hst] at cN ⊢
  rw [hNT] at cN
  rw [hst] at ht
  replace hkk := hid hkk
  clear h e1 h0 hn hst hact hNT
  go_enter Tryz.func74, Tryz.ntmps74
  go_upto_region 1 with fail
  have K1 := hid (Blk.new w [.int .u8 (kk : Nat), .slice uo n uc, .string st] 36)
  have bw := hid ((Below.refl w.heap.size w).alloc (Nat.le_refl _) (.cells #[.int .u8 (kk : Nat), .slice uo n uc, .string st] 36))
  have hs : w.heap.size + 1 = (w.alloc (.cells #[.int .u8 (kk : Nat), .slice uo n uc, .string st] 36)).heap.size := by simp
  generalize w.alloc (.cells #[.int .u8 (kk : Nat), .slice uo n uc, .string st] 36) = X0 at K1 bw hs ⊢
  have K2 := hid (Blk.new' X0 [.int .u8 0, .int .i64 0, .string ⟨#[]⟩, .string ⟨#[]⟩, .slice none 0 0, .slice none 0 0] 26 (w.heap.size + 1) hs)
  replace K1 := hid (K1.out.alloc (.cells #[.int .u8 0, .int .i64 0, .string ⟨#[]⟩, .string ⟨#[]⟩, .slice none 0 0, .slice none 0 0] 26))
  replace bw := hid (bw.out.alloc (by omega) (.cells #[.int .u8 0, .int .i64 0, .string ⟨#[]⟩, .string ⟨#[]⟩, .slice none 0 0, .slice none 0 0] 26))
  have hs2 := hid (show w.heap.size + 2 = (X0.alloc (.cells #[.int .u8 0, .int .i64 0, .string ⟨#[]⟩, .string ⟨#[]⟩, .slice none 0 0, .slice none 0 0] 26)).heap.size by simp; omega)
  clear hs
  generalize X0.alloc (.cells #[.int .u8 0, .int .i64 0, .string ⟨#[]⟩, .string ⟨#[]⟩, .slice none 0 0, .slice none 0 0] 26) = X1 at K1 K2 bw hs2 ⊢
  have hlt := hid K2.out.lt
  obtain ⟨c0, c1, c2, cf⟩ := K1.out.three
  go_upto_region 2 with fail
  have K5 := hid (Blk.new X1 [.int .u8 5, .int .i64 0, .string nm, .string ⟨#[]⟩, .slice none 0 0, .slice none 0 0] 26)
  have K5b := hid (show X1.heap.size = w.heap.size + 2 from hs2.out.symm)
  replace K1 := hid (K1.out.alloc (.cells #[.int .u8 5, .int .i64 0, .string nm, .string ⟨#[]⟩, .slice none 0 0, .slice none 0 0] 26))
  replace K2 := hid (K2.out.alloc (.cells #[.int .u8 5, .int .i64 0, .string nm, .string ⟨#[]⟩, .slice none 0 0, .slice none 0 0] 26))
  replace bw := hid (bw.out.alloc bw.out.size (.cells #[.int .u8 5, .int .i64 0, .string nm, .string ⟨#[]⟩, .slice none 0 0, .slice none 0 0] 26))
  rw [K5b.out] at K5 ⊢
  clear c0 c1 c2 cf hs2 K5b hlt
  generalize X1.alloc (.cells #[.int .u8 5, .int .i64 0, .string nm, .string ⟨#[]⟩, .slice none 0 0, .slice none 0 0] 26) = X2 at K1 K2 K5 bw ⊢
  obtain ⟨c0, c1, c2, cf⟩ := K1.out.three
  obtain ⟨d0, d1, d2, d3, d4, d5, df⟩ := Ex.six K5.out
  by_cases h1 : kk = 1
  · have g1 : ((kk : Int) == 1) = true := by rw [h1]; rfl
    replace hR := hid (hR.out.trans (if_pos h1))
    have hkk2 := hid h1
    clear h1
    have hno := hid (show kk = 1 ∨ kk = 2 from Or.inl hkk2.out)
    have hdr := hid (show w.heap.size + 2 ≤ X2.drew.heap.size from Nat.le_of_lt K5.out.lt)
    go_upto_region 4 with fail
    go_region_held3 (fun W => W.cell? ⟨w.heap.size, 0, none⟩ = some (.int .u8 (kk : Nat)) ∧ W.cell? ⟨w.heap.size, 1, none⟩ = some (.slice uo n uc) ∧ W.cell? ⟨w.heap.size, 2, none⟩ = some (.string st) ∧ W.cell? ⟨w.heap.size + 2, 0, none⟩ = some (.int .u8 5) ∧ W.cell? ⟨w.heap.size + 2, 1, none⟩ = some (.int .i64 0) ∧ W.cell? ⟨w.heap.size + 2, 2, none⟩ = some (.string nm) ∧ W.cell? ⟨w.heap.size + 2, 3, none⟩ = some (.string ⟨#[]⟩) ∧ W.cell? ⟨w.heap.size + 2, 4, none⟩ = some (.slice none 0 0) ∧ W.cell? ⟨w.heap.size + 2, 5, none⟩ = some (.slice none 0 0)) (first | with_reducible exact ⟨c0, c1, c2, d0, d1, d2, d3, d4, d5⟩ | with_reducible exact ⟨cell_drew c0, cell_drew c1, cell_drew c2, cell_drew d0, cell_drew d1, cell_drew d2, cell_drew d3, cell_drew d4, cell_drew d5⟩ | with_reducible exact ⟨cell_alloc c0, cell_alloc c1, cell_alloc c2, cell_alloc d0, cell_alloc d1, cell_alloc d2, cell_alloc d3, cell_alloc d4, cell_alloc d5⟩ | with_reducible exact ⟨cell_set6 (by simp) c0, cell_set6 (by simp) c1, cell_set6 (by simp) c2, cell_set6 (by simp) d0, cell_set6 (by simp) d1, cell_set6 (by simp) d2, cell_set6 (by simp) d3, cell_set6 (by simp) d4, cell_set6 (by simp) d5⟩) (first
      | (go_at_call 130
         (with_reducible refine (cN.out hno.out _ bw.out.drew hdr.out).mono ?_)
         rintro e w2 ⟨⟨y, rfl, hlk, hok, hin⟩, b2⟩
         obtain ⟨yno, ync, ylo, ylc, ey1, ey2, yl1, yl2⟩ := hok.forms
         rw [Ex.T.val_eq ey1 ey2]
         have hye := hid (enc_eq ey1 ey2)
         replace K1 := hid (K1.out.drew.below b2 K1.out.drew.lt)
         replace K2 := hid (K2.out.drew.below b2 K2.out.drew.lt)
         replace K5 := hid (K5.out.drew.below b2 K5.out.drew.lt)
         replace bw := hid (bt bw.out.drew b2)
         replace hlk := hid hlk
         replace hok := hid hok
         replace hin := hid hin
         clear b2 cN c0 c1 c2 cf d0 d1 d2 d3 d4 d5 df ey1 ey2
         obtain ⟨c0, c1, c2, cf⟩ := K1.out.three
         obtain ⟨d0, d1, d2, d3, d4, d5, df⟩ := Ex.six K5.out)
      | (go_at_call 131
         have K9 := hid (Blk.new w2 [.int .u8 5, .int .i64 0, .string nm, .string ⟨#[]⟩, .slice none 0 0, .slice none 0 0, .int .u8 (y.kind : Nat), .int .i64 y.num, .string y.str, .string y.typ, .slice yno y.names.length ync, .slice ylo y.list.length ylc] 26)
         have hlt9 := hid K5.out.lt
         replace K1 := hid (K1.out.alloc (.cells #[.int .u8 5, .int .i64 0, .string nm, .string ⟨#[]⟩, .slice none 0 0, .slice none 0 0, .int .u8 (y.kind : Nat), .int .i64 y.num, .string y.str, .string y.typ, .slice yno y.names.length ync, .slice ylo y.list.length ylc] 26))
         replace K2 := hid (K2.out.alloc (.cells #[.int .u8 5, .int .i64 0, .string nm, .string ⟨#[]⟩, .slice none 0 0, .slice none 0 0, .int .u8 (y.kind : Nat), .int .i64 y.num, .string y.str, .string y.typ, .slice yno y.names.length ync, .slice ylo y.list.length ylc] 26))
         replace K5 := hid (K5.out.alloc (.cells #[.int .u8 5, .int .i64 0, .string nm, .string ⟨#[]⟩, .slice none 0 0, .slice none 0 0, .int .u8 (y.kind : Nat), .int .i64 y.num, .string y.str, .string y.typ, .slice yno y.names.length ync, .slice ylo y.list.length ylc] 26))
         replace hok := hid (hok.out.below ((Below.refl w2.heap.size w2).alloc (Nat.le_refl _) (.cells #[.int .u8 5, .int .i64 0, .string nm, .string ⟨#[]⟩, .slice none 0 0, .slice none 0 0, .int .u8 (y.kind : Nat), .int .i64 y.num, .string y.str, .string y.typ, .slice yno y.names.length ync, .slice ylo y.list.length ylc] 26)))
         replace bw := hid (bw.out.alloc bw.out.size (.cells #[.int .u8 5, .int .i64 0, .string nm, .string ⟨#[]⟩, .slice none 0 0, .slice none 0 0, .int .u8 (y.kind : Nat), .int .i64 y.num, .string y.str, .string y.typ, .slice yno y.names.length ync, .slice ylo y.list.length ylc] 26))
         clear c0 c1 c2 cf d0 d1 d2 d3 d4 d5 df
         generalize w2.alloc (.cells #[.int .u8 5, .int .i64 0, .string nm, .string ⟨#[]⟩, .slice none 0 0, .slice none 0 0, .int .u8 (y.kind : Nat), .int .i64 y.num, .string y.str, .string y.typ, .slice yno y.names.length ync, .slice ylo y.list.length ylc] 26) = w3 at K1 K2 K5 K9 hok bw ⊢
         generalize w2.heap.size = b9 at K9 hlt9 ⊢
         (with_reducible refine (node_any _ _ _ _ _).mono ?_)
         rintro e w4 ⟨rfl, b4⟩
         replace K2 := hid (K2.out.below b4 K2.out.lt)
         replace K9 := hid (K9.out.below b4 K9.out.lt)
         replace hok := hid (hok.out.below b4)
         replace K1 := hid (K1.out.below b4 K1.out.lt)
         replace K5 := hid (K5.out.below b4 K5.out.lt)
         replace bw := hid (bt bw.out b4)
         clear b4
         obtain ⟨c0, c1, c2, cf⟩ := K1.out.three
         obtain ⟨d0, d1, d2, d3, d4, d5, df⟩ := Ex.six K5.out
         obtain ⟨m0, m1, m2, m3, m4, m5, mf⟩ := Ex.six K2.out))
    clear c0 c1 c2 cf d0 d1 d2 d3 d4 d5 df m0 m1 m2 m3 m4 m5 mf K1 K5
    have hB := hid (Ex.below_st6 bw.out (g := w.heap.size + 1) (Nat.le_succ _) 0 (.int .u8 17) (.int .i64 0) (.string ⟨#[]⟩) (.string ⟨#[]⟩) (.slice none 0 0) (.slice (some ⟨b9, 0, none⟩) 2 2))
    have hok9 := hid (node_ok (W := Ex.st6 w4 (w.heap.size + 1) 0 (.int .u8 17) (.int .i64 0) (.string ⟨#[]⟩) (.string ⟨#[]⟩) (.slice none 0 0) (.slice (some ⟨b9, 0, none⟩) 2 2)) (k := 17) (t := ⟨#[]⟩) (l := [leaf 5 0 nm ⟨#[]⟩, y]) (lv := .slice (some ⟨b9, 0, none⟩) 2 2) (by decide) (Nat.zero_le _) (by show 2 * 96 ≤ _; decide) (fun z hz => by
      rcases List.mem_cons.1 hz with rfl | hz
      · exact leaf_ok (by decide) ⟨by decide, by decide⟩ hnm (Nat.zero_le _)
      · rw [List.mem_singleton] at hz
        subst hz
        exact hok.out.keep (fun k hk => Ex.heap_st6 _ _ _ _ _ _ _ _ _ hk.2) hin.out)
      (slv_blk (n := 2) (Blk.keepAt (show Blk w4 b9 (T.encL [leaf 5 0 nm ⟨#[]⟩, y]) 26 from by rw [show T.encL [leaf 5 0 nm ⟨#[]⟩, y] = (leaf 5 0 nm ⟨#[]⟩).enc ++ y.enc from by simp [T.encL], hye.out]; exact K9.out) (Ex.heap_st6 w4 (w.heap.size + 1) 0 (.int .u8 17) (.int .i64 0) (.string ⟨#[]⟩) (.string ⟨#[]⟩) (.slice none 0 0) (.slice (some ⟨b9, 0, none⟩) 2 2) (by have := hlt9.out; omega))) (by decide) (fun e => by cases e)))
    have hin9 := hid (node_in (S := S) (k := 17) (n := 0) (s := ⟨#[]⟩) (t := ⟨#[]⟩) (l := [leaf 5 0 nm ⟨#[]⟩, y]) (sl_at (b := b9) (o := 0) (n := 2) (c := 2) (hS b9 (by have := hlt9.out; omega))) (fun z hz => by
      rcases List.mem_cons.1 hz with rfl | hz
      · exact leaf_in
      · rw [List.mem_singleton] at hz
        subst hz
        exact hin.out.mono (fun b hb => hb.1)))
    have hlk9 := hid (show R.like (T.mk 17 0 ⟨#[]⟩ ⟨#[]⟩ [] nilV [leaf 5 0 nm ⟨#[]⟩, y] (.slice (some ⟨b9, 0, none⟩) 2 2)) by
      rw [hR.out]
      exact wrap_like ⟨Ex.T.like_refl _, hlk.out, trivial⟩)
    clear hok hin hlk K9 hye hR
    have hK := hid (show Blk _ (w.heap.size + 1) [.int .u8 17, .int .i64 0, .string ⟨#[]⟩, .string ⟨#[]⟩, .slice none 0 0, .slice (some ⟨b9, 0, none⟩) 2 2] 26 from Ex.blk_st6 (A := []) (C := []) (o := 0) K2.out rfl (.int .u8 17) (.int .i64 0) (.string ⟨#[]⟩) (.string ⟨#[]⟩) (.slice none 0 0) (.slice (some ⟨b9, 0, none⟩) 2 2))
    go_wp2_with fail
    obtain ⟨q0, q1, q2, q3, q4, q5, qf⟩ := Ex.six hK.out
    exact bodyPost_ret (v := .agg #[.int .u8 17, .int .i64 0, .string ⟨#[]⟩, .string ⟨#[]⟩, .slice none 0 0, .slice (some ⟨b9, 0, none⟩) 2 2]) (by unfold Ex.st6 at q0 q1 q2 q3 q4 q5; simp [results, Tryz.results74, go_sem, q0, q1, q2, q3, q4, q5]) rfl ⟨⟨_, rfl, hlk9.out, hok9.out, hin9.out⟩, hB.out⟩
  have g1 : ((kk : Int) == 1) = false := by rw [beq_eq_false_iff_ne]; omega
  replace hR := hid (hR.out.trans (if_neg h1))
  clear h1
  by_cases h2 : kk = 2
  · have g2 : ((kk : Int) == 2) = true := by rw [h2]; rfl
    replace hR := hid (hR.out.trans (if_pos h2))
    have hkk2 := hid h2
    clear h2
    have hno := hid (show kk = 1 ∨ kk = 2 from Or.inr hkk2.out)
    have hdr := hid (show w.heap.size + 2 ≤ X2.drew.heap.size from Nat.le_of_lt K5.out.lt)
    go_upto_region 6 with fail
    go_region_held3 (fun W => W.cell? ⟨w.heap.size, 0, none⟩ = some (.int .u8 (kk : Nat)) ∧ W.cell? ⟨w.heap.size, 1, none⟩ = some (.slice uo n uc) ∧ W.cell? ⟨w.heap.size, 2, none⟩ = some (.string st) ∧ W.cell? ⟨w.heap.size + 2, 0, none⟩ = some (.int .u8 5) ∧ W.cell? ⟨w.heap.size + 2, 1, none⟩ = some (.int .i64 0) ∧ W.cell? ⟨w.heap.size + 2, 2, none⟩ = some (.string nm) ∧ W.cell? ⟨w.heap.size + 2, 3, none⟩ = some (.string ⟨#[]⟩) ∧ W.cell? ⟨w.heap.size + 2, 4, none⟩ = some (.slice none 0 0) ∧ W.cell? ⟨w.heap.size + 2, 5, none⟩ = some (.slice none 0 0)) (first | with_reducible exact ⟨c0, c1, c2, d0, d1, d2, d3, d4, d5⟩ | with_reducible exact ⟨cell_drew c0, cell_drew c1, cell_drew c2, cell_drew d0, cell_drew d1, cell_drew d2, cell_drew d3, cell_drew d4, cell_drew d5⟩ | with_reducible exact ⟨cell_alloc c0, cell_alloc c1, cell_alloc c2, cell_alloc d0, cell_alloc d1, cell_alloc d2, cell_alloc d3, cell_alloc d4, cell_alloc d5⟩ | with_reducible exact ⟨cell_set6 (by simp) c0, cell_set6 (by simp) c1, cell_set6 (by simp) c2, cell_set6 (by simp) d0, cell_set6 (by simp) d1, cell_set6 (by simp) d2, cell_set6 (by simp) d3, cell_set6 (by simp) d4, cell_set6 (by simp) d5⟩) (first
      | (go_at_call 130
         (with_reducible refine (cN.out hno.out _ bw.out.drew hdr.out).mono ?_)
         rintro e w2 ⟨⟨y, rfl, hlk, hok, hin⟩, b2⟩
         obtain ⟨yno, ync, ylo, ylc, ey1, ey2, yl1, yl2⟩ := hok.forms
         rw [Ex.T.val_eq ey1 ey2]
         have hye := hid (enc_eq ey1 ey2)
         replace K1 := hid (K1.out.drew.below b2 K1.out.drew.lt)
         replace K2 := hid (K2.out.drew.below b2 K2.out.drew.lt)
         replace K5 := hid (K5.out.drew.below b2 K5.out.drew.lt)
         replace bw := hid (bt bw.out.drew b2)
         replace hlk := hid hlk
         replace hok := hid hok
         replace hin := hid hin
         clear b2 cN c0 c1 c2 cf d0 d1 d2 d3 d4 d5 df ey1 ey2
         obtain ⟨c0, c1, c2, cf⟩ := K1.out.three
         obtain ⟨d0, d1, d2, d3, d4, d5, df⟩ := Ex.six K5.out)
      | (go_at_call 131
         have K9 := hid (Blk.new w2 [.int .u8 5, .int .i64 0, .string nm, .string ⟨#[]⟩, .slice none 0 0, .slice none 0 0, .int .u8 (y.kind : Nat), .int .i64 y.num, .string y.str, .string y.typ, .slice yno y.names.length ync, .slice ylo y.list.length ylc] 26)
         have hlt9 := hid K5.out.lt
         replace K1 := hid (K1.out.alloc (.cells #[.int .u8 5, .int .i64 0, .string nm, .string ⟨#[]⟩, .slice none 0 0, .slice none 0 0, .int .u8 (y.kind : Nat), .int .i64 y.num, .string y.str, .string y.typ, .slice yno y.names.length ync, .slice ylo y.list.length ylc] 26))
         replace K2 := hid (K2.out.alloc (.cells #[.int .u8 5, .int .i64 0, .string nm, .string ⟨#[]⟩, .slice none 0 0, .slice none 0 0, .int .u8 (y.kind : Nat), .int .i64 y.num, .string y.str, .string y.typ, .slice yno y.names.length ync, .slice ylo y.list.length ylc] 26))
         replace K5 := hid (K5.out.alloc (.cells #[.int .u8 5, .int .i64 0, .string nm, .string ⟨#[]⟩, .slice none 0 0, .slice none 0 0, .int .u8 (y.kind : Nat), .int .i64 y.num, .string y.str, .string y.typ, .slice yno y.names.length ync, .slice ylo y.list.length ylc] 26))
         replace hok := hid (hok.out.below ((Below.refl w2.heap.size w2).alloc (Nat.le_refl _) (.cells #[.int .u8 5, .int .i64 0, .string nm, .string ⟨#[]⟩, .slice none 0 0, .slice none 0 0, .int .u8 (y.kind : Nat), .int .i64 y.num, .string y.str, .string y.typ, .slice yno y.names.length ync, .slice ylo y.list.length ylc] 26)))
         replace bw := hid (bw.out.alloc bw.out.size (.cells #[.int .u8 5, .int .i64 0, .string nm, .string ⟨#[]⟩, .slice none 0 0, .slice none 0 0, .int .u8 (y.kind : Nat), .int .i64 y.num, .string y.str, .string y.typ, .slice yno y.names.length ync, .slice ylo y.list.length ylc] 26))
         clear c0 c1 c2 cf d0 d1 d2 d3 d4 d5 df
         generalize w2.alloc (.cells #[.int .u8 5, .int .i64 0, .string nm, .string ⟨#[]⟩, .slice none 0 0, .slice none 0 0, .int .u8 (y.kind : Nat), .int .i64 y.num, .string y.str, .string y.typ, .slice yno y.names.length ync, .slice ylo y.list.length ylc] 26) = w3 at K1 K2 K5 K9 hok bw ⊢
         generalize w2.heap.size = b9 at K9 hlt9 ⊢
         (with_reducible refine (node_any _ _ _ _ _).mono ?_)
         rintro e w4 ⟨rfl, b4⟩
         replace K2 := hid (K2.out.below b4 K2.out.lt)
         replace K9 := hid (K9.out.below b4 K9.out.lt)
         replace hok := hid (hok.out.below b4)
         replace K1 := hid (K1.out.below b4 K1.out.lt)
         replace K5 := hid (K5.out.below b4 K5.out.lt)
         replace bw := hid (bt bw.out b4)
         clear b4
         obtain ⟨c0, c1, c2, cf⟩ := K1.out.three
         obtain ⟨d0, d1, d2, d3, d4, d5, df⟩ := Ex.six K5.out
         obtain ⟨m0, m1, m2, m3, m4, m5, mf⟩ := Ex.six K2.out))
    clear c0 c1 c2 cf d0 d1 d2 d3 d4 d5 df m0 m1 m2 m3 m4 m5 mf K1 K5
    have hB := hid (Ex.below_st6 bw.out (g := w.heap.size + 1) (Nat.le_succ _) 0 (.int .u8 23) (.int .i64 0) (.string ⟨#[]⟩) (.string ⟨#[]⟩) (.slice none 0 0) (.slice (some ⟨b9, 0, none⟩) 2 2))
    have hok9 := hid (node_ok (W := Ex.st6 w4 (w.heap.size + 1) 0 (.int .u8 23) (.int .i64 0) (.string ⟨#[]⟩) (.string ⟨#[]⟩) (.slice none 0 0) (.slice (some ⟨b9, 0, none⟩) 2 2)) (k := 23) (t := ⟨#[]⟩) (l := [leaf 5 0 nm ⟨#[]⟩, y]) (lv := .slice (some ⟨b9, 0, none⟩) 2 2) (by decide) (Nat.zero_le _) (by show 2 * 96 ≤ _; decide) (fun z hz => by
      rcases List.mem_cons.1 hz with rfl | hz
      · exact leaf_ok (by decide) ⟨by decide, by decide⟩ hnm (Nat.zero_le _)
      · rw [List.mem_singleton] at hz
        subst hz
        exact hok.out.keep (fun k hk => Ex.heap_st6 _ _ _ _ _ _ _ _ _ hk.2) hin.out)
      (slv_blk (n := 2) (Blk.keepAt (show Blk w4 b9 (T.encL [leaf 5 0 nm ⟨#[]⟩, y]) 26 from by rw [show T.encL [leaf 5 0 nm ⟨#[]⟩, y] = (leaf 5 0 nm ⟨#[]⟩).enc ++ y.enc from by simp [T.encL], hye.out]; exact K9.out) (Ex.heap_st6 w4 (w.heap.size + 1) 0 (.int .u8 23) (.int .i64 0) (.string ⟨#[]⟩) (.string ⟨#[]⟩) (.slice none 0 0) (.slice (some ⟨b9, 0, none⟩) 2 2) (by have := hlt9.out; omega))) (by decide) (fun e => by cases e)))
    have hin9 := hid (node_in (S := S) (k := 23) (n := 0) (s := ⟨#[]⟩) (t := ⟨#[]⟩) (l := [leaf 5 0 nm ⟨#[]⟩, y]) (sl_at (b := b9) (o := 0) (n := 2) (c := 2) (hS b9 (by have := hlt9.out; omega))) (fun z hz => by
      rcases List.mem_cons.1 hz with rfl | hz
      · exact leaf_in
      · rw [List.mem_singleton] at hz
        subst hz
        exact hin.out.mono (fun b hb => hb.1)))
    have hlk9 := hid (show R.like (T.mk 23 0 ⟨#[]⟩ ⟨#[]⟩ [] nilV [leaf 5 0 nm ⟨#[]⟩, y] (.slice (some ⟨b9, 0, none⟩) 2 2)) by
      rw [hR.out]
      exact wrap_like ⟨Ex.T.like_refl _, hlk.out, trivial⟩)
    clear hok hin hlk K9 hye hR
    have hK := hid (show Blk _ (w.heap.size + 1) [.int .u8 23, .int .i64 0, .string ⟨#[]⟩, .string ⟨#[]⟩, .slice none 0 0, .slice (some ⟨b9, 0, none⟩) 2 2] 26 from Ex.blk_st6 (A := []) (C := []) (o := 0) K2.out rfl (.int .u8 23) (.int .i64 0) (.string ⟨#[]⟩) (.string ⟨#[]⟩) (.slice none 0 0) (.slice (some ⟨b9, 0, none⟩) 2 2))
    go_wp2_with fail
    obtain ⟨q0, q1, q2, q3, q4, q5, qf⟩ := Ex.six hK.out
    exact bodyPost_ret (v := .agg #[.int .u8 23, .int .i64 0, .string ⟨#[]⟩, .string ⟨#[]⟩, .slice none 0 0, .slice (some ⟨b9, 0, none⟩) 2 2]) (by unfold Ex.st6 at q0 q1 q2 q3 q4 q5; simp [results, Tryz.results74, go_sem, q0, q1, q2, q3, q4, q5]) rfl ⟨⟨_, rfl, hlk9.out, hok9.out, hin9.out⟩, hB.out⟩
  have g2 : ((kk : Int) == 2) = false := by rw [beq_eq_false_iff_ne]; omega
  replace hR := hid (hR.out.trans (if_neg h2))
  clear h2
  by_cases h3 : kk = 3
  · have g3 : ((kk : Int) == 3) = true := by rw [h3]; rfl
    replace hR := hid (hR.out.trans (if_pos h3))
    have hkk2 := hid h3
    clear h3
    have hlt := hid K5.out.lt
    have hrow := hid (fun b (hb : w.heap.size ≤ b) => hS b hb)
    obtain ⟨X3, hX3⟩ : ∃ X, X2.alloc (.cells #[.int .u8 5, .int .i64 0, .string nm, .string ⟨#[]⟩, .slice none 0 0, .slice none 0 0] 26) = X := ⟨_, rfl⟩
    have K2a := hid (hX3 ▸ K2.out.alloc (.cells #[.int .u8 5, .int .i64 0, .string nm, .string ⟨#[]⟩, .slice none 0 0, .slice none 0 0] 26))
    have K9 := hid (hX3 ▸ Blk.new X2 [.int .u8 5, .int .i64 0, .string nm, .string ⟨#[]⟩, .slice none 0 0, .slice none 0 0] 26)
    have bwa := hid (hX3 ▸ bw.out.alloc bw.out.size (.cells #[.int .u8 5, .int .i64 0, .string nm, .string ⟨#[]⟩, .slice none 0 0, .slice none 0 0] 26))
    clear K2 bw
    obtain ⟨m0, m1, m2, m3, m4, m5, mf⟩ := Ex.six K2a.out
    have hB := hid (Ex.below_st6 bwa.out (g := w.heap.size + 1) (Nat.le_succ _) 0 (.int .u8 10) (.int .i64 0) (.string ⟨#[]⟩) (.string st) (.slice none 0 0) (.slice (some ⟨X2.heap.size, 0, none⟩) 1 1))
    have hok9 := hid (node_ok (W := Ex.st6 X3 (w.heap.size + 1) 0 (.int .u8 10) (.int .i64 0) (.string ⟨#[]⟩) (.string st) (.slice none 0 0) (.slice (some ⟨X2.heap.size, 0, none⟩) 1 1)) (k := 10) (t := st) (l := [leaf 5 0 nm ⟨#[]⟩]) (lv := .slice (some ⟨X2.heap.size, 0, none⟩) 1 1) (by decide) ht.out (by show 1 * 96 ≤ _; decide) (fun z hz => by
      rw [List.mem_singleton] at hz
      subst hz
      exact leaf_ok (by decide) ⟨by decide, by decide⟩ hnm (Nat.zero_le _))
      (slv_blk (n := 1) (Blk.keepAt (show Blk X3 X2.heap.size (T.encL [leaf 5 0 nm ⟨#[]⟩]) 26 from K9.out) (Ex.heap_st6 _ (w.heap.size + 1) 0 (.int .u8 10) (.int .i64 0) (.string ⟨#[]⟩) (.string st) (.slice none 0 0) (.slice (some ⟨X2.heap.size, 0, none⟩) 1 1) (by have := hlt.out; omega))) (by decide) (fun e => by cases e)))
    have hin9 := hid (node_in (S := S) (k := 10) (n := 0) (s := ⟨#[]⟩) (t := st) (l := [leaf 5 0 nm ⟨#[]⟩]) (sl_at (b := X2.heap.size) (o := 0) (n := 1) (c := 1) (hS _ (by have := hlt.out; omega))) (fun z hz => by
      rw [List.mem_singleton] at hz
      subst hz
      exact leaf_in))
    have hlk9 := hid (show R.like (T.mk 10 0 ⟨#[]⟩ st [] nilV [leaf 5 0 nm ⟨#[]⟩] (.slice (some ⟨X2.heap.size, 0, none⟩) 1 1)) by
      rw [hR.out]
      exact wrap_like ⟨Ex.T.like_refl _, trivial⟩)
    clear hR cN
    have hK := hid (show Blk _ (w.heap.size + 1) [.int .u8 10, .int .i64 0, .string ⟨#[]⟩, .string st, .slice none 0 0, .slice (some ⟨X2.heap.size, 0, none⟩) 1 1] 26 from Ex.blk_st6 (A := []) (C := []) (o := 0) K2a.out rfl (.int .u8 10) (.int .i64 0) (.string ⟨#[]⟩) (.string st) (.slice none 0 0) (.slice (some ⟨X2.heap.size, 0, none⟩) 1 1))
    go_wp2_with fail
    obtain ⟨q0, q1, q2, q3, q4, q5, qf⟩ := Ex.six hK.out
    exact bodyPost_ret (v := .agg #[.int .u8 10, .int .i64 0, .string ⟨#[]⟩, .string st, .slice none 0 0, .slice (some ⟨X2.heap.size, 0, none⟩) 1 1]) (by unfold Ex.st6 at q0 q1 q2 q3 q4 q5; simp [results, Tryz.results74, go_sem, q0, q1, q2, q3, q4, q5]) rfl ⟨⟨_, rfl, hlk9.out, hok9.out, hin9.out⟩, hB.out⟩
  have g3 : ((kk : Int) == 3) = false := by rw [beq_eq_false_iff_ne]; omega
  replace hR := hid (hR.out.trans (if_neg h3))
  clear h3
  obtain ⟨m0, m1, m2, m3, m4, m5, mf⟩ := Ex.six K2.out
  have hB := hid (Ex.below_st6 bw.out (g := w.heap.size + 1) (Nat.le_succ _) 0 (.int .u8 1) (.int .i64 1) (.string ⟨#[]⟩) (.string ⟨#[]⟩) (.slice none 0 0) (.slice none 0 0))
  have hlk9 := hid (show R.like (leaf 1 1 ⟨#[]⟩ ⟨#[]⟩) by rw [hR.out]; exact Ex.T.like_refl _)
  clear hR
  have hK := hid (show Blk _ (w.heap.size + 1) [.int .u8 1, .int .i64 1, .string ⟨#[]⟩, .string ⟨#[]⟩, .slice none 0 0, .slice none 0 0] 26 from Ex.blk_st6 (A := []) (C := []) (o := 0) K2.out rfl (.int .u8 1) (.int .i64 1) (.string ⟨#[]⟩) (.string ⟨#[]⟩) (.slice none 0 0) (.slice none 0 0))
  go_wp2_with fail
  obtain ⟨q0, q1, q2, q3, q4, q5, qf⟩ := Ex.six hK.out
  exact bodyPost_ret (v := .agg #[.int .u8 1, .int .i64 1, .string ⟨#[]⟩, .string ⟨#[]⟩, .slice none 0 0, .slice none 0 0]) (by unfold Ex.st6 at q0 q1 q2 q3 q4 q5; simp [results, Tryz.results74, go_sem, q0, q1, q2, q3, q4, q5]) rfl ⟨⟨leaf 1 1 ⟨#[]⟩ ⟨#[]⟩, rfl, hlk9.out, leaf_ok (by decide) ⟨by decide, by decide⟩ (Nat.zero_le _) (Nat.zero_le _), leaf_in⟩, hB.out⟩
end Go.Proofs.YtihnhinnohnfgaaGreatDoor.Pol
