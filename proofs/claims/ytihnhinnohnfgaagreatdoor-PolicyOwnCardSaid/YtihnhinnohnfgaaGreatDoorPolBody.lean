/-
  policy.node, cond, named, scope, all, body: contracts. Written by wip/polbodygen.py.
-/
import Derived.Test.YtihnhinnohnfgaaGreatDoorPolMath
import Derived.Test.YtihnhinnohnfgaaGreatDoorExCopy
import Derived.Deep.RegionHeld3
namespace Go.Proofs.YtihnhinnohnfgaaGreatDoor.Pol
open Go.ChangeShapes Go.WideShapes Go.ChangeAt Go.RowKit
open Go.Proofs.YtihnhinnohnfgaaGreatDoor.Mem
open Go.Proofs.YtihnhinnohnfgaaGreatDoor.Ex (T)
set_option linter.unusedVariables false
set_option linter.unusedSimpArgs false
set_option maxRecDepth 100000
/-- an expression that is alike to x, stands, and lies in S -/
def Built (S : Nat → Prop) (x : T) (e : Ending) (w' : World) : Prop := ∃ y : T, e = .returned y.val ∧ x.like y ∧ y.ok w' ∧ y.inS S
theorem sl_none {S : Nat → Prop} {v : Value} : SlIn S v 0 := fun h => absurd h (Nat.lt_irrefl 0)
theorem leaf_in {S : Nat → Prop} {k : Nat} {n : Int} {s t : ByteArray} : (leaf k n s t).inS S := T.inS_iff.2 ⟨sl_none, sl_none, fun y hy => by cases hy⟩
theorem node_in {S : Nat → Prop} {k : Nat} {n : Int} {s t : ByteArray} {l : List T} {lv : Value} (h : SlIn S lv l.length) (hl : ∀ y ∈ l, y.inS S) : (T.mk k n s t [] nilV l lv).inS S := T.inS_iff.2 ⟨sl_none, h, hl⟩
theorem sl_at {S : Nat → Prop} {b o n c : Nat} {m : Nat} (h : S b) : SlIn S (.slice (some ⟨b, o, none⟩) n c) m := fun _ ao _ _ e a ha => by
  simp only [Value.slice.injEq] at e
  rw [← e.1] at ha
  cases ha
  exact h
theorem sl_sub {S R : Nat → Prop} {v : Value} {n : Nat} (h : SlIn S v n) (g : ∀ b, S b → R b) : SlIn R v n := fun h0 ao m cap e a ha => g _ (h h0 ao m cap e a ha)
theorem slv_blk {W : World} {b n : Nat} {cs : List Value} {ty : TypeId} (h : Blk W b cs ty) (hn : n ≤ 1000000) (h0 : n = 0 → cs = []) : SlV W (.slice (some ⟨b, 0, none⟩) n n) n cs :=
  ⟨some ⟨b, 0, none⟩, n, rfl, Nat.le_refl _, by unfold maxLen; omega, (fun e => by cases e), h0, fun a ha j hj => by cases ha; rw [Mem.add_plain, Nat.zero_add]; exact h.cell j hj⟩
theorem node_ok {W : World} {k : Nat} {t : ByteArray} {l : List T} {lv : Value} (hk : k < 256) (ht : t.size ≤ 140737488355328) (hn : l.length * 96 ≤ 140737488355328) (h : ∀ y ∈ l, y.ok W) (hs : SlV W lv l.length (T.encL l)) : (T.mk k 0 ⟨#[]⟩ t [] nilV l lv).ok W :=
  T.ok.mk' ⟨⟨hk, by show 0 * 16 ≤ _; omega, hn⟩, ⟨show (-9223372036854775808 : Int) ≤ 0 by decide, show (0 : Int) ≤ 9223372036854775807 by decide⟩, Nat.zero_le _, ht, (fun y (hy : y ∈ ([] : List ByteArray)) => by cases hy), SlV.nil W, hs, h⟩
theorem leaf_ok {W : World} {k : Nat} {n : Int} {s t : ByteArray} (hk : k < 256) (hn : -9223372036854775808 ≤ n ∧ n ≤ 9223372036854775807) (hs : s.size ≤ 140737488355328) (ht : t.size ≤ 140737488355328) : (leaf k n s t).ok W :=
  T.ok.mk' ⟨⟨hk, by show 0 * 16 ≤ _; omega, by show 0 * 96 ≤ _; omega⟩, hn, hs, ht, (fun y (hy : y ∈ ([] : List ByteArray)) => by cases hy), SlV.nil W, SlV.nil W, (fun y (hy : y ∈ ([] : List T)) => by cases hy)⟩
set_option maxHeartbeats 4000000 in
theorem node_any (k : Int) (lo : Option Addr) (n lc : Nat) (w : World) :
    Calls Tryz.prog 131 #[.int .u8 k, .slice lo n lc] w fun e w' => e = .returned (.agg #[.int .u8 k, .int .i64 0, .string ⟨#[]⟩, .string ⟨#[]⟩, .slice none 0 0, .slice lo n lc]) ∧ Below w.heap.size w w' := by
  go_enter Tryz.func131, Tryz.ntmps131
  go_upto_region 1 with fail
  have K1 := hid (Blk.new w [.int .u8 0, .int .i64 0, .string ⟨#[]⟩, .string ⟨#[]⟩, .slice none 0 0, .slice none 0 0] 26)
  have bw := hid ((Below.refl w.heap.size w).alloc (Nat.le_refl _) (.cells #[.int .u8 0, .int .i64 0, .string ⟨#[]⟩, .string ⟨#[]⟩, .slice none 0 0, .slice none 0 0] 26))
  generalize w.alloc (.cells #[.int .u8 0, .int .i64 0, .string ⟨#[]⟩, .string ⟨#[]⟩, .slice none 0 0, .slice none 0 0] 26) = X0 at K1 bw ⊢
  obtain ⟨c0, c1, c2, c3, c4, c5, cf⟩ := Ex.six K1.out
  have hB := hid (Ex.below_st6 bw.out (Nat.le_refl _) 0 (.int .u8 k) (.int .i64 0) (.string ⟨#[]⟩) (.string ⟨#[]⟩) (.slice none 0 0) (.slice lo n lc))
  have hK := hid (show Blk _ w.heap.size [.int .u8 k, .int .i64 0, .string ⟨#[]⟩, .string ⟨#[]⟩, .slice none 0 0, .slice lo n lc] 26 from Ex.blk_st6 (A := []) (C := []) (o := 0) K1.out rfl (.int .u8 k) (.int .i64 0) (.string ⟨#[]⟩) (.string ⟨#[]⟩) (.slice none 0 0) (.slice lo n lc))
  go_wp2_with fail
  obtain ⟨q0, q1, q2, q3, q4, q5, qf⟩ := Ex.six hK.out
  exact bodyPost_ret (v := .agg #[.int .u8 k, .int .i64 0, .string ⟨#[]⟩, .string ⟨#[]⟩, .slice none 0 0, .slice lo n lc]) (by unfold Ex.st6 at q0 q1 q2 q3 q4 q5; simp [results, Tryz.results131, go_sem, q0, q1, q2, q3, q4, q5]) rfl ⟨rfl, hB.out⟩
theorem seven {w : World} {b : Nat} {v0 v1 v2 v3 v4 v5 v6 : Value} {t : TypeId} (h : Blk w b [v0, v1, v2, v3, v4, v5, v6] t) :
    w.cell? ⟨b, 0, none⟩ = some v0 ∧ w.cell? ⟨b, 1, none⟩ = some v1 ∧ w.cell? ⟨b, 2, none⟩ = some v2 ∧ w.cell? ⟨b, 3, none⟩ = some v3 ∧ w.cell? ⟨b, 4, none⟩ = some v4 ∧ w.cell? ⟨b, 5, none⟩ = some v5 ∧ w.cell? ⟨b, 6, none⟩ = some v6 ∧ ∀ o, w.frozen? ⟨b, o, none⟩ = false :=
  ⟨h.cell 0 (by simp), h.cell 1 (by simp), h.cell 2 (by simp), h.cell 3 (by simp), h.cell 4 (by simp), h.cell 5 (by simp), h.cell 6 (by simp), fun o => by simp [World.frozen?, h.at']⟩
theorem enc_eq {x : T} {no lo : Option Addr} {nc lc : Nat} (e1 : x.nv = .slice no x.names.length nc) (e2 : x.lv = .slice lo x.list.length lc) : x.enc = [.int .u8 (x.kind : Nat), .int .i64 x.num, .string x.str, .string x.typ, .slice no x.names.length nc, .slice lo x.list.length lc] := by
  unfold T.enc
  rw [e1, e2]
set_option maxHeartbeats 4000000 in
theorem cond_any (c : Cd) (w : World) (h : c.e.ok w) (S : Nat → Prop) (hS : c.e.inS S) (hn : ∀ b, w.heap.size ≤ b → S b) :
    Calls Tryz.prog 75 #[.agg c.enc.toArray] w fun e w' => Built S (condT c) e w' ∧ Below w.heap.size w w' := by
  obtain ⟨no, nc, lo, lc, e1, e2, l1, l2⟩ := h.forms
  have hE := enc_eq e1 e2
  rw [show Value.agg c.enc.toArray = .agg #[.bool c.u, .int .u8 (c.e.kind : Nat), .int .i64 c.e.num, .string c.e.str, .string c.e.typ, .slice no c.e.names.length nc, .slice lo c.e.list.length lc] from by unfold Cd.enc; rw [hE]]
  have h' := hid h
  have hE' := hid hE
  have hv := hid (Ex.T.val_eq e1 e2)
  clear h e1 e2 hE
  go_enter Tryz.func75, Tryz.ntmps75
  go_upto_region 1 with fail
  have K1 := hid (Blk.new w [.bool c.u, .int .u8 (c.e.kind : Nat), .int .i64 c.e.num, .string c.e.str, .string c.e.typ, .slice no c.e.names.length nc, .slice lo c.e.list.length lc] 48)
  have bw := hid ((Below.refl w.heap.size w).alloc (Nat.le_refl _) (.cells #[.bool c.u, .int .u8 (c.e.kind : Nat), .int .i64 c.e.num, .string c.e.str, .string c.e.typ, .slice no c.e.names.length nc, .slice lo c.e.list.length lc] 48))
  have hs : w.heap.size + 1 = (w.alloc (.cells #[.bool c.u, .int .u8 (c.e.kind : Nat), .int .i64 c.e.num, .string c.e.str, .string c.e.typ, .slice no c.e.names.length nc, .slice lo c.e.list.length lc] 48)).heap.size := by simp
  generalize w.alloc (.cells #[.bool c.u, .int .u8 (c.e.kind : Nat), .int .i64 c.e.num, .string c.e.str, .string c.e.typ, .slice no c.e.names.length nc, .slice lo c.e.list.length lc] 48) = X0 at K1 bw hs ⊢
  have K2 := hid (Blk.new' X0 [.int .u8 0, .int .i64 0, .string ⟨#[]⟩, .string ⟨#[]⟩, .slice none 0 0, .slice none 0 0] 26 (w.heap.size + 1) hs)
  replace K1 := hid (K1.out.alloc (.cells #[.int .u8 0, .int .i64 0, .string ⟨#[]⟩, .string ⟨#[]⟩, .slice none 0 0, .slice none 0 0] 26))
  replace bw := hid (bw.out.alloc (by omega) (.cells #[.int .u8 0, .int .i64 0, .string ⟨#[]⟩, .string ⟨#[]⟩, .slice none 0 0, .slice none 0 0] 26))
  clear hs
  generalize X0.alloc (.cells #[.int .u8 0, .int .i64 0, .string ⟨#[]⟩, .string ⟨#[]⟩, .slice none 0 0, .slice none 0 0] 26) = X1 at K1 K2 bw ⊢
  obtain ⟨c0, c1, c2, c3, c4, c5, c6, cf⟩ := seven K1.out
  obtain ⟨d0, d1, d2, d3, d4, d5, df⟩ := Ex.six K2.out
  cases hu : c.u with
  | false =>
    rw [hu] at c0
    have hlk := hid (show (condT c).like c.e by unfold condT; rw [hu]; exact Ex.T.like_refl _)
    clear hu
    have hB := hid (Ex.below_st6 bw.out (g := w.heap.size + 1) (Nat.le_succ _) 0 (.int .u8 (c.e.kind : Nat)) (.int .i64 c.e.num) (.string c.e.str) (.string c.e.typ) (.slice no c.e.names.length nc) (.slice lo c.e.list.length lc))
    have hok := hid ((h'.out.below hB.out))
    have hK := hid (show Blk _ (w.heap.size + 1) [.int .u8 (c.e.kind : Nat), .int .i64 c.e.num, .string c.e.str, .string c.e.typ, .slice no c.e.names.length nc, .slice lo c.e.list.length lc] 26 from Ex.blk_st6 (A := []) (C := []) (o := 0) K2.out rfl (.int .u8 (c.e.kind : Nat)) (.int .i64 c.e.num) (.string c.e.str) (.string c.e.typ) (.slice no c.e.names.length nc) (.slice lo c.e.list.length lc))
    go_wp2_with fail
    obtain ⟨q0, q1, q2, q3, q4, q5, qf⟩ := Ex.six hK.out
    exact bodyPost_ret (v := .agg #[.int .u8 (c.e.kind : Nat), .int .i64 c.e.num, .string c.e.str, .string c.e.typ, .slice no c.e.names.length nc, .slice lo c.e.list.length lc]) (by unfold Ex.st6 at q0 q1 q2 q3 q4 q5; simp [results, Tryz.results75, go_sem, q0, q1, q2, q3, q4, q5]) rfl ⟨⟨c.e, by rw [hv.out], hlk.out, hok.out, hS⟩, hB.out⟩
  | true =>
    rw [hu] at c0
    have hlk := hid (show ∀ lv, (condT c).like (T.mk 12 0 ⟨#[]⟩ ⟨#[]⟩ [] nilV [c.e] lv) by intro lv; unfold condT; rw [hu]; exact wrap_like (Ex.T.likeL_of rfl (fun i h1 h2 => Ex.T.like_refl _)))
    clear hu
    have hlt := hid K2.out.lt
    go_wp2_with fail
    have K3 := hid (Blk.new X1 [.int .u8 (c.e.kind : Nat), .int .i64 c.e.num, .string c.e.str, .string c.e.typ, .slice no c.e.names.length nc, .slice lo c.e.list.length lc] 26)
    replace K2 := hid (K2.out.alloc (.cells #[.int .u8 (c.e.kind : Nat), .int .i64 c.e.num, .string c.e.str, .string c.e.typ, .slice no c.e.names.length nc, .slice lo c.e.list.length lc] 26))
    replace bw := hid (bw.out.alloc bw.out.size (.cells #[.int .u8 (c.e.kind : Nat), .int .i64 c.e.num, .string c.e.str, .string c.e.typ, .slice no c.e.names.length nc, .slice lo c.e.list.length lc] 26))
    clear c0 c1 c2 c3 c4 c5 c6 cf d0 d1 d2 d3 d4 d5 df
    generalize X1.alloc (.cells #[.int .u8 (c.e.kind : Nat), .int .i64 c.e.num, .string c.e.str, .string c.e.typ, .slice no c.e.names.length nc, .slice lo c.e.list.length lc] 26) = X2 at K2 K3 bw ⊢
    generalize X1.heap.size = b9 at K3 hlt ⊢
    refine (node_any _ _ _ _ _).mono ?_
    rintro e w3 ⟨rfl, b3⟩
    replace K2 := hid (K2.out.below b3 K2.out.lt)
    replace K3 := hid (K3.out.below b3 K3.out.lt)
    replace bw := hid (bt bw.out b3)
    clear b3
    obtain ⟨d0, d1, d2, d3, d4, d5, df⟩ := Ex.six K2.out
    have hB := hid (Ex.below_st6 bw.out (g := w.heap.size + 1) (Nat.le_succ _) 0 (.int .u8 12) (.int .i64 0) (.string ⟨#[]⟩) (.string ⟨#[]⟩) (.slice none 0 0) (.slice (some ⟨b9, 0, none⟩) 1 1))
    have hok := hid (node_ok (k := 12) (t := ⟨#[]⟩) (l := [c.e]) (by decide) (Nat.zero_le _) (by show 1 * 96 ≤ _; decide) (fun y hy => by rw [List.mem_singleton] at hy; subst hy; exact h'.out.below hB.out)
      (slv_blk (n := 1) (Blk.keepAt (show Blk w3 b9 (T.encL [c.e]) 26 from by rw [show T.encL [c.e] = c.e.enc from by simp [T.encL], hE'.out]; exact K3.out) (Ex.heap_st6 w3 (w.heap.size + 1) 0 (.int .u8 12) (.int .i64 0) (.string ⟨#[]⟩) (.string ⟨#[]⟩) (.slice none 0 0) (.slice (some ⟨b9, 0, none⟩) 1 1) (by have := hlt.out; omega))) (by decide) (fun e => by cases e)))
    have hK := hid (show Blk _ (w.heap.size + 1) [.int .u8 12, .int .i64 0, .string ⟨#[]⟩, .string ⟨#[]⟩, .slice none 0 0, .slice (some ⟨b9, 0, none⟩) 1 1] 26 from Ex.blk_st6 (A := []) (C := []) (o := 0) K2.out rfl (.int .u8 12) (.int .i64 0) (.string ⟨#[]⟩) (.string ⟨#[]⟩) (.slice none 0 0) (.slice (some ⟨b9, 0, none⟩) 1 1))
    go_wp2_with fail
    obtain ⟨q0, q1, q2, q3, q4, q5, qf⟩ := Ex.six hK.out
    exact bodyPost_ret (v := .agg #[.int .u8 12, .int .i64 0, .string ⟨#[]⟩, .string ⟨#[]⟩, .slice none 0 0, .slice (some ⟨b9, 0, none⟩) 1 1]) (by unfold Ex.st6 at q0 q1 q2 q3 q4 q5; simp [results, Tryz.results75, go_sem, q0, q1, q2, q3, q4, q5]) rfl ⟨⟨_, rfl, hlk.out _, hok.out, node_in (sl_at (hn _ (by have := hlt.out; omega))) (fun y hy => by rw [List.mem_singleton] at hy; subst hy; exact hS)⟩, hB.out⟩
theorem entL_step (l : List Ud) (k : Nat) (h : k < l.length) : T.encL ((l.map entT).take (k + 1)) = T.encL ((l.map entT).take k) ++ [.int .u8 4, .int .i64 0, .string l[k].2, .string l[k].1, .slice none 0 0, .slice none 0 0] := by
  rw [List.take_succ_eq_append_getElem (by simpa using h), Ex.encL_append, List.getElem_map]
  rfl
theorem ent_ok (u : Ud) (w : World) (h1 : u.1.size ≤ 140737488355328) (h2 : u.2.size ≤ 140737488355328) : (entT u).ok w := leaf_ok (by decide) ⟨by decide, by decide⟩ h2 h1
theorem headD_get (l : List Ud) (d : Ud) (h : 0 < l.length) : l.headD d = l[0] := by
  cases l with
  | nil => simp at h
  | cons x l => rfl
set_option maxHeartbeats 8000000 in
theorem named_any (nm : ByteArray) (act : Bool) (hact : (nm.toList == [97, 99, 116, 105, 111, 110]) = act) (s : Sc) (w : World) (h : s.ok w) (h0 : 1 ≤ s.us.length) (h16 : s.us.length ≤ 16) (S : Nat → Prop) (hS : ∀ b, w.heap.size ≤ b → S b) :
    Calls Tryz.prog 130 #[.string nm, s.val] w fun e w' => Built S (namedT act s) e w' ∧ Below w.heap.size w w' := by
  obtain ⟨uo, uc, e1, hl⟩ := h.form
  rw [show s.val = .agg #[.int .u8 (s.k : Nat), .slice uo s.us.length uc, .string s.t] from by unfold Sc.val Sc.enc; rw [e1]]
  have i2 : (s.us.length : Int) ≤ 9223372036854775807 := by omega
  have h' := hid h
  have e1' := hid e1
  have hz := hid h.2.2.1
  obtain ⟨n, hn⟩ : ∃ n, s.us.length = n := ⟨_, rfl⟩
  obtain ⟨kk, hkk⟩ : ∃ n, s.k = n := ⟨_, rfl⟩
  have hN := hid (show namedT act s = if act = true ∧ kk = 2 then wrapT 6 ⟨#[]⟩ (s.us.map entT) else entT (s.us.headD (⟨#[]⟩, ⟨#[]⟩)) from by unfold namedT; rw [hkk])
  clear h e1
  rw [hn] at i2 hl h0 h16 ⊢
  rw [hkk]
  replace hn := hid hn
  replace hkk := hid hkk
  go_enter Tryz.func130, Tryz.ntmps130
  go_upto_region 1 with fail
  have K1 := hid (Blk.new w [.int .u8 (kk : Nat), .slice uo n uc, .string s.t] 36)
  have bw := hid ((Below.refl w.heap.size w).alloc (Nat.le_refl _) (.cells #[.int .u8 (kk : Nat), .slice uo n uc, .string s.t] 36))
  have hs : w.heap.size + 1 = (w.alloc (.cells #[.int .u8 (kk : Nat), .slice uo n uc, .string s.t] 36)).heap.size := by simp
  generalize w.alloc (.cells #[.int .u8 (kk : Nat), .slice uo n uc, .string s.t] 36) = X0 at K1 bw hs ⊢
  have K2 := hid (Blk.new' X0 [.int .u8 0, .int .i64 0, .string ⟨#[]⟩, .string ⟨#[]⟩, .slice none 0 0, .slice none 0 0] 26 (w.heap.size + 1) hs)
  replace K1 := hid (K1.out.alloc (.cells #[.int .u8 0, .int .i64 0, .string ⟨#[]⟩, .string ⟨#[]⟩, .slice none 0 0, .slice none 0 0] 26))
  replace bw := hid (bw.out.alloc (by omega) (.cells #[.int .u8 0, .int .i64 0, .string ⟨#[]⟩, .string ⟨#[]⟩, .slice none 0 0, .slice none 0 0] 26))
  have hs2 := hid (show w.heap.size + 2 = (X0.alloc (.cells #[.int .u8 0, .int .i64 0, .string ⟨#[]⟩, .string ⟨#[]⟩, .slice none 0 0, .slice none 0 0] 26)).heap.size by simp; omega)
  clear hs
  generalize X0.alloc (.cells #[.int .u8 0, .int .i64 0, .string ⟨#[]⟩, .string ⟨#[]⟩, .slice none 0 0, .slice none 0 0] 26) = X1 at K1 K2 bw hs2 ⊢
  obtain ⟨ie, hi, hz0, hz1, hz2⟩ := Ex.info_parts' Ex.info_expr
  obtain ⟨c0, c1, c2, cf⟩ := K1.out.three
  go_wp2_with fail
  go_loopw [5, 11] (fun av i wr => ∃ k : Nat, k ≤ n ∧ i = .int .i64 k ∧ (∃ ao cap, av = .slice ao k cap ∧ Hid (wr.ownsRow (w.heap.size + 2) 26 6 (.slice ao k cap) k (T.encL ((s.us.map entT).take k)))) ∧ Hid (Blk wr w.heap.size [.int .u8 (kk : Nat), .slice uo n uc, .string s.t] 36) ∧ Hid (Blk wr (w.heap.size + 1) [.int .u8 0, .int .i64 0, .string ⟨#[]⟩, .string ⟨#[]⟩, .slice none 0 0, .slice none 0 0] 26) ∧ Hid (w.heap.size + 2 ≤ wr.heap.size) ∧ Hid (Below w.heap.size w wr)) (fun _ i _ => n - (intOf i).toNat)
  case atStart => exact ⟨0, by omega, rfl, ⟨none, 0, rfl, hid (by show World.ownsRow _ _ _ _ _ _ []; exact World.ownsRow_nil _ _ _ _)⟩, K1, K2, hid (by have := hs2.out; omega), bw⟩
  case round =>
    clear c0 c1 c2 cf K1 K2 bw hs2
    obtain ⟨k, hk, rfl, ⟨ao, cap, rfl, hown⟩, K1, K2, hge, bw⟩ := hrel
    rename_i wr _
    by_cases hkn : k < n
    · have hki : (k : Int) < (n : Int) := by omega
      have hkl : k < s.us.length := by have := hn.out; omega
      obtain ⟨b, off, cap9, e, -, -, -, hc⟩ := uid_open (h'.out.below bw.out).2.2.2 (by omega)
      rw [e1'.out, hn.out] at e
      simp only [Value.slice.injEq] at e
      obtain ⟨rfl, -, -⟩ := e
      obtain ⟨x0, x1⟩ := hc k hkl
      have hst := hid (entL_step s.us k hkl)
      generalize s.us[k].1 = sa at x0 hst
      generalize s.us[k].2 = sb at x1 hst
      clear hc hkl
      go_upto_region 5 with fail
      have hown4 := hid (ownsRow_below hown.out ((Below.refl wr.heap.size wr).alloc (Nat.le_refl _) (.cells #[.string sa, .string sb] 137)))
      have K4 := hid (Blk.new wr [.string sa, .string sb] 137)
      replace K1 := hid (K1.out.alloc (.cells #[.string sa, .string sb] 137))
      replace K2 := hid (K2.out.alloc (.cells #[.string sa, .string sb] 137))
      replace bw := hid (bw.out.alloc bw.out.size (.cells #[.string sa, .string sb] 137))
      replace hge := hid (show w.heap.size + 2 ≤ (wr.alloc (.cells #[.string sa, .string sb] 137)).heap.size by have := hge.out; simp; omega)
      clear x0 x1 hown
      generalize wr.alloc (.cells #[.string sa, .string sb] 137) = X3 at K1 K2 K4 bw hown4 hge ⊢
      obtain ⟨f0, f1, ff⟩ := K4.out.two
      go_wp2_with (at_builtin; refine wpList_append_own _ rfl _ _ 24 rfl (w.heap.size + 2) 26 ie (.agg #[.int .u8 0, .int .i64 0, .string ⟨#[]⟩, .string ⟨#[]⟩, .slice none 0 0, .slice none 0 0]) 6 96 Tryz.underlying24 hi hz0 hz1 hz2 rfl (by decide) _ _ _ rfl (hown4.out.alloc _) ⟨X3.heap.size, 0, none⟩ 1 1 [.int .u8 4, .int .i64 0, .string sb, .string sa, .slice none 0 0, .slice none 0 0] rfl rfl ?c1 ?c2 ?c3 ?c4 ?c5 ?_)
      case c1 => exact getElem?_cells' (fun j hj => by rw [Mem.add_plain, Nat.zero_add]; exact (Blk.new X3 [.int .u8 4, .int .i64 0, .string sb, .string sa, .slice none 0 0, .slice none 0 0] 26).cell j hj)
      case c2 => simp [Value.oneCell']
      case c3 => unfold maxLen; omega
      case c4 => omega
      case c5 => simp; have := hge.out; omega
      intro v' w6 hown6 hg6 _
      have hlt := hid (fun k hk => (hown4.out.lt k hk).1)
      have hb6 := hid ((bw.out.alloc bw.out.size (.cells #[.int .u8 4, .int .i64 0, .string sb, .string sa, .slice none 0 0, .slice none 0 0] 26)).grown hg6 (by simp; have := bw.out.size; omega) (fun k hk => by have := hlt.out k hk; omega))
      replace K1 := hid (show Blk w6 w.heap.size [.int .u8 (kk : Nat), .slice (some ⟨b, off, none⟩) n uc, .string s.t] 36 from ⟨(hg6.block w.heap.size (by have := K1.out.lt; simp; omega) (fun e => by have := hlt.out _ e.symm; omega)).trans (K1.out.alloc (.cells #[.int .u8 4, .int .i64 0, .string sb, .string sa, .slice none 0 0, .slice none 0 0] 26)).at'⟩)
      replace K2 := hid (show Blk w6 (w.heap.size + 1) [.int .u8 0, .int .i64 0, .string ⟨#[]⟩, .string ⟨#[]⟩, .slice none 0 0, .slice none 0 0] 26 from ⟨(hg6.block (w.heap.size + 1) (by have := K2.out.lt; simp; omega) (fun e => by have := hlt.out _ e.symm; omega)).trans (K2.out.alloc (.cells #[.int .u8 4, .int .i64 0, .string sb, .string sa, .slice none 0 0, .slice none 0 0] 26)).at'⟩)
      replace hge := hid (show w.heap.size + 2 ≤ w6.heap.size by have := hb6.out.size; have := K2.out.lt; omega)
      clear f0 f1 ff K4 bw hlt hg6 hown4
      obtain ⟨vo', vc', rfl, _, _⟩ := ownsRow_form hown6
      replace hown6 := hid (by rw [← hst.out] at hown6; exact hown6)
      go_wp2_with fail
      go_roundw
      case rel => exact ⟨k + 1, by omega, by go_num, ⟨_, _, rfl, hown6⟩, K1, K2, hge, hb6⟩
      case measure => simp [intOf]; omega
    · have hki : ¬ (k : Int) < (n : Int) := by omega
      obtain rfl : k = n := by omega
      have hfull : (s.us.map entT).take k = s.us.map entT := List.take_of_length_le (by rw [List.length_map]; have := hn.out; omega)
      rw [hfull] at hown
      clear hfull
      obtain ⟨c0, c1, c2, cf⟩ := K1.out.three
      obtain ⟨d0, d1, d2, d3, d4, d5, df⟩ := Ex.six K2.out
      cases act with
      | false =>
        have hN3 := hid (hN.out.trans (if_neg (by simp)))
        obtain ⟨g, tail, hg0, hgb, hrw⟩ : ∃ g tail, ao = some ⟨g, 0, none⟩ ∧ w.heap.size + 2 ≤ g ∧ Blk wr g (T.encL (s.us.map entT) ++ tail) 26 := by
          rcases (own_blk hown.out).1 with ⟨h1, h2⟩ | ⟨g, tail, h1, h2, h3⟩
          · exfalso
            have := congrArg List.length h1
            rw [T.encL_len, List.length_map, List.length_nil] at this
            have := hn.out
            omega
          · exact ⟨g, tail, h1, h2, h3⟩
        subst hg0
        have hl0 : 0 < s.us.length := by have := hn.out; omega
        obtain ⟨u, hu⟩ : ∃ u, s.us[0] = u := ⟨_, rfl⟩
        have hcc := Ex.row_cells hrw 0 (by rw [List.length_map]; exact hl0)
        rw [List.getElem_map, hu] at hcc
        replace hcc : wr.cell? ⟨g, 0, none⟩ = some (.int .u8 4) ∧ wr.cell? ⟨g, 1, none⟩ = some (.int .i64 0) ∧ wr.cell? ⟨g, 2, none⟩ = some (.string u.2) ∧ wr.cell? ⟨g, 3, none⟩ = some (.string u.1) ∧ wr.cell? ⟨g, 4, none⟩ = some (.slice none 0 0) ∧ wr.cell? ⟨g, 5, none⟩ = some (.slice none 0 0) ∧ ∀ o, wr.frozen? ⟨g, o, none⟩ = false := by
          simp only [Nat.zero_mul, Nat.zero_add] at hcc
          exact hcc
        obtain ⟨r0, r1, r2, r3, r4, r5, rf⟩ := hcc
        have hk0 : (0 : Int) < (k : Int) := by omega
        have hlk := hid (show (namedT false s).like (entT u) by rw [hN3.out, headD_get _ _ hl0, hu]; exact Ex.T.like_refl _)
        have hue := hid (show (entT u).val = .agg #[.int .u8 4, .int .i64 0, .string u.2, .string u.1, .slice none 0 0, .slice none 0 0] from rfl)
        have huz := hid (hz.out u (hu ▸ List.getElem_mem hl0))
        clear hl0 hu hrw hown hN hN3 hz
        have hB := hid (Ex.below_st6 bw.out (g := w.heap.size + 1) (Nat.le_succ _) 0 (.int .u8 4) (.int .i64 0) (.string u.2) (.string u.1) (.slice none 0 0) (.slice none 0 0))
        have hK := hid (show Blk _ (w.heap.size + 1) [.int .u8 4, .int .i64 0, .string u.2, .string u.1, .slice none 0 0, .slice none 0 0] 26 from Ex.blk_st6 (A := []) (C := []) (o := 0) K2.out rfl (.int .u8 4) (.int .i64 0) (.string u.2) (.string u.1) (.slice none 0 0) (.slice none 0 0))
        go_wp2_with fail
        obtain ⟨q0, q1, q2, q3, q4, q5, qf⟩ := Ex.six hK.out
        exact bodyPost_ret (v := .agg #[.int .u8 4, .int .i64 0, .string u.2, .string u.1, .slice none 0 0, .slice none 0 0]) (by unfold Ex.st6 at q0 q1 q2 q3 q4 q5; simp [results, Tryz.results130, go_sem, q0, q1, q2, q3, q4, q5]) rfl ⟨⟨entT u, by rw [hue.out], hlk.out, ent_ok u _ huz.out.1 huz.out.2, leaf_in⟩, hB.out⟩
      | true =>
        by_cases h2 : kk = 2
        · have g2 : ((kk : Int) == 2) = true := by rw [h2]; rfl
          have hN3 := hid (hN.out.trans (if_pos ⟨rfl, h2⟩))
          clear h2
          go_wp2_with fail
          refine (node_any _ _ _ _ _).mono ?_
          rintro e w3 ⟨rfl, b3⟩
          replace K2 := hid (K2.out.below b3 K2.out.lt)
          replace bw := hid (bt bw.out b3)
          have hown5 := hid (ownsRow_below hown.out b3)
          clear b3 c0 c1 c2 cf d0 d1 d2 d3 d4 d5 df hown K1 hN
          obtain ⟨d0, d1, d2, d3, d4, d5, df⟩ := Ex.six K2.out
          have hlen := hid (show (s.us.map entT).length = k by rw [List.length_map]; exact hn.out)
          have hB := hid (Ex.below_st6 bw.out (g := w.heap.size + 1) (Nat.le_succ _) 0 (.int .u8 6) (.int .i64 0) (.string ⟨#[]⟩) (.string ⟨#[]⟩) (.slice none 0 0) (.slice ao k cap))
          have hsl := hid (sl_stay (w' := Ex.st6 w3 (w.heap.size + 1) 0 (.int .u8 6) (.int .i64 0) (.string ⟨#[]⟩) (.string ⟨#[]⟩) (.slice none 0 0) (.slice ao k cap)) (SlV.own hown5.out) (fun e => by omega) (own_in hown5.out) (fun k hk => Ex.heap_st6 _ _ _ _ _ _ _ _ _ (by have := hk.1; omega)))
          have hok := hid (node_ok (W := Ex.st6 w3 (w.heap.size + 1) 0 (.int .u8 6) (.int .i64 0) (.string ⟨#[]⟩) (.string ⟨#[]⟩) (.slice none 0 0) (.slice ao k cap)) (k := 6) (t := ⟨#[]⟩) (l := s.us.map entT) (lv := .slice ao k cap) (by decide) (Nat.zero_le _) (by rw [hlen.out]; omega) (fun y hy => by obtain ⟨u, hu, rfl⟩ := List.mem_map.1 hy; exact ent_ok u _ (hz.out u hu).1 (hz.out u hu).2) (by rw [hlen.out]; exact hsl.out))
          have hlk := hid (show (namedT true s).like (T.mk 6 0 ⟨#[]⟩ ⟨#[]⟩ [] nilV (s.us.map entT) (.slice ao k cap)) by rw [hN3.out]; exact wrap_like (Ex.T.likeL_of rfl (fun i h1 h2 => Ex.T.like_refl _)))
          have hin := hid (node_in (S := S) (k := 6) (n := 0) (s := ⟨#[]⟩) (t := ⟨#[]⟩) (l := s.us.map entT) (lv := .slice ao k cap) (by rw [hlen.out]; exact sl_sub (own_in hown5.out) (fun b hb => hS b (by have := hb.1; omega))) (fun y hy => by obtain ⟨u, _, rfl⟩ := List.mem_map.1 hy; exact leaf_in))
          clear hsl hown5 hlen
          have hK := hid (show Blk _ (w.heap.size + 1) [.int .u8 6, .int .i64 0, .string ⟨#[]⟩, .string ⟨#[]⟩, .slice none 0 0, .slice ao k cap] 26 from Ex.blk_st6 (A := []) (C := []) (o := 0) K2.out rfl (.int .u8 6) (.int .i64 0) (.string ⟨#[]⟩) (.string ⟨#[]⟩) (.slice none 0 0) (.slice ao k cap))
          go_wp2_with fail
          obtain ⟨q0, q1, q2, q3, q4, q5, qf⟩ := Ex.six hK.out
          exact bodyPost_ret (v := .agg #[.int .u8 6, .int .i64 0, .string ⟨#[]⟩, .string ⟨#[]⟩, .slice none 0 0, .slice ao k cap]) (by unfold Ex.st6 at q0 q1 q2 q3 q4 q5; simp [results, Tryz.results130, go_sem, q0, q1, q2, q3, q4, q5]) rfl ⟨⟨_, rfl, hlk.out, hok.out, hin.out⟩, hB.out⟩
        · have g2 : ((kk : Int) == 2) = false := by rw [beq_eq_false_iff_ne]; omega
          have hN3 := hid (hN.out.trans (if_neg (by simp; exact h2)))
          clear h2
          obtain ⟨g, tail, hg0, hgb, hrw⟩ : ∃ g tail, ao = some ⟨g, 0, none⟩ ∧ w.heap.size + 2 ≤ g ∧ Blk wr g (T.encL (s.us.map entT) ++ tail) 26 := by
            rcases (own_blk hown.out).1 with ⟨h1, h2⟩ | ⟨g, tail, h1, h2, h3⟩
            · exfalso
              have := congrArg List.length h1
              rw [T.encL_len, List.length_map, List.length_nil] at this
              have := hn.out
              omega
            · exact ⟨g, tail, h1, h2, h3⟩
          subst hg0
          have hl0 : 0 < s.us.length := by have := hn.out; omega
          obtain ⟨u, hu⟩ : ∃ u, s.us[0] = u := ⟨_, rfl⟩
          have hcc := Ex.row_cells hrw 0 (by rw [List.length_map]; exact hl0)
          rw [List.getElem_map, hu] at hcc
          replace hcc : wr.cell? ⟨g, 0, none⟩ = some (.int .u8 4) ∧ wr.cell? ⟨g, 1, none⟩ = some (.int .i64 0) ∧ wr.cell? ⟨g, 2, none⟩ = some (.string u.2) ∧ wr.cell? ⟨g, 3, none⟩ = some (.string u.1) ∧ wr.cell? ⟨g, 4, none⟩ = some (.slice none 0 0) ∧ wr.cell? ⟨g, 5, none⟩ = some (.slice none 0 0) ∧ ∀ o, wr.frozen? ⟨g, o, none⟩ = false := by
            simp only [Nat.zero_mul, Nat.zero_add] at hcc
            exact hcc
          obtain ⟨r0, r1, r2, r3, r4, r5, rf⟩ := hcc
          have hk0 : (0 : Int) < (k : Int) := by omega
          have hlk := hid (show (namedT true s).like (entT u) by rw [hN3.out, headD_get _ _ hl0, hu]; exact Ex.T.like_refl _)
          have hue := hid (show (entT u).val = .agg #[.int .u8 4, .int .i64 0, .string u.2, .string u.1, .slice none 0 0, .slice none 0 0] from rfl)
          have huz := hid (hz.out u (hu ▸ List.getElem_mem hl0))
          clear hl0 hu hrw hown hN hN3 hz
          have hB := hid (Ex.below_st6 bw.out (g := w.heap.size + 1) (Nat.le_succ _) 0 (.int .u8 4) (.int .i64 0) (.string u.2) (.string u.1) (.slice none 0 0) (.slice none 0 0))
          have hK := hid (show Blk _ (w.heap.size + 1) [.int .u8 4, .int .i64 0, .string u.2, .string u.1, .slice none 0 0, .slice none 0 0] 26 from Ex.blk_st6 (A := []) (C := []) (o := 0) K2.out rfl (.int .u8 4) (.int .i64 0) (.string u.2) (.string u.1) (.slice none 0 0) (.slice none 0 0))
          go_wp2_with fail
          obtain ⟨q0, q1, q2, q3, q4, q5, qf⟩ := Ex.six hK.out
          exact bodyPost_ret (v := .agg #[.int .u8 4, .int .i64 0, .string u.2, .string u.1, .slice none 0 0, .slice none 0 0]) (by unfold Ex.st6 at q0 q1 q2 q3 q4 q5; simp [results, Tryz.results130, go_sem, q0, q1, q2, q3, q4, q5]) rfl ⟨⟨entT u, by rw [hue.out], hlk.out, ent_ok u _ huz.out.1 huz.out.2, leaf_in⟩, hB.out⟩
end Go.Proofs.YtihnhinnohnfgaaGreatDoor.Pol
