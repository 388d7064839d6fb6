/-
  policy.all: contract. Written by wip/polallgen.py.
-/
import Derived.Test.YtihnhinnohnfgaaGreatDoorPolBody2
namespace Go.Proofs.YtihnhinnohnfgaaGreatDoor.Pol
open Go.ChangeShapes Go.WideShapes Go.ChangeAt Go.RowKit
open Go.Proofs.YtihnhinnohnfgaaGreatDoor.Mem
open Go.Proofs.YtihnhinnohnfgaaGreatDoor.Ex (T)
set_option linter.unusedVariables false
set_option linter.unusedSimpArgs false
set_option maxRecDepth 100000
theorem andL_like {w w' : T} {a b : List T} (h : w.like w') (g : T.likeL a b) : (andL w a).like (andL w' b) := by
  induction a generalizing b w w' with
  | nil =>
    cases b with
    | nil => exact h
    | cons y b => exact absurd g (by simp [T.likeL])
  | cons x a ih =>
    cases b with
    | nil => exact absurd g (by simp [T.likeL])
    | cons y b => exact ih (w := wrapT 15 ⟨#[]⟩ [w, x]) (w' := wrapT 15 ⟨#[]⟩ [w', y]) (wrap_like (show T.likeL [w, x] [w', y] from ⟨h, g.1, trivial⟩)) g.2
theorem allT_like {a b : List T} (g : T.likeL a b) : (allT a).like (allT b) := by
  cases a with
  | nil =>
    cases b with
    | nil => exact Ex.T.like_refl _
    | cons y b => exact absurd g (by simp [T.likeL])
  | cons x a =>
    cases b with
    | nil => exact absurd g (by simp [T.likeL])
    | cons y b => exact andL_like g.1 g.2
theorem inS_and {S R : Nat → Prop} : ∀ {x : T}, x.inS S → x.inS R → x.inS (fun k => S k ∧ R k) := by
  suffices h : ∀ n (x : T), x.size ≤ n → x.inS S → x.inS R → x.inS (fun k => S k ∧ R k) from fun {x} => h x.size x (Nat.le_refl _)
  intro n
  induction n with
  | zero => intro x hx; have := x.size_pos; omega
  | succ n ih =>
    intro x hx hS hR
    obtain ⟨s1, s2, s3⟩ := T.inS_iff.1 hS
    obtain ⟨r1, r2, r3⟩ := T.inS_iff.1 hR
    exact T.inS_iff.2 ⟨fun hn ao m cap e a ha => ⟨s1 hn ao m cap e a ha, r1 hn ao m cap e a ha⟩, fun hn ao m cap e a ha => ⟨s2 hn ao m cap e a ha, r2 hn ao m cap e a ha⟩, fun y hy => ih y (by have := T.size_part hy; omega) (s3 y hy) (r3 y hy)⟩
/-- the cells of one of a row that is read -/
theorem row6 {w : World} {v : Value} {l : List T} (h : SlV w v l.length (T.encL l)) (hc : 0 < l.length) :
    ∃ b off cap, v = .slice (some ⟨b, off, none⟩) l.length cap ∧ l.length ≤ cap ∧ cap ≤ maxLen ∧ b < w.heap.size ∧
      ∀ i (hi : i < l.length), w.cell? ⟨b, off + i * 6, none⟩ = some (.int .u8 (l[i].kind : Nat)) ∧ w.cell? ⟨b, off + i * 6 + 1, none⟩ = some (.int .i64 l[i].num) ∧ w.cell? ⟨b, off + i * 6 + 2, none⟩ = some (.string l[i].str) ∧
        w.cell? ⟨b, off + i * 6 + 3, none⟩ = some (.string l[i].typ) ∧ w.cell? ⟨b, off + i * 6 + 4, none⟩ = some l[i].nv ∧ w.cell? ⟨b, off + i * 6 + 5, none⟩ = some l[i].lv := by
  obtain ⟨b, off, cap, h1, h2, h3, h4, h5⟩ := SlV.open h (by rw [T.encL_len]; omega)
  refine ⟨b, off, cap, h1, h2, h3, h4, fun i hi => ?_⟩
  have key : ∀ j, j < 6 → w.cell? ⟨b, off + i * 6 + j, none⟩ = (l[i].enc)[j]? := fun j hj => by
    have hl : i * 6 + j < (T.encL l).length := by rw [T.encL_len]; omega
    rw [Nat.add_assoc, h5 _ hl, ← T.encL_get l i hi j hj, List.getElem?_eq_getElem hl]
  exact ⟨key 0 (by omega), key 1 (by omega), key 2 (by omega), key 3 (by omega), key 4 (by omega), key 5 (by omega)⟩
theorem andL_drop (w : T) (l : List T) (k : Nat) (h : k + 1 < l.length) : andL w ((l.drop 1).take (k + 1)) = wrapT 15 ⟨#[]⟩ [andL w ((l.drop 1).take k), l[k + 1]] := by
  rw [andL_step w (l.drop 1) k (by rw [List.length_drop]; omega), List.getElem_drop]
  congr 3
  simp [Nat.add_comm]
set_option maxHeartbeats 8000000 in
theorem all_any (l : List T) (v : Value) (w : World) (hv : SlV w v l.length (T.encL l)) (hok : ∀ y ∈ l, y.ok w) (h2 : 2 ≤ l.length) (S : Nat → Prop) (hS : ∀ y ∈ l, y.inS S) (hn : ∀ b, w.heap.size ≤ b → S b) :
    Calls Tryz.prog 76 #[v] w fun e w' => Built S (allT l) e w' ∧ Below w.heap.size w w' := by
  obtain ⟨b, off, cap, rfl, m1, m2, m3, hc⟩ := row6 hv (by omega)
  have hl : cap ≤ 9223372036854775807 := by unfold maxLen at m2; omega
  obtain ⟨n, hln⟩ : ∃ n, l.length = n + 1 := ⟨l.length - 1, by omega⟩
  have i2 : (n : Int) + 1 ≤ 9223372036854775807 := by omega
  have hw := hid (fun W (B : Below w.heap.size w W) i hi => (show _ ∧ _ ∧ _ ∧ _ ∧ _ ∧ _ from ⟨cell_below B _ _ (hc i hi).1, cell_below B _ _ (hc i hi).2.1, cell_below B _ _ (hc i hi).2.2.1, cell_below B _ _ (hc i hi).2.2.2.1, cell_below B _ _ (hc i hi).2.2.2.2.1, cell_below B _ _ (hc i hi).2.2.2.2.2⟩))
  have hok' := hid hok
  have hin := hid (fun y (hy : y ∈ l) => (show y.inS (fun k => S k ∧ k ≠ w.heap.size ∧ k ≠ w.heap.size + 1) from
    (inS_and (hS y hy) (hok y hy).inS).mono (fun k hk => ⟨hk.1, by have := hk.2; omega, by have := hk.2; omega⟩)))
  have hat := hid (show allT l = andL (l[0]'(by omega)) ((l.drop 1).take n) by
    unfold allT
    cases l with
    | nil => simp at h2
    | cons x l =>
      simp only [List.drop_one, List.tail_cons, List.headD_cons, List.getElem_cons_zero]
      rw [List.take_of_length_le (by simp at hln; omega)])
  obtain ⟨R, hR⟩ : ∃ R, allT l = R := ⟨_, rfl⟩
  rw [hR] at hat ⊢
  clear hR
  have hl0 : 0 < l.length := by omega
  obtain ⟨x, hx⟩ : ∃ x, l[0] = x := ⟨_, rfl⟩
  have hxc := hc 0 hl0
  rw [hx] at hxc hat
  have hxok := hok'.out x (hx ▸ List.getElem_mem hl0)
  have hxin := hid (hin.out x (hx ▸ List.getElem_mem hl0))
  obtain ⟨xno, xnc, xlo, xlc, ex1, ex2, xl1, xl2⟩ := hxok.forms
  rw [ex1, ex2] at hxc
  have hxe := hid (enc_eq ex1 ex2)
  simp only [Nat.zero_mul, Nat.add_zero] at hxc
  obtain ⟨x0, x1, x2, x3, x4, x5⟩ := hxc
  have hxok' := hid hxok
  have hlen : l.length = n + 1 := hln
  have hcap1 : 1 ≤ cap := by omega
  have hcapn : cap ≠ 1 := by omega
  have hcapi : (1 : Int) ≤ (cap : Int) := by omega
  have hc2 : (n : Int) + 1 ≤ (cap : Int) := by omega
  have hc0 : (0 : Int) < (n : Int) + 1 := by omega
  have hn1 := hid (show 1 ≤ n by omega)
  replace hx := hid hx
  replace hln := hid hln
  rw [hlen]
  replace hn := hid hn
  clear hx
  clear hlen hv hok hS hc hxok ex1 ex2 h2 m1 m2 hl0
  go_enter Tryz.func76, Tryz.ntmps76
  go_upto_region 1 with fail
  have K1 := hid (Blk.new w [.int .u8 0, .int .i64 0, .string ⟨#[]⟩, .string ⟨#[]⟩, .slice none 0 0, .slice none 0 0] 26)
  have bw := hid ((Below.refl w.heap.size w).alloc (Nat.le_refl _) (.cells #[.int .u8 0, .int .i64 0, .string ⟨#[]⟩, .string ⟨#[]⟩, .slice none 0 0, .slice none 0 0] 26))
  have hs := hid (show w.heap.size + 1 = (w.alloc (.cells #[.int .u8 0, .int .i64 0, .string ⟨#[]⟩, .string ⟨#[]⟩, .slice none 0 0, .slice none 0 0] 26)).heap.size by simp)
  replace x0 := cell_alloc (o := .cells #[.int .u8 0, .int .i64 0, .string ⟨#[]⟩, .string ⟨#[]⟩, .slice none 0 0, .slice none 0 0] 26) x0
  replace x1 := cell_alloc (o := .cells #[.int .u8 0, .int .i64 0, .string ⟨#[]⟩, .string ⟨#[]⟩, .slice none 0 0, .slice none 0 0] 26) x1
  replace x2 := cell_alloc (o := .cells #[.int .u8 0, .int .i64 0, .string ⟨#[]⟩, .string ⟨#[]⟩, .slice none 0 0, .slice none 0 0] 26) x2
  replace x3 := cell_alloc (o := .cells #[.int .u8 0, .int .i64 0, .string ⟨#[]⟩, .string ⟨#[]⟩, .slice none 0 0, .slice none 0 0] 26) x3
  replace x4 := cell_alloc (o := .cells #[.int .u8 0, .int .i64 0, .string ⟨#[]⟩, .string ⟨#[]⟩, .slice none 0 0, .slice none 0 0] 26) x4
  replace x5 := cell_alloc (o := .cells #[.int .u8 0, .int .i64 0, .string ⟨#[]⟩, .string ⟨#[]⟩, .slice none 0 0, .slice none 0 0] 26) x5
  generalize w.alloc (.cells #[.int .u8 0, .int .i64 0, .string ⟨#[]⟩, .string ⟨#[]⟩, .slice none 0 0, .slice none 0 0] 26) = X0 at K1 bw hs x0 x1 x2 x3 x4 x5 ⊢
  go_upto_region 2 with fail
  have K2 := hid (Blk.new' X0 [.int .u8 (x.kind : Nat), .int .i64 x.num, .string x.str, .string x.typ, .slice xno x.names.length xnc, .slice xlo x.list.length xlc] 26 (w.heap.size + 1) hs.out)
  replace K1 := hid (K1.out.alloc (.cells #[.int .u8 (x.kind : Nat), .int .i64 x.num, .string x.str, .string x.typ, .slice xno x.names.length xnc, .slice xlo x.list.length xlc] 26))
  replace bw := hid (bw.out.alloc bw.out.size (.cells #[.int .u8 (x.kind : Nat), .int .i64 x.num, .string x.str, .string x.typ, .slice xno x.names.length xnc, .slice xlo x.list.length xlc] 26))
  rw [← hs.out]
  clear x0 x1 x2 x3 x4 x5 hs
  generalize X0.alloc (.cells #[.int .u8 (x.kind : Nat), .int .i64 x.num, .string x.str, .string x.typ, .slice xno x.names.length xnc, .slice xlo x.list.length xlc] 26) = X1 at K1 K2 bw ⊢
  go_wp2_with fail
  go_loopw [12] (fun i wr => ∃ (k : Nat) (y : T), k ≤ n ∧ i = .int .i64 k ∧ Hid ((andL x ((l.drop 1).take k)).like y) ∧ Hid (y.ok wr) ∧ Hid (y.inS (fun k => S k ∧ k ≠ w.heap.size ∧ k ≠ w.heap.size + 1)) ∧ Hid (Blk wr w.heap.size [.int .u8 0, .int .i64 0, .string ⟨#[]⟩, .string ⟨#[]⟩, .slice none 0 0, .slice none 0 0] 26) ∧ Hid (Blk wr (w.heap.size + 1) y.enc 26) ∧ Hid (Below w.heap.size w wr)) (fun i _ => n - (intOf i).toNat)
  case atStart => exact ⟨0, x, by omega, rfl, hid (Ex.T.like_refl _), hid (hxok'.out.below bw.out), hxin, K1, hid (by rw [hxe.out]; exact K2.out), bw⟩
  case round =>
    clear K1 K2 bw
    obtain ⟨k, y, hk, rfl, hlk, hyok, hyin, K1, K2, bw⟩ := hrel
    rename_i wr _
    obtain ⟨yno, ync, ylo, ylc, ey1, ey2, yl1, yl2⟩ := hyok.out.forms
    have hye := hid (enc_eq ey1 ey2)
    have hyv := hid (Ex.T.val_eq ey1 ey2)
    rw [hye.out] at K2
    clear ey1 ey2
    obtain ⟨d0, d1, d2, d3, d4, d5, df⟩ := Ex.six K2.out
    by_cases hkn : k < n
    · have hki : (k : Int) < (n : Int) := by omega
      have hkl : k + 1 < l.length := by have := hln.out; omega
      have hst := hid (andL_drop x l k hkl)
      obtain ⟨z, hz⟩ : ∃ z, l[k + 1] = z := ⟨_, rfl⟩
      have hzc := hw.out wr bw.out (k + 1) hkl
      rw [hz] at hzc hst
      have hzok := hid (hok'.out z (hz ▸ List.getElem_mem hkl))
      have hzin := hid (hin.out z (hz ▸ List.getElem_mem hkl))
      obtain ⟨zno, znc, zlo, zlc, ez1, ez2, zl1, zl2⟩ := hzok.out.forms
      rw [ez1, ez2, show off + (k + 1) * 6 = off + 6 + k * 6 by omega] at hzc
      have hze := hid (enc_eq ez1 ez2)
      obtain ⟨z0, z1, z2, z3, z4, z5⟩ := hzc
      clear ez1 ez2 hz hkl
      go_upto_region 5 with fail
      have K5 := hid (Blk.new wr [.int .u8 (z.kind : Nat), .int .i64 z.num, .string z.str, .string z.typ, .slice zno z.names.length znc, .slice zlo z.list.length zlc] 26)
      have hlt2 := hid K2.out.lt
      replace K1 := hid (K1.out.alloc (.cells #[.int .u8 (z.kind : Nat), .int .i64 z.num, .string z.str, .string z.typ, .slice zno z.names.length znc, .slice zlo z.list.length zlc] 26))
      replace K2 := hid (K2.out.alloc (.cells #[.int .u8 (z.kind : Nat), .int .i64 z.num, .string z.str, .string z.typ, .slice zno z.names.length znc, .slice zlo z.list.length zlc] 26))
      have hyok3 := hid (hyok.out.below ((Below.refl wr.heap.size wr).alloc (Nat.le_refl _) (.cells #[.int .u8 (z.kind : Nat), .int .i64 z.num, .string z.str, .string z.typ, .slice zno z.names.length znc, .slice zlo z.list.length zlc] 26)))
      replace bw := hid (bw.out.alloc bw.out.size (.cells #[.int .u8 (z.kind : Nat), .int .i64 z.num, .string z.str, .string z.typ, .slice zno z.names.length znc, .slice zlo z.list.length zlc] 26))
      clear z0 z1 z2 z3 z4 z5 d0 d1 d2 d3 d4 d5 df hyok
      generalize wr.alloc (.cells #[.int .u8 (z.kind : Nat), .int .i64 z.num, .string z.str, .string z.typ, .slice zno z.names.length znc, .slice zlo z.list.length zlc] 26) = X3 at K1 K2 K5 hyok3 bw ⊢
      generalize wr.heap.size = b5 at K5 hlt2 ⊢
      obtain ⟨d0, d1, d2, d3, d4, d5, df⟩ := Ex.six K2.out
      obtain ⟨f0, f1, f2, f3, f4, f5, ff⟩ := Ex.six K5.out
      obtain ⟨X4, hX4⟩ : ∃ X, X3.alloc (.cells #[.int .u8 (y.kind : Nat), .int .i64 y.num, .string y.str, .string y.typ, .slice yno y.names.length ync, .slice ylo y.list.length ylc, .int .u8 (z.kind : Nat), .int .i64 z.num, .string z.str, .string z.typ, .slice zno z.names.length znc, .slice zlo z.list.length zlc] 26) = X := ⟨_, rfl⟩
      have K9 := hid (hX4 ▸ Blk.new X3 [.int .u8 (y.kind : Nat), .int .i64 y.num, .string y.str, .string y.typ, .slice yno y.names.length ync, .slice ylo y.list.length ylc, .int .u8 (z.kind : Nat), .int .i64 z.num, .string z.str, .string z.typ, .slice zno z.names.length znc, .slice zlo z.list.length zlc] 26)
      have hlt9 := hid K5.out.lt
      have hbX := (Below.refl X3.heap.size X3).alloc (Nat.le_refl _) (.cells #[.int .u8 (y.kind : Nat), .int .i64 y.num, .string y.str, .string y.typ, .slice yno y.names.length ync, .slice ylo y.list.length ylc, .int .u8 (z.kind : Nat), .int .i64 z.num, .string z.str, .string z.typ, .slice zno z.names.length znc, .slice zlo z.list.length zlc] 26)
      rw [hX4] at hbX
      have K1a := hid (K1.out.below hbX K1.out.lt)
      have K2a := hid (K2.out.below hbX K2.out.lt)
      have hyok4 := hid (hyok3.out.below hbX)
      have bwa := hid (bt bw.out hbX)
      clear K1 K2 K5 hbX bw hyok3
      go_wp2_with fail
      refine (node_any _ _ _ _ _).mono ?_
      rintro e w4 ⟨rfl, b4⟩
      clear hX4 d0 d1 d2 d3 d4 d5 df f0 f1 f2 f3 f4 f5 ff
      generalize X3.heap.size = b9 at K9 hlt9 ⊢
      replace K1a := hid (K1a.out.below b4 K1a.out.lt)
      replace K2a := hid (K2a.out.below b4 K2a.out.lt)
      replace K9 := hid (K9.out.below b4 K9.out.lt)
      replace hyok4 := hid (hyok4.out.below b4)
      replace bwa := hid (bt bwa.out b4)
      clear b4
      obtain ⟨d0, d1, d2, d3, d4, d5, df⟩ := Ex.six K2a.out
      have hB := hid (Ex.below_st6 bwa.out (g := w.heap.size + 1) (Nat.le_succ _) 0 (.int .u8 15) (.int .i64 0) (.string ⟨#[]⟩) (.string ⟨#[]⟩) (.slice none 0 0) (.slice (some ⟨b9, 0, none⟩) 2 2))
      have K1f := hid (Blk.keepAt K1a.out (Ex.heap_st6 w4 (w.heap.size + 1) 0 (.int .u8 15) (.int .i64 0) (.string ⟨#[]⟩) (.string ⟨#[]⟩) (.slice none 0 0) (.slice (some ⟨b9, 0, none⟩) 2 2) (Nat.ne_of_lt (Nat.lt_succ_self _))))
      have K2f := hid (show Blk (Ex.st6 w4 (w.heap.size + 1) 0 (.int .u8 15) (.int .i64 0) (.string ⟨#[]⟩) (.string ⟨#[]⟩) (.slice none 0 0) (.slice (some ⟨b9, 0, none⟩) 2 2)) (w.heap.size + 1) [.int .u8 15, .int .i64 0, .string ⟨#[]⟩, .string ⟨#[]⟩, .slice none 0 0, .slice (some ⟨b9, 0, none⟩) 2 2] 26 from Ex.blk_st6 (A := []) (C := []) (o := 0) K2a.out rfl (.int .u8 15) (.int .i64 0) (.string ⟨#[]⟩) (.string ⟨#[]⟩) (.slice none 0 0) (.slice (some ⟨b9, 0, none⟩) 2 2))
      have hokf := hid (node_ok (W := Ex.st6 w4 (w.heap.size + 1) 0 (.int .u8 15) (.int .i64 0) (.string ⟨#[]⟩) (.string ⟨#[]⟩) (.slice none 0 0) (.slice (some ⟨b9, 0, none⟩) 2 2)) (k := 15) (t := ⟨#[]⟩) (l := [y, z]) (lv := .slice (some ⟨b9, 0, none⟩) 2 2) (by decide) (Nat.zero_le _) (by show 2 * 96 ≤ _; decide) (fun u hu => by
        rcases List.mem_cons.1 hu with rfl | hu
        · exact hyok4.out.keep (fun k hk => Ex.heap_st6 _ _ _ _ _ _ _ _ _ hk.2.2) hyin.out
        · rw [List.mem_singleton] at hu
          subst hu
          exact hzok.out.below hB.out)
        (slv_blk (n := 2) (Blk.keepAt (show Blk w4 b9 (T.encL [y, z]) 26 from by rw [show T.encL [y, z] = y.enc ++ z.enc from by simp [T.encL], hye.out, hze.out]; exact K9.out) (Ex.heap_st6 w4 (w.heap.size + 1) 0 (.int .u8 15) (.int .i64 0) (.string ⟨#[]⟩) (.string ⟨#[]⟩) (.slice none 0 0) (.slice (some ⟨b9, 0, none⟩) 2 2) (by have := hlt9.out; have := hlt2.out; omega))) (by decide) (fun e => by cases e)))
      have hinf := hid (node_in (S := fun k => S k ∧ k ≠ w.heap.size ∧ k ≠ w.heap.size + 1) (k := 15) (n := 0) (s := ⟨#[]⟩) (t := ⟨#[]⟩) (l := [y, z]) (sl_at (b := b9) (o := 0) (n := 2) (c := 2) ⟨hn.out b9 (by have := hlt9.out; have := hlt2.out; omega), by have := hlt9.out; have := hlt2.out; omega, by have := hlt9.out; have := hlt2.out; omega⟩) (fun u hu => by
        rcases List.mem_cons.1 hu with rfl | hu
        · exact hyin.out
        · rw [List.mem_singleton] at hu
          subst hu
          exact hzin.out))
      have hlkf := hid (show (andL x ((l.drop 1).take (k + 1))).like (T.mk 15 0 ⟨#[]⟩ ⟨#[]⟩ [] nilV [y, z] (.slice (some ⟨b9, 0, none⟩) 2 2)) by
        rw [hst.out]
        exact wrap_like (show T.likeL [andL x ((l.drop 1).take k), z] [y, z] from ⟨hlk.out, Ex.T.like_refl _, trivial⟩))
      clear hye hyv hyok4 hze hzok hzin K1a K2a K9 hlk hyin hst bwa
      go_wp2_with fail
      go_roundw
      case rel => exact ⟨k + 1, T.mk 15 0 ⟨#[]⟩ ⟨#[]⟩ [] nilV [y, z] (.slice (some ⟨b9, 0, none⟩) 2 2), by omega, by go_num, hlkf, hokf, hinf, K1f, K2f, hB⟩
      case measure => simp [intOf]; omega
    · have hki : ¬ (k : Int) < (n : Int) := by omega
      obtain rfl : k = n := by omega
      have hB := hid (Ex.below_st6 bw.out (g := w.heap.size) (Nat.le_refl _) 0 (.int .u8 (y.kind : Nat)) (.int .i64 y.num) (.string y.str) (.string y.typ) (.slice yno y.names.length ync) (.slice ylo y.list.length ylc))
      have hokf := hid (hyok.out.keep (w' := Ex.st6 wr w.heap.size 0 (.int .u8 (y.kind : Nat)) (.int .i64 y.num) (.string y.str) (.string y.typ) (.slice yno y.names.length ync) (.slice ylo y.list.length ylc)) (fun k hk => Ex.heap_st6 _ _ _ _ _ _ _ _ _ hk.2.1) hyin.out)
      have hinf := hid (hyin.out.mono (R := S) (fun k hk => hk.1))
      have hlkf := hid (show R.like y by rw [hat.out]; exact hlk.out)
      obtain ⟨c0, c1, c2, c3, c4, c5, cf⟩ := Ex.six K1.out
      clear hlk hyin hyok hw hok' hin hat
      have hK := hid (show Blk _ w.heap.size [.int .u8 (y.kind : Nat), .int .i64 y.num, .string y.str, .string y.typ, .slice yno y.names.length ync, .slice ylo y.list.length ylc] 26 from Ex.blk_st6 (A := []) (C := []) (o := 0) K1.out rfl (.int .u8 (y.kind : Nat)) (.int .i64 y.num) (.string y.str) (.string y.typ) (.slice yno y.names.length ync) (.slice ylo y.list.length ylc))
      go_wp2_with fail
      obtain ⟨q0, q1, q2, q3, q4, q5, qf⟩ := Ex.six hK.out
      exact bodyPost_ret (v := .agg #[.int .u8 (y.kind : Nat), .int .i64 y.num, .string y.str, .string y.typ, .slice yno y.names.length ync, .slice ylo y.list.length ylc]) (by unfold Ex.st6 at q0 q1 q2 q3 q4 q5; simp [results, Tryz.results76, go_sem, q0, q1, q2, q3, q4, q5]) rfl ⟨⟨y, by rw [hyv.out], hlkf.out, hokf.out, hinf.out⟩, hB.out⟩
end Go.Proofs.YtihnhinnohnfgaaGreatDoor.Pol
