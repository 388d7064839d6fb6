/-
  value.Compare: the call itself, of any two values.
-/
import Derived.Test.YtdjgkbpfmonebaaGreatDoorValCompare
namespace Go.Proofs.YtdjgkbpfmonebaaGreatDoor.Val
open Go.ChangeShapes Go.WideShapes Go.ChangeAt Go.RowKit
open Go.Proofs.YtdjgkbpfmonebaaGreatDoor.Mem
set_option linter.unusedVariables false
set_option linter.unusedSimpArgs false
set_option maxRecDepth 100000
theorem cmpT_eq (x y : T) : cmpT x y = if x.kind ≠ y.kind then sgn x.kind y.kind
    else if x.kind = 0 then sgn (bitE x.bool) (bitE y.bool)
    else if x.kind = 1 then sgn x.num y.num
    else if x.kind = 2 then sgs x.str y.str
    else if x.kind = 3 then orE (sgs x.typ y.typ) (sgs x.str y.str)
    else if x.kind = 4 ∨ x.kind = 5 then cmpL x.names y.names x.list y.list (sgn x.list.length y.list.length)
    else 0 := by
  cases x
  rw [cmpT]
  rfl
set_option maxHeartbeats 4000000 in
theorem comp_step (x : T) (ih : ∀ z ∈ x.list, CompB z) : CompB x := by
  intro y w hx hy
  have hp := hid (fun W (b : Below w.heap.size w W) => parts_any x ih y W (hx.below b) (hy.below b))
  have hq := hid (fun W => cmp_kind (x.kind : Nat) (y.kind : Nat) W)
  have hb1 := hid (fun W => bit_any x.bool W)
  have hb2 := hid (fun W => bit_any y.bool W)
  have hc0 := hid (fun W => cmp_int (bitE x.bool) (bitE y.bool) W)
  have hc1 := hid (fun W => cmp_long x.num y.num W)
  have hc2 := hid (fun W => cmp_str x.str y.str W)
  have hc3 := hid (fun W => cmp_str x.typ y.typ W)
  have hor := hid (fun W b h => or_any (sgs x.typ y.typ) (sgs x.str y.str) W b h)
  have hR := hid (cmpT_eq x y)
  generalize cmpT x y = R at hR ⊢
  have hkx := hx.parts.1.1
  have hky := hy.parts.1.1
  rw [show x.val = .agg #[.int .u8 (x.kind : Nat), .bool x.bool, .int .i64 x.num, .string x.str, .string x.typ, x.nv, x.lv] from rfl, show y.val = .agg #[.int .u8 (y.kind : Nat), .bool y.bool, .int .i64 y.num, .string y.str, .string y.typ, y.nv, y.lv] from rfl] at hp ⊢
  clear hx hy ih
  generalize x.kind = kx at *
  generalize y.kind = ky at *
  generalize x.bool = xb at *
  generalize y.bool = yb at *
  generalize x.num = xn at *
  generalize y.num = yn at *
  generalize x.str = xs at *
  generalize y.str = ys at *
  generalize x.typ = xt at *
  generalize y.typ = yt at *
  generalize cmpL x.names y.names x.list y.list (sgn x.list.length y.list.length) = cl at *
  generalize x.nv = xnv at *
  generalize y.nv = ynv at *
  generalize x.lv = xlv at *
  generalize y.lv = ylv at *
  go_enter Tryz.func19, Tryz.ntmps19
  go_upto_region 1 with fail
  have K1 := hid (Blk.new w [.int .u8 (kx : Nat), .bool xb, .int .i64 xn, .string xs, .string xt, xnv, xlv] 27)
  have bw := hid ((Bel.refl w.heap.size w).alloc (Nat.le_refl _) (.cells #[.int .u8 (kx : Nat), .bool xb, .int .i64 xn, .string xs, .string xt, xnv, xlv] 27))
  have hs : w.heap.size + 1 = (w.alloc (.cells #[.int .u8 (kx : Nat), .bool xb, .int .i64 xn, .string xs, .string xt, xnv, xlv] 27)).heap.size := by simp
  generalize w.alloc (.cells #[.int .u8 (kx : Nat), .bool xb, .int .i64 xn, .string xs, .string xt, xnv, xlv] 27) = X0 at K1 bw hs ⊢
  have K2 := hid (Blk.new' X0 [.int .u8 (ky : Nat), .bool yb, .int .i64 yn, .string ys, .string yt, ynv, ylv] 27 (w.heap.size + 1) hs)
  replace K1 := hid (K1.out.alloc (.cells #[.int .u8 (ky : Nat), .bool yb, .int .i64 yn, .string ys, .string yt, ynv, ylv] 27))
  replace bw := hid (bw.out.alloc (by omega) (.cells #[.int .u8 (ky : Nat), .bool yb, .int .i64 yn, .string ys, .string yt, ynv, ylv] 27))
  clear hs
  generalize X0.alloc (.cells #[.int .u8 (ky : Nat), .bool yb, .int .i64 yn, .string ys, .string yt, ynv, ylv] 27) = X1 at K1 K2 bw ⊢
  obtain ⟨c0, c1, c2, c3, c4, c5, c6, cf⟩ := seven K1.out
  obtain ⟨d0, d1, d2, d3, d4, d5, d6, df⟩ := seven K2.out
  by_cases hne : kx = ky
  · subst hne
    replace hR := hid (hR.out.trans (if_neg (by simp)))
    rcases Nat.lt_or_ge kx 6 with h6 | h6
    · have hcs : kx = 0 ∨ kx = 1 ∨ kx = 2 ∨ kx = 3 ∨ kx = 4 ∨ kx = 5 := by omega
      rcases hcs with rfl | rfl | rfl | rfl | rfl | rfl
      · have hn := hid (hR.out.trans (if_pos rfl))
        clear hR h6 hkx hky
        go_wp2_with fail
        go_region_held3 (fun W => W.cell? ⟨w.heap.size, 1, none⟩ = some (.bool xb) ∧ W.cell? ⟨w.heap.size + 1, 1, none⟩ = some (.bool yb)) (exact ⟨c1, d1⟩) (first
          | (go_at_call 44; (with_reducible refine (hb1.out _).mono ?_); rintro e w1 ⟨rfl, rfl⟩)
          | (go_at_call 44; (with_reducible refine (hb2.out _).mono ?_); rintro e w1 ⟨rfl, rfl⟩)
          | (go_at_call 43; (with_reducible refine (hc0.out _).mono ?_); rintro e w1 ⟨rfl, rfl⟩))
        all_goals
          go_wp2_with fail
          go_ret
          exact ⟨by rw [hn.out]; rfl, bel bw.out ((Bel.refl _ X1).drew)⟩
      · have hn := hid (hR.out.trans ((if_neg (by decide)).trans (if_pos rfl)))
        clear hR h6 hkx hky
        go_wp2_with fail
        refine (hc1.out _).mono ?_
        rintro e w1 ⟨rfl, rfl⟩
        go_wp2_with fail
        go_ret
        exact ⟨by rw [hn.out]; rfl, bw.out⟩
      · have hn := hid (hR.out.trans ((if_neg (by decide)).trans ((if_neg (by decide)).trans (if_pos rfl))))
        clear hR h6 hkx hky
        go_wp2_with fail
        refine (hc2.out _).mono ?_
        rintro e w1 ⟨rfl, rfl⟩
        go_wp2_with fail
        go_ret
        exact ⟨by rw [hn.out]; rfl, bw.out⟩
      · have hn := hid (hR.out.trans ((if_neg (by decide)).trans ((if_neg (by decide)).trans ((if_neg (by decide)).trans (if_pos rfl)))))
        clear hR h6 hkx hky
        have al : ∀ {a : Addr} {v : Value} {o : Obj}, X1.cell? a = some v → (X1.alloc o).cell? a = some v := fun h => (((Below.refl X1.heap.size X1).alloc (Nat.le_refl _) _).cell (World.block_lt_of_cell? _ _ h)).trans h
        go_wp2_with fail
        go_region_held3 (fun W => W.cell? ⟨w.heap.size, 4, none⟩ = some (.string xt) ∧ W.cell? ⟨w.heap.size + 1, 4, none⟩ = some (.string yt) ∧ W.cell? ⟨w.heap.size, 3, none⟩ = some (.string xs) ∧ W.cell? ⟨w.heap.size + 1, 3, none⟩ = some (.string ys)) (first | (exact ⟨c4, d4, c3, d3⟩) | (exact ⟨al c4, al d4, al c3, al d3⟩) | (exact ⟨(b2.out.b.cell (World.block_lt_of_cell? _ _ c4)).trans c4, (b2.out.b.cell (World.block_lt_of_cell? _ _ d4)).trans d4, (b2.out.b.cell (World.block_lt_of_cell? _ _ c3)).trans c3, (b2.out.b.cell (World.block_lt_of_cell? _ _ d3)).trans d3⟩)) (first
          | (go_at_call 46; (with_reducible refine (hc3.out _).mono ?_); rintro e w1 ⟨rfl, rfl⟩)
          | (go_at_call 46; (with_reducible refine (hc2.out _).mono ?_); rintro e w1 ⟨rfl, rfl⟩)
          | (go_at_call 47; (refine (hor.out _ _ (Blk.new X1 [.int .i64 (sgs xt yt), .int .i64 (sgs xs ys)] 3).drew).mono ?_); rintro e w1 ⟨rfl, b1⟩; have b2 := hid (bel ((Bel.refl X1.heap.size X1).alloc (Nat.le_refl _) (.cells #[.int .i64 (sgs xt yt), .int .i64 (sgs xs ys)] 3)).drew b1)))
        all_goals
          go_wp2_with fail
          go_ret
          exact ⟨by rw [hn.out]; rfl, bel bw.out b2.out⟩
      · have hn := hid (hR.out.trans ((if_neg (by decide)).trans ((if_neg (by decide)).trans ((if_neg (by decide)).trans ((if_neg (by decide)).trans (if_pos (by decide)))))))
        clear hR h6 hkx hky
        go_wp2_with fail
        refine (hp.out _ bw.out.b).mono ?_
        rintro e w1 ⟨rfl, b1⟩
        go_wp2_with fail
        go_ret
        exact ⟨by rw [hn.out]; rfl, bel bw.out b1⟩
      · have hn := hid (hR.out.trans ((if_neg (by decide)).trans ((if_neg (by decide)).trans ((if_neg (by decide)).trans ((if_neg (by decide)).trans (if_pos (by decide)))))))
        clear hR h6 hkx hky
        go_wp2_with fail
        refine (hp.out _ bw.out.b).mono ?_
        rintro e w1 ⟨rfl, b1⟩
        go_wp2_with fail
        go_ret
        exact ⟨by rw [hn.out]; rfl, bel bw.out b1⟩
    · have hn := hid (hR.out.trans ((if_neg (by omega)).trans ((if_neg (by omega)).trans ((if_neg (by omega)).trans ((if_neg (by omega)).trans (if_neg (by omega)))))))
      have g0 : ((kx : Int) == 0) = false := by rw [beq_eq_false_iff_ne]; omega
      have g1 : ((kx : Int) == 1) = false := by rw [beq_eq_false_iff_ne]; omega
      have g2 : ((kx : Int) == 2) = false := by rw [beq_eq_false_iff_ne]; omega
      have g3 : ((kx : Int) == 3) = false := by rw [beq_eq_false_iff_ne]; omega
      have g4 : ((kx : Int) == 4) = false := by rw [beq_eq_false_iff_ne]; omega
      have g5 : ((kx : Int) == 5) = false := by rw [beq_eq_false_iff_ne]; omega
      clear hR h6
      go_wp2_with fail
      go_ret
      exact ⟨by rw [hn.out]; rfl, bw.out⟩
  · have hn := hid (hR.out.trans (if_pos hne))
    have hnb : (((kx : Nat) : Int) == ((ky : Nat) : Int)) = false := by rw [beq_eq_false_iff_ne]; omega
    have hnb2 : (((kx : Nat) : Int) != ((ky : Nat) : Int)) = true := by unfold bne; rw [hnb]; rfl
    clear hR
    go_wp2_with fail
    refine (hq.out _).mono ?_
    rintro e w1 ⟨rfl, rfl⟩
    go_wp2_with fail
    go_ret
    exact ⟨by rw [hn.out]; rfl, bw.out⟩
theorem compB_any (x : T) : CompB x := by
  suffices h : ∀ n (x : T), x.size ≤ n → CompB x from h x.size x (Nat.le_refl _)
  intro n
  induction n with
  | zero => intro x hx; have := x.size_pos; omega
  | succ n ih => intro x hx; exact comp_step x (fun z hz => ih z (by have := T.size_part hz; omega))
theorem comp_any (x y : T) (w : World) (hx : x.ok w) (hy : y.ok w) : Calls Tryz.prog 19 #[x.val, y.val] w fun e w' => e = .returned (.int .i64 (cmpT x y)) ∧ Below w.heap.size w w' :=
  (compB_any x y w hx hy).mono fun e w' h => ⟨h.1, h.2.b⟩
end Go.Proofs.YtdjgkbpfmonebaaGreatDoor.Val
