/-
  value.Compare: contract.
-/
import Derived.Test.YtdjgkbpfmonebaaGreatDoorValCmp
import Derived.Test.YtdjgkbpfmonebaaGreatDoorValBel
import Derived.LoopTactic
import Derived.Deep.Cut
import Derived.Deep.RegionHeld3
import Derived.BigQuiet
import Derived.Deep.QuietTactic
import Derived.WalkSmall
namespace Go.Proofs.YtdjgkbpfmonebaaGreatDoor.Val
open Go.ChangeShapes Go.WideShapes Go.ChangeAt Go.RowKit
open Go.Proofs.YtdjgkbpfmonebaaGreatDoor.Mem
set_option linter.unusedVariables false
set_option linter.unusedSimpArgs false
set_option maxRecDepth 100000
/-- the first names of both, where both have one, are alike -/
def likeH : List ByteArray → List ByteArray → Bool
  | p :: _, q :: _ => p.toList == q.toList
  | _, _ => true
def apartH : List ByteArray → List ByteArray → Int
  | p :: _, q :: _ => sgs p q
  | _, _ => 0
mutual
def cmpT : T → T → Int
  | .mk k b n s t na _ l _, y =>
    if k ≠ y.kind then sgn k y.kind
    else if k = 0 then sgn (bitE b) (bitE y.bool)
    else if k = 1 then sgn n y.num
    else if k = 2 then sgs s y.str
    else if k = 3 then orE (sgs t y.typ) (sgs s y.str)
    else if k = 4 ∨ k = 5 then cmpL na y.names l y.list (sgn l.length y.list.length)
    else 0
def cmpL : List ByteArray → List ByteArray → List T → List T → Int → Int
  | na, nb, x :: xs, y :: ys, e =>
    if likeH na nb = false then apartH na nb
    else if cmpT x y ≠ 0 then cmpT x y else cmpL na.tail nb.tail xs ys e
  | _, _, [], _, e => e
  | _, _, _ :: _, [], e => e
end
theorem min_nat (a b m : Nat) (h : min a b = m) (ts : Array TypeId) (t : TypeId) (W : World) : (Builtin.min_ ts t #[.int .i64 (a : Int), .int .i64 (b : Int)]).run Tryz.prog W = .ok (.int .i64 (m : Int)) W := by
  rw [run_min_int2]
  by_cases hb : (b : Int) < (a : Int)
  · rw [if_pos hb, show (b : Int) = (m : Int) by omega]
  · rw [if_neg hb, show (a : Int) = (m : Int) by omega]
theorem drop_cases {α : Type} (l : List α) (k : Nat) : (∃ a, l[k]? = some a ∧ l.drop k = a :: l.drop (k + 1)) ∨ (l[k]? = none ∧ l.drop k = [] ∧ l.drop (k + 1) = []) := by
  by_cases h : k < l.length
  · exact .inl ⟨l[k], List.getElem?_eq_getElem h, List.drop_eq_getElem_cons h⟩
  · exact .inr ⟨List.getElem?_eq_none (by omega), List.drop_eq_nil_of_le (by omega), List.drop_eq_nil_of_le (by omega)⟩
theorem cmpL_step (na nb : List ByteArray) (la lb : List T) (e : Int) (k : Nat) (h1 : k < la.length) (h2 : k < lb.length) :
    cmpL (na.drop k) (nb.drop k) (la.drop k) (lb.drop k) e = if likeH (na.drop k) (nb.drop k) = false then apartH (na.drop k) (nb.drop k) else if cmpT la[k] lb[k] ≠ 0 then cmpT la[k] lb[k] else cmpL (na.drop (k + 1)) (nb.drop (k + 1)) (la.drop (k + 1)) (lb.drop (k + 1)) e := by
  rw [List.drop_eq_getElem_cons h1, List.drop_eq_getElem_cons h2, cmpL, List.tail_drop, List.tail_drop]
theorem likeH_at {na nb : List ByteArray} {k : Nat} (h1 : k < na.length) (h2 : k < nb.length) : likeH (na.drop k) (nb.drop k) = (na[k].toList == nb[k].toList) ∧ apartH (na.drop k) (nb.drop k) = sgs na[k] nb[k] := by
  rw [List.drop_eq_getElem_cons h1, List.drop_eq_getElem_cons h2]
  exact ⟨rfl, rfl⟩
theorem likeH_end {na nb : List ByteArray} {k : Nat} (h : min na.length nb.length ≤ k) : likeH (na.drop k) (nb.drop k) = true := by
  by_cases h1 : na.length ≤ k
  · rw [List.drop_eq_nil_of_le h1]; rfl
  · rw [List.drop_eq_nil_of_le (show nb.length ≤ k by omega)]
    cases na.drop k <;> rfl
theorem cmpL_end (na nb : List ByteArray) (la lb : List T) (e : Int) (k : Nat) (h : la.length ≤ k ∨ lb.length ≤ k) : cmpL (na.drop k) (nb.drop k) (la.drop k) (lb.drop k) e = e := by
  rcases drop_cases la k with ⟨a, e1, e2⟩ | ⟨e1, e2, _⟩
  · rw [e2]
    have : lb.length ≤ k := by
      rcases h with h | h
      · rw [List.getElem?_eq_none h] at e1; cases e1
      · exact h
    rw [List.drop_eq_nil_of_le this, cmpL]
  · rw [e2]
    cases lb.drop k <;> rw [cmpL]
/-- what Compare does at parts of x -/
def CompB (x : T) : Prop := ∀ (y : T) (w : World), x.ok w → y.ok w → Calls Tryz.prog 19 #[x.val, y.val] w fun e w' => e = .returned (.int .i64 (cmpT x y)) ∧ Bel w.heap.size w w'
set_option maxHeartbeats 4000000 in
theorem parts_any (x : T) (ih : ∀ z ∈ x.list, CompB z) (y : T) (w : World) (hx : x.ok w) (hy : y.ok w) :
    Calls Tryz.prog 48 #[x.val, y.val] w fun e w' => e = .returned (.int .i64 (cmpL x.names y.names x.list y.list (sgn x.list.length y.list.length))) ∧ Bel w.heap.size w w' := by
  have ih' := hid ih
  have hx' := hid hx
  have hy' := hid hy
  obtain ⟨xno, xnc, xlo, xlc, ex1, ex2, lx1, lx2⟩ := hx.forms
  obtain ⟨yno, ync, ylo, ylc, ey1, ey2, ly1, ly2⟩ := hy.forms
  rw [show x.val = .agg #[.int .u8 (x.kind : Nat), .bool x.bool, .int .i64 x.num, .string x.str, .string x.typ, x.nv, x.lv] from rfl, show y.val = .agg #[.int .u8 (y.kind : Nat), .bool y.bool, .int .i64 y.num, .string y.str, .string y.typ, y.nv, y.lv] from rfl, ex1, ex2, ey1, ey2]
  replace ex1 := hid ex1
  replace ex2 := hid ex2
  replace ey1 := hid ey1
  replace ey2 := hid ey2
  have ll1 : (x.names.length : Int) ≤ 9223372036854775807 := by omega
  have ll2 : (x.list.length : Int) ≤ 9223372036854775807 := by omega
  have ll3 : (y.names.length : Int) ≤ 9223372036854775807 := by omega
  have ll4 : (y.list.length : Int) ≤ 9223372036854775807 := by omega
  clear ih hx hy
  obtain ⟨E, hE⟩ : ∃ E, sgn (x.list.length : Int) (y.list.length : Int) = E := ⟨_, rfl⟩
  rw [hE]
  obtain ⟨R, hR⟩ : ∃ R, cmpL x.names y.names x.list y.list E = R := ⟨_, rfl⟩
  rw [hR]
  have hce := hid (fun W => cmp_int (x.list.length : Int) (y.list.length : Int) W)
  rw [hE] at hce
  replace hE := hid hE
  replace hR := hid hR
  go_enter Tryz.func48, Tryz.ntmps48
  go_upto_region 1 with fail
  have K1 := hid (Blk.new w [.int .u8 (x.kind : Nat), .bool x.bool, .int .i64 x.num, .string x.str, .string x.typ, .slice xno x.names.length xnc, .slice xlo x.list.length xlc] 27)
  have bw := hid ((Bel.refl w.heap.size w).alloc (Nat.le_refl _) (.cells #[.int .u8 (x.kind : Nat), .bool x.bool, .int .i64 x.num, .string x.str, .string x.typ, .slice xno x.names.length xnc, .slice xlo x.list.length xlc] 27))
  have hs : w.heap.size + 1 = (w.alloc (.cells #[.int .u8 (x.kind : Nat), .bool x.bool, .int .i64 x.num, .string x.str, .string x.typ, .slice xno x.names.length xnc, .slice xlo x.list.length xlc] 27)).heap.size := by simp
  generalize w.alloc (.cells #[.int .u8 (x.kind : Nat), .bool x.bool, .int .i64 x.num, .string x.str, .string x.typ, .slice xno x.names.length xnc, .slice xlo x.list.length xlc] 27) = X0 at K1 bw hs ⊢
  have K2 := hid (Blk.new' X0 [.int .u8 (y.kind : Nat), .bool y.bool, .int .i64 y.num, .string y.str, .string y.typ, .slice yno y.names.length ync, .slice ylo y.list.length ylc] 27 (w.heap.size + 1) hs)
  replace K1 := hid (K1.out.alloc (.cells #[.int .u8 (y.kind : Nat), .bool y.bool, .int .i64 y.num, .string y.str, .string y.typ, .slice yno y.names.length ync, .slice ylo y.list.length ylc] 27))
  replace bw := hid (bw.out.alloc (by omega) (.cells #[.int .u8 (y.kind : Nat), .bool y.bool, .int .i64 y.num, .string y.str, .string y.typ, .slice yno y.names.length ync, .slice ylo y.list.length ylc] 27))
  clear hs
  generalize X0.alloc (.cells #[.int .u8 (y.kind : Nat), .bool y.bool, .int .i64 y.num, .string y.str, .string y.typ, .slice yno y.names.length ync, .slice ylo y.list.length ylc] 27) = X1 at K1 K2 bw ⊢
  obtain ⟨-, -, -, -, -, c5, c6, cf⟩ := seven K1.out
  obtain ⟨-, -, -, -, -, d5, d6, df⟩ := seven K2.out
  obtain ⟨M, hM⟩ : ∃ M, min x.names.length y.names.length = M := ⟨_, rfl⟩
  obtain ⟨L, hL⟩ : ∃ L, min x.list.length y.list.length = L := ⟨_, rfl⟩
  have m1 := fun ts t W => min_nat x.names.length y.names.length M hM ts t W
  have m2 := fun ts t W => min_nat x.list.length y.list.length L hL ts t W
  have lM : (M : Int) ≤ 9223372036854775807 := by omega
  have lL : (L : Int) ≤ 9223372036854775807 := by omega
  replace hM := hid hM
  replace hL := hid hL
  go_wp2_with fail
  go_loopw [22] (fun i wr => ∃ k : Nat, k ≤ L ∧ i = .int .i64 k ∧ Hid (R = cmpL (x.names.drop k) (y.names.drop k) (x.list.drop k) (y.list.drop k) E) ∧ Hid (Blk wr w.heap.size [.int .u8 (x.kind : Nat), .bool x.bool, .int .i64 x.num, .string x.str, .string x.typ, .slice xno x.names.length xnc, .slice xlo x.list.length xlc] 27) ∧ Hid (Blk wr (w.heap.size + 1) [.int .u8 (y.kind : Nat), .bool y.bool, .int .i64 y.num, .string y.str, .string y.typ, .slice yno y.names.length ync, .slice ylo y.list.length ylc] 27) ∧ Hid (Bel w.heap.size w wr)) (fun i _ => L - (intOf i).toNat)
  case atStart => exact ⟨0, by omega, rfl, hid (by rw [← hR.out]; rfl), K1, K2, bw⟩
  case round =>
    obtain ⟨k, hk, rfl, hr, K1', K2', bw'⟩ := hrel
    clear c5 c6 cf d5 d6 df K1 K2 bw
    rename_i wr _
    obtain ⟨-, -, -, -, -, c5, c6, cf⟩ := seven K1'.out
    obtain ⟨-, -, -, -, -, d5, d6, df⟩ := seven K2'.out
    by_cases hlt : k < L
    · have hki : (k : Int) < (L : Int) := by omega
      have hk1 : k < x.list.length := by have := hL.out; omega
      have hk2 : k < y.list.length := by have := hL.out; omega
      have hst := hid (hr.out.trans (cmpL_step x.names y.names x.list y.list E k hk1 hk2))
      clear hr
      by_cases hkM : k < M
      · have hkMi : (k : Int) < (M : Int) := by omega
        have hn1 : k < x.names.length := by have := hM.out; omega
        have hn2 : k < y.names.length := by have := hM.out; omega
        obtain ⟨xnb, xn0, rfl, xnf⟩ := (hx'.out.below bw'.out.b).name ex1.out k hn1
        obtain ⟨ynb, yn0, rfl, ynf⟩ := (hy'.out.below bw'.out.b).name ey1.out k hn2
        obtain ⟨l1, l2⟩ := likeH_at hn1 hn2
        rw [l1, l2] at hst
        clear l1 l2
        generalize x.names[k] = nx at xnf hst
        generalize y.names[k] = ny at ynf hst
        cases hlk : (nx.toList == ny.toList) with
        | false =>
          have hn := hid (hst.out.trans (if_pos hlk))
          have hcs := hid (fun W => cmp_str nx ny W)
          have hne : (nx.toList != ny.toList) = true := by unfold bne; rw [hlk]; rfl
          have xnf' := hid xnf
          have ynf' := hid ynf
          clear hst
          go_wp2_with fail
          go_quiet (fail)
          clear xnf ynf
          rename_i nq
          have xnf := (below_drewN (Below.refl wr.heap.size wr) nq).cell (World.block_lt_of_cell? _ _ xnf'.out) |>.trans xnf'.out
          have ynf := (below_drewN (Below.refl wr.heap.size wr) nq).cell (World.block_lt_of_cell? _ _ ynf'.out) |>.trans ynf'.out
          have bq := hid ((Bel.refl wr.heap.size wr).drewN nq)
          replace K1' := hid (K1'.out.below bq.out.b K1'.out.lt)
          replace K2' := hid (K2'.out.below bq.out.b K2'.out.lt)
          replace bw' := hid (bel bw'.out bq.out)
          clear bq c5 c6 cf d5 d6 df
          generalize wr.drewN nq = wq at K1' K2' bw' xnf ynf ⊢
          obtain ⟨-, -, -, -, -, c5, c6, cf⟩ := seven K1'.out
          obtain ⟨-, -, -, -, -, d5, d6, df⟩ := seven K2'.out
          go_wp2_with fail
          go_region_held3 (fun W => W.cell? ⟨w.heap.size, 5, none⟩ = some (.slice (some ⟨xnb, xn0, none⟩) x.names.length xnc) ∧ W.cell? ⟨w.heap.size + 1, 5, none⟩ = some (.slice (some ⟨ynb, yn0, none⟩) y.names.length ync) ∧ W.cell? ⟨xnb, xn0 + k, none⟩ = some (.string nx) ∧ W.cell? ⟨ynb, yn0 + k, none⟩ = some (.string ny)) (exact ⟨c5, d5, xnf, ynf⟩) (first
            | (go_at_call 46; (with_reducible refine (hcs.out _).mono ?_); rintro e w1 ⟨rfl, rfl⟩))
          all_goals
            go_wp2_with fail
            go_ret
            exact ⟨by rw [hn.out]; rfl, (bel bw'.out ((Bel.refl _ wq).drew))⟩
        | true =>
          replace hst := hid (hst.out.trans (if_neg (by rw [hlk]; simp)))
          have hne : (nx.toList != ny.toList) = false := by unfold bne; rw [hlk]; rfl
          go_wp2_with fail
          go_quiet (fail)
          clear xnf ynf hne hlk
          rename_i nq
          have bq := hid ((Bel.refl wr.heap.size wr).drewN nq)
          replace K1' := hid (K1'.out.below bq.out.b K1'.out.lt)
          replace K2' := hid (K2'.out.below bq.out.b K2'.out.lt)
          replace bw' := hid (bel bw'.out bq.out)
          clear bq c5 c6 cf d5 d6 df
          generalize wr.drewN nq = wq at K1' K2' bw' ⊢
          obtain ⟨-, -, -, -, -, c5, c6, cf⟩ := seven K1'.out
          obtain ⟨-, -, -, -, -, d5, d6, df⟩ := seven K2'.out
          have hxk := hx'.out.below bw'.out.b
          have hyk := hy'.out.below bw'.out.b
          obtain ⟨xb, xo, rfl, xf0, xf1, xf2, xf3, xf4, xf5, xf6⟩ := hxk.part7 ex2.out k hk1
          obtain ⟨yb, yo, rfl, yf0, yf1, yf2, yf3, yf4, yf5, yf6⟩ := hyk.part7 ey2.out k hk2
          have hrec := hid (fun W (b : Below w.heap.size w W) => ih'.out x.list[k] (List.getElem_mem hk1) y.list[k] W ((hx'.out.below b).parts.2.2.2.2.2.2.2 x.list[k] (List.getElem_mem hk1)) ((hy'.out.below b).parts.2.2.2.2.2.2.2 y.list[k] (List.getElem_mem hk2)))
          generalize x.list[k] = zx at xf0 xf1 xf2 xf3 xf4 xf5 xf6 hrec hst
          generalize y.list[k] = zy at yf0 yf1 yf2 yf3 yf4 yf5 yf6 hrec hst
          clear hxk hyk
          generalize cmpT zx zy = cz at hrec hst
          replace hrec := hid (show ∀ W, Below w.heap.size w W → Calls Tryz.prog 19 #[.agg #[.int .u8 (zx.kind : Nat), .bool zx.bool, .int .i64 zx.num, .string zx.str, .string zx.typ, zx.nv, zx.lv], .agg #[.int .u8 (zy.kind : Nat), .bool zy.bool, .int .i64 zy.num, .string zy.str, .string zy.typ, zy.nv, zy.lv]] W fun e w' => e = .returned (.int .i64 cz) ∧ Bel W.heap.size W w' from hrec.out)
          go_wp2_with fail
          go_region_held3 (fun W => W.cell? ⟨w.heap.size, 6, none⟩ = some (.slice (some ⟨xb, xo, none⟩) x.list.length xlc) ∧ W.cell? ⟨w.heap.size + 1, 6, none⟩ = some (.slice (some ⟨yb, yo, none⟩) y.list.length ylc) ∧ W.cell? ⟨xb, xo + k * 7, none⟩ = some (.int .u8 (zx.kind : Nat)) ∧ W.cell? ⟨xb, xo + k * 7 + 1, none⟩ = some (.bool zx.bool) ∧ W.cell? ⟨xb, xo + k * 7 + 2, none⟩ = some (.int .i64 zx.num) ∧ W.cell? ⟨xb, xo + k * 7 + 3, none⟩ = some (.string zx.str) ∧ W.cell? ⟨xb, xo + k * 7 + 4, none⟩ = some (.string zx.typ) ∧ W.cell? ⟨xb, xo + k * 7 + 5, none⟩ = some (zx.nv) ∧ W.cell? ⟨xb, xo + k * 7 + 6, none⟩ = some (zx.lv) ∧ W.cell? ⟨yb, yo + k * 7, none⟩ = some (.int .u8 (zy.kind : Nat)) ∧ W.cell? ⟨yb, yo + k * 7 + 1, none⟩ = some (.bool zy.bool) ∧ W.cell? ⟨yb, yo + k * 7 + 2, none⟩ = some (.int .i64 zy.num) ∧ W.cell? ⟨yb, yo + k * 7 + 3, none⟩ = some (.string zy.str) ∧ W.cell? ⟨yb, yo + k * 7 + 4, none⟩ = some (.string zy.typ) ∧ W.cell? ⟨yb, yo + k * 7 + 5, none⟩ = some (zy.nv) ∧ W.cell? ⟨yb, yo + k * 7 + 6, none⟩ = some (zy.lv)) (exact ⟨c6, d6, xf0, xf1, xf2, xf3, xf4, xf5, xf6, yf0, yf1, yf2, yf3, yf4, yf5, yf6⟩) (first
            | (go_at_call 19; (with_reducible refine (hrec.out _ (bt bw'.out.b ((Below.refl _ wq).drew))).mono ?_); rintro e w1 ⟨rfl, b1⟩; replace b1 := (Bel.refl wq.heap.size wq).drew.trans b1
               have ca : ∀ {a : Addr} {v : Value}, wq.cell? a = some v → w1.cell? a = some v := fun h => (b1.b.cell (World.block_lt_of_cell? _ _ h)).trans h
               replace c6 := ca c6; replace d6 := ca d6; replace xf0 := ca xf0; replace xf1 := ca xf1; replace xf2 := ca xf2; replace xf3 := ca xf3; replace xf4 := ca xf4; replace xf5 := ca xf5; replace xf6 := ca xf6; replace yf0 := ca yf0; replace yf1 := ca yf1; replace yf2 := ca yf2; replace yf3 := ca yf3; replace yf4 := ca yf4; replace yf5 := ca yf5; replace yf6 := ca yf6; clear ca))
          replace K1' := hid (K1'.out.below b1.b K1'.out.lt)
          replace K2' := hid (K2'.out.below b1.b K2'.out.lt)
          replace bw' := hid (bel bw'.out b1)
          clear b1 hrec c5 c6 cf d5 d6 df xf0 xf1 xf2 xf3 xf4 xf5 xf6 yf0 yf1 yf2 yf3 yf4 yf5 yf6
          by_cases hz : cz = 0
          · have hz1 : (cz != 0) = false := by simp [hz]
            replace hst := hid (hst.out.trans (if_neg (by rw [hz]; simp)))
            clear hz
            go_wp2_with fail
            go_roundw
            case rel => exact ⟨k + 1, by omega, by go_num, hst, K1', K2', bw'⟩
            case measure => simp [intOf]; omega
          · have hz1 : (cz != 0) = true := by simp [hz]
            have hn := hid (hst.out.trans (if_pos hz))
            clear hst hz
            go_wp2_with fail
            go_ret
            exact ⟨by rw [hn.out]; rfl, bw'.out⟩
      · have hkMi : ¬ (k : Int) < (M : Int) := by omega
        rw [likeH_end (by have := hM.out; omega)] at hst
        replace hst := hid (hst.out.trans (if_neg (by simp)))
        go_wp2_with fail
        go_quiet (fail)
        rename_i nq
        have bq := hid ((Bel.refl wr.heap.size wr).drewN nq)
        replace K1' := hid (K1'.out.below bq.out.b K1'.out.lt)
        replace K2' := hid (K2'.out.below bq.out.b K2'.out.lt)
        replace bw' := hid (bel bw'.out bq.out)
        clear bq c5 c6 cf d5 d6 df
        generalize wr.drewN nq = wq at K1' K2' bw' ⊢
        obtain ⟨-, -, -, -, -, c5, c6, cf⟩ := seven K1'.out
        obtain ⟨-, -, -, -, -, d5, d6, df⟩ := seven K2'.out
        have hxk := hx'.out.below bw'.out.b
        have hyk := hy'.out.below bw'.out.b
        obtain ⟨xb, xo, rfl, xf0, xf1, xf2, xf3, xf4, xf5, xf6⟩ := hxk.part7 ex2.out k hk1
        obtain ⟨yb, yo, rfl, yf0, yf1, yf2, yf3, yf4, yf5, yf6⟩ := hyk.part7 ey2.out k hk2
        have hrec := hid (fun W (b : Below w.heap.size w W) => ih'.out x.list[k] (List.getElem_mem hk1) y.list[k] W ((hx'.out.below b).parts.2.2.2.2.2.2.2 x.list[k] (List.getElem_mem hk1)) ((hy'.out.below b).parts.2.2.2.2.2.2.2 y.list[k] (List.getElem_mem hk2)))
        generalize x.list[k] = zx at xf0 xf1 xf2 xf3 xf4 xf5 xf6 hrec hst
        generalize y.list[k] = zy at yf0 yf1 yf2 yf3 yf4 yf5 yf6 hrec hst
        clear hxk hyk
        generalize cmpT zx zy = cz at hrec hst
        replace hrec := hid (show ∀ W, Below w.heap.size w W → Calls Tryz.prog 19 #[.agg #[.int .u8 (zx.kind : Nat), .bool zx.bool, .int .i64 zx.num, .string zx.str, .string zx.typ, zx.nv, zx.lv], .agg #[.int .u8 (zy.kind : Nat), .bool zy.bool, .int .i64 zy.num, .string zy.str, .string zy.typ, zy.nv, zy.lv]] W fun e w' => e = .returned (.int .i64 cz) ∧ Bel W.heap.size W w' from hrec.out)
        go_wp2_with fail
        go_region_held3 (fun W => W.cell? ⟨w.heap.size, 6, none⟩ = some (.slice (some ⟨xb, xo, none⟩) x.list.length xlc) ∧ W.cell? ⟨w.heap.size + 1, 6, none⟩ = some (.slice (some ⟨yb, yo, none⟩) y.list.length ylc) ∧ W.cell? ⟨xb, xo + k * 7, none⟩ = some (.int .u8 (zx.kind : Nat)) ∧ W.cell? ⟨xb, xo + k * 7 + 1, none⟩ = some (.bool zx.bool) ∧ W.cell? ⟨xb, xo + k * 7 + 2, none⟩ = some (.int .i64 zx.num) ∧ W.cell? ⟨xb, xo + k * 7 + 3, none⟩ = some (.string zx.str) ∧ W.cell? ⟨xb, xo + k * 7 + 4, none⟩ = some (.string zx.typ) ∧ W.cell? ⟨xb, xo + k * 7 + 5, none⟩ = some (zx.nv) ∧ W.cell? ⟨xb, xo + k * 7 + 6, none⟩ = some (zx.lv) ∧ W.cell? ⟨yb, yo + k * 7, none⟩ = some (.int .u8 (zy.kind : Nat)) ∧ W.cell? ⟨yb, yo + k * 7 + 1, none⟩ = some (.bool zy.bool) ∧ W.cell? ⟨yb, yo + k * 7 + 2, none⟩ = some (.int .i64 zy.num) ∧ W.cell? ⟨yb, yo + k * 7 + 3, none⟩ = some (.string zy.str) ∧ W.cell? ⟨yb, yo + k * 7 + 4, none⟩ = some (.string zy.typ) ∧ W.cell? ⟨yb, yo + k * 7 + 5, none⟩ = some (zy.nv) ∧ W.cell? ⟨yb, yo + k * 7 + 6, none⟩ = some (zy.lv)) (exact ⟨c6, d6, xf0, xf1, xf2, xf3, xf4, xf5, xf6, yf0, yf1, yf2, yf3, yf4, yf5, yf6⟩) (first
          | (go_at_call 19; (with_reducible refine (hrec.out _ (bt bw'.out.b ((Below.refl _ wq).drew))).mono ?_); rintro e w1 ⟨rfl, b1⟩; replace b1 := (Bel.refl wq.heap.size wq).drew.trans b1
             have ca : ∀ {a : Addr} {v : Value}, wq.cell? a = some v → w1.cell? a = some v := fun h => (b1.b.cell (World.block_lt_of_cell? _ _ h)).trans h
             replace c6 := ca c6; replace d6 := ca d6; replace xf0 := ca xf0; replace xf1 := ca xf1; replace xf2 := ca xf2; replace xf3 := ca xf3; replace xf4 := ca xf4; replace xf5 := ca xf5; replace xf6 := ca xf6; replace yf0 := ca yf0; replace yf1 := ca yf1; replace yf2 := ca yf2; replace yf3 := ca yf3; replace yf4 := ca yf4; replace yf5 := ca yf5; replace yf6 := ca yf6; clear ca))
        replace K1' := hid (K1'.out.below b1.b K1'.out.lt)
        replace K2' := hid (K2'.out.below b1.b K2'.out.lt)
        replace bw' := hid (bel bw'.out b1)
        clear b1 hrec c5 c6 cf d5 d6 df xf0 xf1 xf2 xf3 xf4 xf5 xf6 yf0 yf1 yf2 yf3 yf4 yf5 yf6
        by_cases hz : cz = 0
        · have hz1 : (cz != 0) = false := by simp [hz]
          replace hst := hid (hst.out.trans (if_neg (by rw [hz]; simp)))
          clear hz
          go_wp2_with fail
          go_roundw
          case rel => exact ⟨k + 1, by omega, by go_num, hst, K1', K2', bw'⟩
          case measure => simp [intOf]; omega
        · have hz1 : (cz != 0) = true := by simp [hz]
          have hn := hid (hst.out.trans (if_pos hz))
          clear hst hz
          go_wp2_with fail
          go_ret
          exact ⟨by rw [hn.out]; rfl, bw'.out⟩
    · have hki : ¬ (k : Int) < (L : Int) := by omega
      have hn := hid (show R = E by rw [hr.out]; exact cmpL_end _ _ _ _ _ _ (by have := hL.out; omega))
      clear hr
      go_wp2_with fail
      refine (hce.out _).mono ?_
      rintro e w1 ⟨rfl, rfl⟩
      go_wp2_with fail
      go_ret
      exact ⟨by rw [hn.out]; rfl, bw'.out⟩
end Go.Proofs.YtdjgkbpfmonebaaGreatDoor.Val
