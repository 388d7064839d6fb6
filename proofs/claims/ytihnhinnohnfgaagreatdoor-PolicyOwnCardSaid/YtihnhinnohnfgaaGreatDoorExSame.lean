/-
  lictorref08.Same: contract; two expressions that are alike are the same.
-/
import Derived.Test.YtihnhinnohnfgaaGreatDoorExCopied
import Derived.Deep.RegionHeld3
import Derived.Deep.QuietTactic
import Derived.BigQuiet
namespace Go.Proofs.YtihnhinnohnfgaaGreatDoor.Ex
open Go.ChangeShapes Go.WideShapes Go.ChangeAt Go.RowKit
open Go.Proofs.YtihnhinnohnfgaaGreatDoor.Mem
set_option linter.unusedVariables false
set_option linter.unusedSimpArgs false
set_option maxRecDepth 100000
theorem below_drewN {B : Nat} {w W : World} (h : Below B w W) (n : Nat) : Below B w (W.drewN n) := ⟨h.os, h.tape, h.output, h.size, h.block⟩
def sameN : List ByteArray → List ByteArray → Bool
  | p :: a, q :: b => (p.toList == q.toList) && sameN a b
  | _, _ => true
mutual
def sameT : T → T → Bool
  | .mk k n s t na _ l _, y => decide (k = y.kind) && (decide (n = y.num) && ((s.toList == y.str.toList) && ((t.toList == y.typ.toList) && (decide (na.length = y.names.length) && (decide (l.length = y.list.length) && (sameN na y.names && sameL l y.list))))))
def sameL : List T → List T → Bool
  | x :: a, y :: b => sameT x y && sameL a b
  | _, _ => true
end
theorem sameT_eq (x y : T) : sameT x y = (decide (x.kind = y.kind) && (decide (x.num = y.num) && ((x.str.toList == y.str.toList) && ((x.typ.toList == y.typ.toList) && (decide (x.names.length = y.names.length) && (decide (x.list.length = y.list.length) && (sameN x.names y.names && sameL x.list y.list))))))) := by
  cases x
  rw [sameT]
  rfl
theorem sameN_self (l : List ByteArray) : sameN l l = true := by
  induction l with
  | nil => rfl
  | cons p l ih => simp [sameN, ih]
theorem sameN_step (a b : List ByteArray) (k : Nat) (h1 : k < a.length) (h2 : k < b.length) : sameN (a.drop k) (b.drop k) = ((a[k].toList == b[k].toList) && sameN (a.drop (k + 1)) (b.drop (k + 1))) := by
  rw [List.drop_eq_getElem_cons h1, List.drop_eq_getElem_cons h2, sameN]
theorem sameL_step (a b : List T) (k : Nat) (h1 : k < a.length) (h2 : k < b.length) : sameL (a.drop k) (b.drop k) = (sameT a[k] b[k] && sameL (a.drop (k + 1)) (b.drop (k + 1))) := by
  rw [List.drop_eq_getElem_cons h1, List.drop_eq_getElem_cons h2, sameL]
theorem like_same : ∀ {x y : T}, x.like y → sameT x y = true := by
  suffices h : ∀ n (x y : T), x.size ≤ n → x.like y → sameT x y = true from fun {x y} => h x.size x y (Nat.le_refl _)
  intro n
  induction n with
  | zero => intro x y hx; have := x.size_pos; omega
  | succ n ih =>
    intro x y hx h
    obtain ⟨h1, h2, h3, h4, h5, h7⟩ := T.like_iff.1 h
    have hl : ∀ (a b : List T), (∀ z ∈ a, z.size ≤ n) → T.likeL a b → sameL a b = true := by
      intro a
      induction a with
      | nil => intro b _ _; cases b <;> rfl
      | cons z a iha =>
        intro b hz hb
        cases b with
        | nil => exact absurd hb (by simp [T.likeL])
        | cons u b =>
          rw [sameL, ih z u (hz z (List.mem_cons_self ..)) hb.1, iha b (fun w hw => hz w (List.mem_cons_of_mem _ hw)) hb.2]
          rfl
    rw [sameT_eq, h1, h2, h3, h4, h5, T.likeL_length h7, sameN_self, hl _ _ (fun z hz => by have := T.size_part hz; omega) h7]
    simp
theorem sameT_int (x y : T) : sameT x y = (((x.kind : Int) == (y.kind : Int)) && ((x.num == y.num) && ((x.str.toList == y.str.toList) && ((x.typ.toList == y.typ.toList) && (((x.names.length : Int) == (y.names.length : Int)) && (((x.list.length : Int) == (y.list.length : Int)) && (sameN x.names y.names && sameL x.list y.list))))))) := by
  rw [sameT_eq]
  have e1 : decide (x.kind = y.kind) = ((x.kind : Int) == (y.kind : Int)) := by rw [Bool.eq_iff_iff]; simp; omega
  have e2 : decide (x.num = y.num) = (x.num == y.num) := rfl
  have e3 : decide (x.names.length = y.names.length) = ((x.names.length : Int) == (y.names.length : Int)) := by rw [Bool.eq_iff_iff]; simp; omega
  have e4 : decide (x.list.length = y.list.length) = ((x.list.length : Int) == (y.list.length : Int)) := by rw [Bool.eq_iff_iff]; simp; omega
  rw [e1, e2, e3, e4]
def SameP (x : T) : Prop := ∀ (y : T) (w : World), x.ok w → y.ok w → Calls Tryz.prog 15 #[x.val, y.val] w fun e w' => e = .returned (.bool (sameT x y)) ∧ Below w.heap.size w w'
set_option maxHeartbeats 4000000 in
theorem same_step (x : T) (ih : ∀ z ∈ x.list, SameP z) : SameP x := by
  intro y w hx hy
  obtain ⟨xno, xnc, xlo, xlc, ex1, ex2, xl1, xl2⟩ := hx.forms
  obtain ⟨yno, ync, ylo, ylc, ey1, ey2, yl1, yl2⟩ := hy.forms
  obtain ⟨R, hR⟩ : ∃ R, sameT x y = R := ⟨_, rfl⟩
  rw [hR, show x.val = .agg #[.int .u8 (x.kind : Nat), .int .i64 x.num, .string x.str, .string x.typ, .slice xno x.names.length xnc, .slice xlo x.list.length xlc] from by rw [T.lit, ex1, ex2], show y.val = .agg #[.int .u8 (y.kind : Nat), .int .i64 y.num, .string y.str, .string y.typ, .slice yno y.names.length ync, .slice ylo y.list.length ylc] from by rw [T.lit, ey1, ey2]]
  have hR' := hid (hR.symm.trans (sameT_int x y))
  have i1 : (x.names.length : Int) ≤ 9223372036854775807 := by omega
  have i2 : (x.list.length : Int) ≤ 9223372036854775807 := by omega
  have hx' := hid hx
  have hy' := hid hy
  have ih' := hid ih
  have ex1' := hid ex1
  have ex2' := hid ex2
  have ey1' := hid ey1
  have ey2' := hid ey2
  have hnl := hid (show ((x.names.length : Int) == (y.names.length : Int)) = true → y.names.length = x.names.length from fun h => by have := beq_iff_eq.1 h; omega)
  have hll := hid (show ((x.list.length : Int) == (y.list.length : Int)) = true → y.list.length = x.list.length from fun h => by have := beq_iff_eq.1 h; omega)
  clear hR hx hy ih ex1 ex2 ey1 ey2
  obtain ⟨t0, q0⟩ : ∃ t, ((x.kind : Int) == (y.kind : Int)) = t := ⟨_, rfl⟩
  obtain ⟨t1, q1⟩ : ∃ t, (x.num == y.num) = t := ⟨_, rfl⟩
  obtain ⟨t2, q2⟩ : ∃ t, (x.str.toList == y.str.toList) = t := ⟨_, rfl⟩
  obtain ⟨t3, q3⟩ : ∃ t, (x.typ.toList == y.typ.toList) = t := ⟨_, rfl⟩
  obtain ⟨t4, q4⟩ : ∃ t, ((x.names.length : Int) == (y.names.length : Int)) = t := ⟨_, rfl⟩
  obtain ⟨t5, q5⟩ : ∃ t, ((x.list.length : Int) == (y.list.length : Int)) = t := ⟨_, rfl⟩
  rw [q0, q1, q2, q3, q4, q5] at hR'
  rw [q4] at hnl
  rw [q5] at hll
  have n0 : ((x.kind : Int) != (y.kind : Int)) = !t0 := by unfold bne; rw [q0]
  have n1 : (x.num != y.num) = !t1 := by unfold bne; rw [q1]
  have n2 : (x.str.toList != y.str.toList) = !t2 := by unfold bne; rw [q2]
  have n3 : (x.typ.toList != y.typ.toList) = !t3 := by unfold bne; rw [q3]
  have n4 : ((x.names.length : Int) != (y.names.length : Int)) = !t4 := by unfold bne; rw [q4]
  have n5 : ((x.list.length : Int) != (y.list.length : Int)) = !t5 := by unfold bne; rw [q5]
  go_enter Tryz.func15, Tryz.ntmps15
  go_upto_region 1 with fail
  have K1 := hid (Blk.new w [.int .u8 (x.kind : Nat), .int .i64 x.num, .string x.str, .string x.typ, .slice xno x.names.length xnc, .slice xlo x.list.length xlc] 26)
  have bw := hid ((Below.refl w.heap.size w).alloc (Nat.le_refl _) (.cells #[.int .u8 (x.kind : Nat), .int .i64 x.num, .string x.str, .string x.typ, .slice xno x.names.length xnc, .slice xlo x.list.length xlc] 26))
  have hs : w.heap.size + 1 = (w.alloc (.cells #[.int .u8 (x.kind : Nat), .int .i64 x.num, .string x.str, .string x.typ, .slice xno x.names.length xnc, .slice xlo x.list.length xlc] 26)).heap.size := by simp
  generalize w.alloc (.cells #[.int .u8 (x.kind : Nat), .int .i64 x.num, .string x.str, .string x.typ, .slice xno x.names.length xnc, .slice xlo x.list.length xlc] 26) = X0 at K1 bw hs ⊢
  have K2 := hid (Blk.new' X0 [.int .u8 (y.kind : Nat), .int .i64 y.num, .string y.str, .string y.typ, .slice yno y.names.length ync, .slice ylo y.list.length ylc] 26 (w.heap.size + 1) hs)
  replace K1 := hid (K1.out.alloc (.cells #[.int .u8 (y.kind : Nat), .int .i64 y.num, .string y.str, .string y.typ, .slice yno y.names.length ync, .slice ylo y.list.length ylc] 26))
  replace bw := hid (bw.out.alloc (by omega) (.cells #[.int .u8 (y.kind : Nat), .int .i64 y.num, .string y.str, .string y.typ, .slice yno y.names.length ync, .slice ylo y.list.length ylc] 26))
  clear hs
  generalize X0.alloc (.cells #[.int .u8 (y.kind : Nat), .int .i64 y.num, .string y.str, .string y.typ, .slice yno y.names.length ync, .slice ylo y.list.length ylc] 26) = X1 at K1 K2 bw ⊢
  obtain ⟨c0, c1, c2, c3, c4, c5, cf⟩ := six K1.out
  obtain ⟨d0, d1, d2, d3, d4, d5, df⟩ := six K2.out
  cases t0 with
  | false =>
    have hn := hid (show R = false from by rw [hR'.out]; rfl)
    clear hR' hnl hll
    go_wp2_with fail
    go_ret
    exact ⟨by rw [hn.out]; rfl, bw.out⟩
  | true =>
    replace hR' := hid (show R = (t1 && (t2 && (t3 && (t4 && (t5 && (sameN x.names y.names && sameL x.list y.list)))))) from by rw [hR'.out, Bool.true_and])
    cases t1 with
    | false =>
      have hn := hid (show R = false from by rw [hR'.out]; rfl)
      clear hR' hnl hll
      go_wp2_with fail
      go_ret
      exact ⟨by rw [hn.out]; rfl, bw.out⟩
    | true =>
      replace hR' := hid (show R = (t2 && (t3 && (t4 && (t5 && (sameN x.names y.names && sameL x.list y.list))))) from by rw [hR'.out, Bool.true_and])
      cases t2 with
      | false =>
        have hn := hid (show R = false from by rw [hR'.out]; rfl)
        clear hR' hnl hll
        go_wp2_with fail
        go_ret
        exact ⟨by rw [hn.out]; rfl, bw.out⟩
      | true =>
        replace hR' := hid (show R = (t3 && (t4 && (t5 && (sameN x.names y.names && sameL x.list y.list)))) from by rw [hR'.out, Bool.true_and])
        cases t3 with
        | false =>
          have hn := hid (show R = false from by rw [hR'.out]; rfl)
          clear hR' hnl hll
          go_wp2_with fail
          go_ret
          exact ⟨by rw [hn.out]; rfl, bw.out⟩
        | true =>
          replace hR' := hid (show R = (t4 && (t5 && (sameN x.names y.names && sameL x.list y.list))) from by rw [hR'.out, Bool.true_and])
          cases t4 with
          | false =>
            have hn := hid (show R = false from by rw [hR'.out]; rfl)
            clear hR' hnl hll
            go_wp2_with fail
            go_ret
            exact ⟨by rw [hn.out]; rfl, bw.out⟩
          | true =>
            replace hR' := hid (show R = (t5 && (sameN x.names y.names && sameL x.list y.list)) from by rw [hR'.out, Bool.true_and])
            cases t5 with
            | false =>
              have hn := hid (show R = false from by rw [hR'.out]; rfl)
              clear hR' hnl hll
              go_wp2_with fail
              go_ret
              exact ⟨by rw [hn.out]; rfl, bw.out⟩
            | true =>
              replace hR' := hid (show R = (sameN x.names y.names && sameL x.list y.list) from by rw [hR'.out, Bool.true_and])
              have hln := hnl.out rfl
              have hll' := hll.out rfl
              rw [hln, hll'] at K2
              rw [hln] at ey1' d4
              rw [hll'] at ey2' d5
              replace hln := hid hln
              replace hll' := hid hll'
              go_wp2_with fail
              go_loopw [54] (fun i wr => ∃ k : Nat, k ≤ x.names.length ∧ i = .int .i64 k ∧ Hid (R = (sameN (x.names.drop k) (y.names.drop k) && sameL x.list y.list)) ∧ Hid (Blk wr w.heap.size [.int .u8 (x.kind : Nat), .int .i64 x.num, .string x.str, .string x.typ, .slice xno x.names.length xnc, .slice xlo x.list.length xlc] 26) ∧ Hid (Blk wr (w.heap.size + 1) [.int .u8 (y.kind : Nat), .int .i64 y.num, .string y.str, .string y.typ, .slice yno x.names.length ync, .slice ylo x.list.length ylc] 26) ∧ Hid (Below w.heap.size w wr)) (fun i _ => x.names.length - (intOf i).toNat)
              case atStart => exact ⟨0, by omega, rfl, hR', K1, K2, bw⟩
              case round =>
                clear c0 c1 c2 c3 c4 c5 cf d0 d1 d2 d3 d4 d5 df
                clear K1 K2 bw hR' n0 n1 n2 n3 n4 n5 q0 q1 q2 q3 q4 q5
                obtain ⟨k, hk, rfl, hR', K1, K2, bw⟩ := hrel
                rename_i wr _
                obtain ⟨c0, c1, c2, c3, c4, c5, cf⟩ := six K1.out
                obtain ⟨d0, d1, d2, d3, d4, d5, df⟩ := six K2.out
                by_cases hkl : k < x.names.length
                · have hki : (k : Int) < (x.names.length : Int) := by omega
                  have hk0 : (0 : Int) ≤ (k : Int) := by omega
                  have hky : k < y.names.length := by rw [hln.out]; exact hkl
                  have hst := hid (hR'.out.trans (by rw [sameN_step _ _ k hkl hky, Bool.and_assoc] : _ = ((x.names[k].toList == y.names[k].toList) && (sameN (x.names.drop (k + 1)) (y.names.drop (k + 1)) && sameL x.list y.list))))
                  obtain ⟨xb, xo, rfl, hxc⟩ := (hx'.out.below bw.out).name ex1'.out k hkl
                  obtain ⟨yb, yo, rfl, hyc⟩ := (hy'.out.below bw.out).name (no := yno) (nc := ync) (by rw [ey1'.out, hln.out]) k hky
                  generalize x.names[k] = nx at hxc hst
                  generalize y.names[k] = ny at hyc hst
                  clear hR' hky
                  obtain ⟨tn, qn⟩ : ∃ t, (nx.toList == ny.toList) = t := ⟨_, rfl⟩
                  rw [qn] at hst
                  have nn : (nx.toList != ny.toList) = !tn := by unfold bne; rw [qn]
                  go_upto_region 6 with fail
                  go_quiet (fail)
                  rename_i nq
                  replace K1 := hid (show Blk (wr.drewN nq) _ _ _ from ⟨K1.out.at'⟩)
                  replace K2 := hid (show Blk (wr.drewN nq) _ _ _ from ⟨K2.out.at'⟩)
                  replace bw := hid (below_drewN bw.out nq)
                  clear c0 c1 c2 c3 c4 c5 cf d0 d1 d2 d3 d4 d5 df
                  clear hxc hyc
                  generalize wr.drewN nq = w5 at K1 K2 bw ⊢
                  cases tn with
                  | false =>
                    have hn := hid (show R = false from by rw [hst.out]; rfl)
                    clear hst
                    go_wp2_with fail
                    go_ret
                    exact ⟨by rw [hn.out]; rfl, bw.out⟩
                  | true =>
                    replace hst := hid (hst.out.trans (Bool.true_and _))
                    go_wp2_with fail
                    go_roundw
                    case rel => exact ⟨k + 1, by omega, by go_num, hst, K1, K2, bw⟩
                    case measure => simp [intOf]; omega
                · obtain rfl : k = x.names.length := by omega
                  replace hR' := hid (show R = sameL x.list y.list by rw [hR'.out, List.drop_length]; rfl)
                  go_wp2_with fail
                  go_loopw [72] (fun i wr => ∃ k : Nat, k ≤ x.list.length ∧ i = .int .i64 k ∧ Hid (R = sameL (x.list.drop k) (y.list.drop k)) ∧ Hid (Blk wr w.heap.size [.int .u8 (x.kind : Nat), .int .i64 x.num, .string x.str, .string x.typ, .slice xno x.names.length xnc, .slice xlo x.list.length xlc] 26) ∧ Hid (Blk wr (w.heap.size + 1) [.int .u8 (y.kind : Nat), .int .i64 y.num, .string y.str, .string y.typ, .slice yno x.names.length ync, .slice ylo x.list.length ylc] 26) ∧ Hid (Below w.heap.size w wr)) (fun i _ => x.list.length - (intOf i).toNat)
                  case atStart => exact ⟨0, by omega, rfl, hR', K1, K2, bw⟩
                  case round =>
                    clear c0 c1 c2 c3 c4 c5 cf d0 d1 d2 d3 d4 d5 df
                    clear K1 K2 bw hR'
                    obtain ⟨k, hk, rfl, hR', K1, K2, bw⟩ := hrel
                    rename_i wr _
                    obtain ⟨c0, c1, c2, c3, c4, c5, cf⟩ := six K1.out
                    obtain ⟨d0, d1, d2, d3, d4, d5, df⟩ := six K2.out
                    by_cases hkl : k < x.list.length
                    · have hki : (k : Int) < (x.list.length : Int) := by omega
                      have hk0 : (0 : Int) ≤ (k : Int) := by omega
                      have hky : k < y.list.length := by rw [hll'.out]; exact hkl
                      have hst := hid (hR'.out.trans (sameL_step _ _ k hkl hky))
                      obtain ⟨xb, xo, rfl, xf0, xf1, xf2, xf3, xf4, xf5⟩ := (hx'.out.below bw.out).part6 ex2'.out k hkl
                      obtain ⟨yb, yo, rfl, yf0, yf1, yf2, yf3, yf4, yf5⟩ := (hy'.out.below bw.out).part6 (lo := ylo) (lc := ylc) (by rw [ey2'.out, hll'.out]) k hky
                      have hcl := hid (fun W (b : Below w.heap.size w W) => ih'.out x.list[k] (List.getElem_mem hkl) y.list[k] W ((hx'.out.below b).parts.2.2.2.2.2.2.2 _ (List.getElem_mem hkl)) ((hy'.out.below b).parts.2.2.2.2.2.2.2 _ (List.getElem_mem hky)))
                      generalize x.list[k] = zx at xf0 xf1 xf2 xf3 xf4 xf5 hcl hst
                      generalize y.list[k] = zy at yf0 yf1 yf2 yf3 yf4 yf5 hcl hst
                      generalize sameT zx zy = bz at hcl hst
                      replace hcl := hid (show ∀ W, Below w.heap.size w W → Calls Tryz.prog 15 #[.agg #[.int .u8 (zx.kind : Nat), .int .i64 zx.num, .string zx.str, .string zx.typ, zx.nv, zx.lv], .agg #[.int .u8 (zy.kind : Nat), .int .i64 zy.num, .string zy.str, .string zy.typ, zy.nv, zy.lv]] W fun e w' => e = .returned (.bool bz) ∧ Below W.heap.size W w' from hcl.out)
                      clear hR' hky c0 c1 c2 c3 c4 cf d0 d1 d2 d3 d4 df
                      go_upto_region 12 with fail
                      go_region_held3 (fun W => W.cell? ⟨w.heap.size, 5, none⟩ = some (.slice (some ⟨xb, xo, none⟩) x.list.length xlc) ∧ W.cell? ⟨w.heap.size + 1, 5, none⟩ = some (.slice (some ⟨yb, yo, none⟩) x.list.length ylc) ∧ W.cell? ⟨xb, xo + k * 6, none⟩ = some (.int .u8 (zx.kind : Nat)) ∧ W.cell? ⟨xb, xo + k * 6 + 1, none⟩ = some (.int .i64 zx.num) ∧ W.cell? ⟨xb, xo + k * 6 + 2, none⟩ = some (.string zx.str) ∧ W.cell? ⟨xb, xo + k * 6 + 3, none⟩ = some (.string zx.typ) ∧ W.cell? ⟨xb, xo + k * 6 + 4, none⟩ = some (zx.nv) ∧ W.cell? ⟨xb, xo + k * 6 + 5, none⟩ = some (zx.lv) ∧ W.cell? ⟨yb, yo + k * 6, none⟩ = some (.int .u8 (zy.kind : Nat)) ∧ W.cell? ⟨yb, yo + k * 6 + 1, none⟩ = some (.int .i64 zy.num) ∧ W.cell? ⟨yb, yo + k * 6 + 2, none⟩ = some (.string zy.str) ∧ W.cell? ⟨yb, yo + k * 6 + 3, none⟩ = some (.string zy.typ) ∧ W.cell? ⟨yb, yo + k * 6 + 4, none⟩ = some (zy.nv) ∧ W.cell? ⟨yb, yo + k * 6 + 5, none⟩ = some (zy.lv)) (exact ⟨c5, d5, xf0, xf1, xf2, xf3, xf4, xf5, yf0, yf1, yf2, yf3, yf4, yf5⟩) (first
                        | (go_at_call 15; (with_reducible refine (hcl.out _ (bt bw.out ((Below.refl _ wr).drew))).mono ?_); rintro e w1 ⟨rfl, b1⟩; replace b1 := (Below.refl wr.heap.size wr).drew.trans b1
                           have ca : ∀ {a : Addr} {v : Value}, wr.cell? a = some v → w1.cell? a = some v := fun h => (b1.cell (World.block_lt_of_cell? _ _ h)).trans h
                           replace c5 := ca c5; replace d5 := ca d5; replace xf0 := ca xf0; replace xf1 := ca xf1; replace xf2 := ca xf2; replace xf3 := ca xf3; replace xf4 := ca xf4; replace xf5 := ca xf5; replace yf0 := ca yf0; replace yf1 := ca yf1; replace yf2 := ca yf2; replace yf3 := ca yf3; replace yf4 := ca yf4; replace yf5 := ca yf5; clear ca))
                      clear c5 d5 xf0 xf1 xf2 xf3 xf4 xf5 yf0 yf1 yf2 yf3 yf4 yf5 hcl
                      replace K1 := hid (K1.out.below b1 K1.out.lt)
                      replace K2 := hid (K2.out.below b1 K2.out.lt)
                      replace bw := hid (bt bw.out b1)
                      clear b1
                      cases bz with
                      | false =>
                        have hn := hid (show R = false from by rw [hst.out]; rfl)
                        clear hst
                        go_wp2_with fail
                        go_ret
                        exact ⟨by rw [hn.out]; rfl, bw.out⟩
                      | true =>
                        replace hst := hid (hst.out.trans (Bool.true_and _))
                        go_wp2_with fail
                        go_roundw
                        case rel => exact ⟨k + 1, by omega, by go_num, hst, K1, K2, bw⟩
                        case measure => simp [intOf]; omega
                    · obtain rfl : k = x.list.length := by omega
                      have hn := hid (show R = true by rw [hR'.out, List.drop_length]; rfl)
                      clear hR'
                      go_wp2_with fail
                      go_ret
                      exact ⟨by rw [hn.out]; rfl, bw.out⟩
theorem same_any (x : T) : SameP x := by
  suffices h : ∀ n (x : T), x.size ≤ n → SameP x from h x.size x (Nat.le_refl _)
  intro n
  induction n with
  | zero => intro x hx; have := x.size_pos; omega
  | succ n ih => intro x hx; exact same_step x (fun z hz => ih z (by have := T.size_part hz; omega))
end Go.Proofs.YtihnhinnohnfgaaGreatDoor.Ex
