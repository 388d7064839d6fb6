/-
  value.measured, value.Check: contracts.
-/
import Derived.Test.YtdjgkbpfmonebaaGreatDoorValFields
namespace Go.Proofs.YtdjgkbpfmonebaaGreatDoor.Val
open Go.ChangeShapes Go.WideShapes Go.ChangeAt Go.RowKit
open Go.Proofs.YtdjgkbpfmonebaaGreatDoor.Mem Go.Proofs.YtdjgkbpfmonebaaGreatDoor.Nam
set_option linter.unusedVariables false
set_option linter.unusedSimpArgs false
set_option maxRecDepth 100000
def maxI (a b : Int) : Int := if a < b then b else a
mutual
/-- how deep and how much, where all else is right -/
def measT : T → Option (Int × Int)
  | .mk k b n s t na nv l lv => if frB (.mk k b n s t na nv l lv) = false then none else (measL l 0 1).map fun p => (RowKit.wrap64 (p.1 + 1), p.2)
def measL : List T → Int → Int → Option (Int × Int)
  | [], d, c => some (d, c)
  | x :: r, d, c => match measT x with
    | none => none
    | some p => measL r (maxI d p.1) (RowKit.wrap64 (c + p.2))
end
theorem measT_eq (x : T) : measT x = if frB x = false then none else (measL x.list 0 1).map fun p => (RowKit.wrap64 (p.1 + 1), p.2) := by
  cases x
  rw [measT]
  rfl
def measV : Option (Int × Int) → Value
  | none => .tuple #[.agg #[.int .i64 0, .int .i64 0], .bool false]
  | some p => .tuple #[.agg #[.int .i64 p.1, .int .i64 p.2], .bool true]
theorem max_run (a b : Int) (ts : Array TypeId) (t : TypeId) (W : World) : (Builtin.max_ ts t #[.int .i64 a, .int .i64 b]).run Tryz.prog W = .ok (.int .i64 (maxI a b)) W := by
  rw [run_max_int2]
  rfl
def Meas (x : T) : Prop := ∀ (w : World), x.ok w → (∃ m, w.cell? ⟨3, 0, none⟩ = some (.int .i64 m)) → Tabs w → Calls Tryz.prog 25 #[x.val] w fun e w' => e = .returned (measV (measT x)) ∧ Below w.heap.size w w'
set_option maxHeartbeats 4000000 in
theorem meas_step (hS : SplitTold) (hV : ValidTold) (x : T) (ih : ∀ z ∈ x.list, Meas z) : Meas x := by
  intro w h hm hT
  have cF := hid (fun W (b : Below w.heap.size w W) => fields_any hS hV x W (h.below b) (by
    obtain ⟨m, hm⟩ := hm
    exact ⟨m, (b.cell (World.block_lt_of_cell? _ _ hm)).trans hm⟩) (hT.below b))
  obtain ⟨no, nc, lo, lc, e1, e2, l1, l2⟩ := h.forms
  obtain ⟨R, hR⟩ : ∃ R, measT x = R := ⟨_, rfl⟩
  rw [hR]
  have hR' := hid (hR.symm.trans (measT_eq x))
  rw [show x.val = .agg #[.int .u8 (x.kind : Nat), .bool x.bool, .int .i64 x.num, .string x.str, .string x.typ, x.nv, x.lv] from rfl, e1, e2] at cF ⊢
  have i2 : (x.list.length : Int) ≤ 9223372036854775807 := by omega
  have h' := hid h
  have ih' := hid ih
  have hm' := hid hm
  have hT' := hid hT
  have e2' := hid e2
  clear hR ih h hm hT e1 e2 hS hV
  go_enter Tryz.func25, Tryz.ntmps25
  go_upto_region 1 with fail
  have K1 := hid (Blk.new w [.int .u8 (x.kind : Nat), .bool x.bool, .int .i64 x.num, .string x.str, .string x.typ, .slice no x.names.length nc, .slice lo x.list.length lc] 27)
  have bw := hid ((Below.refl w.heap.size w).alloc (Nat.le_refl _) (.cells #[.int .u8 (x.kind : Nat), .bool x.bool, .int .i64 x.num, .string x.str, .string x.typ, .slice no x.names.length nc, .slice lo x.list.length lc] 27))
  have hs : w.heap.size + 1 = (w.alloc (.cells #[.int .u8 (x.kind : Nat), .bool x.bool, .int .i64 x.num, .string x.str, .string x.typ, .slice no x.names.length nc, .slice lo x.list.length lc] 27)).heap.size := by simp
  generalize w.alloc (.cells #[.int .u8 (x.kind : Nat), .bool x.bool, .int .i64 x.num, .string x.str, .string x.typ, .slice no x.names.length nc, .slice lo x.list.length lc] 27) = X0 at K1 bw hs ⊢
  have K2 := hid (Blk.new' X0 [.int .i64 0, .int .i64 0] 62 (w.heap.size + 1) hs)
  replace K1 := hid (K1.out.alloc (.cells #[.int .i64 0, .int .i64 0] 62))
  replace bw := hid (bw.out.alloc (by omega) (.cells #[.int .i64 0, .int .i64 0] 62))
  clear hs
  generalize X0.alloc (.cells #[.int .i64 0, .int .i64 0] 62) = X1 at K1 K2 bw ⊢
  obtain ⟨c0, c1, c2, c3, c4, c5, c6, cf⟩ := seven K1.out
  obtain ⟨d0, d1, df⟩ := K2.out.two
  go_wp2_with fail
  refine (cF.out _ bw.out).mono ?_
  rintro e w1 ⟨rfl, b1⟩
  replace K1 := hid (K1.out.below b1 K1.out.lt)
  replace K2 := hid (K2.out.below b1 K2.out.lt)
  replace bw := hid (bt bw.out b1)
  clear b1 c0 c1 c2 c3 c4 c5 c6 cf d0 d1 df
  obtain ⟨c0, c1, c2, c3, c4, c5, c6, cf⟩ := seven K1.out
  obtain ⟨d0, d1, df⟩ := K2.out.two
  cases hf : frB x with
  | false =>
    have hn := hid (hR'.out.trans (if_pos hf))
    clear hR' hf c0 c1 c2 c3 c4 c5 c6 cf
    have K9 := hid (show Blk _ _ [.int .i64 0, .int .i64 0] _ from (K2.out.set 0 (.int .i64 0)).set 1 (.int .i64 0))
    go_wp2_with fail
    obtain ⟨q0, q1, qf⟩ := K9.out.two
    exact bodyPost_ret (v := .tuple #[.agg #[.int .i64 0, .int .i64 0], .bool false]) (by simp [results, Tryz.results25, go_sem, q0, q1]) rfl ⟨by rw [hn.out]; rfl, (bw.out.setCell (Nat.le_succ _) _).setCell (Nat.le_succ _) _⟩
  | true =>
    replace hR' := hid (hR'.out.trans (if_neg (by rw [hf]; simp)))
    clear hf
    go_upto_region 4 with fail
    have K3 := hid (Blk.new w1 [.int .i64 0, .int .i64 1] 62)
    have hlt := hid K2.out.lt
    replace K1 := hid (K1.out.alloc (.cells #[.int .i64 0, .int .i64 1] 62))
    replace K2 := hid (K2.out.alloc (.cells #[.int .i64 0, .int .i64 1] 62))
    replace bw := hid (bw.out.alloc (by have := hlt.out; omega) (.cells #[.int .i64 0, .int .i64 1] 62))
    clear c0 c1 c2 c3 c4 c5 c6 cf d0 d1 df
    generalize w1.alloc (.cells #[.int .i64 0, .int .i64 1] 62) = X2 at K1 K2 K3 bw ⊢
    generalize w1.heap.size = n2 at K3 hlt ⊢
    obtain ⟨-, -, -, -, -, -, c6, cf⟩ := seven K1.out
    go_wp2_with fail
    go_loopw [17] (fun i wr => ∃ (k : Nat) (d c : Int), k ≤ x.list.length ∧ i = .int .i64 k ∧ Hid (measL x.list 0 1 = measL (x.list.drop k) d c) ∧ Hid (Blk wr (w.heap.size + 1) [.int .i64 0, .int .i64 0] 62) ∧ Hid (Blk wr n2 [.int .i64 d, .int .i64 c] 62) ∧ Hid (Below w.heap.size w wr)) (fun i _ => x.list.length - (intOf i).toNat)
    case atStart => exact ⟨0, 0, 1, by omega, rfl, hid rfl, K2, K3, bw⟩
    case round =>
      obtain ⟨k, d, c, hk, rfl, hr, K2', K3', bw'⟩ := hrel
      clear c6 cf K1 K2 K3 bw
      rename_i wr _
      by_cases hkl : k < x.list.length
      · have hki : (k : Int) < (x.list.length : Int) := by omega
        have hst := hid (show measL x.list 0 1 = (match measT x.list[k] with | none => none | some p => measL (x.list.drop (k + 1)) (maxI d p.1) (RowKit.wrap64 (c + p.2))) by rw [hr.out, List.drop_eq_getElem_cons hkl, measL])
        clear hr
        obtain ⟨xb, xo, rfl, xf0, xf1, xf2, xf3, xf4, xf5, xf6⟩ := (h'.out.below bw'.out).part7 e2'.out k hkl
        have hrec := hid (fun W (b : Below w.heap.size w W) => ih'.out x.list[k] (List.getElem_mem hkl) W ((h'.out.below b).parts.2.2.2.2.2.2.2 _ (List.getElem_mem hkl)) (by
          obtain ⟨m, hm⟩ := hm'.out
          exact ⟨m, (b.cell (World.block_lt_of_cell? _ _ hm)).trans hm⟩) (hT'.out.below b))
        have hzok := (h'.out.below bw'.out).parts.2.2.2.2.2.2.2 _ (List.getElem_mem hkl)
        generalize x.list[k] = z at xf0 xf1 xf2 xf3 xf4 xf5 xf6 hrec hst hzok
        obtain ⟨zno, znc, zlo, zlc, ez1, ez2, zl1, zl2⟩ := hzok.forms
        have hzv : z.val = .agg #[.int .u8 (z.kind : Nat), .bool z.bool, .int .i64 z.num, .string z.str, .string z.typ, .slice zno z.names.length znc, .slice zlo z.list.length zlc] := by show Value.agg _ = _; unfold T.enc; rw [ez1, ez2]
        rw [ez1] at xf5
        rw [ez2] at xf6
        clear hzok ez1 ez2
        replace hrec := hid (show ∀ W, Below w.heap.size w W → Calls Tryz.prog 25 #[.agg #[.int .u8 (z.kind : Nat), .bool z.bool, .int .i64 z.num, .string z.str, .string z.typ, .slice zno z.names.length znc, .slice zlo z.list.length zlc]] W fun e w' => e = .returned (measV (measT z)) ∧ Below W.heap.size W w' from fun W b => by have := hrec.out W b; rw [hzv] at this; exact this)
        clear hzv
        go_upto_region 7 with fail
        have K4 := hid (Blk.new wr [.int .u8 (z.kind : Nat), .bool z.bool, .int .i64 z.num, .string z.str, .string z.typ, .slice zno z.names.length znc, .slice zlo z.list.length zlc] 27)
        replace K2' := hid (K2'.out.alloc (.cells #[.int .u8 (z.kind : Nat), .bool z.bool, .int .i64 z.num, .string z.str, .string z.typ, .slice zno z.names.length znc, .slice zlo z.list.length zlc] 27))
        have hlt3 := hid K3'.out.lt
        replace K3' := hid (K3'.out.alloc (.cells #[.int .u8 (z.kind : Nat), .bool z.bool, .int .i64 z.num, .string z.str, .string z.typ, .slice zno z.names.length znc, .slice zlo z.list.length zlc] 27))
        replace bw' := hid (bw'.out.alloc (by have := hlt.out; have := hlt3.out; omega) (.cells #[.int .u8 (z.kind : Nat), .bool z.bool, .int .i64 z.num, .string z.str, .string z.typ, .slice zno z.names.length znc, .slice zlo z.list.length zlc] 27))
        clear xf0 xf1 xf2 xf3 xf4 xf5 xf6
        generalize wr.alloc (.cells #[.int .u8 (z.kind : Nat), .bool z.bool, .int .i64 z.num, .string z.str, .string z.typ, .slice zno z.names.length znc, .slice zlo z.list.length zlc] 27) = X3 at K4 K2' K3' bw' ⊢
        generalize wr.heap.size = n3 at K4 hlt3 ⊢
        obtain ⟨f0, f1, f2, f3, f4, f5, f6, ff⟩ := seven K4.out
        go_wp2_with fail
        refine (hrec.out _ bw'.out).mono ?_
        rintro e w2 ⟨rfl, b1⟩
        replace K2' := hid (K2'.out.below b1 K2'.out.lt)
        replace K3' := hid (K3'.out.below b1 K3'.out.lt)
        replace bw' := hid (bt bw'.out b1)
        clear b1 hrec f0 f1 f2 f3 f4 f5 f6 ff K4
        cases hm : measT z with
        | none =>
          have hn := hid (show R = none by rw [hR'.out, hst.out, hm]; rfl)
          clear hst hm hR'
          rw [show measV none = .tuple #[.agg #[.int .i64 0, .int .i64 0], .bool false] from rfl]
          go_upto_region 8 with fail
          replace K2' := hid (K2'.out.alloc (.cells #[.int .i64 0, .int .i64 0] 62))
          have hlt4 := hid K3'.out.lt
          replace bw' := hid (bw'.out.alloc (by have := hlt.out; have := hlt4.out; omega) (.cells #[.int .i64 0, .int .i64 0] 62))
          generalize w2.alloc (.cells #[.int .i64 0, .int .i64 0] 62) = X4 at K2' bw' ⊢
          have K9 := hid (show Blk _ _ [.int .i64 0, .int .i64 0] _ from (K2'.out.set 0 (.int .i64 0)).set 1 (.int .i64 0))
          obtain ⟨d0, d1, df⟩ := K2'.out.two
          go_wp2_with fail
          clear d0 d1 df
          obtain ⟨q0, q1, qf⟩ := K9.out.two
          exact bodyPost_ret (v := .tuple #[.agg #[.int .i64 0, .int .i64 0], .bool false]) (by simp [results, Tryz.results25, go_sem, q0, q1]) rfl ⟨by rw [hn.out]; rfl, (bw'.out.setCell (Nat.le_succ _) _).setCell (Nat.le_succ _) _⟩
        | some p =>
          obtain ⟨pd, pc⟩ := p
          replace hst := hid (show measL x.list 0 1 = measL (x.list.drop (k + 1)) (maxI d pd) (RowKit.wrap64 (c + pc)) by rw [hst.out, hm])
          clear hm
          have hmx := fun ts t W => max_run d pd ts t W
          generalize maxI d pd = mx at hst hmx
          rw [show measV (some (pd, pc)) = .tuple #[.agg #[.int .i64 pd, .int .i64 pc], .bool true] from rfl]
          go_upto_region 8 with fail
          have K5 := hid (Blk.new w2 [.int .i64 pd, .int .i64 pc] 62)
          replace K2' := hid (K2'.out.alloc (.cells #[.int .i64 pd, .int .i64 pc] 62))
          have hlt4 := hid K3'.out.lt
          replace K3' := hid (K3'.out.alloc (.cells #[.int .i64 pd, .int .i64 pc] 62))
          replace bw' := hid (bw'.out.alloc (by have := hlt.out; have := hlt4.out; omega) (.cells #[.int .i64 pd, .int .i64 pc] 62))
          generalize w2.alloc (.cells #[.int .i64 pd, .int .i64 pc] 62) = X4 at K5 K2' K3' bw' ⊢
          have hne := hid (show n2 ≠ w2.heap.size by have := hlt4.out; omega)
          generalize w2.heap.size = n4 at K5 hlt4 hne ⊢
          have K2n := hid ((K2'.out.other (p := ⟨n2, 0, none⟩) (by have := hlt.out; show n2 ≠ _; omega) (.int .i64 mx)).other (p := ⟨n2, 1, none⟩) (by have := hlt.out; show n2 ≠ _; omega) (.int .i64 (RowKit.wrap64 (c + pc))))
          have K3n := hid (show Blk _ _ [.int .i64 mx, .int .i64 (RowKit.wrap64 (c + pc))] _ from (K3'.out.set 0 (.int .i64 mx)).set 1 (.int .i64 (RowKit.wrap64 (c + pc))))
          have bwn := hid ((bw'.out.setCell (p := ⟨n2, 0, none⟩) (by have := hlt.out; show _ ≤ n2; omega) (.int .i64 mx)).setCell (p := ⟨n2, 1, none⟩) (by have := hlt.out; show _ ≤ n2; omega) (.int .i64 (RowKit.wrap64 (c + pc))))
          have hne1 : n2 ≠ n4 := hne.out
          have hne2 : n4 ≠ n2 := fun e => hne.out e.symm
          obtain ⟨d0, d1, df⟩ := K3'.out.two
          obtain ⟨g0, g1, gf⟩ := K5.out.two
          go_wp2_with fail
          go_roundw
          case rel => exact ⟨k + 1, mx, RowKit.wrap64 (c + pc), by omega, by go_num, hst, K2n, K3n, bwn⟩
          case measure => simp [intOf]; omega
      · have hki : ¬ (k : Int) < (x.list.length : Int) := by omega
        have hn := hid (show R = some (RowKit.wrap64 (d + 1), c) by rw [hR'.out, hr.out, List.drop_eq_nil_of_le (by omega), measL]; rfl)
        clear hr hR'
        have hne1 : w.heap.size + 1 ≠ n2 := by have := hlt.out; omega
        have hne2 : n2 ≠ w.heap.size + 1 := fun e => hne1 e.symm
        have K2n := hid (show Blk _ _ [.int .i64 (RowKit.wrap64 (d + 1)), .int .i64 c] _ from ((K2'.out.other (p := ⟨n2, 0, none⟩) hne2 (.int .i64 (RowKit.wrap64 (d + 1)))).set 0 (.int .i64 (RowKit.wrap64 (d + 1)))).set 1 (.int .i64 c))
        have bwn := hid (((bw'.out.setCell (p := ⟨n2, 0, none⟩) (by have := hlt.out; show _ ≤ n2; omega) (.int .i64 (RowKit.wrap64 (d + 1)))).setCell (p := ⟨w.heap.size + 1, 0, none⟩) (Nat.le_succ _) (.int .i64 (RowKit.wrap64 (d + 1)))).setCell (p := ⟨w.heap.size + 1, 1, none⟩) (Nat.le_succ _) (.int .i64 c))
        obtain ⟨d0, d1, df⟩ := K3'.out.two
        obtain ⟨g0, g1, gf⟩ := K2'.out.two
        go_wp2_with fail
        clear d0 d1 df g0 g1 gf
        obtain ⟨q0, q1, qf⟩ := K2n.out.two
        exact bodyPost_ret (v := .tuple #[.agg #[.int .i64 (RowKit.wrap64 (d + 1)), .int .i64 c], .bool true]) (by simp [results, Tryz.results25, go_sem, q0, q1]) rfl ⟨by rw [hn.out]; rfl, bwn.out⟩
end Go.Proofs.YtdjgkbpfmonebaaGreatDoor.Val
