/-
  types.attrsFit: contract. Written by wip/tjgen.py.
-/
import Derived.Test.YtklclfolmfhocaaGreatDoorTjFitsP
import Derived.Deep.RegionHeld3
import Derived.Deep.RegionWith
import Derived.Laws.EntriesVeiled
namespace Go.Proofs.YtklclfolmfhocaaGreatDoor.Tyt
open Go.ChangeShapes Go.WideShapes Go.ChangeAt Go.RowKit
open Go.Proofs.YtklclfolmfhocaaGreatDoor.Mem
set_option linter.unusedVariables false
set_option linter.unusedSimpArgs false
set_option maxRecDepth 100000
theorem beq_bytes (s t : ByteArray) : (s.toList == t.toList) = decide (s = t) := by
  by_cases h : s = t
  · subst h; simp
  · rw [decide_eq_false h, beq_eq_false_iff_ne, ne_eq, ByteArray.toList_eq, ByteArray.toList_eq]
    intro h3
    refine h ?_
    have h4 := Array.toList_inj.1 h3
    cases s; cases t
    simp only at h4
    rw [h4]
set_option maxHeartbeats 8000000 in
theorem attrs1_any (s nm : ByteArray) (k : Int) (tn : ByteArray) (oo ao : Option Addr) (ol oc al ac : Nat) (w : World) :
    Calls Tryz.prog 52 #[.string s, .agg #[.string nm, .int .u8 k, .string tn, .slice oo ol oc, .slice ao al ac]] w fun e w' => e = .returned (.bool (decide (s = nm))) ∧ Below w.heap.size w w' := by
  have hbq := hid (beq_bytes s nm)
  have bw0 := hid (Below.refl w.heap.size w)
  go_enter Tryz.func52, Tryz.ntmps52
  go_upto_region 1 with fail
  have K := hid (Blk.new w [.string nm, .int .u8 k, .string tn, .slice oo ol oc, .slice ao al ac] 53)
  have bw := hid (bw0.out.alloc (Nat.le_refl _) (.cells #[.string nm, .int .u8 k, .string tn, .slice oo ol oc, .slice ao al ac] 53))
  clear bw0
  generalize w.alloc (.cells #[.string nm, .int .u8 k, .string tn, .slice oo ol oc, .slice ao al ac] 53) = X1 at K bw ⊢
  obtain ⟨k0, k1, k2, k3, k4, kf⟩ := five K.out
  go_wp2_with fail
  go_ret
  exact ⟨by rw [← hbq.out]; rfl, bw.out⟩
set_option maxHeartbeats 8000000 in
theorem equal_fits (names : List ByteArray) (no : Option Addr) (nc : Nat) (an : List ByteArray) (att : List Ty) (ao : Option Addr) (ac : Nat) (w : World)
    (hn : StrsV w (.slice no names.length nc) names) (ha : AttrsV w (.slice ao att.length ac) an att) :
    Calls Tryz.prog 51 #[.slice no names.length nc, .slice ao att.length ac, .func (Fn.func 52) #[] #[]] w fun e w' => e = .returned (.bool (decide (names = an))) ∧ Below w.heap.size w w' := by
  obtain ⟨n, hnl⟩ : ∃ n, names.length = n := ⟨_, rfl⟩
  obtain ⟨m, hml⟩ : ∃ m, att.length = m := ⟨_, rfl⟩
  have hnn := ha.1
  have i1 : (n : Int) ≤ 9223372036854775807 := by have := SlV.len hn; unfold maxLen at this; omega
  have i2 : (m : Int) ≤ 9223372036854775807 := by have := SlV.len ha.2.1; unfold maxLen at this; omega
  rw [hnl] at hn ⊢
  rw [hml] at ha ⊢
  have hn' := hid hn
  have ha' := hid ha
  have hnl' := hid hnl
  have hml' := hid hml
  have hnn' := hid hnn
  clear hn ha hnl hml hnn
  by_cases hnm : n = m
  case neg =>
    have hd := hid (show decide (names = an) = false by rw [decide_eq_false_iff_not]; intro e; have := congrArg List.length e; rw [hnl'.out, hnn'.out, hml'.out] at this; exact hnm this)
    have hi : ¬ (n : Int) = (m : Int) := by omega
    clear hnm
    go_enter Tryz.func51, Tryz.ntmps51
    go_wp2_with fail
    go_ret
    exact ⟨by rw [hd.out]; rfl, Below.refl _ _⟩
  subst hnm
  go_enter Tryz.func51, Tryz.ntmps51
  go_wp2_with fail
  go_loopw [17] (fun i wr => ∃ j : Nat, j ≤ n ∧ i = .int .i64 j ∧ Hid (names.take j = an.take j) ∧ Hid (Below w.heap.size w wr)) (fun i _ => n - (intOf i).toNat)
  case atStart => exact ⟨0, by omega, rfl, hid rfl, hid (Below.refl _ _)⟩
  case round =>
    obtain ⟨j, hj, rfl, hpre, bw⟩ := hrel
    rename_i wr _
    by_cases hlt : j < n
    · have hji : (j : Int) < (n : Int) := by omega
      have hj0 : (0 : Int) ≤ (j : Int) := by omega
      have h1 : j < names.length := by rw [hnl'.out]; exact hlt
      have h2 : j < att.length := by rw [hml'.out]; exact hlt
      have h3 : j < an.length := by rw [hnn'.out, hml'.out]; exact hlt
      obtain ⟨nb, off, cap', e, -, -, -, hcl⟩ := StrsV.open (hn'.out.below bw.out) (by omega)
      simp only [Value.slice.injEq] at e
      obtain ⟨rfl, -, -⟩ := e
      have hx := hcl j h1
      obtain ⟨xb, xo, hxo, f0, f1, f2, f3, f4⟩ := (ha'.out.below bw.out).attr j h2 h3
      subst hxo
      have hzok := ha'.out.2.2.1 _ (List.getElem_mem h2)
      have hst := hid (show names.take (j + 1) = names.take j ++ [names[j]] from List.take_succ_eq_append_getElem h1)
      have hsn := hid (show an.take (j + 1) = an.take j ++ [an[j]] from List.take_succ_eq_append_getElem h3)
      have hdiff := hid (show names[j] ≠ an[j] → names ≠ an from fun hne e => hne (by simp only [e]))
      generalize att[j] = z at f1 f2 f3 f4 hzok
      obtain ⟨zoo, zoc, zao, zac, e1, e2, _, _⟩ := hzok.forms
      rw [e1] at f3
      rw [e2] at f4
      generalize names[j] = s at hx hst hdiff
      generalize an[j] = nm at f0 hsn hdiff
      clear hcl e1 e2 hzok
      go_upto_region 7 with fail
      have K := hid (Blk.new wr [.string nm, .int .u8 (z.kind : Nat), .string z.name, .slice zoo z.of.length zoc, .slice zao z.att.length zac] 53)
      replace bw := hid (bw.out.alloc bw.out.size (.cells #[.string nm, .int .u8 (z.kind : Nat), .string z.name, .slice zoo z.of.length zoc, .slice zao z.att.length zac] 53))
      clear hx f0 f1 f2 f3 f4
      generalize wr.alloc (.cells #[.string nm, .int .u8 (z.kind : Nat), .string z.name, .slice zoo z.of.length zoc, .slice zao z.att.length zac] 53) = X1 at K bw ⊢
      have hc := hid (attrs1_any s nm (z.kind : Nat) z.name zoo zao z.of.length zoc z.att.length zac X1)
      obtain ⟨k0, k1, k2, k3, k4, kf⟩ := five K.out
      go_wp2_with fail
      refine hc.out.mono ?_
      rintro e w1 ⟨rfl, b1⟩
      replace bw := hid (bt bw.out b1)
      clear hc b1 K k0 k1 k2 k3 k4 kf
      by_cases he : s = nm
      · rw [decide_eq_true he]
        have hpre2 := hid (show names.take (j + 1) = an.take (j + 1) by rw [hst.out, hsn.out, hpre.out, he])
        clear he hst hsn hpre hdiff
        go_wp2_with fail
        go_roundw
        case rel => exact ⟨j + 1, by omega, by go_num, hpre2, bw⟩
        case measure => simp [intOf]; omega
      · rw [decide_eq_false he]
        have hd := hid (show decide (names = an) = false from decide_eq_false (hdiff.out he))
        clear he hst hsn hpre hdiff
        go_wp2_with fail
        go_ret
        exact ⟨by rw [hd.out]; rfl, bw.out⟩
    · obtain rfl : j = n := by omega
      have hd := hid (show decide (names = an) = true from decide_eq_true (by
        have := hpre.out
        rwa [List.take_of_length_le (by rw [hnl'.out]; exact Nat.le_refl _), List.take_of_length_le (by rw [hnn'.out, hml'.out]; exact Nat.le_refl _)] at this))
      have hji : ¬ (j : Int) < (j : Int) := by omega
      clear hpre
      go_wp2_with fail
      go_ret
      exact ⟨by rw [hd.out]; rfl, bw.out⟩
theorem erL_length' (l : List Ty) : (erL l).length = l.length := by rw [erL_map, List.length_map]
theorem FL_step (l : List PT) (m : List Val.T) (j : Nat) (h1 : j < l.length) (h2 : j < m.length) : PT.FL (l.drop j) (m.drop j) = (PT.F l[j] m[j] && PT.FL (l.drop (j + 1)) (m.drop (j + 1))) := by
  rw [List.drop_eq_getElem_cons h1, List.drop_eq_getElem_cons h2, PT.FL]
theorem FL_stop (l : List PT) (m : List Val.T) (h : l = [] ∨ m = []) : PT.FL l m = true := by
  rcases h with rfl | rfl
  · cases m <;> rfl
  · cases l <;> rfl
set_option maxHeartbeats 16000000 in
theorem attrsFit_any (x : Val.T) (an : List ByteArray) (att : List Ty) (ao : Option Addr) (ac : Nat) (w : World) (hx : x.ok w) (ha : AttrsV w (.slice ao att.length ac) an att)
    (hF : ∀ (i : Nat) (h1 : i < x.list.length) (h2 : i < att.length), FitC x.list[i] att[i]) :
    Calls Tryz.prog 25 #[x.val, .slice ao att.length ac] w fun e w' => e = .returned (.bool (decide (x.names = an) && PT.FL (erL att) x.list)) ∧ Below w.heap.size w w' := by
  obtain ⟨no, nc, lo, lc, e1, e2, hv, l1, l2⟩ := vval hx
  rw [hv]
  have hnv := hid (show StrsV w (.slice no x.names.length nc) x.names by have := hx.parts.2.2.2.2.2.1; rwa [e1] at this)
  have hlv := hid (show SlV w (.slice lo x.list.length lc) x.list.length (Val.T.encL x.list) by have := hx.parts.2.2.2.2.2.2.1; rwa [e2] at this)
  have hml := hid (show ∀ y ∈ x.list, y.ok w from hx.parts.2.2.2.2.2.2.2)
  obtain ⟨n, hn⟩ : ∃ n, x.list.length = n := ⟨_, rfl⟩
  obtain ⟨m, hm⟩ : ∃ m, att.length = m := ⟨_, rfl⟩
  have i1 : (n : Int) ≤ 9223372036854775807 := by omega
  have i2 : (m : Int) ≤ 9223372036854775807 := by have := SlV.len ha.2.1; unfold maxLen at this; omega
  have ha' := hid ha
  have hF' := hid hF
  have hn' := hid hn
  have hm' := hid hm
  have cE := hid (show ∀ W, Below w.heap.size w W → _ from fun W B => equal_fits x.names no nc an att ao ac W (hnv.out.below B) (ha.below B))
  rw [hm] at cE ⊢
  rw [hn] at hlv ⊢
  have hRR := hid (show PT.FL (erL att) x.list = PT.FL ((erL att).drop 0) (x.list.drop 0) from rfl)
  generalize PT.FL (erL att) x.list = RR at hRR ⊢
  generalize decide (x.names = an) = dn at cE ⊢
  have bw0 := hid (Below.refl w.heap.size w)
  clear hx ha hF hn hm e1 e2 hv
  go_enter Tryz.func25, Tryz.ntmps25
  go_upto_region 1 with fail
  have KV := hid (Blk.new w [.int .u8 (x.kind : Nat), .bool x.bool, .int .i64 x.num, .string x.str, .string x.typ, .slice no x.names.length nc, .slice lo n lc] 31)
  have bw := hid (bw0.out.alloc (Nat.le_refl _) (.cells #[.int .u8 (x.kind : Nat), .bool x.bool, .int .i64 x.num, .string x.str, .string x.typ, .slice no x.names.length nc, .slice lo n lc] 31))
  clear bw0
  generalize w.alloc (.cells #[.int .u8 (x.kind : Nat), .bool x.bool, .int .i64 x.num, .string x.str, .string x.typ, .slice no x.names.length nc, .slice lo n lc] 31) = X1 at KV bw ⊢
  obtain ⟨pb, hpb⟩ : ∃ pb, w.heap.size = pb := ⟨_, rfl⟩
  have hpbe := hid hpb
  rw [hpb] at KV ⊢
  clear hpb
  obtain ⟨k0, k1, k2, k3, k4, k5, k6, kf⟩ := Val.seven KV.out
  go_wp2_with fail
  refine (cE.out X1 bw.out).mono ?_
  rintro e w3 ⟨rfl, q3⟩
  replace KV := hid (KV.out.below q3 KV.out.lt)
  replace bw := hid (bt bw.out q3)
  clear q3 cE k0 k1 k2 k3 k4 k5 k6 kf
  cases dn with
  | false =>
    clear KV
    go_wp2_with fail
    go_ret
    exact ⟨rfl, bw.out⟩
  | true =>
    obtain ⟨k0, k1, k2, k3, k4, k5, k6, kf⟩ := Val.seven KV.out
    have hmin := hid (fun (ts : Array TypeId) (t : TypeId) (W : World) => (show (Builtin.min_ ts t #[.int .i64 (n : Int), .int .i64 (m : Int)]).run Tryz.prog W = .ok (.int .i64 ((min n m : Nat) : Int)) W from by
      rw [run_min_int2]
      have : (if (m : Int) < (n : Int) then (m : Int) else (n : Int)) = ((min n m : Nat) : Int) := by split <;> omega
      rw [this]))
    have hmin' := fun ts t W => hmin.out ts t W
    go_wp2_with fail
    clear k0 k1 k2 k3 k4 k5 k6 kf hmin'
    obtain ⟨q, hq⟩ : ∃ q, min n m = q := ⟨_, rfl⟩
    have hqn := hid (show q ≤ n ∧ q ≤ m ∧ (q = n ∨ q = m) by omega)
    rw [hq]
    clear hq hmin
    go_loopw [17] (fun i wr => ∃ j : Nat, j ≤ q ∧ i = .int .i64 j ∧ Hid (RR = PT.FL ((erL att).drop j) (x.list.drop j)) ∧ Hid (Blk wr pb [.int .u8 (x.kind : Nat), .bool x.bool, .int .i64 x.num, .string x.str, .string x.typ, .slice no x.names.length nc, .slice lo n lc] 31) ∧ Hid (Below w.heap.size w wr)) (fun i _ => q - (intOf i).toNat)
    case atStart => exact ⟨0, by omega, rfl, hRR, KV, bw⟩
    case round =>
      clear hRR KV bw
      obtain ⟨j, hj, rfl, hRR, KV, bw⟩ := hrel
      rename_i wr _
      by_cases hlt : j < q
      · have hji : (j : Int) < (q : Int) := by omega
        have hj0 : (0 : Int) ≤ (j : Int) := by omega
        have hjn : (j : Int) < (n : Int) := by have := hqn.out; omega
        have hjm : (j : Int) < (m : Int) := by have := hqn.out; omega
        have h1 : j < x.list.length := by rw [hn'.out]; have := hqn.out; omega
        have h2 : j < att.length := by rw [hm'.out]; have := hqn.out; omega
        have h3 : j < an.length := by rw [ha'.out.1]; exact h2
        obtain ⟨ub, uo, huo, _⟩ := ha'.out.attr j h2 h3
        subst huo
        have huok := hid (ha'.out.2.2.1 _ (List.getElem_mem h2))
        obtain ⟨uoo, uoc, uao, uac, g1, g2, _, _⟩ := huok.out.forms
        have hfb := hid (show ∀ W, Below w.heap.size w W → W.cell? ⟨ub, uo + j * 5 + 1, none⟩ = some (.int .u8 (att[j].kind : Nat)) ∧ W.cell? ⟨ub, uo + j * 5 + 2, none⟩ = some (.string att[j].name) ∧ W.cell? ⟨ub, uo + j * 5 + 3, none⟩ = some (.slice uoo att[j].of.length uoc) ∧ W.cell? ⟨ub, uo + j * 5 + 4, none⟩ = some (.slice uao att[j].att.length uac) from fun W B => by
          obtain ⟨b', o', e, q0, q1, q2, q3, q4⟩ := (ha'.out.below B).attr j h2 h3
          simp only [Option.some.injEq, Addr.mk.injEq, and_true] at e
          obtain ⟨rfl, rfl⟩ := e
          rw [g1] at q3
          rw [g2] at q4
          exact ⟨q1, q2, q3, q4⟩)
        obtain ⟨xb, xo, cap', he, _, _, _, _⟩ := SlV.open hlv.out (by rw [Val.T.encL_len]; omega)
        simp only [Value.slice.injEq] at he
        obtain ⟨rfl, _, rfl⟩ := he
        have hvok := hid (hml.out _ (List.getElem_mem h1))
        obtain ⟨no2, nc2, lo2, lc2, e1, e2, hv2, _, _⟩ := vval hvok.out
        have hfa := hid (show ∀ W, Below w.heap.size w W → W.cell? ⟨xb, xo + j * 7, none⟩ = some (.int .u8 (x.list[j].kind : Nat)) ∧ W.cell? ⟨xb, xo + j * 7 + 1, none⟩ = some (.bool x.list[j].bool) ∧ W.cell? ⟨xb, xo + j * 7 + 2, none⟩ = some (.int .i64 x.list[j].num) ∧ W.cell? ⟨xb, xo + j * 7 + 3, none⟩ = some (.string x.list[j].str) ∧ W.cell? ⟨xb, xo + j * 7 + 4, none⟩ = some (.string x.list[j].typ) ∧ W.cell? ⟨xb, xo + j * 7 + 5, none⟩ = some (.slice no2 x.list[j].names.length nc2) ∧ W.cell? ⟨xb, xo + j * 7 + 6, none⟩ = some (.slice lo2 x.list[j].list.length lc2) from fun W B => by
          obtain ⟨b', o', cap2, he2, _, _, _, hc⟩ := SlV.open (hlv.out.below B) (by rw [Val.T.encL_len]; omega)
          simp only [Value.slice.injEq, Option.some.injEq, Addr.mk.injEq, and_true] at he2
          obtain ⟨⟨rfl, rfl⟩, _⟩ := he2
          have key : ∀ i, (h : i < 7) → W.cell? ⟨xb, xo + j * 7 + i, none⟩ = (x.list[j].enc)[i]? := fun i hi => by
            have hh : j * 7 + i < (Val.T.encL x.list).length := by rw [Val.T.encL_len]; omega
            rw [Nat.add_assoc, hc _ hh, ← Val.T.encL_get x.list j h1 i hi, List.getElem?_eq_getElem hh]
          have f0 := key 0 (by decide)
          rw [Nat.add_zero] at f0
          have f5 := key 5 (by decide)
          have f6 := key 6 (by decide)
          change _ = some x.list[j].nv at f5
          change _ = some x.list[j].lv at f6
          rw [e1] at f5
          rw [e2] at f6
          exact ⟨f0, key 1 (by decide), key 2 (by decide), key 3 (by decide), key 4 (by decide), f5, f6⟩)
        have hrec := hid (show ∀ W, Below w.heap.size w W → Calls Tryz.prog 10 #[.agg #[.int .u8 (x.list[j].kind : Nat), .bool x.list[j].bool, .int .i64 x.list[j].num, .string x.list[j].str, .string x.list[j].typ, .slice no2 x.list[j].names.length nc2, .slice lo2 x.list[j].list.length lc2], .agg #[.int .u8 (att[j].kind : Nat), .string att[j].name, .slice uoo att[j].of.length uoc, .slice uao att[j].att.length uac]] W fun e w' => e = .returned (.bool (PT.F (er att[j]) x.list[j])) ∧ Below W.heap.size W w' from fun W B => by
          have := hF'.out j h1 h2 W (hvok.out.below B) (huok.out.below B)
          rwa [hv2, Ty.val_eq g1 g2] at this)
        have hst := hid (show RR = (PT.F (er att[j]) x.list[j] && PT.FL ((erL att).drop (j + 1)) (x.list.drop (j + 1))) from by
          rw [hRR.out, FL_step _ _ j (by rw [erL_length']; exact h2) h1]
          congr 2
          simp only [erL_map, List.getElem_map])
        clear e1 e2 g1 g2 hv2 hvok huok hRR
        generalize PT.F (er att[j]) x.list[j] = fb at hrec hst
        generalize att[j] = u at hfb hrec
        generalize x.list[j] = z at hfa hrec
        obtain ⟨k0, k1, k2, k3, k4, k5, k6, kf⟩ := Val.seven KV.out
        go_wp2_with fail
        clear k0 k1 k2 k3 k4 k5 k6 kf
        refine wp_region_held_drew (S := (fun Y => Y.cell? ⟨pb, 6, none⟩ = some (.slice (some ⟨xb, xo, none⟩) n lc) ∧ Y.cell? ⟨xb, xo + j * 7, none⟩ = some (.int .u8 (z.kind : Nat)) ∧ Y.cell? ⟨xb, xo + j * 7 + 1, none⟩ = some (.bool z.bool) ∧ Y.cell? ⟨xb, xo + j * 7 + 2, none⟩ = some (.int .i64 z.num) ∧ Y.cell? ⟨xb, xo + j * 7 + 3, none⟩ = some (.string z.str) ∧ Y.cell? ⟨xb, xo + j * 7 + 4, none⟩ = some (.string z.typ) ∧ Y.cell? ⟨xb, xo + j * 7 + 5, none⟩ = some (.slice no2 z.names.length nc2) ∧ Y.cell? ⟨xb, xo + j * 7 + 6, none⟩ = some (.slice lo2 z.list.length lc2) ∧ Y.cell? ⟨ub, uo + j * 5 + 1, none⟩ = some (.int .u8 (u.kind : Nat)) ∧ Y.cell? ⟨ub, uo + j * 5 + 2, none⟩ = some (.string u.name) ∧ Y.cell? ⟨ub, uo + j * 5 + 3, none⟩ = some (.slice uoo u.of.length uoc) ∧ Y.cell? ⟨ub, uo + j * 5 + 4, none⟩ = some (.slice uao u.att.length uac))) (by kernel_rfl) (by obtain ⟨s0, s1, s2, s3, s4, s5, s6⟩ := hfa.out _ bw.out.drew; obtain ⟨u1, u2, u3, u4⟩ := hfb.out _ bw.out.drew; obtain ⟨-, -, -, -, -, -, k6, -⟩ := Val.seven KV.out.drew; exact ⟨k6, s0, s1, s2, s3, s4, s5, s6, u1, u2, u3, u4⟩) (fun hHeld => ?_)
        replace KV := hid KV.out.drew
        replace bw := hid bw.out.drew
        generalize wr.drew = Wc at KV bw hHeld ⊢
        refine wpAnyH_take (i := 0) (v := ?_) rfl (by kernel_rfl) (by kernel_rfl) (by kernel_rfl) (fun _ _ _ h => h) (Or.inl ⟨by rfl, ?_⟩) (by assumption) ?_; rotate_left 1; (intro w hSw; (try dsimp only at hSw); go_simp; try with_reducible rfl); (try simp only [Act.put, List.getElem_toArray, List.getElem_cons_zero, List.getElem_cons_succ, List.setIfInBounds_toArray, List.set_cons_zero, List.set_cons_succ])
        refine wpAnyH_take (i := 1) (v := ?_) rfl (by kernel_rfl) (by kernel_rfl) (by kernel_rfl) (fun _ _ _ h => h) (Or.inl ⟨by rfl, ?_⟩) (by assumption) ?_; rotate_left 1; (intro w hSw; (try dsimp only at hSw); go_simp; try with_reducible rfl); (try simp only [Act.put, List.getElem_toArray, List.getElem_cons_zero, List.getElem_cons_succ, List.setIfInBounds_toArray, List.set_cons_zero, List.set_cons_succ])
        refine wpAnyH_take (i := 2) (v := ?_) rfl (by kernel_rfl) (by kernel_rfl) (by kernel_rfl) (fun _ _ _ h => h) (Or.inl ⟨by rfl, ?_⟩) (by assumption) ?_; rotate_left 1; (intro w hSw; (try dsimp only at hSw); go_simp; try with_reducible rfl); (try simp only [Act.put, List.getElem_toArray, List.getElem_cons_zero, List.getElem_cons_succ, List.setIfInBounds_toArray, List.set_cons_zero, List.set_cons_succ])
        refine wpAnyH_take (i := 3) (v := ?_) rfl (by kernel_rfl) (by kernel_rfl) (by kernel_rfl) (fun _ _ _ h => h) (Or.inl ⟨by rfl, ?_⟩) (by assumption) ?_; rotate_left 1; (intro w hSw; (try dsimp only at hSw); go_simp; try with_reducible rfl); (try simp only [Act.put, List.getElem_toArray, List.getElem_cons_zero, List.getElem_cons_succ, List.setIfInBounds_toArray, List.set_cons_zero, List.set_cons_succ])
        refine wpAnyH_take (i := 4) (v := ?_) rfl (by kernel_rfl) (by kernel_rfl) (by kernel_rfl) (fun _ _ _ h => h) (Or.inl ⟨by rfl, ?_⟩) (by assumption) ?_; rotate_left 1; (intro w hSw; (try dsimp only at hSw); go_simp; try with_reducible rfl); (try simp only [Act.put, List.getElem_toArray, List.getElem_cons_zero, List.getElem_cons_succ, List.setIfInBounds_toArray, List.set_cons_zero, List.set_cons_succ])
        refine wpAnyH_take (i := 5) (v := ?_) rfl (by kernel_rfl) (by kernel_rfl) (by kernel_rfl) (fun _ _ _ h => h) (Or.inl ⟨by rfl, ?_⟩) (by assumption) ?_; rotate_left 1; (intro w hSw; (try dsimp only at hSw); go_simp; try with_reducible rfl); (try simp only [Act.put, List.getElem_toArray, List.getElem_cons_zero, List.getElem_cons_succ, List.setIfInBounds_toArray, List.set_cons_zero, List.set_cons_succ])
        refine wpAnyH_take (i := 6) (v := ?_) rfl (by kernel_rfl) (by kernel_rfl) (by kernel_rfl) (fun _ _ _ h => h) (Or.inl ⟨by rfl, ?_⟩) (by assumption) ?_; rotate_left 1; (intro w hSw; (try dsimp only at hSw); go_simp; try with_reducible rfl); (try simp only [Act.put, List.getElem_toArray, List.getElem_cons_zero, List.getElem_cons_succ, List.setIfInBounds_toArray, List.set_cons_zero, List.set_cons_succ])
        refine wpAnyH_take (i := 7) (v := ?_) rfl (by kernel_rfl) (by kernel_rfl) (by kernel_rfl) (fun _ _ _ h => h) (Or.inl ⟨by rfl, ?_⟩) (by assumption) ?_; rotate_left 1; (intro w hSw; (try dsimp only at hSw); go_simp; try with_reducible rfl); (try simp only [Act.put, List.getElem_toArray, List.getElem_cons_zero, List.getElem_cons_succ, List.setIfInBounds_toArray, List.set_cons_zero, List.set_cons_succ])
        refine wpAnyH_take (i := 8) (v := ?_) rfl (by kernel_rfl) (by kernel_rfl) (by kernel_rfl) (fun _ _ _ h => h) (Or.inl ⟨by rfl, ?_⟩) (by assumption) ?_; rotate_left 1; (intro w hSw; (try dsimp only at hSw); go_simp; try with_reducible rfl); (try simp only [Act.put, List.getElem_toArray, List.getElem_cons_zero, List.getElem_cons_succ, List.setIfInBounds_toArray, List.set_cons_zero, List.set_cons_succ])
        refine wpAnyH_take (i := 9) (v := ?_) rfl (by kernel_rfl) (by kernel_rfl) (by kernel_rfl) (fun _ _ _ h => h) (Or.inl ⟨by rfl, ?_⟩) (by assumption) ?_; rotate_left 1; (intro w hSw; (try dsimp only at hSw); go_simp; try with_reducible rfl); (try simp only [Act.put, List.getElem_toArray, List.getElem_cons_zero, List.getElem_cons_succ, List.setIfInBounds_toArray, List.set_cons_zero, List.set_cons_succ])
        refine wpAnyH_ready (rs := [10]) (by kernel_rfl) (by simp) ?_
        refine AllReadyH.cons rfl (fun K hK => ?_) AllReadyH.nil
        go_simp
        (with_reducible refine (hrec.out _ bw.out).mono ?_)
        rintro e Wc ⟨rfl, q9⟩
        replace KV := hid (KV.out.below q9 KV.out.lt)
        replace bw := hid (bt bw.out q9)
        clear q9
        refine hK.out _ _ (by obtain ⟨s0, s1, s2, s3, s4, s5, s6⟩ := hfa.out _ bw.out; obtain ⟨u1, u2, u3, u4⟩ := hfb.out _ bw.out; obtain ⟨-, -, -, -, -, -, k6, -⟩ := Val.seven KV.out; exact ⟨k6, s0, s1, s2, s3, s4, s5, s6, u1, u2, u3, u4⟩) (fun hHeldN => ?_)
        clear hK K hHeld
        have hHeld := hHeldN
        clear hHeldN
        (try simp only [Act.put, List.getElem_toArray, List.getElem_cons_zero, List.getElem_cons_succ, List.setIfInBounds_toArray, List.set_cons_zero, List.set_cons_succ])
        refine wpAnyH_take (i := 11) (v := ?_) rfl (by kernel_rfl) (by kernel_rfl) (by kernel_rfl) (fun _ _ _ h => h) (Or.inl ⟨by rfl, ?_⟩) (by assumption) ?_; rotate_left 1; (intro w hSw; (try dsimp only at hSw); go_simp; try with_reducible rfl); (try simp only [Act.put, List.getElem_toArray, List.getElem_cons_zero, List.getElem_cons_succ, List.setIfInBounds_toArray, List.set_cons_zero, List.set_cons_succ])
        refine wpAnyH_done (by kernel_rfl) ?_ _
        clear hHeld
        cases fb with
        | false =>
          have hR2 := hid (show RR = false by rw [hst.out]; rfl)
          clear hst
          go_wp2_with fail
          go_ret
          exact ⟨by rw [hR2.out]; rfl, bw.out⟩
        | true =>
          have hR2 := hid (show RR = PT.FL ((erL att).drop (j + 1)) (x.list.drop (j + 1)) by rw [hst.out]; rfl)
          clear hst
          go_wp2_with fail
          go_roundw
          case rel => exact ⟨j + 1, by omega, by go_num, hR2, KV, bw⟩
          case measure => simp [intOf]; omega
      · have hji : ¬ (j : Int) < (q : Int) := by omega
        have hR2 := hid (show RR = true by
          rw [hRR.out]
          have := hqn.out
          refine FL_stop _ _ ?_
          rcases this.2.2 with h | h
          · exact .inr (List.drop_eq_nil_of_le (by rw [hn'.out]; omega))
          · exact .inl (List.drop_eq_nil_of_le (by rw [erL_length', hm'.out]; omega)))
        clear hRR KV
        go_wp2_with fail
        go_ret
        exact ⟨by rw [hR2.out]; rfl, bw.out⟩
end Go.Proofs.YtklclfolmfhocaaGreatDoor.Tyt
