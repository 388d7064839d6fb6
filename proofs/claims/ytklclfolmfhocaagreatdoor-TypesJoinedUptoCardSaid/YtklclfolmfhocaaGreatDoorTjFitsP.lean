/-
  types.partsFit, attrsFit, their closures: contracts. Written by wip/tjgen.py.
-/
import Derived.Test.YtklclfolmfhocaaGreatDoorTjParts
import Derived.Deep.RegionHeld3
import Derived.Deep.RegionWith
import Derived.Laws.EntriesVeiled
namespace Go.Proofs.YtklclfolmfhocaaGreatDoor.Tyt
open Go.ChangeShapes Go.WideShapes Go.ChangeAt Go.RowKit
open Go.Proofs.YtklclfolmfhocaaGreatDoor.Mem
set_option linter.unusedVariables false
set_option linter.unusedSimpArgs false
set_option maxRecDepth 100000
theorem vval {w : World} {x : Val.T} (h : x.ok w) : ∃ no nc lo lc, x.nv = .slice no x.names.length nc ∧ x.lv = .slice lo x.list.length lc ∧ x.val = .agg #[.int .u8 (x.kind : Nat), .bool x.bool, .int .i64 x.num, .string x.str, .string x.typ, .slice no x.names.length nc, .slice lo x.list.length lc] ∧ x.names.length ≤ 9223372036854775807 ∧ x.list.length ≤ 9223372036854775807 := by
  obtain ⟨no, nc, lo, lc, e1, e2, l1, l2⟩ := h.forms
  refine ⟨no, nc, lo, lc, e1, e2, ?_, l1, l2⟩
  show Value.agg _ = _
  unfold Val.T.enc
  rw [e1, e2]
def FitC (x : Val.T) (t : Ty) : Prop := ∀ (w : World), x.ok w → t.ok w → Calls Tryz.prog 10 #[x.val, t.val] w fun e w' => e = .returned (.bool (PT.F (er t) x)) ∧ Below w.heap.size w w'
set_option maxHeartbeats 8000000 in
theorem parts1_any (x : Val.T) (t : Ty) (b : Nat) (w : World) (hx : x.ok w) (ht : t.ok w) (hb : Blk w b t.enc 26) (hF : FitC x t) :
    Calls Tryz.prog 50 #[x.val, .pointer (some ⟨b, 0, none⟩)] w fun e w' => e = .returned (.bool (!PT.F (er t) x)) ∧ Below w.heap.size w w' := by
  obtain ⟨no, nc, lo, lc, _, _, hv, l1, l2⟩ := vval hx
  obtain ⟨oo, oc, ao, ac, e1, e2, _, _⟩ := ht.forms
  have hB := hid (show Blk w b [.int .u8 (t.kind : Nat), .string t.name, .slice oo t.of.length oc, .slice ao t.att.length ac] 26 by rw [← Ty.enc_eq e1 e2]; exact hb)
  have htv := Ty.val_eq e1 e2
  have cF := hid (show ∀ W, Below w.heap.size w W → Calls Tryz.prog 10 #[.agg #[.int .u8 (x.kind : Nat), .bool x.bool, .int .i64 x.num, .string x.str, .string x.typ, .slice no x.names.length nc, .slice lo x.list.length lc], .agg #[.int .u8 (t.kind : Nat), .string t.name, .slice oo t.of.length oc, .slice ao t.att.length ac]] W fun e w' => e = .returned (.bool (PT.F (er t) x)) ∧ Below W.heap.size W w' from fun W B => by
    have := hF W (hx.below B) (ht.below B)
    rwa [hv, htv] at this)
  rw [hv]
  have bw0 := hid (Below.refl w.heap.size w)
  generalize PT.F (er t) x = fb at cF ⊢
  clear hx ht hb hF hv htv e1 e2
  go_enter Tryz.func50, Tryz.ntmps50
  go_upto_region 1 with fail
  have K := hid (Blk.new w [.int .u8 (x.kind : Nat), .bool x.bool, .int .i64 x.num, .string x.str, .string x.typ, .slice no x.names.length nc, .slice lo x.list.length lc] 31)
  replace hB := hid (hB.out.alloc (.cells #[.int .u8 (x.kind : Nat), .bool x.bool, .int .i64 x.num, .string x.str, .string x.typ, .slice no x.names.length nc, .slice lo x.list.length lc] 31))
  have bw := hid (bw0.out.alloc (Nat.le_refl _) (.cells #[.int .u8 (x.kind : Nat), .bool x.bool, .int .i64 x.num, .string x.str, .string x.typ, .slice no x.names.length nc, .slice lo x.list.length lc] 31))
  clear bw0
  generalize w.alloc (.cells #[.int .u8 (x.kind : Nat), .bool x.bool, .int .i64 x.num, .string x.str, .string x.typ, .slice no x.names.length nc, .slice lo x.list.length lc] 31) = X1 at K hB bw ⊢
  obtain ⟨k0, k1, k2, k3, k4, k5, k6, kf⟩ := Val.seven K.out
  obtain ⟨c0, c1, c2, c3, cf⟩ := four' hB.out
  go_wp2_with fail
  refine (cF.out X1 bw.out).mono ?_
  rintro e w3 ⟨rfl, q3⟩
  replace bw := hid (bt bw.out q3)
  clear q3 K hB k0 k1 k2 k3 k4 k5 k6 kf c0 c1 c2 c3 cf cF
  go_wp2_with fail
  go_ret
  exact ⟨rfl, bw.out⟩
set_option maxHeartbeats 8000000 in
theorem index_fits (l : List Val.T) (lo : Option Addr) (lc : Nat) (t : Ty) (b : Nat) (w : World) (hl : SlV w (.slice lo l.length lc) l.length (Val.T.encL l)) (hm : ∀ x ∈ l, x.ok w) (ht : t.ok w) (hb : Blk w b t.enc 26) (hF : ∀ x ∈ l, FitC x t) :
    Calls Tryz.prog 81 #[.slice lo l.length lc, .func (Fn.func 50) #[] #[.pointer (some ⟨b, 0, none⟩)]] w fun e w' => ∃ n : Int, e = .returned (.int .i64 n) ∧ (decide (0 ≤ n) = l.any (fun x => !PT.F (er t) x)) ∧ Below w.heap.size w w' := by
  have hli : (l.length : Int) ≤ 9223372036854775807 := by have := SlV.len hl; unfold maxLen at this; omega
  have hl' := hid hl
  have hm' := hid hm
  have ht' := hid ht
  have hb' := hid hb
  have hF' := hid hF
  clear hl hm ht hb hF
  go_enter Tryz.func81, Tryz.ntmps81
  go_wp2_with fail
  go_loopw [8] (fun i wr => ∃ j : Nat, j ≤ l.length ∧ i = .int .i64 j ∧ Hid ((l.take j).any (fun x => !PT.F (er t) x) = false) ∧ Hid (Below w.heap.size w wr)) (fun i _ => l.length - (intOf i).toNat)
  case atStart => exact ⟨0, by omega, rfl, hid rfl, hid (Below.refl _ _)⟩
  case round =>
    obtain ⟨j, hj, rfl, hno, bw⟩ := hrel
    rename_i wr _
    by_cases hlt : j < l.length
    · have hji : (j : Int) < (l.length : Int) := by omega
      obtain ⟨xb, xo, cap', he, _, _, _, hc⟩ := SlV.open (hl'.out.below bw.out) (by rw [Val.T.encL_len]; omega)
      simp only [Value.slice.injEq] at he
      obtain ⟨rfl, _, rfl⟩ := he
      have key : ∀ i, (h : i < 7) → wr.cell? ⟨xb, xo + j * 7 + i, none⟩ = (l[j].enc)[i]? := fun i hi => by
        have hh : j * 7 + i < (Val.T.encL l).length := by rw [Val.T.encL_len]; omega
        rw [Nat.add_assoc, hc _ hh, ← Val.T.encL_get l j hlt i hi, List.getElem?_eq_getElem hh]
      have hxo := (hm'.out _ (List.getElem_mem hlt)).below bw.out
      have hp := hid (parts1_any l[j] t b wr hxo (ht'.out.below bw.out) (hb'.out.below bw.out hb'.out.lt) (hF'.out _ (List.getElem_mem hlt)))
      have hyes := hid (show (!PT.F (er t) l[j]) = true → l.any (fun x => !PT.F (er t) x) = true from fun ho => by rw [List.any_eq_true]; exact ⟨_, List.getElem_mem hlt, ho⟩)
      have hnot := hid (show (!PT.F (er t) l[j]) = false → (l.take (j + 1)).any (fun x => !PT.F (er t) x) = false from fun ho => by rw [List.take_succ_eq_append_getElem hlt, List.any_append, hno.out]; simp only [Bool.false_or, List.any_cons, List.any_nil, Bool.or_false]; exact ho)
      obtain ⟨no, nc, lo2, lc2, e1, e2, hv, _, _⟩ := vval hxo
      have f0 := key 0 (by decide)
      rw [Nat.add_zero] at f0
      have f1 := key 1 (by decide)
      have f2 := key 2 (by decide)
      have f3 := key 3 (by decide)
      have f4 := key 4 (by decide)
      have f5 := key 5 (by decide)
      have f6 := key 6 (by decide)
      generalize l[j] = z at f0 f1 f2 f3 f4 f5 f6 hp hyes hnot e1 e2 hv
      change _ = some (Value.int .u8 (z.kind : Nat)) at f0
      change _ = some (Value.bool z.bool) at f1
      change _ = some (Value.int .i64 z.num) at f2
      change _ = some (Value.string z.str) at f3
      change _ = some (Value.string z.typ) at f4
      change _ = some z.nv at f5
      change _ = some z.lv at f6
      rw [e1] at f5
      rw [e2] at f6
      rw [hv] at hp
      generalize (!PT.F (er t) z) = fz at hp hyes hnot
      clear hno key hc hxo e1 e2 hv
      go_wp2_with fail
      refine hp.out.mono ?_
      rintro e w1 ⟨rfl, b1⟩
      replace bw := hid (bt bw.out b1)
      clear hp b1 f0 f1 f2 f3 f4 f5 f6
      cases fz with
      | true =>
        have hfin := hid (hyes.out rfl)
        clear hyes hnot
        go_wp2_with fail
        go_ret
        exact ⟨j, rfl, by rw [hfin.out]; simp, bw.out⟩
      | false =>
        have hno2 := hid (hnot.out rfl)
        clear hyes hnot
        go_wp2_with fail
        go_roundw
        case rel => exact ⟨j + 1, by omega, by go_num, hno2, bw⟩
        case measure => simp [intOf]; omega
    · obtain rfl : j = l.length := by omega
      have hno2 := hid (show l.any (fun x => !PT.F (er t) x) = false by have := hno.out; rw [List.take_length] at this; exact this)
      clear hno
      go_wp2_with fail
      go_ret
      exact ⟨-1, rfl, by rw [hno2.out]; rfl, bw.out⟩
theorem contains_fits (l : List Val.T) (lo : Option Addr) (lc : Nat) (t : Ty) (b : Nat) (w : World) (hl : SlV w (.slice lo l.length lc) l.length (Val.T.encL l)) (hm : ∀ x ∈ l, x.ok w) (ht : t.ok w) (hb : Blk w b t.enc 26) (hF : ∀ x ∈ l, FitC x t) :
    Calls Tryz.prog 49 #[.slice lo l.length lc, .func (Fn.func 50) #[] #[.pointer (some ⟨b, 0, none⟩)]] w fun e w' => e = .returned (.bool (l.any (fun x => !PT.F (er t) x))) ∧ Below w.heap.size w w' := by
  have hp := hid (index_fits l lo lc t b w hl hm ht hb hF)
  clear hl hm ht hb hF
  go_enter Tryz.func49, Tryz.ntmps49
  go_wp2_with fail
  refine hp.out.mono ?_
  rintro e w1 ⟨n, rfl, hn, hb1⟩
  have hn2 := hid hn
  clear hn
  go_wp2_with fail
  go_ret
  refine ⟨?_, hb1⟩
  rw [← hn2.out]; rfl
set_option maxHeartbeats 8000000 in
theorem partsFit_any (l : List Val.T) (lo : Option Addr) (lc : Nat) (t : Ty) (w : World) (hl : SlV w (.slice lo l.length lc) l.length (Val.T.encL l)) (hm : ∀ x ∈ l, x.ok w) (ht : t.ok w) (hF : ∀ x ∈ l, FitC x t) :
    Calls Tryz.prog 24 #[.slice lo l.length lc, t.val] w fun e w' => e = .returned (.bool (l.all (PT.F (er t)))) ∧ Below w.heap.size w w' := by
  obtain ⟨oo, oc, ao, ac, e1, e2, _, _⟩ := ht.forms
  have hte := hid (Ty.enc_eq e1 e2)
  rw [Ty.val_eq e1 e2]
  have bw0 := hid (Below.refl w.heap.size w)
  have hcl := hid (show ∀ W, Below w.heap.size w W → ∀ b, Blk W b t.enc 26 → _ from fun W B b hb => contains_fits l lo lc t b W (hl.below B) (fun x hx => (hm x hx).below B) (ht.below B) hb hF)
  have hall := hid (show l.all (PT.F (er t)) = !l.any (fun x => !PT.F (er t) x) by
    induction l with
    | nil => rfl
    | cons x l ih => simp only [List.all_cons, List.any_cons, Bool.not_or, Bool.not_not]; rw [← List.all_eq_not_any_not])
  clear hl hm ht hF e1 e2
  go_enter Tryz.func24, Tryz.ntmps24
  go_upto_region 1 with fail
  have K := hid (Blk.new w [.int .u8 (t.kind : Nat), .string t.name, .slice oo t.of.length oc, .slice ao t.att.length ac] 26)
  have bw := hid (bw0.out.alloc (Nat.le_refl _) (.cells #[.int .u8 (t.kind : Nat), .string t.name, .slice oo t.of.length oc, .slice ao t.att.length ac] 26))
  clear bw0
  generalize w.alloc (.cells #[.int .u8 (t.kind : Nat), .string t.name, .slice oo t.of.length oc, .slice ao t.att.length ac] 26) = X1 at K bw ⊢
  have hc := hid (hcl.out X1 bw.out w.heap.size (by rw [hte.out]; exact K.out))
  clear hcl hte K
  go_wp2_with fail
  refine hc.out.mono ?_
  rintro e w3 ⟨rfl, q3⟩
  replace bw := hid (bt bw.out q3)
  clear q3 hc
  go_wp2_with fail
  go_ret
  exact ⟨by rw [hall.out]; rfl, bw.out⟩
end Go.Proofs.YtklclfolmfhocaaGreatDoor.Tyt
