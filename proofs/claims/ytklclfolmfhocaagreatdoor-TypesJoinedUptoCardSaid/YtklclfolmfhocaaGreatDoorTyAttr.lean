/-
  Attributes: schema.nameOfAttr, rising, attrName, attrsRight; contracts. Written by wip/tyattrgen.py.
-/
import Derived.Test.YtklclfolmfhocaaGreatDoorTyDeep
import Derived.Test.YtklclfolmfhocaaGreatDoorTokQuoted
import Derived.Test.YtklclfolmfhocaaGreatDoorValTold
import Derived.Test.YtklclfolmfhocaaGreatDoorEvAllA
import Derived.Deep.RegionHeld3
import Derived.Deep.QuietTactic
import Derived.BigQuiet
import Derived.Laws.Cover1
namespace Go.Proofs.YtklclfolmfhocaaGreatDoor.Tyt
open Go.ChangeShapes Go.WideShapes Go.ChangeAt Go.RowKit
open Go.Proofs.YtklclfolmfhocaaGreatDoor.Mem
set_option linter.unusedVariables false
set_option linter.unusedSimpArgs false
set_option maxRecDepth 100000
theorem tok_told : Tok.ValidTold := fun s w hs hT => Tryz.utf8_ValidString s w (by omega) hT
theorem size_beq (s : ByteArray) : (s.toList == []) = decide (s.size = 0) := by
  by_cases h : s.size = 0
  · rw [decide_eq_true h, beq_iff_eq, ByteArray.toList_eq]
    exact List.eq_nil_of_length_eq_zero (by rw [← Lib.size_eq]; exact h)
  · rw [decide_eq_false h, beq_eq_false_iff_ne, ByteArray.toList_eq]
    intro e
    apply h
    rw [Lib.size_eq, e]
    rfl
/-- an attribute's name -/
def anB (s : ByteArray) : Bool := (Tok.checkE s == 0) && (!decide (s.size = 0) && decide (s.size ≤ 64))
set_option maxHeartbeats 4000000 in
theorem attrName_any (s : ByteArray) (w : World) (hs : s.size ≤ 140737488355328) (hw : Ev.Core w) :
    Calls Tryz.prog 112 #[.string s] w fun e w' => e = .returned (.bool (anB s)) ∧ Below w.heap.size w w' := by
  have hq := hid (Tok.quote_any tok_told s w hs hw.tabs)
  have hR := hid (show anB s = ((Tok.checkE s == 0) && (!decide (s.size = 0) && decide (s.size ≤ 64))) from rfl)
  have h0 := size_beq s
  have h1 : (s.toList != []) = !decide (s.size = 0) := by rw [bne, h0]
  have h2 : decide ((s.size : Int) ≤ 64) = decide (s.size ≤ 64) := decide_eq_decide.2 (by omega)
  have hsi : (s.size : Int) ≤ 140737488355328 := by omega
  generalize (if Tok.checkE s = 0 then Tok.quoteL s.data.toList else []) = q at hq
  generalize anB s = R at *
  obtain ⟨cb, hcb⟩ : ∃ cb, (Tok.checkE s == 0) = cb := ⟨_, rfl⟩
  rw [hcb] at hR
  generalize Tok.checkE s = c at *
  clear hs hw
  by_cases he : s.size = 0
  · rw [decide_eq_true he] at hR h0 h1
    clear he
    cases cb
    all_goals
      go_enter Tryz.func112, Tryz.ntmps112
      go_wp2_with fail
      refine hq.out.mono ?_
      rintro e w1 ⟨rfl, b1⟩
      have b1 := hid b1
      clear hq
      go_wp2_with fail
      go_ret
      exact ⟨by rw [hR.out]; rfl, b1.out⟩
  · rw [decide_eq_false he] at hR h0 h1
    by_cases hl : s.size ≤ 64
    · rw [decide_eq_true hl] at hR h2
      have hli : (s.size : Int) ≤ 64 := by omega
      clear he hl
      cases cb
      all_goals
        go_enter Tryz.func112, Tryz.ntmps112
        go_wp2_with fail
        refine hq.out.mono ?_
        rintro e w1 ⟨rfl, b1⟩
        have b1 := hid b1
        clear hq
        go_wp2_with fail
        go_ret
        exact ⟨by rw [hR.out]; rfl, b1.out⟩
    · rw [decide_eq_false hl] at hR h2
      have hli : ¬ (s.size : Int) ≤ 64 := by omega
      clear he hl
      cases cb
      all_goals
        go_enter Tryz.func112, Tryz.ntmps112
        go_wp2_with fail
        refine hq.out.mono ?_
        rintro e w1 ⟨rfl, b1⟩
        have b1 := hid b1
        clear hq
        go_wp2_with fail
        go_ret
        exact ⟨by rw [hR.out]; rfl, b1.out⟩
theorem nameOf_any (s : ByteArray) (k : Int) (t : ByteArray) (oo ao : Option Addr) (ol oc al ac : Nat) (w : World) :
    Calls Tryz.prog 114 #[.agg #[.string s, .int .u8 k, .string t, .slice oo ol oc, .slice ao al ac]] w fun e w' => e = .returned (.string s) ∧ Below w.heap.size w w' := by
  go_enter Tryz.func114, Tryz.ntmps114
  go_wp2_with fail
  go_ret
  exact ⟨rfl, (Below.refl _ _).alloc (Nat.le_refl _) _⟩
def riseB : List ByteArray → Bool
  | x :: y :: r => Op.bytesLess x.toList y.toList && riseB (y :: r)
  | _ => true
theorem riseB_step (l : List ByteArray) (j : Nat) (h : j + 1 < l.length) : riseB (l.drop j) = (Op.bytesLess l[j].toList l[j + 1].toList && riseB (l.drop (j + 1))) := by
  rw [List.drop_eq_getElem_cons (show j < l.length by omega), List.drop_eq_getElem_cons h, riseB]
theorem riseB_end (l : List ByteArray) (j : Nat) (h : l.length ≤ j + 1) : riseB (l.drop j) = true := by
  have hl : (l.drop j).length ≤ 1 := by rw [List.length_drop]; omega
  match l.drop j, hl with
  | [], _ => rfl
  | [_], _ => rfl
/-- a row of attributes, as it stands -/
structure AV (w : World) (v : Value) (an : List ByteArray) (att : List Ty) : Prop where
  len : an.length = att.length
  row : SlV w v att.length (Ty.encA an att)
  parts : ∀ y ∈ att, y.ok w
  names : ∀ y ∈ an, y.size ≤ 140737488355328
theorem AV.below {w w' : World} {v : Value} {an : List ByteArray} {att : List Ty} (h : AV w v an att) (b : Below w.heap.size w w') : AV w' v an att :=
  ⟨h.len, h.row.below b, fun y hy => (h.parts y hy).below b, h.names⟩
theorem AV.of {w : World} {x : Ty} (h : x.ok w) : AV w x.av x.an x.att := ⟨h.parts.2.2.2.1, h.parts.2.2.2.2.2.1, h.parts.2.2.2.2.2.2.2, h.parts.2.2.1⟩
theorem AV.at' {w : World} {v : Value} {an : List ByteArray} {att : List Ty} (h : AV w v an att) {ao : Option Addr} {n ac : Nat} (e : v = .slice ao n ac) (i : Nat) (hi : i < att.length) (hn : i < an.length) :
    ∃ b off zoo zoc zao zac, ao = some ⟨b, off, none⟩ ∧ w.cell? ⟨b, off + i * 5, none⟩ = some (.string an[i]) ∧ w.cell? ⟨b, off + i * 5 + 1, none⟩ = some (.int .u8 (att[i].kind : Nat)) ∧ w.cell? ⟨b, off + i * 5 + 2, none⟩ = some (.string att[i].name) ∧
      w.cell? ⟨b, off + i * 5 + 3, none⟩ = some (.slice zoo att[i].of.length zoc) ∧ w.cell? ⟨b, off + i * 5 + 4, none⟩ = some (.slice zao att[i].att.length zac) := by
  obtain ⟨b, off, cap, h1, h2, h3, h4, h5⟩ := SlV.open h.row (by rw [Ty.encA_len _ _ h.len]; omega)
  rw [h1] at e
  simp only [Value.slice.injEq] at e
  have key : ∀ j, j < 5 → w.cell? ⟨b, off + i * 5 + j, none⟩ = (Ty.encP an[i] att[i])[j]? := fun j hj => by
    have hl2 : i * 5 + j < (Ty.encA an att).length := by rw [Ty.encA_len _ _ h.len]; omega
    rw [Nat.add_assoc, h5 _ hl2, ← Ty.encA_get an att h.len i hi j hj, List.getElem?_eq_getElem hl2]
  obtain ⟨oo, oc, ao2, ac2, e1, e2, _, _⟩ := (h.parts _ (List.getElem_mem hi)).forms
  refine ⟨b, off, oo, oc, ao2, ac2, e.1.symm, key 0 (by omega), key 1 (by omega), key 2 (by omega), ?_, ?_⟩
  · rw [key 3 (by omega)]; show some att[i].ov = _; rw [e1]
  · rw [key 4 (by omega)]; show some att[i].av = _; rw [e2]
set_option maxHeartbeats 8000000 in
theorem rising_any (an : List ByteArray) (att : List Ty) (v : Value) (w : World) (h : AV w v an att) :
    Calls Tryz.prog 113 #[v, .func (Fn.func 114) #[] #[]] w fun e w' => e = .returned (.bool (riseB an)) ∧ Below w.heap.size w w' := by
  have hlen := h.len
  have hl : att.length ≤ 9223372036854775807 := by have := SlV.len h.row; unfold maxLen at this; omega
  have hli : (att.length : Int) ≤ 9223372036854775807 := by omega
  have h' := hid h
  obtain ⟨ao, cap, rfl, _, _⟩ := h.row.form
  clear h
  obtain ⟨R, hR⟩ : ∃ R, riseB an = R := ⟨_, rfl⟩
  rw [hR]
  replace hR := hid hR
  obtain ⟨n, hn⟩ : ∃ n, att.length = n := ⟨_, rfl⟩
  rw [hn] at hl hli hlen ⊢
  replace hn := hid hn
  replace hlen := hid hlen
  go_enter Tryz.func113, Tryz.ntmps113
  go_wp2_with fail
  go_loopw [5] (fun i wr => ∃ j : Nat, j ≤ n ∧ i = .int .i64 ((j : Int) + 1) ∧ Hid (R = riseB (an.drop j)) ∧ Hid (Below w.heap.size w wr)) (fun i _ => n + 1 - (intOf i).toNat)
  case atStart => exact ⟨0, by omega, rfl, hid (by rw [← hR.out]; rfl), hid (Below.refl _ _)⟩
  case round =>
    obtain ⟨j, hj, rfl, hr, bw⟩ := hrel
    rename_i wr _
    by_cases hlt : j + 1 < n
    · have hji : (j : Int) + 1 < (n : Int) := by omega
      have ha0 : j < att.length := by have := hn.out; omega
      have ha1 : j + 1 < att.length := by have := hn.out; omega
      have hb0 : j < an.length := by have := hlen.out; omega
      have hb1 : j + 1 < an.length := by have := hlen.out; omega
      have hst := hid (hr.out.trans (riseB_step an j hb1))
      clear hr
      obtain ⟨xb, xo, yoo, yoc, yao, yac, rfl, y0, y1, y2, y3, y4⟩ := (h'.out.below bw.out).at' rfl j ha0 hb0
      obtain ⟨xb2, xo2, zoo, zoc, zao, zac, e, z0, z1, z2, z3, z4⟩ := (h'.out.below bw.out).at' rfl (j + 1) ha1 hb1
      simp only [Option.some.injEq, Addr.mk.injEq, and_true] at e
      obtain ⟨rfl, rfl⟩ := e
      have d1 := hid (fun W => nameOf_any an[j] (att[j].kind : Nat) att[j].name yoo yao att[j].of.length yoc att[j].att.length yac W)
      have d2 := hid (fun W => nameOf_any an[j + 1] (att[j + 1].kind : Nat) att[j + 1].name zoo zao att[j + 1].of.length zoc att[j + 1].att.length zac W)
      generalize an[j] = sx at *
      generalize an[j + 1] = sy at *
      generalize att[j] = tx at y1 y2 y3 y4 d1
      generalize att[j + 1] = ty at z1 z2 z3 z4 d2
      generalize hbz : Op.bytesLess sx.toList sy.toList = bz at hst
      have e1 : (j : Int) + 1 - 1 = (j : Int) := by omega
      have e2 : IntKind.i64.wrap ((j : Int) + 1 - 1) = (j : Int) := by rw [e1, IntWalk.i64_in _ (by omega)]
      have e7 : IntKind.i64.wrap (j : Int) = (j : Int) := by rw [IntWalk.i64_in _ (by omega)]
      have e8 : IntKind.i64.wrap ((j : Int) + 1 + 1) = (j : Int) + 1 + 1 := by rw [IntWalk.i64_in _ (by omega)]
      have e3 : ((j : Int) + 1).toNat = j + 1 := by omega
      have e4 : (0 : Int) ≤ (j : Int) + 1 := by omega
      have e5 : (j : Int) < (n : Int) := by omega
      have e6 : (0 : Int) ≤ (j : Int) := by omega
      cases bz with
      | true =>
        rw [Bool.true_and] at hst
        go_wp2_with fail
        go_region_held3 (fun W => W.cell? ⟨xb, xo + j * 5, none⟩ = some (.string sx) ∧ W.cell? ⟨xb, xo + j * 5 + 1, none⟩ = some (.int .u8 (tx.kind : Nat)) ∧ W.cell? ⟨xb, xo + j * 5 + 2, none⟩ = some (.string tx.name) ∧ W.cell? ⟨xb, xo + j * 5 + 3, none⟩ = some (.slice yoo tx.of.length yoc) ∧ W.cell? ⟨xb, xo + j * 5 + 4, none⟩ = some (.slice yao tx.att.length yac) ∧ W.cell? ⟨xb, xo + (j + 1) * 5, none⟩ = some (.string sy) ∧ W.cell? ⟨xb, xo + (j + 1) * 5 + 1, none⟩ = some (.int .u8 (ty.kind : Nat)) ∧ W.cell? ⟨xb, xo + (j + 1) * 5 + 2, none⟩ = some (.string ty.name) ∧ W.cell? ⟨xb, xo + (j + 1) * 5 + 3, none⟩ = some (.slice zoo ty.of.length zoc) ∧ W.cell? ⟨xb, xo + (j + 1) * 5 + 4, none⟩ = some (.slice zao ty.att.length zac)) (exact ⟨y0, y1, y2, y3, y4, z0, z1, z2, z3, z4⟩) (first
          | (go_at_call 114; (with_reducible refine (d1.out _).mono ?_); rintro e w1 ⟨rfl, b1⟩; replace b1 := (Below.refl wr.heap.size wr).drew.trans b1
             have ca : ∀ {a : Addr} {v : Value}, wr.cell? a = some v → w1.cell? a = some v := fun h => (b1.cell (World.block_lt_of_cell? _ _ h)).trans h
             replace y0 := ca y0; replace y1 := ca y1; replace y2 := ca y2; replace y3 := ca y3; replace y4 := ca y4; replace z0 := ca z0; replace z1 := ca z1; replace z2 := ca z2; replace z3 := ca z3; replace z4 := ca z4; clear ca d1)
          | (go_at_call 114; (with_reducible refine (d2.out _).mono ?_); rintro e w1 ⟨rfl, b1⟩; replace b1 := (Below.refl wr.heap.size wr).drew.trans b1
             have ca : ∀ {a : Addr} {v : Value}, wr.cell? a = some v → w1.cell? a = some v := fun h => (b1.cell (World.block_lt_of_cell? _ _ h)).trans h
             replace y0 := ca y0; replace y1 := ca y1; replace y2 := ca y2; replace y3 := ca y3; replace y4 := ca y4; replace z0 := ca z0; replace z1 := ca z1; replace z2 := ca z2; replace z3 := ca z3; replace z4 := ca z4; clear ca d2)
          | (go_at_call 114; (with_reducible refine (d1.out _).mono ?_); rintro e w2 ⟨rfl, b2⟩
             have ca : ∀ {a : Addr} {v : Value}, w1.cell? a = some v → w2.cell? a = some v := fun h => (b2.cell (World.block_lt_of_cell? _ _ h)).trans h
             replace y0 := ca y0; replace y1 := ca y1; replace y2 := ca y2; replace y3 := ca y3; replace y4 := ca y4; replace z0 := ca z0; replace z1 := ca z1; replace z2 := ca z2; replace z3 := ca z3; replace z4 := ca z4; replace b1 := b1.trans (b2.mono b1.size); clear ca d1 b2)
          | (go_at_call 114; (with_reducible refine (d2.out _).mono ?_); rintro e w2 ⟨rfl, b2⟩
             have ca : ∀ {a : Addr} {v : Value}, w1.cell? a = some v → w2.cell? a = some v := fun h => (b2.cell (World.block_lt_of_cell? _ _ h)).trans h
             replace y0 := ca y0; replace y1 := ca y1; replace y2 := ca y2; replace y3 := ca y3; replace y4 := ca y4; replace z0 := ca z0; replace z1 := ca z1; replace z2 := ca z2; replace z3 := ca z3; replace z4 := ca z4; replace b1 := b1.trans (b2.mono b1.size); clear ca d2 b2))
        all_goals
          replace bw := hid (bt bw.out b1)
          clear b1 y0 y1 y2 y3 y4 z0 z1 z2 z3 z4
          go_wp2_with fail
          go_roundw
          case rel => exact ⟨j + 1, by omega, by go_num, hst, bw⟩
          case measure => simp [intOf]; omega
      | false =>
        have hfin := hid (show R = false by rw [hst.out]; rfl)
        clear hst
        go_wp2_with fail
        go_region_held3 (fun W => W.cell? ⟨xb, xo + j * 5, none⟩ = some (.string sx) ∧ W.cell? ⟨xb, xo + j * 5 + 1, none⟩ = some (.int .u8 (tx.kind : Nat)) ∧ W.cell? ⟨xb, xo + j * 5 + 2, none⟩ = some (.string tx.name) ∧ W.cell? ⟨xb, xo + j * 5 + 3, none⟩ = some (.slice yoo tx.of.length yoc) ∧ W.cell? ⟨xb, xo + j * 5 + 4, none⟩ = some (.slice yao tx.att.length yac) ∧ W.cell? ⟨xb, xo + (j + 1) * 5, none⟩ = some (.string sy) ∧ W.cell? ⟨xb, xo + (j + 1) * 5 + 1, none⟩ = some (.int .u8 (ty.kind : Nat)) ∧ W.cell? ⟨xb, xo + (j + 1) * 5 + 2, none⟩ = some (.string ty.name) ∧ W.cell? ⟨xb, xo + (j + 1) * 5 + 3, none⟩ = some (.slice zoo ty.of.length zoc) ∧ W.cell? ⟨xb, xo + (j + 1) * 5 + 4, none⟩ = some (.slice zao ty.att.length zac)) (exact ⟨y0, y1, y2, y3, y4, z0, z1, z2, z3, z4⟩) (first
          | (go_at_call 114; (with_reducible refine (d1.out _).mono ?_); rintro e w1 ⟨rfl, b1⟩; replace b1 := (Below.refl wr.heap.size wr).drew.trans b1
             have ca : ∀ {a : Addr} {v : Value}, wr.cell? a = some v → w1.cell? a = some v := fun h => (b1.cell (World.block_lt_of_cell? _ _ h)).trans h
             replace y0 := ca y0; replace y1 := ca y1; replace y2 := ca y2; replace y3 := ca y3; replace y4 := ca y4; replace z0 := ca z0; replace z1 := ca z1; replace z2 := ca z2; replace z3 := ca z3; replace z4 := ca z4; clear ca d1)
          | (go_at_call 114; (with_reducible refine (d2.out _).mono ?_); rintro e w1 ⟨rfl, b1⟩; replace b1 := (Below.refl wr.heap.size wr).drew.trans b1
             have ca : ∀ {a : Addr} {v : Value}, wr.cell? a = some v → w1.cell? a = some v := fun h => (b1.cell (World.block_lt_of_cell? _ _ h)).trans h
             replace y0 := ca y0; replace y1 := ca y1; replace y2 := ca y2; replace y3 := ca y3; replace y4 := ca y4; replace z0 := ca z0; replace z1 := ca z1; replace z2 := ca z2; replace z3 := ca z3; replace z4 := ca z4; clear ca d2)
          | (go_at_call 114; (with_reducible refine (d1.out _).mono ?_); rintro e w2 ⟨rfl, b2⟩
             have ca : ∀ {a : Addr} {v : Value}, w1.cell? a = some v → w2.cell? a = some v := fun h => (b2.cell (World.block_lt_of_cell? _ _ h)).trans h
             replace y0 := ca y0; replace y1 := ca y1; replace y2 := ca y2; replace y3 := ca y3; replace y4 := ca y4; replace z0 := ca z0; replace z1 := ca z1; replace z2 := ca z2; replace z3 := ca z3; replace z4 := ca z4; replace b1 := b1.trans (b2.mono b1.size); clear ca d1 b2)
          | (go_at_call 114; (with_reducible refine (d2.out _).mono ?_); rintro e w2 ⟨rfl, b2⟩
             have ca : ∀ {a : Addr} {v : Value}, w1.cell? a = some v → w2.cell? a = some v := fun h => (b2.cell (World.block_lt_of_cell? _ _ h)).trans h
             replace y0 := ca y0; replace y1 := ca y1; replace y2 := ca y2; replace y3 := ca y3; replace y4 := ca y4; replace z0 := ca z0; replace z1 := ca z1; replace z2 := ca z2; replace z3 := ca z3; replace z4 := ca z4; replace b1 := b1.trans (b2.mono b1.size); clear ca d2 b2))
        all_goals
          replace bw := hid (bt bw.out b1)
          clear b1 y0 y1 y2 y3 y4 z0 z1 z2 z3 z4
          go_wp2_with fail
          go_ret
          exact ⟨by rw [hfin.out]; rfl, bw.out⟩
    · have hji : ¬ (j : Int) + 1 < (n : Int) := by omega
      have hfin := hid (hr.out.trans (riseB_end an j (by have := hlen.out; omega)))
      clear hr
      go_wp2_with fail
      go_ret
      exact ⟨by rw [hfin.out]; rfl, bw.out⟩
def attrsB (an : List ByteArray) : Bool := decide (an.length ≤ 16) && (an.all anB && riseB an)
theorem all_step (l : List ByteArray) (k : Nat) (h : k < l.length) : (l.drop k).all anB = (anB l[k] && (l.drop (k + 1)).all anB) := by
  rw [List.drop_eq_getElem_cons h, List.all_cons]
set_option maxHeartbeats 8000000 in
theorem attrsRight_any (an : List ByteArray) (att : List Ty) (v : Value) (w : World) (h : AV w v an att) (hw : Ev.Core w) :
    Calls Tryz.prog 80 #[v] w fun e w' => e = .returned (.bool (attrsB an)) ∧ Below w.heap.size w w' := by
  have hlen := h.len
  have hl : att.length ≤ 9223372036854775807 := by have := SlV.len h.row; unfold maxLen at this; omega
  have hli : (att.length : Int) ≤ 9223372036854775807 := by omega
  have h' := hid h
  have cA := hid (fun (s : ByteArray) (hs : s ∈ an) W (b : Below w.heap.size w W) => attrName_any s W (h.names s hs) (hw.below b))
  have cR := hid (fun W (b : Below w.heap.size w W) => rising_any an att v W (h.below b))
  obtain ⟨ao, cap, rfl, _, _⟩ := h.row.form
  clear h hw
  obtain ⟨R, hR⟩ : ∃ R, attrsB an = R := ⟨_, rfl⟩
  rw [hR]
  replace hR := hid (hR.symm.trans (show attrsB an = _ by unfold attrsB; rfl))
  obtain ⟨n, hn⟩ : ∃ n, att.length = n := ⟨_, rfl⟩
  rw [hn] at hl hli hlen cR ⊢
  replace hn := hid hn
  replace hlen := hid hlen
  by_cases h16 : n ≤ 16
  · have h16i : ¬ (16 : Int) < (n : Int) := by omega
    replace hR := hid (show R = ((an.drop 0).all anB && riseB an) by rw [hR.out, decide_eq_true (by have := hlen.out; omega), Bool.true_and, List.drop_zero])
    clear h16
    go_enter Tryz.func80, Tryz.ntmps80
    go_wp2_with fail
    go_loopw [10] (fun i wr => ∃ k : Nat, k ≤ n ∧ i = .int .i64 k ∧ Hid (R = ((an.drop k).all anB && riseB an)) ∧ Hid (Below w.heap.size w wr)) (fun i _ => n - (intOf i).toNat)
    case atStart => exact ⟨0, by omega, rfl, hR, hid (Below.refl _ _)⟩
    case round =>
      obtain ⟨k, hk, rfl, hr, bw⟩ := hrel
      rename_i wr _
      by_cases hkl : k < n
      · have hki : (k : Int) < (n : Int) := by omega
        have ha0 : k < att.length := by have := hn.out; omega
        have hb0 : k < an.length := by have := hlen.out; omega
        have hst := hid (show R = ((anB an[k] && (an.drop (k + 1)).all anB) && riseB an) by rw [hr.out, all_step an k hb0])
        clear hr
        obtain ⟨xb, xo, yoo, yoc, yao, yac, rfl, y0, y1, y2, y3, y4⟩ := (h'.out.below bw.out).at' rfl k ha0 hb0
        have d1 := hid (cA.out an[k] (List.getElem_mem hb0))
        generalize an[k] = sx at y0 d1 hst
        generalize att[k] = tx at y1 y2 y3 y4
        generalize anB sx = ab at d1 hst
        go_upto_region 6 with fail
        have K4 := hid (Blk.new wr [.string sx, .int .u8 (tx.kind : Nat), .string tx.name, .slice yoo tx.of.length yoc, .slice yao tx.att.length yac] 53)
        replace bw := hid (bw.out.alloc bw.out.size (.cells #[.string sx, .int .u8 (tx.kind : Nat), .string tx.name, .slice yoo tx.of.length yoc, .slice yao tx.att.length yac] 53))
        clear y0 y1 y2 y3 y4
        generalize wr.alloc (.cells #[.string sx, .int .u8 (tx.kind : Nat), .string tx.name, .slice yoo tx.of.length yoc, .slice yao tx.att.length yac] 53) = X3 at K4 bw ⊢
        obtain ⟨f0, f1, f2, f3, f4, ff⟩ := five K4.out
        go_wp2_with fail
        refine (d1.out _ bw.out).mono ?_
        rintro e w2 ⟨rfl, b1⟩
        replace bw := hid (bt bw.out b1)
        clear b1 d1 f0 f1 f2 f3 f4 ff K4
        cases ab with
        | false =>
          have hfin := hid (show R = false by rw [hst.out]; rfl)
          clear hst
          go_wp2_with fail
          go_ret
          exact ⟨by rw [hfin.out]; rfl, bw.out⟩
        | true =>
          rw [Bool.true_and] at hst
          go_wp2_with fail
          go_roundw
          case rel => exact ⟨k + 1, by omega, by go_num, hst, bw⟩
          case measure => simp [intOf]; omega
      · have hki : ¬ (k : Int) < (n : Int) := by omega
        have hfin := hid (show R = riseB an by rw [hr.out, List.drop_eq_nil_of_le (by have := hlen.out; omega)]; rfl)
        clear hr
        go_wp2_with fail
        refine (cR.out _ bw.out).mono ?_
        rintro e w2 ⟨rfl, b1⟩
        replace bw := hid (bt bw.out b1)
        clear b1 cR
        go_wp2_with fail
        go_ret
        exact ⟨by rw [hfin.out]; rfl, bw.out⟩
  · have h16i : (16 : Int) < (n : Int) := by omega
    have hfin := hid (show R = false by rw [hR.out, decide_eq_false (by have := hlen.out; omega)]; rfl)
    clear hR h16
    go_enter Tryz.func80, Tryz.ntmps80
    go_wp2_with fail
    go_ret
    exact ⟨by rw [hfin.out]; rfl, Below.refl _ _⟩
end Go.Proofs.YtklclfolmfhocaaGreatDoor.Tyt
