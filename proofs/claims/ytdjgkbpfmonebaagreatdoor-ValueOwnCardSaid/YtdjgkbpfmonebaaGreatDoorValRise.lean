/-
  What is asked of two values one beside the other: contracts.
-/
import Derived.Test.YtdjgkbpfmonebaaGreatDoorValCompare2
namespace Go.Proofs.YtdjgkbpfmonebaaGreatDoor.Val
open Go.ChangeShapes Go.WideShapes Go.ChangeAt Go.RowKit
open Go.Proofs.YtdjgkbpfmonebaaGreatDoor.Mem
set_option linter.unusedVariables false
set_option linter.unusedSimpArgs false
set_option maxRecDepth 100000
/-- a row of values, as a set that has it -/
def wrapL (l : List T) (v : Value) : T := .mk 4 false 0 ByteArray.empty ByteArray.empty [] (.slice none 0 0) l v
def LV (w : World) (v : Value) (l : List T) : Prop := (wrapL l v).ok w
theorem LV.mk' {w : World} {v : Value} {l : List T} (h : SlV w v l.length (T.encL l)) (g : ∀ x ∈ l, x.ok w) (hb : l.length * 96 ≤ 140737488355328) : LV w v l :=
  T.ok.mk' ⟨⟨(by decide : 4 < 256), (by decide : 0 * 16 ≤ 140737488355328), hb⟩, (by decide : (-9223372036854775808 : Int) ≤ 0 ∧ (0 : Int) ≤ 9223372036854775807), (by decide : ByteArray.empty.size ≤ 140737488355328), (by decide : ByteArray.empty.size ≤ 140737488355328), (fun y hy => by cases (show y ∈ ([] : List ByteArray) from hy)), SlV.nil w, h, g⟩
theorem LV.of {w : World} {x : T} (h : x.ok w) : LV w x.lv x.list := LV.mk' h.parts.2.2.2.2.2.2.1 h.parts.2.2.2.2.2.2.2 h.parts.1.2.2
theorem LV.sl {w : World} {v : Value} {l : List T} (h : LV w v l) : SlV w v l.length (T.encL l) := (T.ok.parts h).2.2.2.2.2.2.1
theorem LV.all {w : World} {v : Value} {l : List T} (h : LV w v l) : ∀ x ∈ l, x.ok w := (T.ok.parts h).2.2.2.2.2.2.2
theorem LV.room {w : World} {v : Value} {l : List T} (h : LV w v l) : l.length * 96 ≤ 140737488355328 := (T.ok.parts h).1.2.2
theorem LV.below {w w' : World} {v : Value} {l : List T} (h : LV w v l) (hb : Below w.heap.size w w') : LV w' v l := T.ok.below hb h
theorem LV.form {w : World} {v : Value} {l : List T} (h : LV w v l) : ∃ lo lc, v = .slice lo l.length lc ∧ l.length ≤ 9223372036854775807 := by
  obtain ⟨_, _, lo, lc, _, e, _, h2⟩ := T.ok.forms h
  exact ⟨lo, lc, e, h2⟩
theorem LV.cells {w : World} {lo : Option Addr} {lc : Nat} {l : List T} (h : LV w (.slice lo l.length lc) l) (i : Nat) (hi : i < l.length) :
    ∃ b off, lo = some ⟨b, off, none⟩ ∧ w.cell? ⟨b, off + i * 7, none⟩ = some (.int .u8 (l[i].kind : Nat)) ∧ w.cell? ⟨b, off + i * 7 + 1, none⟩ = some (.bool l[i].bool) ∧ w.cell? ⟨b, off + i * 7 + 2, none⟩ = some (.int .i64 l[i].num) ∧ w.cell? ⟨b, off + i * 7 + 3, none⟩ = some (.string l[i].str) ∧
      w.cell? ⟨b, off + i * 7 + 4, none⟩ = some (.string l[i].typ) ∧ w.cell? ⟨b, off + i * 7 + 5, none⟩ = some l[i].nv ∧ w.cell? ⟨b, off + i * 7 + 6, none⟩ = some l[i].lv :=
  T.ok.part7 (x := wrapL l (.slice lo l.length lc)) h rfl i hi
set_option maxHeartbeats 4000000 in
theorem below_any (x y : T) (w : World) (hx : x.ok w) (hy : y.ok w) :
    Calls Tryz.prog 79 #[x.val, y.val] w fun e w' => e = .returned (.bool (decide (cmpT x y < 0))) ∧ Below w.heap.size w w' := by
  have hc := hid (fun W (b : Below w.heap.size w W) => comp_any x y W (hx.below b) (hy.below b))
  rw [show x.val = .agg #[.int .u8 (x.kind : Nat), .bool x.bool, .int .i64 x.num, .string x.str, .string x.typ, x.nv, x.lv] from rfl, show y.val = .agg #[.int .u8 (y.kind : Nat), .bool y.bool, .int .i64 y.num, .string y.str, .string y.typ, y.nv, y.lv] from rfl] at hc ⊢
  generalize cmpT x y = cz at hc ⊢
  clear hx hy
  go_enter Tryz.func79, Tryz.ntmps79
  go_wp2_with fail
  refine (hc.out _ (by go_grown)).mono ?_
  rintro e w1 ⟨rfl, b1⟩
  go_wp2_with fail
  go_ret
  exact ⟨rfl, bt (by go_grown) b1⟩
set_option maxHeartbeats 4000000 in
theorem samev_any (x y : T) (w : World) (hx : x.ok w) (hy : y.ok w) :
    Calls Tryz.prog 32 #[x.val, y.val] w fun e w' => e = .returned (.bool (cmpT x y == 0)) ∧ Below w.heap.size w w' := by
  have hc := hid (fun W (b : Below w.heap.size w W) => comp_any x y W (hx.below b) (hy.below b))
  rw [show x.val = .agg #[.int .u8 (x.kind : Nat), .bool x.bool, .int .i64 x.num, .string x.str, .string x.typ, x.nv, x.lv] from rfl, show y.val = .agg #[.int .u8 (y.kind : Nat), .bool y.bool, .int .i64 y.num, .string y.str, .string y.typ, y.nv, y.lv] from rfl] at hc ⊢
  generalize cmpT x y = cz at hc ⊢
  clear hx hy
  go_enter Tryz.func32, Tryz.ntmps32
  go_wp2_with fail
  refine (hc.out _ (by go_grown)).mono ?_
  rintro e w1 ⟨rfl, b1⟩
  go_wp2_with fail
  go_ret
  exact ⟨rfl, bt (by go_grown) b1⟩

def riseB : List T → Bool
  | x :: y :: r => decide (cmpT x y < 0) && riseB (y :: r)
  | _ => true
theorem rise_step (l : List T) (j : Nat) (h : j + 1 < l.length) : riseB (l.drop j) = (decide (cmpT l[j] l[j + 1] < 0) && riseB (l.drop (j + 1))) := by
  rw [List.drop_eq_getElem_cons (show j < l.length by omega), List.drop_eq_getElem_cons h, riseB]
theorem rise_end (l : List T) (j : Nat) (h : l.length ≤ j + 1) : riseB (l.drop j) = true := by
  have hl : (l.drop j).length ≤ 1 := by rw [List.length_drop]; omega
  match l.drop j, hl with
  | [], _ => rfl
  | [_], _ => rfl
set_option maxHeartbeats 4000000 in
theorem rising_any (l : List T) (v : Value) (w : World) (h : LV w v l) :
    Calls Tryz.prog 78 #[v, .func (Fn.func 79) #[] #[]] w fun e w' => e = .returned (.bool (riseB l)) ∧ Below w.heap.size w w' := by
  obtain ⟨lo, lc, rfl, hl⟩ := h.form
  have hli : (l.length : Int) ≤ 9223372036854775807 := by omega
  have h' := hid h
  clear h
  obtain ⟨R, hR⟩ : ∃ R, riseB l = R := ⟨_, rfl⟩
  rw [hR]
  replace hR := hid hR
  go_enter Tryz.func78, Tryz.ntmps78
  go_wp2_with fail
  go_loopw [5] (fun i wr => ∃ j : Nat, j ≤ l.length ∧ i = .int .i64 ((j : Int) + 1) ∧ Hid (R = riseB (l.drop j)) ∧ Hid (Below w.heap.size w wr)) (fun i _ => l.length + 1 - (intOf i).toNat)
  case atStart => exact ⟨0, by omega, rfl, hid (by rw [← hR.out]; rfl), hid (Below.refl _ _)⟩
  case round =>
    obtain ⟨j, hj, rfl, hr, bw⟩ := hrel
    rename_i wr _
    by_cases hlt : j + 1 < l.length
    · have hji : (j : Int) + 1 < (l.length : Int) := by omega
      have hst := hid (hr.out.trans (rise_step l j hlt))
      clear hr
      obtain ⟨xb, xo, rfl, xf0, xf1, xf2, xf3, xf4, xf5, xf6⟩ := (h'.out.below bw.out).cells j (by omega)
      obtain ⟨xb', xo', e, yf0, yf1, yf2, yf3, yf4, yf5, yf6⟩ := (h'.out.below bw.out).cells (j + 1) hlt
      simp only [Option.some.injEq, Addr.mk.injEq, and_true] at e
      obtain ⟨rfl, rfl⟩ := e
      have hcl := hid (fun W (b : Below w.heap.size w W) => below_any l[j] l[j + 1] W ((h'.out.below b).all _ (List.getElem_mem _)) ((h'.out.below b).all _ (List.getElem_mem _)))
      generalize l[j] = zx at *
      generalize l[j + 1] = zy at *
      generalize decide (cmpT zx zy < 0) = bz at hcl hst
      replace hcl := hid (show ∀ W, Below w.heap.size w W → Calls Tryz.prog 79 #[.agg #[.int .u8 (zx.kind : Nat), .bool zx.bool, .int .i64 zx.num, .string zx.str, .string zx.typ, zx.nv, zx.lv], .agg #[.int .u8 (zy.kind : Nat), .bool zy.bool, .int .i64 zy.num, .string zy.str, .string zy.typ, zy.nv, zy.lv]] W fun e w' => e = .returned (.bool bz) ∧ Below W.heap.size W w' from hcl.out)
      have e1 : (j : Int) + 1 - 1 = (j : Int) := by omega
      have e2 : IntKind.i64.wrap ((j : Int) + 1 - 1) = (j : Int) := by rw [e1, IntWalk.i64_in _ (by omega)]
      have e7 : IntKind.i64.wrap (j : Int) = (j : Int) := by rw [IntWalk.i64_in _ (by omega)]
      have e3 : ((j : Int) + 1).toNat = j + 1 := by omega
      have e4 : (0 : Int) ≤ (j : Int) + 1 := by omega
      have e5 : (j : Int) < (l.length : Int) := by omega
      have e6 : (0 : Int) ≤ (j : Int) := by omega
      go_wp2_with fail
      go_region_held3 (fun W => W.cell? ⟨xb, xo + j * 7, none⟩ = some (.int .u8 (zx.kind : Nat)) ∧ W.cell? ⟨xb, xo + j * 7 + 1, none⟩ = some (.bool zx.bool) ∧ W.cell? ⟨xb, xo + j * 7 + 2, none⟩ = some (.int .i64 zx.num) ∧ W.cell? ⟨xb, xo + j * 7 + 3, none⟩ = some (.string zx.str) ∧ W.cell? ⟨xb, xo + j * 7 + 4, none⟩ = some (.string zx.typ) ∧ W.cell? ⟨xb, xo + j * 7 + 5, none⟩ = some (zx.nv) ∧ W.cell? ⟨xb, xo + j * 7 + 6, none⟩ = some (zx.lv) ∧ W.cell? ⟨xb, xo + (j + 1) * 7, none⟩ = some (.int .u8 (zy.kind : Nat)) ∧ W.cell? ⟨xb, xo + (j + 1) * 7 + 1, none⟩ = some (.bool zy.bool) ∧ W.cell? ⟨xb, xo + (j + 1) * 7 + 2, none⟩ = some (.int .i64 zy.num) ∧ W.cell? ⟨xb, xo + (j + 1) * 7 + 3, none⟩ = some (.string zy.str) ∧ W.cell? ⟨xb, xo + (j + 1) * 7 + 4, none⟩ = some (.string zy.typ) ∧ W.cell? ⟨xb, xo + (j + 1) * 7 + 5, none⟩ = some (zy.nv) ∧ W.cell? ⟨xb, xo + (j + 1) * 7 + 6, none⟩ = some (zy.lv)) (exact ⟨xf0, xf1, xf2, xf3, xf4, xf5, xf6, yf0, yf1, yf2, yf3, yf4, yf5, yf6⟩) (first
        | (go_at_call 79; (with_reducible refine (hcl.out _ (bt bw.out ((Below.refl _ wr).drew))).mono ?_); rintro e w1 ⟨rfl, b1⟩; replace b1 := (Below.refl wr.heap.size wr).drew.trans b1
           have ca : ∀ {a : Addr} {v : Value}, wr.cell? a = some v → w1.cell? a = some v := fun h => (b1.cell (World.block_lt_of_cell? _ _ h)).trans h
           replace xf0 := ca xf0; replace xf1 := ca xf1; replace xf2 := ca xf2; replace xf3 := ca xf3; replace xf4 := ca xf4; replace xf5 := ca xf5; replace xf6 := ca xf6; replace yf0 := ca yf0; replace yf1 := ca yf1; replace yf2 := ca yf2; replace yf3 := ca yf3; replace yf4 := ca yf4; replace yf5 := ca yf5; replace yf6 := ca yf6; clear ca))
      replace bw := hid (bt bw.out b1)
      clear b1 hcl xf0 xf1 xf2 xf3 xf4 xf5 xf6 yf0 yf1 yf2 yf3 yf4 yf5 yf6
      cases bz with
      | true =>
        rw [Bool.true_and] at hst
        go_wp2_with fail
        go_roundw
        case rel => exact ⟨j + 1, by omega, by go_num, hst, bw⟩
        case measure => simp [intOf]; omega
      | false =>
        have hn := hid (show R = false by rw [hst.out]; rfl)
        clear hst
        go_wp2_with fail
        go_ret
        exact ⟨by rw [hn.out]; rfl, bw.out⟩
    · have hji : ¬ (j : Int) + 1 < (l.length : Int) := by omega
      have hn := hid (hr.out.trans (rise_end l j (by omega)))
      clear hr
      go_wp2_with fail
      go_ret
      exact ⟨by rw [hn.out]; rfl, bw.out⟩
end Go.Proofs.YtdjgkbpfmonebaaGreatDoor.Val
