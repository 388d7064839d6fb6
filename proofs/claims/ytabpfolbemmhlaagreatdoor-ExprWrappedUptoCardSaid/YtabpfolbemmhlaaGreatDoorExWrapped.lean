/-
  lictorlaw08.ExprWrapped: the walk. Written by wip/exwrapgen.py.
-/
import Derived.Test.YtabpfolbemmhlaaGreatDoorExCheck
import Derived.Test.YtabpfolbemmhlaaGreatDoorEvLives8
namespace Go.Proofs.YtabpfolbemmhlaaGreatDoor.Ex
open Go.ChangeShapes Go.WideShapes Go.ChangeAt Go.RowKit
open Go.Proofs.YtabpfolbemmhlaaGreatDoor.Mem
set_option linter.unusedVariables false
set_option linter.unusedSimpArgs false
set_option maxRecDepth 100000
/-- an op of parts alone -/
def wrap (k : Nat) (l : List T) (lv : Value) : T := .mk k 0 ⟨#[]⟩ ⟨#[]⟩ [] (.slice none 0 0) l lv
theorem wrap_ok {W : World} {b n k : Nat} {l : List T} {ty : TypeId} {cs : List Value} (hk : k < 256) (hn : l.length = n) (hn3 : n ≤ 3) (h0 : 0 < n) (h : ∀ y ∈ l, y.ok W) (hB : Blk W b cs ty) (hc : cs = T.encL l) : (wrap k l (.slice (some ⟨b, 0, none⟩) n n)).ok W := by
  subst hc
  refine T.ok.mk' ⟨⟨hk, by show 0 * 16 ≤ _; omega, show l.length * 96 ≤ _ by omega⟩, ⟨show (-9223372036854775808 : Int) ≤ 0 by decide, show (0 : Int) ≤ 9223372036854775807 by decide⟩, Nat.zero_le _, Nat.zero_le _, (fun y (hy : y ∈ ([] : List ByteArray)) => by cases hy), SlV.nil W, ?_, h⟩
  refine ⟨some ⟨b, 0, none⟩, n, by show Value.slice _ n n = .slice _ l.length n; rw [hn], show l.length ≤ n by omega, by unfold maxLen; omega, (fun e => by cases e), fun e => ?_, fun a ha j hj => ?_⟩
  · exfalso
    have e2 : l.length = 0 := e
    omega
  · cases ha
    rw [Mem.add_plain, Nat.zero_add]
    exact hB.cell j hj
theorem wrap_size (k : Nat) (l : List T) (lv : Value) : (wrap k l lv).size = T.sizeL l + 1 := T.size_list _
theorem wrap_right (k n : Nat) (l : List T) (lv : Value) (hn : l.length = n) (h : fldB (wrap k l lv) = true) : rightB (wrap k l lv) = (kidsB k n && rightL l) := by
  subst hn
  rw [rightB_eq]
  show (fldB (wrap k l lv) && kidsB k l.length && rightL l) = _
  rw [h, Bool.true_and]
theorem wrap_deep (k : Nat) (l : List T) (lv : Value) : deepN (wrap k l lv) = deepL l + 1 := deepN_eq _
/-- what the law asks of the two answers -/
theorem chk_wrap {x y : T} (h1 : rightB y = rightB x) (h2 : deepN x < deepN y) : ((chkN x == 5) = (chkN y == 5)) ∧ ((chkN x == 4) = true → (chkN y == 4) = true) := by
  unfold chkN
  rw [h1]
  cases rightB x with
  | false => simp
  | true =>
    simp only [Bool.true_eq_false, if_false]
    by_cases g1 : 16 < deepN x
    · rw [if_pos g1, if_pos (show 16 < deepN y by omega)]
      exact ⟨rfl, fun _ => rfl⟩
    · rw [if_neg g1]
      by_cases g2 : 16 < deepN y <;> by_cases g3 : 128 < x.size <;> by_cases g4 : 128 < y.size <;> simp [g2, g3, g4]
set_option maxHeartbeats 8000000 in
theorem wrapped_walk (x : T) (w : World) (h : x.ok w) (hz : x.size ≤ 1048576) (hw : Sta w) :
    Calls Tryz.prog 4 #[x.val] w fun e w' => e = .returned (.bool true) ∧ Below w.heap.size w w' := by
  have cL := hid (fun W (b : Below w.heap.size w W) => Ev.lives_any (hw.below b).laid)
  have cX := hid (fun W (b : Below w.heap.size w W) => check_any x W (h.below b) (by omega) (hw.below b))
  have cY := hid (fun (k n b : Nat) (l : List T) (cs : List Value) (ty : TypeId) (hk : k < 256) (hn : l.length = n) (hn3 : n ≤ 3) (h0 : 0 < n) (hl : ∀ y ∈ l, y = x) (hc : cs = T.encL l) W (b' : Below w.heap.size w W) (hB : Blk W b cs ty) =>
    check_any (wrap k l (.slice (some ⟨b, 0, none⟩) n n)) W (wrap_ok hk hn hn3 h0 (fun y hy => by rw [hl y hy]; exact h.below b') hB hc) (by
      rw [wrap_size]
      have key : ∀ (m : List T), (∀ y ∈ m, y = x) → T.sizeL m ≤ m.length * 1048576 := by
        intro m
        induction m with
        | nil => intro _; simp [T.sizeL]
        | cons y m ih =>
          intro hm
          have e1 := hm y List.mem_cons_self
          subst e1
          have e2 := ih (fun z hz => hm z (List.mem_cons_of_mem _ hz))
          rw [T.sizeL, List.length_cons]
          omega
      have := key l hl
      rw [hn] at this
      omega) (hw.below b'))
  have hR1 := hid (fun lv => chk_wrap (x := x) (y := wrap 12 [x] lv) (by rw [wrap_right 12 1 [x] lv rfl rfl, show kidsB 12 1 = true from rfl, Bool.true_and, rightL, rightL, Bool.and_true]) (by rw [wrap_deep, deepL, deepL]; omega))
  have hR2 := hid (fun lv => chk_wrap (x := x) (y := wrap 6 [x, x] lv) (by rw [wrap_right 6 2 [x, x] lv rfl rfl, show kidsB 6 2 = true from rfl, Bool.true_and, rightL, rightL, rightL, Bool.and_true, Bool.and_self]) (by rw [wrap_deep, deepL, deepL, deepL]; omega))
  have hR3 := hid (fun lv => chk_wrap (x := x) (y := wrap 14 [x, x, x] lv) (by rw [wrap_right 14 3 [x, x, x] lv rfl rfl, show kidsB 14 3 = true from rfl, Bool.true_and, rightL, rightL, rightL, rightL, Bool.and_true, Bool.and_self, Bool.and_self]) (by rw [wrap_deep, deepL, deepL, deepL, deepL]; omega))
  have hR4 := hid (fun lv => (show (chkN (wrap 12 [x, x] lv) == 5) = true by unfold chkN; rw [wrap_right 12 2 [x, x] lv rfl rfl, show kidsB 12 2 = false from rfl, Bool.false_and, if_pos rfl]; rfl))
  obtain ⟨no, nc, lo, lc, e1, e2, l1, l2⟩ := h.forms
  have hv := T.val_eq e1 e2
  rw [hv] at cX ⊢
  have hE : x.enc = [.int .u8 (x.kind : Nat), .int .i64 x.num, .string x.str, .string x.typ, .slice no x.names.length nc, .slice lo x.list.length lc] := by
    have : x.val = .agg x.enc.toArray := rfl
    rw [this, Value.agg.injEq] at hv
    have := congrArg Array.toList hv
    simpa using this
  have hE1 := hid (show [.int .u8 (x.kind : Nat), .int .i64 x.num, .string x.str, .string x.typ, .slice no x.names.length nc, .slice lo x.list.length lc] = T.encL [x] by unfold T.encL; rw [List.flatMap_cons, List.flatMap_nil, List.append_nil, hE])
  have hE2 := hid (show [.int .u8 (x.kind : Nat), .int .i64 x.num, .string x.str, .string x.typ, .slice no x.names.length nc, .slice lo x.list.length lc, .int .u8 (x.kind : Nat), .int .i64 x.num, .string x.str, .string x.typ, .slice no x.names.length nc, .slice lo x.list.length lc] = T.encL [x, x] by unfold T.encL; rw [List.flatMap_cons, List.flatMap_cons, List.flatMap_nil, List.append_nil, hE]; rfl)
  have hE3 := hid (show [.int .u8 (x.kind : Nat), .int .i64 x.num, .string x.str, .string x.typ, .slice no x.names.length nc, .slice lo x.list.length lc, .int .u8 (x.kind : Nat), .int .i64 x.num, .string x.str, .string x.typ, .slice no x.names.length nc, .slice lo x.list.length lc, .int .u8 (x.kind : Nat), .int .i64 x.num, .string x.str, .string x.typ, .slice no x.names.length nc, .slice lo x.list.length lc] = T.encL [x, x, x] by unfold T.encL; rw [List.flatMap_cons, List.flatMap_cons, List.flatMap_cons, List.flatMap_nil, List.append_nil, hE]; rfl)
  clear hv hE h hw e1 e2 hz
  generalize chkN x = cx at *
  go_enter Tryz.func4, Tryz.ntmps4
  go_upto_region 1 with fail
  have K1 := hid (Blk.new w [.int .u8 (x.kind : Nat), .int .i64 x.num, .string x.str, .string x.typ, .slice no x.names.length nc, .slice lo x.list.length lc] 26)
  have bw := hid ((Below.refl w.heap.size w).alloc (Nat.le_refl _) (.cells #[.int .u8 (x.kind : Nat), .int .i64 x.num, .string x.str, .string x.typ, .slice no x.names.length nc, .slice lo x.list.length lc] 26))
  generalize w.alloc (.cells #[.int .u8 (x.kind : Nat), .int .i64 x.num, .string x.str, .string x.typ, .slice no x.names.length nc, .slice lo x.list.length lc] 26) = X0 at K1 bw ⊢
  go_wp2_with fail
  refine (cL.out _ bw.out).mono ?_
  rintro e w1 ⟨rfl, b1⟩
  replace K1 := hid (K1.out.below b1 K1.out.lt)
  replace bw := hid (bt bw.out b1)
  clear b1 cL
  obtain ⟨c0, c1, c2, c3, c4, c5, cf⟩ := six K1.out
  go_wp2_with fail
  refine (cX.out _ bw.out).mono ?_
  rintro e w2 ⟨rfl, b1⟩
  replace K1 := hid (K1.out.below b1 K1.out.lt)
  replace bw := hid (bt bw.out b1)
  clear b1 cX c0 c1 c2 c3 c4 c5 cf
  obtain ⟨c0, c1, c2, c3, c4, c5, cf⟩ := six K1.out
  have hlt : w.heap.size < w2.heap.size := K1.out.lt
  have hne : w.heap.size ≠ w2.heap.size := by omega
  go_upto_region 5 with fail
  clear c0 c1 c2 c3 c4 c5 cf hne
  obtain ⟨B0, hB0⟩ : ∃ B0, B0 = w2.heap.size := ⟨_, rfl⟩
  rw [← hB0] at hlt ⊢
  replace hB0 := hid hB0
  have A0 := hid (Blk.new' w2 [.int .u8 (x.kind : Nat), .int .i64 x.num, .string x.str, .string x.typ, .slice no x.names.length nc, .slice lo x.list.length lc] 26 B0 hB0.out)
  have hB1 := hid (show B0 + 1 = (w2.alloc (.cells #[.int .u8 (x.kind : Nat), .int .i64 x.num, .string x.str, .string x.typ, .slice no x.names.length nc, .slice lo x.list.length lc] 26)).heap.size by have := hB0.out; simp [this])
  replace K1 := hid (K1.out.alloc (.cells #[.int .u8 (x.kind : Nat), .int .i64 x.num, .string x.str, .string x.typ, .slice no x.names.length nc, .slice lo x.list.length lc] 26))
  replace bw := hid (bw.out.alloc (by have := hB0.out; omega) (.cells #[.int .u8 (x.kind : Nat), .int .i64 x.num, .string x.str, .string x.typ, .slice no x.names.length nc, .slice lo x.list.length lc] 26))
  generalize w2.alloc (.cells #[.int .u8 (x.kind : Nat), .int .i64 x.num, .string x.str, .string x.typ, .slice no x.names.length nc, .slice lo x.list.length lc] 26) = Y1 at K1 A0 hB1 bw ⊢
  obtain ⟨B1, hq⟩ : ∃ B1, B0 + 1 = B1 := ⟨_, rfl⟩
  rw [hq] at hB1 ⊢
  have hq0 := hid hq
  clear hq
  have A1 := hid (Blk.new' Y1 [.int .u8 (x.kind : Nat), .int .i64 x.num, .string x.str, .string x.typ, .slice no x.names.length nc, .slice lo x.list.length lc, .int .u8 (x.kind : Nat), .int .i64 x.num, .string x.str, .string x.typ, .slice no x.names.length nc, .slice lo x.list.length lc] 26 B1 hB1.out)
  have hB2 := hid (show B1 + 1 = (Y1.alloc (.cells #[.int .u8 (x.kind : Nat), .int .i64 x.num, .string x.str, .string x.typ, .slice no x.names.length nc, .slice lo x.list.length lc, .int .u8 (x.kind : Nat), .int .i64 x.num, .string x.str, .string x.typ, .slice no x.names.length nc, .slice lo x.list.length lc] 26)).heap.size by have := hB1.out; simp [this])
  replace K1 := hid (K1.out.alloc (.cells #[.int .u8 (x.kind : Nat), .int .i64 x.num, .string x.str, .string x.typ, .slice no x.names.length nc, .slice lo x.list.length lc, .int .u8 (x.kind : Nat), .int .i64 x.num, .string x.str, .string x.typ, .slice no x.names.length nc, .slice lo x.list.length lc] 26))
  replace A0 := hid (A0.out.alloc (.cells #[.int .u8 (x.kind : Nat), .int .i64 x.num, .string x.str, .string x.typ, .slice no x.names.length nc, .slice lo x.list.length lc, .int .u8 (x.kind : Nat), .int .i64 x.num, .string x.str, .string x.typ, .slice no x.names.length nc, .slice lo x.list.length lc] 26))
  replace bw := hid (bw.out.alloc (by have := hB1.out; have := hq0.out; omega) (.cells #[.int .u8 (x.kind : Nat), .int .i64 x.num, .string x.str, .string x.typ, .slice no x.names.length nc, .slice lo x.list.length lc, .int .u8 (x.kind : Nat), .int .i64 x.num, .string x.str, .string x.typ, .slice no x.names.length nc, .slice lo x.list.length lc] 26))
  generalize Y1.alloc (.cells #[.int .u8 (x.kind : Nat), .int .i64 x.num, .string x.str, .string x.typ, .slice no x.names.length nc, .slice lo x.list.length lc, .int .u8 (x.kind : Nat), .int .i64 x.num, .string x.str, .string x.typ, .slice no x.names.length nc, .slice lo x.list.length lc] 26) = Y2 at K1 A0 A1 hB2 bw ⊢
  obtain ⟨B2, hq⟩ : ∃ B2, B1 + 1 = B2 := ⟨_, rfl⟩
  rw [hq] at hB2 ⊢
  have hq1 := hid hq
  clear hq
  have A2 := hid (Blk.new' Y2 [.int .u8 (x.kind : Nat), .int .i64 x.num, .string x.str, .string x.typ, .slice no x.names.length nc, .slice lo x.list.length lc, .int .u8 (x.kind : Nat), .int .i64 x.num, .string x.str, .string x.typ, .slice no x.names.length nc, .slice lo x.list.length lc, .int .u8 (x.kind : Nat), .int .i64 x.num, .string x.str, .string x.typ, .slice no x.names.length nc, .slice lo x.list.length lc] 26 B2 hB2.out)
  have hB3 := hid (show B2 + 1 = (Y2.alloc (.cells #[.int .u8 (x.kind : Nat), .int .i64 x.num, .string x.str, .string x.typ, .slice no x.names.length nc, .slice lo x.list.length lc, .int .u8 (x.kind : Nat), .int .i64 x.num, .string x.str, .string x.typ, .slice no x.names.length nc, .slice lo x.list.length lc, .int .u8 (x.kind : Nat), .int .i64 x.num, .string x.str, .string x.typ, .slice no x.names.length nc, .slice lo x.list.length lc] 26)).heap.size by have := hB2.out; simp [this])
  replace K1 := hid (K1.out.alloc (.cells #[.int .u8 (x.kind : Nat), .int .i64 x.num, .string x.str, .string x.typ, .slice no x.names.length nc, .slice lo x.list.length lc, .int .u8 (x.kind : Nat), .int .i64 x.num, .string x.str, .string x.typ, .slice no x.names.length nc, .slice lo x.list.length lc, .int .u8 (x.kind : Nat), .int .i64 x.num, .string x.str, .string x.typ, .slice no x.names.length nc, .slice lo x.list.length lc] 26))
  replace A0 := hid (A0.out.alloc (.cells #[.int .u8 (x.kind : Nat), .int .i64 x.num, .string x.str, .string x.typ, .slice no x.names.length nc, .slice lo x.list.length lc, .int .u8 (x.kind : Nat), .int .i64 x.num, .string x.str, .string x.typ, .slice no x.names.length nc, .slice lo x.list.length lc, .int .u8 (x.kind : Nat), .int .i64 x.num, .string x.str, .string x.typ, .slice no x.names.length nc, .slice lo x.list.length lc] 26))
  replace A1 := hid (A1.out.alloc (.cells #[.int .u8 (x.kind : Nat), .int .i64 x.num, .string x.str, .string x.typ, .slice no x.names.length nc, .slice lo x.list.length lc, .int .u8 (x.kind : Nat), .int .i64 x.num, .string x.str, .string x.typ, .slice no x.names.length nc, .slice lo x.list.length lc, .int .u8 (x.kind : Nat), .int .i64 x.num, .string x.str, .string x.typ, .slice no x.names.length nc, .slice lo x.list.length lc] 26))
  replace bw := hid (bw.out.alloc (by have := hB2.out; have := hq0.out; have := hq1.out; omega) (.cells #[.int .u8 (x.kind : Nat), .int .i64 x.num, .string x.str, .string x.typ, .slice no x.names.length nc, .slice lo x.list.length lc, .int .u8 (x.kind : Nat), .int .i64 x.num, .string x.str, .string x.typ, .slice no x.names.length nc, .slice lo x.list.length lc, .int .u8 (x.kind : Nat), .int .i64 x.num, .string x.str, .string x.typ, .slice no x.names.length nc, .slice lo x.list.length lc] 26))
  generalize Y2.alloc (.cells #[.int .u8 (x.kind : Nat), .int .i64 x.num, .string x.str, .string x.typ, .slice no x.names.length nc, .slice lo x.list.length lc, .int .u8 (x.kind : Nat), .int .i64 x.num, .string x.str, .string x.typ, .slice no x.names.length nc, .slice lo x.list.length lc, .int .u8 (x.kind : Nat), .int .i64 x.num, .string x.str, .string x.typ, .slice no x.names.length nc, .slice lo x.list.length lc] 26) = Y3 at K1 A0 A1 A2 hB3 bw ⊢
  obtain ⟨B3, hq⟩ : ∃ B3, B2 + 1 = B3 := ⟨_, rfl⟩
  rw [hq] at hB3 ⊢
  have hq2 := hid hq
  clear hq
  have A3 := hid (Blk.new' Y3 [.int .u8 12, .int .i64 0, .string ⟨#[]⟩, .string ⟨#[]⟩, .slice none 0 0, .slice (some ⟨B0, 0, none⟩) 1 1, .int .u8 6, .int .i64 0, .string ⟨#[]⟩, .string ⟨#[]⟩, .slice none 0 0, .slice (some ⟨B1, 0, none⟩) 2 2, .int .u8 14, .int .i64 0, .string ⟨#[]⟩, .string ⟨#[]⟩, .slice none 0 0, .slice (some ⟨B2, 0, none⟩) 3 3] 26 B3 hB3.out)
  replace K1 := hid (K1.out.alloc (.cells #[.int .u8 12, .int .i64 0, .string ⟨#[]⟩, .string ⟨#[]⟩, .slice none 0 0, .slice (some ⟨B0, 0, none⟩) 1 1, .int .u8 6, .int .i64 0, .string ⟨#[]⟩, .string ⟨#[]⟩, .slice none 0 0, .slice (some ⟨B1, 0, none⟩) 2 2, .int .u8 14, .int .i64 0, .string ⟨#[]⟩, .string ⟨#[]⟩, .slice none 0 0, .slice (some ⟨B2, 0, none⟩) 3 3] 26))
  replace A0 := hid (A0.out.alloc (.cells #[.int .u8 12, .int .i64 0, .string ⟨#[]⟩, .string ⟨#[]⟩, .slice none 0 0, .slice (some ⟨B0, 0, none⟩) 1 1, .int .u8 6, .int .i64 0, .string ⟨#[]⟩, .string ⟨#[]⟩, .slice none 0 0, .slice (some ⟨B1, 0, none⟩) 2 2, .int .u8 14, .int .i64 0, .string ⟨#[]⟩, .string ⟨#[]⟩, .slice none 0 0, .slice (some ⟨B2, 0, none⟩) 3 3] 26))
  replace A1 := hid (A1.out.alloc (.cells #[.int .u8 12, .int .i64 0, .string ⟨#[]⟩, .string ⟨#[]⟩, .slice none 0 0, .slice (some ⟨B0, 0, none⟩) 1 1, .int .u8 6, .int .i64 0, .string ⟨#[]⟩, .string ⟨#[]⟩, .slice none 0 0, .slice (some ⟨B1, 0, none⟩) 2 2, .int .u8 14, .int .i64 0, .string ⟨#[]⟩, .string ⟨#[]⟩, .slice none 0 0, .slice (some ⟨B2, 0, none⟩) 3 3] 26))
  replace A2 := hid (A2.out.alloc (.cells #[.int .u8 12, .int .i64 0, .string ⟨#[]⟩, .string ⟨#[]⟩, .slice none 0 0, .slice (some ⟨B0, 0, none⟩) 1 1, .int .u8 6, .int .i64 0, .string ⟨#[]⟩, .string ⟨#[]⟩, .slice none 0 0, .slice (some ⟨B1, 0, none⟩) 2 2, .int .u8 14, .int .i64 0, .string ⟨#[]⟩, .string ⟨#[]⟩, .slice none 0 0, .slice (some ⟨B2, 0, none⟩) 3 3] 26))
  replace bw := hid (bw.out.alloc (by have := hB3.out; have := hq0.out; have := hq1.out; have := hq2.out; omega) (.cells #[.int .u8 12, .int .i64 0, .string ⟨#[]⟩, .string ⟨#[]⟩, .slice none 0 0, .slice (some ⟨B0, 0, none⟩) 1 1, .int .u8 6, .int .i64 0, .string ⟨#[]⟩, .string ⟨#[]⟩, .slice none 0 0, .slice (some ⟨B1, 0, none⟩) 2 2, .int .u8 14, .int .i64 0, .string ⟨#[]⟩, .string ⟨#[]⟩, .slice none 0 0, .slice (some ⟨B2, 0, none⟩) 3 3] 26))
  generalize Y3.alloc (.cells #[.int .u8 12, .int .i64 0, .string ⟨#[]⟩, .string ⟨#[]⟩, .slice none 0 0, .slice (some ⟨B0, 0, none⟩) 1 1, .int .u8 6, .int .i64 0, .string ⟨#[]⟩, .string ⟨#[]⟩, .slice none 0 0, .slice (some ⟨B1, 0, none⟩) 2 2, .int .u8 14, .int .i64 0, .string ⟨#[]⟩, .string ⟨#[]⟩, .slice none 0 0, .slice (some ⟨B2, 0, none⟩) 3 3] 26) = Y4 at K1 A0 A1 A2 A3 bw ⊢
  have hy := hid (Below.refl Y4.heap.size Y4)
  go_loopw [25] (fun i wr => ∃ k : Nat, k ≤ 3 ∧ i = .int .i64 k ∧ Hid (Below Y4.heap.size Y4 wr)) (fun i _ => 3 - (intOf i).toNat)
  case atStart => exact ⟨0, by omega, rfl, hy⟩
  case round =>
    obtain ⟨k, hk, rfl, by4⟩ := hrel
    rename_i wr _
    replace bw := hid (bt bw.out by4.out)
    replace K1 := hid (K1.out.below by4.out K1.out.lt)
    have G0 := hid (A0.out.below by4.out A0.out.lt)
    have G1 := hid (A1.out.below by4.out A1.out.lt)
    have G2 := hid (A2.out.below by4.out A2.out.lt)
    have G3 := hid (A3.out.below by4.out A3.out.lt)
    clear A0 A1 A2 A3 hy
    have hk4 : k = 0 ∨ k = 1 ∨ k = 2 ∨ k = 3 := by omega
    rcases hk4 with rfl | rfl | rfl | rfl
    · have f0 := G3.out.cell 0 (by simp)
      have f1 := G3.out.cell 1 (by simp)
      have f2 := G3.out.cell 2 (by simp)
      have f3 := G3.out.cell 3 (by simp)
      have f4 := G3.out.cell 4 (by simp)
      have f5 := G3.out.cell 5 (by simp)
      simp only [List.getElem_cons_zero, List.getElem_cons_succ] at f0 f1 f2 f3 f4 f5
      have ff := G3.out.free
      go_upto_region 7 with fail
      have K4 := hid (Blk.new wr [.int .u8 12, .int .i64 0, .string ⟨#[]⟩, .string ⟨#[]⟩, .slice none 0 0, .slice (some ⟨B0, 0, none⟩) 1 1] 26)
      replace G0 := hid (G0.out.alloc (.cells #[.int .u8 12, .int .i64 0, .string ⟨#[]⟩, .string ⟨#[]⟩, .slice none 0 0, .slice (some ⟨B0, 0, none⟩) 1 1] 26))
      replace bw := hid (bw.out.alloc bw.out.size (.cells #[.int .u8 12, .int .i64 0, .string ⟨#[]⟩, .string ⟨#[]⟩, .slice none 0 0, .slice (some ⟨B0, 0, none⟩) 1 1] 26))
      replace by4 := hid (by4.out.alloc by4.out.size (.cells #[.int .u8 12, .int .i64 0, .string ⟨#[]⟩, .string ⟨#[]⟩, .slice none 0 0, .slice (some ⟨B0, 0, none⟩) 1 1] 26))
      clear f0 f1 f2 f3 f4 f5 ff
      generalize wr.alloc (.cells #[.int .u8 12, .int .i64 0, .string ⟨#[]⟩, .string ⟨#[]⟩, .slice none 0 0, .slice (some ⟨B0, 0, none⟩) 1 1] 26) = X3 at K4 G0 bw by4 ⊢
      obtain ⟨f0, f1, f2, f3, f4, f5, ff⟩ := six K4.out
      go_wp2_with fail
      refine (cY.out 12 1 B0 [x] _ _ (by omega) rfl (by omega) (by omega) (by simp) hE1.out _ bw.out G0.out).mono ?_
      rintro e w3 ⟨rfl, b1⟩
      replace by4 := hid (bt by4.out b1)
      clear b1 f0 f1 f2 f3 f4 f5 ff K4
      obtain ⟨q5, q4⟩ := hR1.out (.slice (some ⟨B0, 0, none⟩) 1 1)
      generalize chkN (wrap 12 [x] (.slice (some ⟨B0, 0, none⟩) 1 1)) = d at q5 q4 ⊢
      cases hc5 : (cx == 5) with
      | true =>
        have hd5 : (d == 5) = true := q5.symm.trans hc5
        clear q5 q4
        rw [beq_iff_eq] at hc5 hd5
        subst hc5 hd5
        go_wp2_with fail
        go_roundw
        all_goals first
          | exact ⟨1, by omega, rfl, by4⟩
          | exact ⟨⟨1, by omega, rfl, by4⟩, by simp [intOf]⟩
          | ((repeat apply Exists.intro); exact ⟨⟨1, by omega, rfl, by4⟩, rfl⟩)
          | (simp [intOf]; done)
      | false =>
        have hd5 : (d == 5) = false := q5.symm.trans hc5
        cases hc4 : (cx == 4) with
        | true =>
          have hd4 := q4 hc4
          clear q5 q4 hc5 hd5
          rw [beq_iff_eq] at hc4 hd4
          subst hc4 hd4
          go_wp2_with fail
          go_roundw
          all_goals first
            | exact ⟨1, by omega, rfl, by4⟩
            | exact ⟨⟨1, by omega, rfl, by4⟩, by simp [intOf]⟩
            | ((repeat apply Exists.intro); exact ⟨⟨1, by omega, rfl, by4⟩, rfl⟩)
            | (simp [intOf]; done)
        | false =>
          have hcn5 : (cx != 5) = true := by rw [bne, hc5]; rfl
          clear q5 q4
          go_wp2_with fail
          go_roundw
          all_goals first
            | exact ⟨1, by omega, rfl, by4⟩
            | exact ⟨⟨1, by omega, rfl, by4⟩, by simp [intOf]⟩
            | ((repeat apply Exists.intro); exact ⟨⟨1, by omega, rfl, by4⟩, rfl⟩)
            | (simp [intOf]; done)
    · have f0 := G3.out.cell 6 (by simp)
      have f1 := G3.out.cell 7 (by simp)
      have f2 := G3.out.cell 8 (by simp)
      have f3 := G3.out.cell 9 (by simp)
      have f4 := G3.out.cell 10 (by simp)
      have f5 := G3.out.cell 11 (by simp)
      simp only [List.getElem_cons_zero, List.getElem_cons_succ] at f0 f1 f2 f3 f4 f5
      have ff := G3.out.free
      go_upto_region 7 with fail
      have K4 := hid (Blk.new wr [.int .u8 6, .int .i64 0, .string ⟨#[]⟩, .string ⟨#[]⟩, .slice none 0 0, .slice (some ⟨B1, 0, none⟩) 2 2] 26)
      replace G1 := hid (G1.out.alloc (.cells #[.int .u8 6, .int .i64 0, .string ⟨#[]⟩, .string ⟨#[]⟩, .slice none 0 0, .slice (some ⟨B1, 0, none⟩) 2 2] 26))
      replace bw := hid (bw.out.alloc bw.out.size (.cells #[.int .u8 6, .int .i64 0, .string ⟨#[]⟩, .string ⟨#[]⟩, .slice none 0 0, .slice (some ⟨B1, 0, none⟩) 2 2] 26))
      replace by4 := hid (by4.out.alloc by4.out.size (.cells #[.int .u8 6, .int .i64 0, .string ⟨#[]⟩, .string ⟨#[]⟩, .slice none 0 0, .slice (some ⟨B1, 0, none⟩) 2 2] 26))
      clear f0 f1 f2 f3 f4 f5 ff
      generalize wr.alloc (.cells #[.int .u8 6, .int .i64 0, .string ⟨#[]⟩, .string ⟨#[]⟩, .slice none 0 0, .slice (some ⟨B1, 0, none⟩) 2 2] 26) = X3 at K4 G1 bw by4 ⊢
      obtain ⟨f0, f1, f2, f3, f4, f5, ff⟩ := six K4.out
      go_wp2_with fail
      refine (cY.out 6 2 B1 [x, x] _ _ (by omega) rfl (by omega) (by omega) (by simp) hE2.out _ bw.out G1.out).mono ?_
      rintro e w3 ⟨rfl, b1⟩
      replace by4 := hid (bt by4.out b1)
      clear b1 f0 f1 f2 f3 f4 f5 ff K4
      obtain ⟨q5, q4⟩ := hR2.out (.slice (some ⟨B1, 0, none⟩) 2 2)
      generalize chkN (wrap 6 [x, x] (.slice (some ⟨B1, 0, none⟩) 2 2)) = d at q5 q4 ⊢
      cases hc5 : (cx == 5) with
      | true =>
        have hd5 : (d == 5) = true := q5.symm.trans hc5
        clear q5 q4
        rw [beq_iff_eq] at hc5 hd5
        subst hc5 hd5
        go_wp2_with fail
        go_roundw
        all_goals first
          | exact ⟨2, by omega, rfl, by4⟩
          | exact ⟨⟨2, by omega, rfl, by4⟩, by simp [intOf]⟩
          | ((repeat apply Exists.intro); exact ⟨⟨2, by omega, rfl, by4⟩, rfl⟩)
          | (simp [intOf]; done)
      | false =>
        have hd5 : (d == 5) = false := q5.symm.trans hc5
        cases hc4 : (cx == 4) with
        | true =>
          have hd4 := q4 hc4
          clear q5 q4 hc5 hd5
          rw [beq_iff_eq] at hc4 hd4
          subst hc4 hd4
          go_wp2_with fail
          go_roundw
          all_goals first
            | exact ⟨2, by omega, rfl, by4⟩
            | exact ⟨⟨2, by omega, rfl, by4⟩, by simp [intOf]⟩
            | ((repeat apply Exists.intro); exact ⟨⟨2, by omega, rfl, by4⟩, rfl⟩)
            | (simp [intOf]; done)
        | false =>
          have hcn5 : (cx != 5) = true := by rw [bne, hc5]; rfl
          clear q5 q4
          go_wp2_with fail
          go_roundw
          all_goals first
            | exact ⟨2, by omega, rfl, by4⟩
            | exact ⟨⟨2, by omega, rfl, by4⟩, by simp [intOf]⟩
            | ((repeat apply Exists.intro); exact ⟨⟨2, by omega, rfl, by4⟩, rfl⟩)
            | (simp [intOf]; done)
    · have f0 := G3.out.cell 12 (by simp)
      have f1 := G3.out.cell 13 (by simp)
      have f2 := G3.out.cell 14 (by simp)
      have f3 := G3.out.cell 15 (by simp)
      have f4 := G3.out.cell 16 (by simp)
      have f5 := G3.out.cell 17 (by simp)
      simp only [List.getElem_cons_zero, List.getElem_cons_succ] at f0 f1 f2 f3 f4 f5
      have ff := G3.out.free
      go_upto_region 7 with fail
      have K4 := hid (Blk.new wr [.int .u8 14, .int .i64 0, .string ⟨#[]⟩, .string ⟨#[]⟩, .slice none 0 0, .slice (some ⟨B2, 0, none⟩) 3 3] 26)
      replace G2 := hid (G2.out.alloc (.cells #[.int .u8 14, .int .i64 0, .string ⟨#[]⟩, .string ⟨#[]⟩, .slice none 0 0, .slice (some ⟨B2, 0, none⟩) 3 3] 26))
      replace bw := hid (bw.out.alloc bw.out.size (.cells #[.int .u8 14, .int .i64 0, .string ⟨#[]⟩, .string ⟨#[]⟩, .slice none 0 0, .slice (some ⟨B2, 0, none⟩) 3 3] 26))
      replace by4 := hid (by4.out.alloc by4.out.size (.cells #[.int .u8 14, .int .i64 0, .string ⟨#[]⟩, .string ⟨#[]⟩, .slice none 0 0, .slice (some ⟨B2, 0, none⟩) 3 3] 26))
      clear f0 f1 f2 f3 f4 f5 ff
      generalize wr.alloc (.cells #[.int .u8 14, .int .i64 0, .string ⟨#[]⟩, .string ⟨#[]⟩, .slice none 0 0, .slice (some ⟨B2, 0, none⟩) 3 3] 26) = X3 at K4 G2 bw by4 ⊢
      obtain ⟨f0, f1, f2, f3, f4, f5, ff⟩ := six K4.out
      go_wp2_with fail
      refine (cY.out 14 3 B2 [x, x, x] _ _ (by omega) rfl (by omega) (by omega) (by simp) hE3.out _ bw.out G2.out).mono ?_
      rintro e w3 ⟨rfl, b1⟩
      replace by4 := hid (bt by4.out b1)
      clear b1 f0 f1 f2 f3 f4 f5 ff K4
      obtain ⟨q5, q4⟩ := hR3.out (.slice (some ⟨B2, 0, none⟩) 3 3)
      generalize chkN (wrap 14 [x, x, x] (.slice (some ⟨B2, 0, none⟩) 3 3)) = d at q5 q4 ⊢
      cases hc5 : (cx == 5) with
      | true =>
        have hd5 : (d == 5) = true := q5.symm.trans hc5
        clear q5 q4
        rw [beq_iff_eq] at hc5 hd5
        subst hc5 hd5
        go_wp2_with fail
        go_roundw
        all_goals first
          | exact ⟨3, by omega, rfl, by4⟩
          | exact ⟨⟨3, by omega, rfl, by4⟩, by simp [intOf]⟩
          | ((repeat apply Exists.intro); exact ⟨⟨3, by omega, rfl, by4⟩, rfl⟩)
          | (simp [intOf]; done)
      | false =>
        have hd5 : (d == 5) = false := q5.symm.trans hc5
        cases hc4 : (cx == 4) with
        | true =>
          have hd4 := q4 hc4
          clear q5 q4 hc5 hd5
          rw [beq_iff_eq] at hc4 hd4
          subst hc4 hd4
          go_wp2_with fail
          go_roundw
          all_goals first
            | exact ⟨3, by omega, rfl, by4⟩
            | exact ⟨⟨3, by omega, rfl, by4⟩, by simp [intOf]⟩
            | ((repeat apply Exists.intro); exact ⟨⟨3, by omega, rfl, by4⟩, rfl⟩)
            | (simp [intOf]; done)
        | false =>
          have hcn5 : (cx != 5) = true := by rw [bne, hc5]; rfl
          clear q5 q4
          go_wp2_with fail
          go_roundw
          all_goals first
            | exact ⟨3, by omega, rfl, by4⟩
            | exact ⟨⟨3, by omega, rfl, by4⟩, by simp [intOf]⟩
            | ((repeat apply Exists.intro); exact ⟨⟨3, by omega, rfl, by4⟩, rfl⟩)
            | (simp [intOf]; done)
    · obtain ⟨c0, c1, c2, c3, c4, c5, cf⟩ := six K1.out
      have hlt4 : w.heap.size < wr.heap.size := K1.out.lt
      have hne4 : w.heap.size ≠ wr.heap.size := by omega
      go_wp2_with fail
      have G4 := hid (Blk.new wr [.int .u8 (x.kind : Nat), .int .i64 x.num, .string x.str, .string x.typ, .slice no x.names.length nc, .slice lo x.list.length lc, .int .u8 (x.kind : Nat), .int .i64 x.num, .string x.str, .string x.typ, .slice no x.names.length nc, .slice lo x.list.length lc] 26)
      replace bw := hid (bw.out.alloc bw.out.size (.cells #[.int .u8 (x.kind : Nat), .int .i64 x.num, .string x.str, .string x.typ, .slice no x.names.length nc, .slice lo x.list.length lc, .int .u8 (x.kind : Nat), .int .i64 x.num, .string x.str, .string x.typ, .slice no x.names.length nc, .slice lo x.list.length lc] 26))
      refine (cY.out 12 2 wr.heap.size [x, x] _ _ (by omega) rfl (by omega) (by omega) (by simp) hE2.out _ bw.out G4.out).mono ?_
      rintro e w3 ⟨rfl, b1⟩
      replace bw := hid (bt bw.out b1)
      have q5 := hR4.out (.slice (some ⟨wr.heap.size, 0, none⟩) 2 2)
      clear b1 c0 c1 c2 c3 c4 c5 cf
      go_wp2_with fail
      go_ret
      exact ⟨by first | rfl | (rw [← q5]; rfl), bw.out⟩
end Go.Proofs.YtabpfolbemmhlaaGreatDoor.Ex
