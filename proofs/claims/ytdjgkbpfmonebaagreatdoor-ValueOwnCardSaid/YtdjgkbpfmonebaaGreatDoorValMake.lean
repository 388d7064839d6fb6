/-
  value.checked, value.Set: contracts.
-/
import Derived.Test.YtdjgkbpfmonebaaGreatDoorValSort
import Derived.Test.YtdjgkbpfmonebaaGreatDoorValCompact
import Derived.Test.YtdjgkbpfmonebaaGreatDoorValSet
namespace Go.Proofs.YtdjgkbpfmonebaaGreatDoor.Val
open Go.ChangeShapes Go.WideShapes Go.ChangeAt Go.RowKit
open Go.Proofs.YtdjgkbpfmonebaaGreatDoor.Mem Go.Proofs.YtdjgkbpfmonebaaGreatDoor.Nam
set_option linter.unusedVariables false
set_option linter.unusedSimpArgs false
set_option maxRecDepth 100000
/-- x in new memory, if it is right; else why not -/
def MadeP (B : Nat) (x : T) (e : Ending) (w' : World) : Prop := (chkV x ≠ 0 ∧ e = .returned (.tuple #[.agg zeroA, .int .i64 (chkV x)])) ∨ (chkV x = 0 ∧ ∃ y : T, e = .returned (.tuple #[y.val, .int .i64 0]) ∧ x.like y ∧ y.ok w' ∧ y.inS (B ≤ ·) ∧ y.soft w')
theorem MadeP.mono {B B' : Nat} {x : T} {e : Ending} {w' : World} (h : MadeP B x e w') (hb : B' ≤ B) : MadeP B' x e w' := by
  rcases h with h | ⟨h0, y, h1, h2, h3, h4, h5⟩
  · exact .inl h
  · exact .inr ⟨h0, y, h1, h2, h3, h4.mono (fun k hk => Nat.le_trans hb hk), h5⟩
theorem made_not {B : Nat} {x : T} {w' : World} {c : Int} (hc : chkV x = c) (h : c ≠ 0) : MadeP B x (.returned (.tuple #[.agg zeroA, .int .i64 c])) w' := .inl ⟨by rw [hc]; exact h, by rw [hc]⟩
theorem right_of {x : T} (h : typeErr x = false) : RightT x := by
  intro e
  unfold typeErr chkV at h
  rw [e] at h
  exact absurd h (by decide)
set_option maxHeartbeats 4000000 in
theorem checked_any (hS : SplitTold) (hV : ValidTold) (x : T) (w : World) (h : x.ok w) (hw : Start w) :
    Calls Tryz.prog 23 #[x.val] w fun e w' => MadeP w.heap.size x e w' ∧ Below w.heap.size w w' := by
  have cC := hid (fun W (b : Below w.heap.size w W) => check_any hS hV x W (h.below b) (hw.below b))
  have cY := hid (fun W (b : Below w.heap.size w W) => copied_own x W (h.below b))
  obtain ⟨no, nc, lo, lc, e1, e2, l1, l2⟩ := h.forms
  have hxv : x.val = .agg #[.int .u8 (x.kind : Nat), .bool x.bool, .int .i64 x.num, .string x.str, .string x.typ, .slice no x.names.length nc, .slice lo x.list.length lc] := by rw [T.lit, e1, e2]
  rw [hxv] at cC cY ⊢
  obtain ⟨c, hc⟩ : ∃ c, Hid (chkV x = c) := ⟨_, hid rfl⟩
  rw [hc.out] at cC
  clear h hw hS hV hxv e1 e2 l1 l2
  go_enter Tryz.func23, Tryz.ntmps23
  go_upto_region 1 with fail
  have K1 := hid (Blk.new w [.int .u8 (x.kind : Nat), .bool x.bool, .int .i64 x.num, .string x.str, .string x.typ, .slice no x.names.length nc, .slice lo x.list.length lc] 27)
  have bw := hid ((Below.refl w.heap.size w).alloc (Nat.le_refl _) (.cells #[.int .u8 (x.kind : Nat), .bool x.bool, .int .i64 x.num, .string x.str, .string x.typ, .slice no x.names.length nc, .slice lo x.list.length lc] 27))
  have hs : w.heap.size + 1 = (w.alloc (.cells #[.int .u8 (x.kind : Nat), .bool x.bool, .int .i64 x.num, .string x.str, .string x.typ, .slice no x.names.length nc, .slice lo x.list.length lc] 27)).heap.size := by simp
  generalize w.alloc (.cells #[.int .u8 (x.kind : Nat), .bool x.bool, .int .i64 x.num, .string x.str, .string x.typ, .slice no x.names.length nc, .slice lo x.list.length lc] 27) = X0 at K1 bw hs ⊢
  have K2 := hid (Blk.new' X0 [.int .u8 0, .bool false, .int .i64 0, .string ⟨#[]⟩, .string ⟨#[]⟩, .slice none 0 0, .slice none 0 0] 27 (w.heap.size + 1) hs)
  replace K1 := hid (K1.out.alloc (.cells #[.int .u8 0, .bool false, .int .i64 0, .string ⟨#[]⟩, .string ⟨#[]⟩, .slice none 0 0, .slice none 0 0] 27))
  replace bw := hid (bw.out.alloc (by omega) (.cells #[.int .u8 0, .bool false, .int .i64 0, .string ⟨#[]⟩, .string ⟨#[]⟩, .slice none 0 0, .slice none 0 0] 27))
  clear hs
  generalize X0.alloc (.cells #[.int .u8 0, .bool false, .int .i64 0, .string ⟨#[]⟩, .string ⟨#[]⟩, .slice none 0 0, .slice none 0 0] 27) = X1 at K1 K2 bw ⊢
  obtain ⟨c0, c1, c2, c3, c4, c5, c6, cf⟩ := seven K1.out
  obtain ⟨d0, d1, d2, d3, d4, d5, d6, df⟩ := seven K2.out
  go_wp2_with fail
  refine (cC.out _ bw.out).mono ?_
  rintro e w1 ⟨rfl, b1⟩
  clear c0 c1 c2 c3 c4 c5 c6 cf d0 d1 d2 d3 d4 d5 d6 df
  replace K1 := hid (K1.out.below b1 K1.out.lt)
  replace K2 := hid (K2.out.below b1 K2.out.lt)
  replace bw := hid (bt bw.out b1)
  clear b1 cC
  obtain ⟨c0, c1, c2, c3, c4, c5, c6, cf⟩ := seven K1.out
  obtain ⟨d0, d1, d2, d3, d4, d5, d6, df⟩ := seven K2.out
  by_cases h0 : c = 0
  · subst h0
    go_wp2_with fail
    refine (cY.out _ bw.out).mono ?_
    rintro e w2 ⟨⟨y, rfl, hlk, hyok, hyin, hyso⟩, b2⟩
    obtain ⟨yno, ync, ylo, ylc, ey1, ey2, yl1, yl2⟩ := hyok.forms
    have hyv : y.val = .agg #[.int .u8 (y.kind : Nat), .bool y.bool, .int .i64 y.num, .string y.str, .string y.typ, .slice yno y.names.length ync, .slice ylo y.list.length ylc] := by rw [T.lit, ey1, ey2]
    have hfin := hid (show ∀ W', Blk W' (w.heap.size + 1) [.int .u8 (y.kind : Nat), .bool y.bool, .int .i64 y.num, .string y.str, .string y.typ, .slice yno y.names.length ync, .slice ylo y.list.length ylc] 27 → (∀ k, w1.heap.size ≤ k → W'.heap[k]? = w2.heap[k]?) → MadeP w.heap.size x (.returned (.tuple #[.agg #[.int .u8 (y.kind : Nat), .bool y.bool, .int .i64 y.num, .string y.str, .string y.typ, .slice yno y.names.length ync, .slice ylo y.list.length ylc], .int .i64 0])) W' from fun W' _ hk => .inr ⟨hc.out, y, by rw [hyv], hlk, hyok.keep hk hyin, hyin.mono (fun k hk => Nat.le_trans bw.out.size hk), hyso.keep hk hyin⟩)
    rw [hyv]
    clear hyv hlk hyok hyin hyso ey1 ey2 yl1 yl2 cY hc
    clear c0 c1 c2 c3 c4 c5 c6 cf d0 d1 d2 d3 d4 d5 d6 df
    have hlt := hid K2.out.lt
    replace K2 := hid (K2.out.below b2 K2.out.lt)
    replace bw := hid (bt bw.out b2)
    clear b2
    obtain ⟨d0, d1, d2, d3, d4, d5, d6, df⟩ := seven K2.out
    have hK := hid (show Blk _ _ [.int .u8 (y.kind : Nat), .bool y.bool, .int .i64 y.num, .string y.str, .string y.typ, .slice yno y.names.length ync, .slice ylo y.list.length ylc] 27 from blk_st7 (A := []) (C := []) (o := 0) K2.out rfl (.int .u8 (y.kind : Nat)) (.bool y.bool) (.int .i64 y.num) (.string y.str) (.string y.typ) (.slice yno y.names.length ync) (.slice ylo y.list.length ylc))
    have hBF := hid (below_st7 bw.out (g := w.heap.size + 1) (Nat.le_succ _) 0 (.int .u8 (y.kind : Nat)) (.bool y.bool) (.int .i64 y.num) (.string y.str) (.string y.typ) (.slice yno y.names.length ync) (.slice ylo y.list.length ylc))
    go_wp2_with fail
    clear d0 d1 d2 d3 d4 d5 d6 df
    obtain ⟨q0, q1, q2, q3, q4, q5, q6, qf⟩ := seven hK.out
    exact bodyPost_ret (v := .tuple #[.agg #[.int .u8 (y.kind : Nat), .bool y.bool, .int .i64 y.num, .string y.str, .string y.typ, .slice yno y.names.length ync, .slice ylo y.list.length ylc], .int .i64 0]) (by unfold st7 at q0 q1 q2 q3 q4 q5 q6; simp [results, Tryz.results23, go_sem, q0, q1, q2, q3, q4, q5, q6]) rfl ⟨hfin.out _ hK.out (fun k hk => heap_st7 _ _ _ _ _ _ _ _ _ _ (by have := hlt.out; omega)), hBF.out⟩
  · have e0 : (c != 0) = true := by simpa using h0
    have hfin := hid (fun W' => made_not (B := w.heap.size) (w' := W') hc.out h0)
    clear h0 hc cY
    have hK := hid (show Blk _ _ [.int .u8 0, .bool false, .int .i64 0, .string ⟨#[]⟩, .string ⟨#[]⟩, .slice none 0 0, .slice none 0 0] 27 from blk_st7 (A := []) (C := []) (o := 0) K2.out rfl (.int .u8 0) (.bool false) (.int .i64 0) (.string ⟨#[]⟩) (.string ⟨#[]⟩) (.slice none 0 0) (.slice none 0 0))
    have hBF := hid (below_st7 bw.out (g := w.heap.size + 1) (Nat.le_succ _) 0 (.int .u8 0) (.bool false) (.int .i64 0) (.string ⟨#[]⟩) (.string ⟨#[]⟩) (.slice none 0 0) (.slice none 0 0))
    go_wp2_with fail
    clear c0 c1 c2 c3 c4 c5 c6 cf d0 d1 d2 d3 d4 d5 d6 df
    obtain ⟨q0, q1, q2, q3, q4, q5, q6, qf⟩ := seven hK.out
    exact bodyPost_ret (v := .tuple #[.agg #[.int .u8 0, .bool false, .int .i64 0, .string ⟨#[]⟩, .string ⟨#[]⟩, .slice none 0 0, .slice none 0 0], .int .i64 c]) (by unfold st7 at q0 q1 q2 q3 q4 q5 q6; simp [results, Tryz.results23, go_sem, q0, q1, q2, q3, q4, q5, q6]) rfl ⟨hfin.out _, hBF.out⟩
set_option maxHeartbeats 1000000 in
theorem compact_none (p : Option Addr) (cap : Nat) (W : World) : Calls Tryz.prog 31 #[.slice p 0 cap, .func (Fn.func 32) #[] #[]] W fun e w' => e = .returned (.slice p 0 cap) ∧ w' = W := by
  go_enter Tryz.func31, Tryz.ntmps31
  go_wp2_with fail
  go_ret
  exact ⟨rfl, rfl⟩
/-- the set that has a row -/
def setT (l : List T) (v : Value) : T := .mk 4 false 0 ⟨#[]⟩ ⟨#[]⟩ [] (.slice none 0 0) l v
theorem setT_ok {W : World} {l : List T} {v : Value} (h : SlV W v l.length (T.encL l)) (hb : l.length * 96 ≤ 140737488355328) (hall : ∀ x ∈ l, x.ok W) : (setT l v).ok W :=
  T.ok.mk' ⟨⟨(by decide : 4 < 256), (by decide : 0 * 16 ≤ 140737488355328), hb⟩, (by decide : (-9223372036854775808 : Int) ≤ 0 ∧ (0 : Int) ≤ 9223372036854775807), (by decide : (⟨#[]⟩ : ByteArray).size ≤ 140737488355328), (by decide : (⟨#[]⟩ : ByteArray).size ≤ 140737488355328), (fun y hy => by cases (show y ∈ ([] : List ByteArray) from hy)), SlV.nil W, h, hall⟩
def SetP (w : World) (l : List T) (e : Ending) (w' : World) : Prop :=
  (l.any typeErr = true ∧ e = .returned (.tuple #[.agg zeroA, .int .i64 7])) ∨ (l.any typeErr = false ∧ ∃ (l' : List T) (v : Value), l'.Perm l ∧ SortedT l' ∧ MadeP w.heap.size (setT (compactT l') v) e w')
set_option maxHeartbeats 4000000 in
theorem set_any (hS : SplitTold) (hV : ValidTold) (l : List T) (v : Value) (w : World) (h : LV w v l) (hw : Start w) :
    Calls Tryz.prog 12 #[v] w fun e w' => SetP w l e w' ∧ Below w.heap.size w w' := by
  have cW := hid (fun W (b : Below w.heap.size w W) => contains_wrong hS hV l v W (h.below b) (hw.below b))
  have cC := hid (fun W (b : Below w.heap.size w W) => clone_any l v W (h.below b))
  have cK := hid (fun W (b : Below w.heap.size w W) x (hx : T.ok W x) => checked_any hS hV x W hx (hw.below b))
  have hall := hid h.all
  have hroom := hid h.room
  have hlen := hid (show l.length < 4611686018427387904 from by have := h.room; omega)
  obtain ⟨lo, lc, rfl, hl⟩ := h.form
  clear h hw hS hV hl
  go_enter Tryz.func12, Tryz.ntmps12
  go_upto_region 1 with fail
  have K2 := hid (Blk.new w [.int .u8 0, .bool false, .int .i64 0, .string ⟨#[]⟩, .string ⟨#[]⟩, .slice none 0 0, .slice none 0 0] 27)
  have bw := hid ((Below.refl w.heap.size w).alloc (Nat.le_refl _) (.cells #[.int .u8 0, .bool false, .int .i64 0, .string ⟨#[]⟩, .string ⟨#[]⟩, .slice none 0 0, .slice none 0 0] 27))
  generalize w.alloc (.cells #[.int .u8 0, .bool false, .int .i64 0, .string ⟨#[]⟩, .string ⟨#[]⟩, .slice none 0 0, .slice none 0 0] 27) = X1 at K2 bw ⊢
  go_wp2_with fail
  refine (cW.out _ bw.out).mono ?_
  rintro e w1 ⟨rfl, b1⟩
  replace K2 := hid (K2.out.below b1 K2.out.lt)
  replace bw := hid (bt bw.out b1)
  clear b1 cW
  cases hwr : l.any typeErr with
  | true =>
    have hfin := hid (fun w' => show SetP w l (.returned (.tuple #[.agg zeroA, .int .i64 7])) w' from .inl ⟨hwr, rfl⟩)
    clear hwr cC cK hall hroom
    obtain ⟨d0, d1, d2, d3, d4, d5, d6, df⟩ := seven K2.out
    have hK := hid (show Blk _ _ [.int .u8 0, .bool false, .int .i64 0, .string ⟨#[]⟩, .string ⟨#[]⟩, .slice none 0 0, .slice none 0 0] 27 from blk_st7 (A := []) (C := []) (o := 0) K2.out rfl (.int .u8 0) (.bool false) (.int .i64 0) (.string ⟨#[]⟩) (.string ⟨#[]⟩) (.slice none 0 0) (.slice none 0 0))
    have hBF := hid (below_st7 bw.out (g := w.heap.size) (Nat.le_refl _) 0 (.int .u8 0) (.bool false) (.int .i64 0) (.string ⟨#[]⟩) (.string ⟨#[]⟩) (.slice none 0 0) (.slice none 0 0))
    go_wp2_with fail
    clear d0 d1 d2 d3 d4 d5 d6 df
    obtain ⟨q0, q1, q2, q3, q4, q5, q6, qf⟩ := seven hK.out
    exact bodyPost_ret (v := .tuple #[.agg #[.int .u8 0, .bool false, .int .i64 0, .string ⟨#[]⟩, .string ⟨#[]⟩, .slice none 0 0, .slice none 0 0], .int .i64 7]) (by unfold st7 at q0 q1 q2 q3 q4 q5 q6; simp [results, Tryz.results12, go_sem, q0, q1, q2, q3, q4, q5, q6]) rfl ⟨hfin.out _, hBF.out⟩
  | false =>
    have hright := hid (show ∀ x ∈ l, RightT x from fun x hx => right_of (by
      cases ht : typeErr x with
      | false => rfl
      | true => have := List.any_eq_true.2 ⟨x, hx, ht⟩; rw [hwr] at this; exact absurd this (by simp)))
    have hwr' := hid hwr
    clear hwr
    go_wp2_with fail
    refine (cC.out _ bw.out).mono ?_
    rintro e w2 ⟨v2, rfl, hown, b2⟩
    obtain ⟨ao, cap, rfl, _⟩ := ownsRow_form hown
    obtain ⟨hrow, hcap1, hcap2, hcap3⟩ := own_blk hown
    have hge := hid (Nat.lt_of_lt_of_le K2.out.lt (Nat.le_refl _))
    replace K2 := hid (K2.out.below b2 K2.out.lt)
    replace bw := hid (bt bw.out b2)
    clear b2 cC hown
    -- sorted, and each once
    have hsc : Hid (∀ (Q : Ending → World → Prop), (∀ (l' : List T) (m : Nat) (w4 : World), l'.Perm l → SortedT l' → m = (compactT l').length → SlV w4 (.slice ao m cap) m (T.encL (compactT l')) → Blk w4 w.heap.size [.int .u8 0, .bool false, .int .i64 0, .string ⟨#[]⟩, .string ⟨#[]⟩, .slice none 0 0, .slice none 0 0] 27 → Below w.heap.size w w4 → Q (.returned (.slice ao m cap)) w4) →
        Calls Tryz.prog 30 #[.slice ao l.length cap, .func (.func 19) #[] #[]] w2 fun e w3 => e = .returned (.tuple #[]) ∧ Calls Tryz.prog 31 #[.slice ao l.length cap, .func (Fn.func 32) #[] #[]] w3 Q) := hid (by
      intro Q hQ
      rcases hrow with ⟨hn, rfl⟩ | ⟨g, tail, rfl, hg, hB⟩
      · obtain rfl : l = [] := by
          cases l with
          | nil => rfl
          | cons x r => simp [T.encL, T.enc] at hn
        obtain rfl := hcap3 rfl
        refine (sort_none none 0 w2).mono ?_
        rintro e w3 ⟨rfl, rfl⟩
        refine ⟨rfl, (compact_none none 0 _).mono ?_⟩
        rintro e w4 ⟨rfl, rfl⟩
        exact hQ [] 0 _ (List.Perm.refl _) List.Pairwise.nil rfl (SlV.nil _) K2.out bw.out
      · have hg0 : w.heap.size < g := Nat.lt_of_lt_of_le hge.out hg
        by_cases hpos : 0 < l.length
        · have hok2 : ∀ x ∈ l, x.ok w2 := fun x hx => (hall.out x hx).below bw.out
          have hin2 : ∀ x ∈ l, x.inS (fun k => k ≠ g ∧ k < w2.heap.size) := fun x hx => (hall.out x hx).inS.mono (fun k hk => ⟨by omega, Nat.lt_of_lt_of_le hk bw.out.size⟩)
          refine (sort_any l w2 g cap tail _ hB hpos hlen.out hright.out hok2 hin2).mono ?_
          rintro e w3 ⟨rfl, l', hp, hso, hB3, hbut3⟩
          have hl' := hp.length_eq
          refine ⟨rfl, ?_⟩
          rw [← hl']
          have bw3 : Below w.heap.size w w3 := bw.out.trans (hbut3.below (by omega) bw.out.size)
          have hok3 : ∀ x ∈ l', x.ok w3 := fun x hx => (hall.out x (hp.mem_iff.1 hx)).below bw3
          have hin3 : ∀ x ∈ l', x.inS (fun k => k ≠ g ∧ k < w3.heap.size) := fun x hx => (hall.out x (hp.mem_iff.1 hx)).inS.mono (fun k hk => ⟨by omega, Nat.lt_of_lt_of_le hk bw3.size⟩)
          refine (compact_any l' g cap tail w3 hB3 hok3 hin3 (by omega) hcap2 (by omega)).mono ?_
          rintro e w4 ⟨rfl, ⟨tail', hB4⟩, hbut4⟩
          refine hQ l' _ w4 hp hso rfl (row_slv (fun _ => ⟨rfl, hB4⟩) (by have := compactT_length (l := l'); omega) hcap2 (fun e => absurd e (by simp))) ?_ (bw3.trans (hbut4.below (by omega) bw3.size))
          exact Blk.keepAt K2.out ((hbut4.block _ (by have := K2.out.lt; have := hbut3.size; omega) (by omega)).trans (hbut3.block _ K2.out.lt (by omega)))
        · obtain rfl : l = [] := List.eq_nil_of_length_eq_zero (by omega)
          refine (sort_none (some ⟨g, 0, none⟩) cap w2).mono ?_
          rintro e w3 ⟨rfl, rfl⟩
          refine ⟨rfl, (compact_none (some ⟨g, 0, none⟩) cap _).mono ?_⟩
          rintro e w4 ⟨rfl, rfl⟩
          refine hQ [] 0 _ (List.Perm.refl _) List.Pairwise.nil rfl ?_ K2.out bw.out
          exact row_slv (l := []) (fun _ => ⟨rfl, hB⟩) (Nat.zero_le _) hcap2 (fun e => absurd e (by simp)))
    clear hrow hcap1 hcap2 hcap3 K2 bw hge
    go_wp2_with fail
    refine (hsc.out (fun e w4 => ∃ (l' : List T) (m : Nat), e = .returned (.slice ao m cap) ∧ Hid (l'.Perm l ∧ SortedT l' ∧ m = (compactT l').length ∧ SlV w4 (.slice ao m cap) m (T.encL (compactT l')) ∧ Blk w4 w.heap.size [.int .u8 0, .bool false, .int .i64 0, .string ⟨#[]⟩, .string ⟨#[]⟩, .slice none 0 0, .slice none 0 0] 27 ∧ Below w.heap.size w w4)) (fun l' m w4 a b c d e f => ⟨l', m, rfl, hid ⟨a, b, c, d, e, f⟩⟩)).mono ?_
    rintro e w3 ⟨rfl, hcomp⟩
    replace hcomp := hid hcomp
    clear hsc
    go_wp2_with fail
    refine hcomp.out.mono ?_
    rintro e w4 ⟨l', m, rfl, hres⟩
    have K2 := hid hres.out.2.2.2.2.1
    have bw := hid hres.out.2.2.2.2.2
    have hck := hid (show Calls Tryz.prog 23 #[.agg #[.int .u8 4, .bool false, .int .i64 0, .string ⟨#[]⟩, .string ⟨#[]⟩, .slice none 0 0, .slice ao m cap]] w4 fun e w' => MadeP w4.heap.size (setT (compactT l') (.slice ao m cap)) e w' ∧ Below w4.heap.size w4 w' from
      cK.out w4 bw.out (setT (compactT l') (.slice ao m cap)) (setT_ok (by have := hres.out.2.2.2.1; rw [hres.out.2.2.1] at this ⊢; exact this) (by have := compactT_length (l := l'); have := hres.out.1.length_eq; have := hroom.out; omega) (fun x hx => (hall.out x (hres.out.1.mem_iff.1 (compactT_mem x hx))).below bw.out)))
    have hset := hid (fun e w' (hm : MadeP w4.heap.size (setT (compactT l') (.slice ao m cap)) e w') => show SetP w l e w' from .inr ⟨hwr'.out, l', .slice ao m cap, hres.out.1, hres.out.2.1, hm.mono bw.out.size⟩)
    clear hcomp hres cK hall hroom hright hwr'
    go_wp2_with fail
    refine hck.out.mono ?_
    rintro e w5 ⟨hmade, b5⟩
    have hlt := hid K2.out.lt
    replace K2 := hid (K2.out.below b5 K2.out.lt)
    replace bw := hid (bt bw.out b5)
    clear hck b5
    obtain ⟨d0, d1, d2, d3, d4, d5, d6, df⟩ := seven K2.out
    rcases hmade with ⟨h0, rfl⟩ | ⟨h0, y, rfl, hlk, hyok, hyin, hyso⟩
    · have hfin := hid (fun w' => hset.out (.returned (.tuple #[.agg zeroA, .int .i64 (chkV (setT (compactT l') (.slice ao m cap)))])) w' (.inl ⟨h0, rfl⟩))
      clear h0 hset
      generalize chkV (setT (compactT l') (.slice ao m cap)) = c at hfin ⊢
      rw [show Value.agg zeroA = .agg #[.int .u8 0, .bool false, .int .i64 0, .string ⟨#[]⟩, .string ⟨#[]⟩, .slice none 0 0, .slice none 0 0] from rfl]
      have hK := hid (show Blk _ _ [.int .u8 0, .bool false, .int .i64 0, .string ⟨#[]⟩, .string ⟨#[]⟩, .slice none 0 0, .slice none 0 0] 27 from blk_st7 (A := []) (C := []) (o := 0) K2.out rfl (.int .u8 0) (.bool false) (.int .i64 0) (.string ⟨#[]⟩) (.string ⟨#[]⟩) (.slice none 0 0) (.slice none 0 0))
      have hBF := hid (below_st7 bw.out (g := w.heap.size) (Nat.le_refl _) 0 (.int .u8 0) (.bool false) (.int .i64 0) (.string ⟨#[]⟩) (.string ⟨#[]⟩) (.slice none 0 0) (.slice none 0 0))
      go_wp2_with fail
      clear d0 d1 d2 d3 d4 d5 d6 df
      obtain ⟨q0, q1, q2, q3, q4, q5, q6, qf⟩ := seven hK.out
      exact bodyPost_ret (v := .tuple #[.agg #[.int .u8 0, .bool false, .int .i64 0, .string ⟨#[]⟩, .string ⟨#[]⟩, .slice none 0 0, .slice none 0 0], .int .i64 c]) (by unfold st7 at q0 q1 q2 q3 q4 q5 q6; simp [results, Tryz.results12, go_sem, q0, q1, q2, q3, q4, q5, q6]) rfl ⟨hfin.out _, hBF.out⟩
    · obtain ⟨yno, ync, ylo, ylc, ey1, ey2, yl1, yl2⟩ := hyok.forms
      have hyv : y.val = .agg #[.int .u8 (y.kind : Nat), .bool y.bool, .int .i64 y.num, .string y.str, .string y.typ, .slice yno y.names.length ync, .slice ylo y.list.length ylc] := by rw [T.lit, ey1, ey2]
      have hfin := hid (show ∀ W', (∀ k, w4.heap.size ≤ k → W'.heap[k]? = w5.heap[k]?) → SetP w l (.returned (.tuple #[.agg #[.int .u8 (y.kind : Nat), .bool y.bool, .int .i64 y.num, .string y.str, .string y.typ, .slice yno y.names.length ync, .slice ylo y.list.length ylc], .int .i64 0])) W' from fun W' hk => hset.out _ W' (.inr ⟨h0, y, by rw [hyv], hlk, hyok.keep hk hyin, hyin, hyso.keep hk hyin⟩))
      rw [hyv]
      clear hyv hlk hyok hyin hyso ey1 ey2 yl1 yl2 h0 hset
      have hK := hid (show Blk _ _ [.int .u8 (y.kind : Nat), .bool y.bool, .int .i64 y.num, .string y.str, .string y.typ, .slice yno y.names.length ync, .slice ylo y.list.length ylc] 27 from blk_st7 (A := []) (C := []) (o := 0) K2.out rfl (.int .u8 (y.kind : Nat)) (.bool y.bool) (.int .i64 y.num) (.string y.str) (.string y.typ) (.slice yno y.names.length ync) (.slice ylo y.list.length ylc))
      have hBF := hid (below_st7 bw.out (g := w.heap.size) (Nat.le_refl _) 0 (.int .u8 (y.kind : Nat)) (.bool y.bool) (.int .i64 y.num) (.string y.str) (.string y.typ) (.slice yno y.names.length ync) (.slice ylo y.list.length ylc))
      go_wp2_with fail
      clear d0 d1 d2 d3 d4 d5 d6 df
      obtain ⟨q0, q1, q2, q3, q4, q5, q6, qf⟩ := seven hK.out
      exact bodyPost_ret (v := .tuple #[.agg #[.int .u8 (y.kind : Nat), .bool y.bool, .int .i64 y.num, .string y.str, .string y.typ, .slice yno y.names.length ync, .slice ylo y.list.length ylc], .int .i64 0]) (by unfold st7 at q0 q1 q2 q3 q4 q5 q6; simp [results, Tryz.results12, go_sem, q0, q1, q2, q3, q4, q5, q6]) rfl ⟨hfin.out _ (fun k hk => heap_st7 _ _ _ _ _ _ _ _ _ _ (by have := hlt.out; omega)), hBF.out⟩
end Go.Proofs.YtdjgkbpfmonebaaGreatDoor.Val
