/-
  wire.reader: take, small, number, flag, text, done: contracts.
-/
import Derived.Test.YtldlkoiekdlmhaaWireMath
import Derived.Test.YtldlkoiekdlmhaaPkLikBuild
namespace Go.Proofs.Ytldlkoiekdlmhaa.Wi
open Go.ChangeShapes Go.WideShapes Go.ChangeAt Go.RowKit
open Go.Proofs.Ytldlkoiekdlmhaa.Mem
open Go.Proofs.Ytldlkoiekdlmhaa.Crc hiding hid bt
set_option linter.unusedVariables false
set_option linter.unusedSimpArgs false
set_option maxRecDepth 100000
/-- what is left of a reader: some bytes, or it is wrong -/
def left (s : ByteArray) (wr : Bool) : Option (List UInt8) := if wr then none else some s.data.toList
def Rd (w : World) (b : Nat) (o : Option (List UInt8)) : Prop := ∃ s wr, Blk w b [.string s, .bool wr] 67 ∧ s.size ≤ 16777216 ∧ o = left s wr
/-- x is what p reads of o, o' is what is left -/
def Res {α : Type} (p : P α) (o : Option (List UInt8)) (x : α) (o' : Option (List UInt8)) : Prop := o' = (o.bind p).map Prod.snd ∧ ∀ y t, o.bind p = some (y, t) → x = y
theorem Res.bind {α β : Type} {p : P α} {q : α → P β} {o o1 o2 : Option (List UInt8)} {x : α} {y : β} (h : Res p o x o1) (g : Res (q x) o1 y o2) : Res (pBind p q) o y o2 := by
  obtain ⟨h1, h2⟩ := h
  obtain ⟨g1, g2⟩ := g
  cases o with
  | none => subst h1; exact ⟨by rw [g1]; rfl, fun y t e => by simp at e⟩
  | some l =>
    simp only [Option.bind_some] at h1 h2
    cases hp : p l with
    | none =>
      rw [hp] at h1; subst h1
      have e : pBind p q l = none := by unfold pBind; rw [hp]
      exact ⟨by rw [g1, Option.bind_some, e]; rfl, fun y t e' => by rw [Option.bind_some, e] at e'; cases e'⟩
    | some r =>
      obtain ⟨a, t⟩ := r
      rw [hp] at h1; subst h1
      obtain rfl := h2 _ _ hp
      have e : pBind p q l = q x t := pBind_of hp
      simp only [Option.map_some, Option.bind_some] at g1 g2
      exact ⟨by rw [g1, Option.bind_some, e], fun y t' e' => by rw [Option.bind_some, e] at e'; exact g2 _ _ e'⟩
theorem Res.ret {α : Type} (a : α) (o : Option (List UInt8)) : Res (pRet a) o a o := by
  refine ⟨?_, fun y t e => ?_⟩
  · cases o <;> rfl
  · cases o with
    | none => simp at e
    | some l => simp [pRet] at e; exact e.1
theorem Res.nope {α : Type} {p : P α} {x : α} {o' : Option (List UInt8)} (h : Res p none x o') : o' = none := h.1
theorem Res.mono {α : Type} {p q : P α} {o o' : Option (List UInt8)} {x : α} (h : Res p o x o') (e : ∀ l, p l = q l) : Res q o x o' := by
  obtain rfl : p = q := funext e
  exact h
/-! ### one step -/
theorem ext_take (s : ByteArray) (n : Nat) : (s.extract 0 n).data.toList = s.data.toList.take n := by simp
theorem ext_drop (s : ByteArray) (n : Nat) (h : n ≤ s.size) : (s.extract n s.size).data.toList = s.data.toList.drop n := by
  rw [show (s.extract n s.size).data.toList = List.take (s.size - n) (List.drop n s.data.toList) by simp, List.take_of_length_le]
  rw [List.length_drop, len_size]; omega
def TakeP (w : World) (b : Nat) (s : ByteArray) (wr : Bool) (n : Nat) (e : Ending) (w' : World) : Prop :=
  (if s.size < n then e = .returned (.string ⟨#[]⟩) ∧ Blk w' b [.string s, .bool true] 67
    else ∃ x t : ByteArray, e = .returned (.string x) ∧ x.data.toList = s.data.toList.take n ∧ t.data.toList = s.data.toList.drop n ∧ Blk w' b [.string t, .bool wr] 67) ∧ But w.heap.size b w w'
set_option maxHeartbeats 4000000 in
theorem take_any (b : Nat) (s : ByteArray) (wr : Bool) (n : Nat) (w : World) (h : Blk w b [.string s, .bool wr] 67) (hs : s.size ≤ 16777216) (hn : n ≤ 16777216) :
    Calls Try.prog 82 #[.pointer (some ⟨b, 0, none⟩), .int .i64 (n : Nat)] w fun e w' => TakeP w b s wr n e w' := by
  have K := hid h
  have hsi : (s.size : Int) ≤ 16777216 := by omega
  have hni : (n : Int) ≤ 16777216 := by omega
  clear h
  by_cases hl : s.size < n
  · have hfin := hid (show ∀ e w', (e = .returned (.string ⟨#[]⟩) ∧ w' = w.setCell ⟨b, 1, none⟩ (.bool true)) → TakeP w b s wr n e w' from by
      rintro e w' ⟨rfl, rfl⟩
      refine ⟨?_, But.of (Below.refl _ _) 1 _⟩
      rw [if_pos hl]
      exact ⟨rfl, K.out.set 1 _⟩)
    obtain ⟨k0, k1, kf⟩ := K.out.two
    clear K
    go_enter Try.func82, Try.ntmps82
    go_wp2_with fail
    go_ret
    exact hfin.out _ _ ⟨rfl, rfl⟩
  · have hfin := hid (show ∀ e w', (e = .returned (.string (s.extract 0 n)) ∧ w' = w.setCell ⟨b, 0, none⟩ (.string (s.extract n s.size))) → TakeP w b s wr n e w' from by
      rintro e w' ⟨rfl, rfl⟩
      refine ⟨?_, But.of (Below.refl _ _) 0 _⟩
      rw [if_neg hl]
      exact ⟨_, _, rfl, ext_take s n, ext_drop s n (by omega), K.out.set 0 _⟩)
    have hle : (n : Int) ≤ (s.size : Int) := by omega
    have hle' : n ≤ s.size := by omega
    obtain ⟨k0, k1, kf⟩ := K.out.two
    clear K
    go_enter Try.func82, Try.ntmps82
    go_wp2_with fail
    go_ret
    exact hfin.out _ _ ⟨rfl, rfl⟩
/-- a reader behind a read -/
def RdP {α : Type} (w : World) (b : Nat) (p : P α) (o : Option (List UInt8)) (x : α) (w' : World) : Prop := ∃ o', Rd w' b o' ∧ Res p o x o' ∧ But w.heap.size b w w'
theorem left_none {s : ByteArray} {wr : Bool} : left s wr = none ↔ wr = true := by cases wr <;> simp [left]
theorem take_res {w w' : World} {b n : Nat} {s : ByteArray} {wr : Bool} {e : Ending} (hs : s.size ≤ 16777216) (h : TakeP w b s wr n e w') : ∃ x : ByteArray, e = .returned (.string x) ∧ x.size ≤ 16777216 ∧ (x.size = n ∨ x.size = 0) ∧ RdP w b (cut n) (left s wr) x.data.toList w' := by
  obtain ⟨h, k⟩ := h
  split at h
  · rename_i hl
    obtain ⟨rfl, K⟩ := h
    refine ⟨_, rfl, by decide, .inr rfl, none, ⟨s, true, K, hs, rfl⟩, ⟨?_, ?_⟩, k⟩
    · cases wr
      · show none = Option.map Prod.snd (cut n s.data.toList)
        unfold cut; rw [if_neg (by rw [len_size]; omega)]; rfl
      · rfl
    · intro y t hy
      cases wr
      · change cut n s.data.toList = _ at hy
        unfold cut at hy; rw [if_neg (by rw [len_size]; omega)] at hy; cases hy
      · cases hy
  · rename_i hl
    obtain ⟨x, t, rfl, hx, ht, K⟩ := h
    have hx2 : x.size = n := by rw [← len_size, hx, List.length_take, len_size]; omega
    refine ⟨x, rfl, by omega, .inl hx2, left t wr, ⟨t, wr, K, by rw [← len_size, ht, List.length_drop, len_size]; omega, rfl⟩, ⟨?_, ?_⟩, k⟩
    · cases wr
      · show some t.data.toList = Option.map Prod.snd (cut n s.data.toList)
        unfold cut; rw [if_pos (by rw [len_size]; omega), ht]; rfl
      · rfl
    · intro y t' hy
      cases wr
      · change cut n s.data.toList = _ at hy
        unfold cut at hy; rw [if_pos (by rw [len_size]; omega)] at hy
        simp only [Option.some.injEq, Prod.mk.injEq] at hy
        rw [hx, hy.1]
      · cases hy
/-- the reader's take, as the others use it -/
theorem take_rd (b n : Nat) (o : Option (List UInt8)) (w : World) (h : Rd w b o) (hn : n ≤ 16777216) :
    Calls Try.prog 82 #[.pointer (some ⟨b, 0, none⟩), .int .i64 (n : Nat)] w fun e w' => ∃ x : ByteArray, e = .returned (.string x) ∧ x.size ≤ 16777216 ∧ (x.size = n ∨ x.size = 0) ∧ RdP w b (cut n) o x.data.toList w' := by
  obtain ⟨s, wr, K, hs, rfl⟩ := h
  exact (take_any b s wr n w K hs hn).mono fun e w' h => take_res hs h
theorem But.trans {B b : Nat} {w w1 w2 : World} (h : But B b w w1) (g : But w1.heap.size b w1 w2) (hB : B = w.heap.size) : But B b w w2 := by
  subst hB
  refine ⟨g.os.trans h.os, g.tape.trans h.tape, g.output.trans h.output, Nat.le_trans h.size g.size, fun k hk hne => ?_⟩
  rw [g.block k (by have := h.size; omega) hne, h.block k hk hne]
theorem RdP.bind {α β : Type} {w w1 w2 : World} {b : Nat} {p : P α} {q : α → P β} {o : Option (List UInt8)} {x : α} {y : β} (h : RdP w b p o x w1) (g : ∀ o1, Rd w1 b o1 → RdP w1 b (q x) o1 y w2) : RdP w b (pBind p q) o y w2 := by
  obtain ⟨o1, h1, h2, h3⟩ := h
  obtain ⟨o2, g1, g2, g3⟩ := g o1 h1
  exact ⟨o2, g1, h2.bind g2, But.trans h3 g3 rfl⟩
/-- of what was read another thing is made -/
theorem Res.of {α β : Type} {p : P α} {q : P β} {o o' : Option (List UInt8)} {x : α} {y : β} (h : Res p o x o') (f : α → Option β) (hq : ∀ l, q l = (p l).bind fun r => (f r.1).map fun c => (c, r.2))
    (hf : ∀ c, f x = some c → y = c) (hn : f x = none → o' = none) : Res q o y o' := by
  obtain ⟨h1, h2⟩ := h
  cases o with
  | none => exact ⟨h1, fun y t e => by simp at e⟩
  | some l =>
    simp only [Option.bind_some] at h1 h2 ⊢
    cases hp : p l with
    | none =>
      refine ⟨?_, ?_⟩ <;> rw [Option.bind_some, hq, hp]
      · rw [h1, hp]; rfl
      · intro y t e; cases e
    | some r =>
      obtain ⟨a, t⟩ := r
      obtain rfl := h2 _ _ hp
      rw [hp] at h1
      refine ⟨?_, ?_⟩ <;> rw [Option.bind_some, hq, hp]
      · cases hfx : f x with
        | none => rw [hn hfx]; simp [hfx]
        | some c => rw [h1]; simp [hfx]
      · intro y' t' e
        cases hfx : f x with
        | none => simp [hfx] at e
        | some c => simp [hfx] at e; rw [hf c hfx, e.1]
theorem pB_cut (l : List UInt8) : pB l = (cut 1 l).bind fun r => (r.1.head?.map fun c : UInt8 => c.toNat).map fun c => (c, r.2) := by
  cases l with
  | nil => rfl
  | cons b l => simp [cut, pB]
set_option maxHeartbeats 4000000 in
theorem small_any (b : Nat) (o : Option (List UInt8)) (z : Int) (w : World) (h : Rd w b o) :
    Calls Try.prog 79 #[.pointer (some ⟨b, 0, none⟩), .int .i64 z] w fun e w' => ∃ n : Nat, e = .returned (.int .i64 n) ∧ n < 256 ∧ RdP w b pB o n w' := by
  have hc := hid (take_rd b 1 o w h (by decide))
  clear h
  go_enter Try.func79, Try.ntmps79
  go_wp2_with fail
  refine hc.out.mono ?_
  rintro e w1 ⟨x, rfl, hx, hx1, hR⟩
  have hfin := hid (show ∀ n : Nat, (x.size = 0 → n = 0) → (∀ h : 0 < x.size, n = (x[0]'h).toNat) → n < 256 ∧ RdP w b pB o n w1 from by
    intro n h0 h1
    obtain ⟨o', r1, r2, r3⟩ := hR
    refine ⟨?_, o', r1, ?_, r3⟩
    · rcases hx1 with hx1 | hx1
      · rw [h1 (by omega)]; exact UInt8.toNat_lt _
      · rw [h0 hx1]; decide
    · refine r2.of (fun a : List UInt8 => a.head?.map fun c : UInt8 => c.toNat) pB_cut ?_ ?_
      · intro c hc
        rcases hx1 with hx1 | hx1
        · rw [h1 (by omega)]
          have : x.data.toList.head? = some x[0] := by
            rw [List.head?_eq_getElem?, List.getElem?_eq_getElem (by rw [len_size]; omega)]; rfl
          rw [this] at hc; simpa using hc
        · have : x.data.toList = [] := List.eq_nil_of_length_eq_zero (by rw [len_size]; exact hx1)
          rw [this] at hc; cases hc
      · intro hc
        have : x.data.toList = [] := by cases hh : x.data.toList with
          | nil => rfl
          | cons a l => rw [hh] at hc; cases hc
        obtain ⟨q1, q2⟩ := r2
        rw [this] at q2
        rw [q1]
        cases hb : o.bind (cut 1) with
        | none => rfl
        | some r =>
          exfalso
          have := q2 r.1 r.2 hb
          cases o with
          | none => cases hb
          | some l =>
            simp only [Option.bind_some, cut] at hb
            split at hb
            · cases hb
              have e := congrArg List.length this
              rw [List.length_take] at e
              simp at e; omega
            · cases hb)
  clear hc hR hx1
  by_cases h0 : x.size = 0
  · have hq := hid (hfin.out 0 (fun _ => rfl) (fun h => by omega))
    obtain rfl : x = ⟨#[]⟩ := by
      have : x.data = #[] := Array.eq_empty_of_size_eq_zero h0
      cases x; simp_all
    clear hfin h0
    go_wp2_with fail
    go_ret
    exact ⟨0, rfl, hq.out⟩
  · have hq := hid (hfin.out (x[0]'(by omega)).toNat (fun h => absurd h h0) (fun _ => rfl))
    have hpos : 0 < x.size := by omega
    have hwr := hid (show wrap64 ((x[0]'hpos).toNat : Int) = ((x[0]'hpos).toNat : Int) from by
      have := UInt8.toNat_lt (x[0]'hpos); simp only [RowKit.wrap64]; omega)
    clear hfin
    go_wp2_with fail
    · exfalso
      rename_i hz
      rw [ByteArray.toList_eq, List.isEmpty_iff] at hz
      exact h0 (by rw [← len_size, hz]; rfl)
    · go_ret
      exact ⟨_, by rw [hwr.out]; rfl, hq.out⟩
set_option maxHeartbeats 4000000 in
theorem number_any (b : Nat) (o : Option (List UInt8)) (z : Int) (w : World) (h : Rd w b o) :
    Calls Try.prog 78 #[.pointer (some ⟨b, 0, none⟩), .int .u64 z] w fun e w' => ∃ n : Nat, e = .returned (.int .u64 n) ∧ n < 18446744073709551616 ∧ RdP w b pN o n w' := by
  have hc := hid (take_rd b 8 o w h (by decide))
  clear h
  go_enter Try.func78, Try.ntmps78
  go_wp2_with fail
  refine hc.out.mono ?_
  rintro e w1 ⟨x, rfl, hx, hx1, hR⟩
  have hfin := hid (show ∀ n : Nat, (x.size = 8 → n = num x.data.toList) → (x.size ≠ 8 → n = 0) → n < 18446744073709551616 ∧ RdP w b pN o n w1 from by
    intro n h0 h1
    obtain ⟨o', r1, r2, r3⟩ := hR
    refine ⟨?_, o', r1, ?_, r3⟩
    · by_cases h8 : x.size = 8
      · rw [h0 h8]
        have := num_lt x.data.toList
        rw [len_size, h8] at this; omega
      · rw [h1 h8]; decide
    · obtain ⟨q1, q2⟩ := r2
      cases o with
      | none => exact ⟨q1, fun y t e => by simp at e⟩
      | some l =>
        simp only [Option.bind_some] at q1 q2 ⊢
        by_cases hl : 8 ≤ l.length
        · have e1 : cut 8 l = some (l.take 8, l.drop 8) := by unfold cut; rw [if_pos hl]
          have e2 : pN l = some (num (l.take 8), l.drop 8) := by unfold pN; rw [if_pos hl]
          have q3 := q2 _ _ e1
          have q4 : x.size = 8 := by rw [← len_size, q3, List.length_take]; omega
          refine ⟨by rw [q1, Option.bind_some, e1, e2]; rfl, fun y t e => ?_⟩
          rw [Option.bind_some, e2] at e
          simp only [Option.some.injEq, Prod.mk.injEq] at e
          rw [h0 q4, q3, e.1]
        · have e1 : cut 8 l = none := by unfold cut; rw [if_neg hl]
          have e2 : pN l = none := by unfold pN; rw [if_neg hl]
          exact ⟨by rw [q1, Option.bind_some, e1, e2]; rfl, fun y t e => by rw [Option.bind_some, e2] at e; cases e⟩)
  clear hc hR hx1
  by_cases h8 : x.size = 8
  · have hq := hid (hfin.out _ (fun _ => rfl) (fun h => absurd h8 h))
    go_wp2_with fail
    refine (get64_yes x _ h8).mono ?_
    rintro e w2 ⟨rfl, rfl⟩
    clear hfin h8
    go_wp2_with fail
    go_ret
    exact ⟨_, rfl, hq.out⟩
  · have hq := hid (hfin.out 0 (fun h => absurd h h8) (fun _ => rfl))
    go_wp2_with fail
    refine (get64_no x _ h8).mono ?_
    rintro e w2 ⟨rfl, rfl⟩
    clear hfin h8
    go_wp2_with fail
    go_ret
    exact ⟨0, rfl, hq.out⟩
theorem Res.dead {α β : Type} {p : P α} {q : α → P β} {o : Option (List UInt8)} {x : α} {y : β} (h : Res p o x none) : Res (pBind p q) o y none := by
  obtain ⟨h1, h2⟩ := h
  have h3 : o.bind p = none := by
    cases hb : o.bind p with
    | none => rfl
    | some r => rw [hb] at h1; cases h1
  have h4 : o.bind (pBind p q) = none := by
    cases o with
    | none => rfl
    | some l =>
      simp only [Option.bind_some] at h3 ⊢
      unfold pBind; rw [h3]
  exact ⟨by rw [h4]; rfl, fun y t e => by rw [h4] at e; cases e⟩
theorem Res.stop {α : Type} {p : P α} {o : Option (List UInt8)} {x : α} (h : ∀ l, o = some l → p l = none) : Res p o x none := by
  have h4 : o.bind p = none := by
    cases o with
    | none => rfl
    | some l => exact h l rfl
  exact ⟨by rw [h4]; rfl, fun y t e => by rw [h4] at e; cases e⟩
theorem Rd.wrong {w : World} {b : Nat} {o : Option (List UInt8)} (h : Rd w b o) : ∃ s wr, Blk w b [.string s, .bool wr] 67 ∧ s.size ≤ 16777216 ∧ o = left s wr ∧ Rd (w.setCell ⟨b, 1, none⟩ (.bool true)) b none := by
  obtain ⟨s, wr, K, hs, e⟩ := h
  exact ⟨s, wr, K, hs, e, s, true, K.set 1 _, hs, rfl⟩
theorem but_set {B b : Nat} {w w1 : World} (h : But B b w w1) (i : Nat) (v : Value) : But B b w (w1.setCell ⟨b, i, none⟩ v) :=
  ⟨h.os, h.tape, h.output, by simpa using h.size, fun k hk hne => by rw [Below.heap_setCell _ _ _ _ (by simpa using hne)]; exact h.block k hk hne⟩
set_option maxHeartbeats 4000000 in
theorem flag_any (b : Nat) (o : Option (List UInt8)) (z : Bool) (w : World) (h : Rd w b o) :
    Calls Try.prog 77 #[.pointer (some ⟨b, 0, none⟩), .bool z] w fun e w' => ∃ x : Bool, e = .returned (.bool x) ∧ RdP w b pF o x w' := by
  have hc := hid (small_any b o 0 w h)
  clear h
  go_enter Try.func77, Try.ntmps77
  go_wp2_with fail
  refine hc.out.mono ?_
  rintro e w1 ⟨n, rfl, hn, o', r1, r2, r3⟩
  clear hc
  have hni : (n : Int) < 256 := by omega
  have hF : ∀ l, pF l = (pB l).bind fun r => (if r.1 = 0 then some false else if r.1 = 1 then some true else none : Option Bool).map fun c => (c, r.2) := by
    intro l
    cases l with
    | nil => rfl
    | cons c l =>
      simp only [pF, pB, Option.bind_some]
      split
      · rfl
      · split <;> rfl
  by_cases h1 : 1 < n
  · obtain ⟨s, wr, K, hs, rfl, hno⟩ := r1.wrong
    have hfin := hid (show RdP w b pF o false (w1.setCell ⟨b, 1, none⟩ (.bool true)) from by
      refine ⟨none, hno, ?_, but_set r3 1 _⟩
      obtain ⟨q1, q2⟩ := r2
      refine Res.stop fun l hl => ?_
      subst hl
      rw [hF]
      cases hp : pB l with
      | none => rfl
      | some r =>
        have := q2 r.1 r.2 (by rw [Option.bind_some, hp])
        subst this
        simp only [Option.bind_some]
        rw [if_neg (by omega), if_neg (by omega)]; rfl)
    obtain ⟨k0, k1, kf⟩ := K.two
    have e1 := hid (show ((n : Int) == 1) = false from by simp; omega)
    clear r2 r3 r1 hno hF K
    go_wp2_with fail
    go_ret
    refine ⟨_, rfl, ?_⟩
    rw [e1.out]; exact hfin.out
  · have hfin := hid (show RdP w b pF o (decide (n = 1)) w1 from by
      refine ⟨o', r1, ?_, r3⟩
      refine r2.of (fun n => if n = 0 then some false else if n = 1 then some true else none) hF ?_ ?_
      · intro c hc
        split at hc
        · rename_i h0; subst h0; cases hc; rfl
        · split at hc
          · rename_i h0; subst h0; cases hc; rfl
          · cases hc
      · intro hc
        rw [show (if n = 0 then some false else if n = 1 then some true else none : Option Bool) = if n = 0 then some false else some true from by
          split
          · rfl
          · rw [if_pos (by omega)]] at hc
        split at hc <;> cases hc)
    clear r2 r3 r1 hF
    go_wp2_with fail
    go_ret
    refine ⟨_, rfl, ?_⟩
    have e : ((n : Int) == 1) = decide (n = 1) := by
      by_cases hn1 : n = 1
      · subst hn1; rfl
      · rw [decide_eq_false hn1]; simp; omega
    rw [e]; exact hfin.out
theorem pT_eq (l : List UInt8) : pT l = pBind (cut 4) (fun a => if num a ≤ 2048 then pBind (cut (num a)) (fun c => pRet (bs c)) else fun _ => none) l := by
  unfold pT pBind cut
  by_cases h4 : 4 ≤ l.length
  · simp only [if_pos h4]
    by_cases h5 : num (l.take 4) ≤ 2048
    · simp only [if_pos h5]
      by_cases h6 : num (l.take 4) ≤ (l.drop 4).length
      · rw [if_pos ⟨h5, h6⟩, if_pos h6]; rfl
      · rw [if_neg (fun h => h6 h.2), if_neg h6]
    · rw [if_neg (fun h => h5 h.1), if_neg h5]
  · simp only [if_neg h4]
set_option maxHeartbeats 4000000 in
theorem text_any (b : Nat) (o : Option (List UInt8)) (z : ByteArray) (w : World) (h : Rd w b o) :
    Calls Try.prog 80 #[.pointer (some ⟨b, 0, none⟩), .string z] w fun e w' => ∃ x : ByteArray, e = .returned (.string x) ∧ x.size ≤ 2048 ∧ RdP w b pT o x w' := by
  have hc := hid (take_rd b 4 o w h (by decide))
  clear h
  go_enter Try.func80, Try.ntmps80
  go_wp2_with fail
  refine hc.out.mono ?_
  rintro e w1 ⟨x, rfl, hx, hx1, o1, r1, r2, r3⟩
  clear hc
  by_cases h4 : x.size = 4
  · have hlt := num_lt x.data.toList
    rw [len_size, h4] at hlt
    go_wp2_with fail
    refine (get32_yes x _ h4).mono ?_
    rintro e w2 ⟨rfl, rfl⟩
    obtain ⟨n, hn⟩ : ∃ n, num x.data.toList = n := ⟨_, rfl⟩
    rw [hn] at hlt ⊢
    replace hlt := hid hlt
    by_cases hn2 : 2048 < n
    · obtain ⟨s, wr, K, hs, rfl, hno⟩ := r1.wrong
      have hfin := hid (show RdP w b pT o ⟨#[]⟩ (w1.setCell ⟨b, 1, none⟩ (.bool true)) from by
        refine ⟨none, hno, ?_, but_set r3 1 _⟩
        obtain ⟨q1, q2⟩ := r2
        refine Res.stop fun l hl => ?_
        subst hl
        rw [pT_eq]
        cases hp : cut 4 l with
        | none => unfold pBind; rw [hp]
        | some r =>
          have := q2 r.1 r.2 (by rw [Option.bind_some, hp])
          rw [pBind_of (a := r.1) (u := r.2) hp, if_neg (by rw [← this]; omega)])
      obtain ⟨k0, k1, kf⟩ := K.two
      have hle : (2048 : Int) < (n : Int) := by omega
      clear r2 r3 r1 hno K hn h4 hx1
      go_wp2_with fail
      go_ret
      exact ⟨_, rfl, by decide, hfin.out⟩
    · have hc2 := hid (take_rd b n o1 w1 r1 (by have := hlt.out; omega))
      clear h4 hx1
      have hwr : wrap64 (n : Int) = n := by simp only [RowKit.wrap64]; omega
      have hle : ¬ ((2048 : Int) < (n : Int)) := by omega
      have hn' := hid hn
      have r2' := hid r2
      have r3' := hid r3
      clear hn r2 r3 r1
      go_wp2_with fail
      refine hc2.out.mono ?_
      rintro e w3 ⟨y, rfl, hy, hy1, o2, g1, g2, g3⟩
      have hfin := hid (show RdP w b pT o y w3 from by
        refine ⟨o2, g1, ?_, But.trans r3'.out g3 rfl⟩
        refine Res.mono (p := pBind (cut 4) (fun a => if num a ≤ 2048 then pBind (cut (num a)) (fun c => pRet (bs c)) else fun _ => none)) ?_ (fun l => (pT_eq l).symm)
        refine r2'.out.bind (y := y) ?_
        rw [hn'.out, if_pos (by omega)]
        have := g2.bind (q := fun c => pRet (bs c)) (Res.ret (bs y.data.toList) o2)
        rw [bs_of] at this
        exact this)
      clear g1 g2 g3 hc2
      go_wp2_with fail
      go_ret
      exact ⟨_, rfl, by rcases hy1 with hy1 | hy1 <;> omega, hfin.out⟩
  · have hx0 : x.size = 0 := hx1.resolve_left h4
    go_wp2_with fail
    refine (get32_no x _ h4).mono ?_
    rintro e w2 ⟨rfl, rfl⟩
    have ho : o1 = none := by
      obtain ⟨q1, q2⟩ := r2
      cases ho : o.bind (cut 4) with
      | none => rw [q1, ho]; rfl
      | some r =>
        exfalso
        have hq := q2 r.1 r.2 ho
        cases o with
        | none => cases ho
        | some l =>
          simp only [Option.bind_some, cut] at ho
          split at ho
          · cases ho
            have e := congrArg List.length hq
            rw [List.length_take, len_size] at e
            omega
          · cases ho
    subst ho
    have hc2 := hid (take_rd b 0 none w1 r1 (by decide))
    have hfin := hid (show ∀ (y : ByteArray) w3, RdP w1 b (cut 0) none y.data.toList w3 → RdP w b pT o y w3 from by
      rintro y w3 ⟨o2, g1, g2, g3⟩
      obtain rfl := g2.nope
      refine ⟨none, g1, ?_, But.trans r3 g3 rfl⟩
      refine Res.mono (p := pBind (cut 4) (fun a => if num a ≤ 2048 then pBind (cut (num a)) (fun c => pRet (bs c)) else fun _ => none)) ?_ (fun l => (pT_eq l).symm)
      exact r2.dead)
    clear r1 r2 r3 h4 hx1 hx0
    go_wp2_with fail
    refine hc2.out.mono ?_
    rintro e w3 ⟨y, rfl, hy, hy1, hR⟩
    have hq := hid (hfin.out y w3 hR)
    clear hR hfin hc2
    go_wp2_with fail
    go_ret
    exact ⟨_, rfl, by rcases hy1 with hy1 | hy1 <;> omega, hq.out⟩
/-- all is read, and nothing was wrong -/
def dn (o : Option (List UInt8)) : Bool := o == some []
set_option maxHeartbeats 4000000 in
theorem done_any (b : Nat) (o : Option (List UInt8)) (w : World) (h : Rd w b o) :
    Calls Try.prog 24 #[.pointer (some ⟨b, 0, none⟩)] w fun e w' => e = .returned (.bool (dn o)) ∧ Below w.heap.size w w' := by
  obtain ⟨s, wr, K, hs, rfl⟩ := h
  obtain ⟨k0, k1, kf⟩ := K.two
  clear K
  have hfin := hid (show ∀ x : Bool, x = dn (left s wr) → x = dn (left s wr) from fun _ h => h)
  have he := hid (show s.toList.isEmpty = (s.data.toList == []) from by rw [ByteArray.toList_eq]; cases s.data.toList <;> rfl)
  have hd0 := hid (show dn (left s false) = (s.data.toList == []) from by show (some s.data.toList == some []) = _; simp)
  go_enter Try.func24, Try.ntmps24
  cases wr with
  | true =>
    go_wp2_with fail
    go_ret
    exact ⟨rfl, (Below.refl _ _)⟩
  | false =>
    go_wp2_with fail
    go_ret
    exact ⟨by rw [hd0.out, ← he.out]; rfl, (Below.refl _ _)⟩
end Go.Proofs.Ytldlkoiekdlmhaa.Wi
