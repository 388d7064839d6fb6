/-
  Rows of values whose numbers are written: what stays. No walk.
-/
import Derived.Test.YtdjgkbpfmonebaaGreatDoorValMake
namespace Go.Proofs.YtdjgkbpfmonebaaGreatDoor.Val
open Go.ChangeShapes Go.WideShapes Go.ChangeAt Go.RowKit
open Go.Proofs.YtdjgkbpfmonebaaGreatDoor.Mem Go.Proofs.YtdjgkbpfmonebaaGreatDoor.Nam
set_option linter.unusedVariables false
set_option linter.unusedSimpArgs false
set_option maxRecDepth 100000
/-- a number that may be written, in a block from B on, below C -/
def W64 (B C : Nat) (W : World) (a : Addr) : Prop := (B ≤ a.block ∧ a.block < C) ∧ W.frozen? a = false ∧ ∃ n, W.cell? a = some (.int .i64 n)
/-- what holds of numbers that may be written, and of slices, holds still -/
def Turn (B C : Nat) (W W' : World) : Prop := (∀ a, W64 B C W a → W64 B C W' a) ∧ ∀ (a : Addr) ao n c, W.cell? a = some (.slice ao n c) → W'.cell? a = some (.slice ao n c)
theorem Turn.below {B C : Nat} {W W' : World} (b : Below W.heap.size W W') : Turn B C W W' := by
  refine ⟨fun a ⟨h1, h2, n, h3⟩ => ?_, fun a ao n c h => cell_below b a _ h⟩
  have hl := World.block_lt_of_cell? W _ h3
  exact ⟨h1, (b.frozen hl).trans h2, n, cell_below b a _ h3⟩
theorem Turn.poke {B C : Nat} {W : World} {a : Addr} (h : W64 B C W a) (m : Int) : Turn B C W (W.setCell a (.int .i64 m)) := by
  obtain ⟨_, _, n, hn⟩ := h
  refine ⟨fun p ⟨h1, h2, k, h3⟩ => ⟨h1, (World.frozen?_setCell W a p _).trans h2, ?_⟩, fun p ao k c hp => ?_⟩
  · by_cases e : a = p
    · subst e; exact ⟨m, World.cell?_setCell_same _ _ _ hn⟩
    · exact ⟨k, (World.cell?_setCell_other _ _ _ _ e).trans h3⟩
  · have e : a ≠ p := fun e => by subst e; rw [hn] at hp; cases hp
    exact (World.cell?_setCell_other _ _ _ _ e).trans hp
/-- a row of n values whose numbers may be written -/
def Row1 (B C : Nat) (W : World) (v : Value) (n : Nat) : Prop := (∃ ao cap, v = .slice ao n cap) ∧ (n : Int) ≤ 9223372036854775807 ∧ ∀ ao cap, v = .slice ao n cap → ∀ k, k < n → ∃ b o, ao = some ⟨b, o, none⟩ ∧ W64 B C W ⟨b, o + k * 7 + 2, none⟩
/-- a row of n values whose numbers may be written, and those of their lists -/
def Row2 (B C : Nat) (W : World) (v : Value) (n : Nat) : Prop := (∃ ao cap, v = .slice ao n cap) ∧ (n : Int) ≤ 9223372036854775807 ∧ ∀ ao cap, v = .slice ao n cap → ∀ k, k < n → ∃ b o, ao = some ⟨b, o, none⟩ ∧ W64 B C W ⟨b, o + k * 7 + 2, none⟩ ∧
  ∃ u m, W.cell? ⟨b, o + k * 7 + 6, none⟩ = some u ∧ Row1 B C W u m
theorem Row1.turn {B C : Nat} {W W' : World} {v : Value} {n : Nat} (t : Turn B C W W') (h : Row1 B C W v n) : Row1 B C W' v n := by
  obtain ⟨h1, h2, h3⟩ := h
  refine ⟨h1, h2, fun ao cap e k hk => ?_⟩
  obtain ⟨b, o, e1, h4⟩ := h3 ao cap e k hk
  exact ⟨b, o, e1, t.1 _ h4⟩
theorem Row2.turn {B C : Nat} {W W' : World} {v : Value} {n : Nat} (t : Turn B C W W') (h : Row2 B C W v n) : Row2 B C W' v n := by
  obtain ⟨h1, h2, h3⟩ := h
  refine ⟨h1, h2, fun ao cap e k hk => ?_⟩
  obtain ⟨b, o, e1, h4, u, m, hu, hr⟩ := h3 ao cap e k hk
  obtain ⟨⟨ao', cap', rfl⟩, _⟩ := id hr
  exact ⟨b, o, e1, t.1 _ h4, _, m, t.2 _ _ _ _ hu, hr.turn t⟩
theorem soft_cell {B : Nat} {W : World} {y : T} (h : y.ok W) (hin : y.inS (B ≤ ·)) (hs : y.soft W) {ao : Option Addr} {cap : Nat} (e : y.lv = .slice ao y.list.length cap) (k : Nat) (hk : k < y.list.length) :
    ∃ b o, ao = some ⟨b, o, none⟩ ∧ W64 B W.heap.size W ⟨b, o + k * 7 + 2, none⟩ ∧ W.cell? ⟨b, o + k * 7 + 6, none⟩ = some y.list[k].lv := by
  obtain ⟨b, o, e1, -, -, c2, -, -, -, c6⟩ := h.part7 e k hk
  have hp : 0 < y.list.length := by omega
  have i1 := (T.inS_iff.1 hin).2.1 hp ao _ cap e ⟨b, o, none⟩ e1
  have i2 := (T.soft_iff.1 hs).1 hp ao _ cap e ⟨b, o, none⟩ e1
  exact ⟨b, o, e1, ⟨⟨i1, i2.1⟩, i2.2 _, _, c2⟩, c6⟩
theorem row1_of {B : Nat} {W : World} {y : T} (h : y.ok W) (hin : y.inS (B ≤ ·)) (hs : y.soft W) : Row1 B W.heap.size W y.lv y.list.length := by
  obtain ⟨lo, lc, e, hl⟩ := (LV.of h).form
  refine ⟨⟨lo, lc, e⟩, by omega, fun ao cap e' k hk => ?_⟩
  obtain ⟨b, o, h1, h2, _⟩ := soft_cell h hin hs e' k hk
  exact ⟨b, o, h1, h2⟩
theorem row2_of {B : Nat} {W : World} {y : T} (h : y.ok W) (hin : y.inS (B ≤ ·)) (hs : y.soft W) : Row2 B W.heap.size W y.lv y.list.length := by
  obtain ⟨lo, lc, e, hl⟩ := (LV.of h).form
  refine ⟨⟨lo, lc, e⟩, by omega, fun ao cap e' k hk => ?_⟩
  obtain ⟨b, o, h1, h2, h3⟩ := soft_cell h hin hs e' k hk
  exact ⟨b, o, h1, h2, _, _, h3, row1_of (h.parts.2.2.2.2.2.2.2 _ (List.getElem_mem hk)) ((T.inS_iff.1 hin).2.2 _ (List.getElem_mem hk)) ((T.soft_iff.1 hs).2 _ (List.getElem_mem hk))⟩
theorem W64.high {B C D : Nat} {W : World} {a : Addr} (h : W64 B C W a) (hC : C ≤ D) : W64 B D W a := ⟨⟨h.1.1, Nat.lt_of_lt_of_le h.1.2 hC⟩, h.2⟩
theorem Row1.high {B C D : Nat} {W : World} {v : Value} {n : Nat} (h : Row1 B C W v n) (hC : C ≤ D) : Row1 B D W v n :=
  ⟨h.1, h.2.1, fun ao cap e k hk => by obtain ⟨b, o, e1, h4⟩ := h.2.2 ao cap e k hk; exact ⟨b, o, e1, h4.high hC⟩⟩
theorem Row2.high {B C D : Nat} {W : World} {v : Value} {n : Nat} (h : Row2 B C W v n) (hC : C ≤ D) : Row2 B D W v n :=
  ⟨h.1, h.2.1, fun ao cap e k hk => by obtain ⟨b, o, e1, h4, u, m, hu, hr⟩ := h.2.2 ao cap e k hk; exact ⟨b, o, e1, h4.high hC, u, m, hu, hr.high hC⟩⟩
theorem W64.low {B C A : Nat} {W : World} {a : Addr} (h : W64 B C W a) (hA : A ≤ B) : W64 A C W a := ⟨⟨Nat.le_trans hA h.1.1, h.1.2⟩, h.2⟩
theorem Row1.low {B C A : Nat} {W : World} {v : Value} {n : Nat} (h : Row1 B C W v n) (hA : A ≤ B) : Row1 A C W v n :=
  ⟨h.1, h.2.1, fun ao cap e k hk => by obtain ⟨b, o, e1, h4⟩ := h.2.2 ao cap e k hk; exact ⟨b, o, e1, h4.low hA⟩⟩
theorem Row2.low {B C A : Nat} {W : World} {v : Value} {n : Nat} (h : Row2 B C W v n) (hA : A ≤ B) : Row2 A C W v n :=
  ⟨h.1, h.2.1, fun ao cap e k hk => by obtain ⟨b, o, e1, h4, u, m, hu, hr⟩ := h.2.2 ao cap e k hk; exact ⟨b, o, e1, h4.low hA, u, m, hu, hr.low hA⟩⟩
theorem row2_nil (B C : Nat) (W : World) : Row2 B C W (.slice none 0 0) 0 := ⟨⟨none, 0, rfl⟩, by decide, fun _ _ _ k hk => absurd hk (by omega)⟩
/-- what Set or Record answered, seen as what may be spoilt -/
structure Spoil (B C : Nat) (W : World) (cs : Array Value) : Prop where
  form : ∃ (k : Nat) (b : Bool) (n : Int) (s t : ByteArray) (nv lv : Value) (m : Nat), cs = #[.int .u8 (k : Nat), .bool b, .int .i64 n, .string s, .string t, nv, lv] ∧ Row2 B C W lv m ∧ ∃ no nn nc, nv = .slice no nn nc
theorem Spoil.turn {B C : Nat} {W W' : World} {cs : Array Value} (t : Turn B C W W') (h : Spoil B C W cs) : Spoil B C W' cs := by
  obtain ⟨k, b, n, s, u, nv, lv, m, e, r, q⟩ := h.form
  exact ⟨⟨k, b, n, s, u, nv, lv, m, e, r.turn t, q⟩⟩
theorem spoil_zero (B C : Nat) (W : World) : Spoil B C W zeroA := ⟨⟨0, false, 0, ⟨#[]⟩, ⟨#[]⟩, .slice none 0 0, .slice none 0 0, 0, rfl, row2_nil B C W, none, 0, 0, rfl⟩⟩
theorem spoil_made {B : Nat} {W : World} {x : T} {e : Ending} (h : MadeP B x e W) : ∃ (cs : Array Value) (c : Int), e = .returned (.tuple #[.agg cs, .int .i64 c]) ∧ Spoil B W.heap.size W cs := by
  rcases h with ⟨_, rfl⟩ | ⟨_, y, rfl, _, hok, hin, hs⟩
  · exact ⟨_, _, rfl, spoil_zero _ _ _⟩
  · obtain ⟨no, nc, lo, lc, e1, e2, _, _⟩ := hok.forms
    exact ⟨y.enc.toArray, 0, rfl, ⟨⟨y.kind, y.bool, y.num, y.str, y.typ, y.nv, y.lv, y.list.length, rfl, row2_of hok hin hs, no, _, nc, e1⟩⟩⟩
end Go.Proofs.YtdjgkbpfmonebaaGreatDoor.Val
