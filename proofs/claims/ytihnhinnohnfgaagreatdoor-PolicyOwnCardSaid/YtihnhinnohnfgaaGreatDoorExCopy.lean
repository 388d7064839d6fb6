/-
  policy.copied: contract; a copy of an expression in new memory.
-/
import Derived.Test.YtihnhinnohnfgaaGreatDoorExCopied
namespace Go.Proofs.YtihnhinnohnfgaaGreatDoor.Ex
open Go.ChangeShapes Go.WideShapes Go.ChangeAt Go.RowKit
open Go.Proofs.YtihnhinnohnfgaaGreatDoor.Mem
set_option linter.unusedVariables false
set_option linter.unusedSimpArgs false
set_option maxRecDepth 100000
/-- a run of six stores -/
def st6 (W : World) (g o : Nat) (a0 a1 a2 a3 a4 a5 : Value) : World := (((((W.setCell ⟨g, o, none⟩ a0).setCell ⟨g, o + 1, none⟩ a1).setCell ⟨g, o + 2, none⟩ a2).setCell ⟨g, o + 3, none⟩ a3).setCell ⟨g, o + 4, none⟩ a4).setCell ⟨g, o + 5, none⟩ a5
theorem heap_st6 (W : World) (g o : Nat) (a0 a1 a2 a3 a4 a5 : Value) {k : Nat} (hk : k ≠ g) : (st6 W g o a0 a1 a2 a3 a4 a5).heap[k]? = W.heap[k]? := by
  unfold st6
  repeat rw [Below.heap_setCell _ _ _ _ (by simpa using hk)]
theorem size_st6 (W : World) (g o : Nat) (a0 a1 a2 a3 a4 a5 : Value) : (st6 W g o a0 a1 a2 a3 a4 a5).heap.size = W.heap.size := by
  unfold st6
  simp
theorem below_st6 {B : Nat} {w W : World} (h : Below B w W) {g : Nat} (hg : B ≤ g) (o : Nat) (a0 a1 a2 a3 a4 a5 : Value) : Below B w (st6 W g o a0 a1 a2 a3 a4 a5) := by
  unfold st6
  exact (((((h.setCell hg _).setCell hg _).setCell hg _).setCell hg _).setCell hg _).setCell hg _
theorem blk_st6 {W : World} {g o : Nat} {A C : List Value} {b0 b1 b2 b3 b4 b5 : Value} {t : TypeId} (h : Blk W g (A ++ ([b0, b1, b2, b3, b4, b5] ++ C)) t) (ho : A.length = o) (a0 a1 a2 a3 a4 a5 : Value) :
    Blk (st6 W g o a0 a1 a2 a3 a4 a5) g (A ++ ([a0, a1, a2, a3, a4, a5] ++ C)) t := by
  have h1 := (((((h.set o a0).set (o + 1) a1).set (o + 2) a2).set (o + 3) a3).set (o + 4) a4).set (o + 5) a5
  have e : (((((((A ++ ([b0, b1, b2, b3, b4, b5] ++ C)).set o a0).set (o + 1) a1).set (o + 2) a2).set (o + 3) a3).set (o + 4) a4).set (o + 5) a5) = A ++ ([a0, a1, a2, a3, a4, a5] ++ C) := by
    subst ho
    simp [List.set_append]
  rw [e] at h1
  exact h1
theorem encL_append (a b : List T) : T.encL (a ++ b) = T.encL a ++ T.encL b := by simp [T.encL]
theorem encL_cons (x : T) (l : List T) : T.encL (x :: l) = x.enc ++ T.encL l := by simp [T.encL]
/-- the cells of one element of a row -/
theorem row_cells {W : World} {g : Nat} {l : List T} {tail : List Value} {t : TypeId} (h : Blk W g (T.encL l ++ tail) t) (i : Nat) (hi : i < l.length) :
    W.cell? ⟨g, i * 6, none⟩ = some (.int .u8 (l[i].kind : Nat)) ∧ W.cell? ⟨g, i * 6 + 1, none⟩ = some (.int .i64 l[i].num) ∧ W.cell? ⟨g, i * 6 + 2, none⟩ = some (.string l[i].str) ∧
      W.cell? ⟨g, i * 6 + 3, none⟩ = some (.string l[i].typ) ∧ W.cell? ⟨g, i * 6 + 4, none⟩ = some l[i].nv ∧ W.cell? ⟨g, i * 6 + 5, none⟩ = some l[i].lv ∧ ∀ o, W.frozen? ⟨g, o, none⟩ = false := by
  have key : ∀ j, j < 6 → W.cell? ⟨g, i * 6 + j, none⟩ = (l[i].enc)[j]? := fun j hj => by
    have hlt : i * 6 + j < (T.encL l).length := by rw [T.encL_len]; omega
    rw [h.cell (i * 6 + j) (by rw [List.length_append]; omega), List.getElem_append_left hlt, ← List.getElem?_eq_getElem hlt, T.encL_get l i hi j hj]
  exact ⟨key 0 (by omega), key 1 (by omega), key 2 (by omega), key 3 (by omega), key 4 (by omega), key 5 (by omega), h.free⟩
/-- a row of the call's own, read as a slice of values -/
theorem row_slv {W : World} {g : Nat} {l : List T} {tail : List Value} {t : TypeId} {ro : Option Addr} {rc : Nat} (h : 0 < l.length → ro = some ⟨g, 0, none⟩ ∧ Blk W g (T.encL l ++ tail) t) (h1 : l.length ≤ rc) (h2 : rc ≤ maxLen) (h3 : ro = none → rc = 0) : SlV W (.slice ro l.length rc) l.length (T.encL l) := by
  refine ⟨ro, rc, rfl, h1, h2, h3, fun e => by rw [List.eq_nil_of_length_eq_zero e]; rfl, fun a ha j hj => ?_⟩
  have hpos : 0 < l.length := by rw [T.encL_len] at hj; omega
  obtain ⟨e1, hB⟩ := h hpos
  rw [e1] at ha
  cases ha
  rw [Mem.add_plain, Nat.zero_add, hB.cell j (by rw [List.length_append]; omega), List.getElem_append_left hj]
def SlZ (v : Value) (n : Nat) : Prop := 0 < n → ∀ ao m cap, v = .slice ao m cap → ∀ a, ao = some a → a = ⟨a.block, 0, none⟩
namespace T
mutual
/-- its lists may be written, and begin where their blocks begin -/
def soft (W : World) : T → Prop
  | .mk _ _ _ _ _ _ list lv => (SlIn (fun b => b < W.heap.size ∧ ∀ o, W.frozen? ⟨b, o, none⟩ = false) lv list.length ∧ SlZ lv list.length) ∧ softL W list
def softL (W : World) : List T → Prop
  | [] => True
  | x :: r => x.soft W ∧ softL W r
end
theorem softL_iff {W : World} {l : List T} : softL W l ↔ ∀ x ∈ l, x.soft W := by
  induction l with
  | nil => simp [softL]
  | cons x l ih => simp [softL, ih]
theorem soft_iff {W : World} {x : T} : x.soft W ↔ (SlIn (fun b => b < W.heap.size ∧ ∀ o, W.frozen? ⟨b, o, none⟩ = false) x.lv x.list.length ∧ SlZ x.lv x.list.length) ∧ ∀ y ∈ x.list, y.soft W := by
  cases x
  simp only [soft, softL_iff]
  exact Iff.rfl
theorem soft.turn {w w' : World} {S : Nat → Prop} (hk : ∀ k, S k → k < w.heap.size → w'.heap[k]? = w.heap[k]?) : ∀ {x : T}, x.soft w → x.inS S → x.soft w' := by
  suffices h : ∀ n (x : T), x.size ≤ n → x.soft w → x.inS S → x.soft w' from fun {x} => h x.size x (Nat.le_refl _)
  intro n
  induction n with
  | zero => intro x hx; have := x.size_pos; omega
  | succ n ih =>
    intro x hx h hS
    obtain ⟨h1, h2⟩ := soft_iff.1 h
    obtain ⟨_, s2, s3⟩ := inS_iff.1 hS
    refine soft_iff.2 ⟨⟨fun hn ao m cap e a ha => ?_, h1.2⟩, fun y hy => ih y (by have := size_part hy; omega) (h2 y hy) (s3 y hy)⟩
    obtain ⟨q1, q2⟩ := h1.1 hn ao m cap e a ha
    have q3 := hk _ (s2 hn ao m cap e a ha) q1
    refine ⟨?_, fun o => ?_⟩
    · rw [Array.getElem?_eq_getElem q1] at q3
      exact (Array.getElem?_eq_some_iff.1 q3).1
    · rw [World.frozen?_of_block (a := ⟨a.block, o, none⟩) q3]; exact q2 o
theorem soft.keep {w w' : World} {S : Nat → Prop} (hk : ∀ k, S k → w'.heap[k]? = w.heap[k]?) {x : T} (h : x.soft w) (hS : x.inS S) : x.soft w' := h.turn (fun k hs _ => hk k hs) hS
theorem all_in : ∀ (x : T), x.inS (fun _ => True) := by
  suffices h : ∀ n (x : T), x.size ≤ n → x.inS (fun _ => True) from fun x => h x.size x (Nat.le_refl _)
  intro n
  induction n with
  | zero => intro x hx; have := x.size_pos; omega
  | succ n ih => intro x hx; exact inS_iff.2 ⟨fun _ _ _ _ _ _ _ => trivial, fun _ _ _ _ _ _ _ => trivial, fun y hy => ih y (by have := size_part hy; omega)⟩
theorem soft.below {w w' : World} (b : Below w.heap.size w w') {x : T} (h : x.soft w) : x.soft w' := h.turn (S := fun _ => True) (fun k _ hl => b.block k hl) (all_in x)
end T
/-- a copy of x that lies in blocks from B on -/
def CopyOf (B : Nat) (x : T) (e : Ending) (w' : World) : Prop := ∃ y : T, e = .returned y.val ∧ x.like y ∧ y.ok w' ∧ y.inS (B ≤ ·)
/-- the same, and its lists may be written -/
def CopyOwn (B : Nat) (x : T) (e : Ending) (w' : World) : Prop := ∃ y : T, e = .returned y.val ∧ x.like y ∧ y.ok w' ∧ y.inS (B ≤ ·) ∧ y.soft w'
theorem CopyOwn.of {B : Nat} {x : T} {e : Ending} {w' : World} (h : CopyOwn B x e w') : CopyOf B x e w' := by
  obtain ⟨y, h1, h2, h3, h4, _⟩ := h
  exact ⟨y, h1, h2, h3, h4⟩
def Cops (x : T) : Prop := ∀ (w : World), x.ok w → Calls Tryz.prog 36 #[x.val] w fun e w' => CopyOwn w.heap.size x e w' ∧ Below w.heap.size w w'
def ysOk (W : World) (g : Nat) (l ys : List T) : Prop := T.likeL (l.take ys.length) ys ∧ ∀ y ∈ ys, y.ok W ∧ y.inS (g < ·) ∧ y.soft W
theorem ys_below {W W' : World} {g : Nat} {l ys : List T} (b : Below W.heap.size W W') (h : ysOk W g l ys) : ysOk W' g l ys := ⟨h.1, fun y hy => ⟨(h.2 y hy).1.below b, (h.2 y hy).2.1, (h.2 y hy).2.2.below b⟩⟩
theorem ys_next {x : T} {W W' : World} {g k : Nat} {ys : List T} {y z : T} (h : ysOk W g x.list ys) (hl : ys.length = k) (hk : k < x.list.length) (hz : x.list[k] = z) (hlk : z.like y) (hy : y.ok W) (hin : y.inS (g < ·)) (hso : y.soft W) (hw : ∀ b, g < b → W'.heap[b]? = W.heap[b]?) : ysOk W' g x.list (ys ++ [y]) := by
  refine ⟨?_, fun u hu => ?_⟩
  · rw [List.length_append, hl, List.length_singleton, List.take_succ_eq_append_getElem hk, hz]
    have := h.1
    rw [hl] at this
    exact T.likeL_append this ⟨hlk, trivial⟩
  · rcases List.mem_append.1 hu with hu | hu
    · exact ⟨(h.2 u hu).1.keep hw (h.2 u hu).2.1, (h.2 u hu).2.1, (h.2 u hu).2.2.keep hw (h.2 u hu).2.1⟩
    · rw [List.mem_singleton] at hu
      subst hu
      exact ⟨hy.keep hw hin, hin, hso.keep hw hin⟩
theorem copy_row {W : World} {g k : Nat} {l ys : List T} {y : T} {tail : List Value} {t : TypeId} (h : Blk W g (T.encL (ys ++ l.drop k) ++ tail) t) (hl : ys.length = k) (hk : k < l.length) {yno ylo : Option Addr} {ync ylc : Nat} (e1 : y.nv = .slice yno y.names.length ync) (e2 : y.lv = .slice ylo y.list.length ylc) :
    Blk (st6 W g (k * 6) (.int .u8 (y.kind : Nat)) (.int .i64 y.num) (.string y.str) (.string y.typ) (.slice yno y.names.length ync) (.slice ylo y.list.length ylc)) g (T.encL (ys ++ [y] ++ l.drop (k + 1)) ++ tail) t := by
  rw [List.drop_eq_getElem_cons hk, encL_append, encL_cons, List.append_assoc, List.append_assoc] at h
  have := blk_st6 (g := g) (o := k * 6) h (by rw [T.encL_len, hl]) (.int .u8 (y.kind : Nat)) (.int .i64 y.num) (.string y.str) (.string y.typ) (.slice yno y.names.length ync) (.slice ylo y.list.length ylc)
  rw [encL_append, encL_append, encL_cons y [], List.append_assoc, List.append_assoc, List.append_assoc]
  have e3 : y.enc = [.int .u8 (y.kind : Nat), .int .i64 y.num, .string y.str, .string y.typ, .slice yno y.names.length ync, .slice ylo y.list.length ylc] := by unfold T.enc; rw [e1, e2]
  rw [e3]
  simpa [T.encL] using this
def czP (W : World) (g k : Nat) (z : T) (zno zlo : Option Addr) (znc zlc : Nat) : Prop := W.cell? ⟨g, k * 6, none⟩ = some (.int .u8 (z.kind : Nat)) ∧ W.cell? ⟨g, k * 6 + 1, none⟩ = some (.int .i64 z.num) ∧ W.cell? ⟨g, k * 6 + 2, none⟩ = some (.string z.str) ∧
      W.cell? ⟨g, k * 6 + 3, none⟩ = some (.string z.typ) ∧ W.cell? ⟨g, k * 6 + 4, none⟩ = some (.slice zno z.names.length znc) ∧ W.cell? ⟨g, k * 6 + 5, none⟩ = some (.slice zlo z.list.length zlc) ∧ ∀ o, W.frozen? ⟨g, o, none⟩ = false
theorem cz_below {W W' : World} {g k : Nat} {z : T} {zno zlo : Option Addr} {znc zlc : Nat} (b : Below W.heap.size W W') (h : czP W g k z zno zlo znc zlc) : czP W' g k z zno zlo znc zlc := by
  obtain ⟨h0, h1, h2, h3, h4, h5, h6⟩ := h
  have hlt := World.block_lt_of_cell? _ _ h0
  have ca : ∀ {a : Addr} {v : Value}, W.cell? a = some v → W'.cell? a = some v := fun h => (b.cell (World.block_lt_of_cell? _ _ h)).trans h
  exact ⟨ca h0, ca h1, ca h2, ca h3, ca h4, ca h5, fun o => (b.frozen (p := ⟨g, o, none⟩) hlt).trans (h6 o)⟩
theorem copy_ok {x : T} {W : World} {ys : List T} {g : Nat} {tail : List Value} {t : TypeId} {so ro : Option Addr} {sc rc B : Nat} {S : Nat → Prop} (h : x.ok W) (hl : ys.length = x.list.length) (hys : ysOk W g x.list ys) (hnv : SlV W (.slice so x.names.length sc) x.names.length (strC x.names)) (hnin : SlIn S (.slice so x.names.length sc) x.names.length)
    (hS : ∀ k, S k → B ≤ k) (hg : B ≤ g) (hrow : 0 < x.list.length → ro = some ⟨g, 0, none⟩ ∧ Blk W g (T.encL ys ++ tail) t) (h1 : x.list.length ≤ rc) (h2 : rc ≤ maxLen) (h3 : ro = none → rc = 0) :
    ∃ y : T, y.val = .agg #[.int .u8 (x.kind : Nat), .int .i64 x.num, .string x.str, .string x.typ, .slice so x.names.length sc, .slice ro x.list.length rc] ∧ x.like y ∧ y.ok W ∧ y.inS (B ≤ ·) ∧ y.soft W := by
  obtain ⟨⟨p1, p2, p3⟩, p4, p5, p6, p7, _, _, _⟩ := h.parts
  refine ⟨.mk x.kind x.num x.str x.typ x.names (.slice so x.names.length sc) ys (.slice ro x.list.length rc), rfl, T.like_iff.2 ⟨rfl, rfl, rfl, rfl, rfl, ?_⟩, ?_, ?_, ?_⟩
  · have := hys.1
    rw [hl, List.take_length] at this
    exact this
  · refine T.ok.mk' ⟨⟨p1, p2, ?_⟩, p4, p5, p6, p7, hnv, ?_, fun y hy => (hys.2 y hy).1⟩
    · show ys.length * 96 ≤ _; rw [hl]; exact p3
    · show SlV W (.slice ro x.list.length rc) ys.length (T.encL ys)
      rw [← hl]
      exact row_slv (fun hp => hrow (by omega)) (by omega) h2 h3
  · refine T.inS_iff.2 ⟨fun hn ao m cap e a ha => hS _ (hnin hn ao m cap e a ha), fun hn ao m cap e a ha => ?_, fun y hy => (hys.2 y hy).2.1.mono (fun k hk => by omega)⟩
    have hn' : 0 < ys.length := hn
    have e1 := (hrow (by omega)).1
    have e' : Value.slice ro x.list.length rc = .slice ao m cap := e
    simp only [Value.slice.injEq] at e'
    rw [e1] at e'
    rw [← e'.1] at ha
    cases ha
    exact hg
  · refine T.soft_iff.2 ⟨⟨fun hn ao m cap e a ha => ?_, fun hn ao m cap e a ha => ?_⟩, fun y hy => (hys.2 y hy).2.2⟩
    · have hn' : 0 < ys.length := hn
      obtain ⟨e1, hB⟩ := hrow (by omega)
      have e' : Value.slice ro x.list.length rc = .slice ao m cap := e
      simp only [Value.slice.injEq] at e'
      rw [e1] at e'
      rw [← e'.1] at ha
      cases ha
      exact ⟨hB.lt, hB.free⟩
    · have hn' : 0 < ys.length := hn
      obtain ⟨e1, hB⟩ := hrow (by omega)
      have e' : Value.slice ro x.list.length rc = .slice ao m cap := e
      simp only [Value.slice.injEq] at e'
      rw [e1] at e'
      rw [← e'.1] at ha
      cases ha
      exact rfl
set_option maxHeartbeats 4000000 in
theorem copied_step (x : T) (ih : ∀ z ∈ x.list, Cops z) : Cops x := by
  intro w h
  obtain ⟨no, nc, lo, lc, e1, e2, l1, l2⟩ := h.forms
  rw [show x.val = .agg #[.int .u8 (x.kind : Nat), .int .i64 x.num, .string x.str, .string x.typ, x.nv, x.lv] from rfl, e1, e2]
  have h' := hid h
  have ih' := hid ih
  have i2 : (x.list.length : Int) ≤ 9223372036854775807 := by omega
  have e1' := hid e1
  have e2' := hid e2
  clear h ih e1 e2
  go_enter Tryz.func36, Tryz.ntmps36
  go_upto_region 1 with fail
  have K1 := hid (Blk.new w [.int .u8 (x.kind : Nat), .int .i64 x.num, .string x.str, .string x.typ, .slice no x.names.length nc, .slice lo x.list.length lc] 26)
  have bw := hid ((Below.refl w.heap.size w).alloc (Nat.le_refl _) (.cells #[.int .u8 (x.kind : Nat), .int .i64 x.num, .string x.str, .string x.typ, .slice no x.names.length nc, .slice lo x.list.length lc] 26))
  have hs : w.heap.size + 1 = (w.alloc (.cells #[.int .u8 (x.kind : Nat), .int .i64 x.num, .string x.str, .string x.typ, .slice no x.names.length nc, .slice lo x.list.length lc] 26)).heap.size := by simp
  generalize w.alloc (.cells #[.int .u8 (x.kind : Nat), .int .i64 x.num, .string x.str, .string x.typ, .slice no x.names.length nc, .slice lo x.list.length lc] 26) = X0 at K1 bw hs ⊢
  have K2 := hid (Blk.new' X0 [.int .u8 0, .int .i64 0, .string ⟨#[]⟩, .string ⟨#[]⟩, .slice none 0 0, .slice none 0 0] 26 (w.heap.size + 1) hs)
  replace K1 := hid (K1.out.alloc (.cells #[.int .u8 0, .int .i64 0, .string ⟨#[]⟩, .string ⟨#[]⟩, .slice none 0 0, .slice none 0 0] 26))
  replace bw := hid (bw.out.alloc (by omega) (.cells #[.int .u8 0, .int .i64 0, .string ⟨#[]⟩, .string ⟨#[]⟩, .slice none 0 0, .slice none 0 0] 26))
  clear hs
  generalize X0.alloc (.cells #[.int .u8 0, .int .i64 0, .string ⟨#[]⟩, .string ⟨#[]⟩, .slice none 0 0, .slice none 0 0] 26) = X1 at K1 K2 bw ⊢
  obtain ⟨so, sc, W1, hrun, ho, hb⟩ := app_strs0 x.names (.slice no x.names.length nc) X1 (e1'.out ▸ (h'.out.below bw.out).parts.2.2.2.2.2.1) (h'.out.parts.1.2.1)
  have hnv := hid (SlV.own ho)
  have hnin := hid (own_in ho)
  clear ho
  replace hrun := hid hrun
  have hlt1 := hid K2.out.lt
  obtain ⟨c0, c1, c2, c3, c4, c5, cf⟩ := six K1.out
  have K1w := hid (K1.out.below hb K1.out.lt)
  have K2w := hid (K2.out.below hb K2.out.lt)
  have bww := hid (bt bw.out hb)
  obtain ⟨-, -, -, -, c4', c5', cf'⟩ := six K1w.out
  clear hb
  go_upto_region 2 with (at_builtin; refine wpList_app rfl (.const (.slice none 0 0)) (.tmp 5) _ _ rfl _ _ _ _ rfl rfl hrun.out ?_)
  clear c0 c1 c2 c3 c4 c5 cf c4' c5' cf' hrun K1 K2 bw
  have K1 := hid (show Blk _ _ [.int .u8 (x.kind : Nat), .int .i64 x.num, .string x.str, .string x.typ, .slice so x.names.length sc, .slice lo x.list.length lc] _ from K1w.out.set 4 (.slice so x.names.length sc))
  have K2 := hid (K2w.out.other (p := ⟨w.heap.size, 4, none⟩) (by show w.heap.size ≠ w.heap.size + 1; omega) (.slice so x.names.length sc))
  have bw := hid (bww.out.setCell (p := ⟨w.heap.size, 4, none⟩) (Nat.le_refl _) (.slice so x.names.length sc))
  have hnv2 := hid (sl_stay (w' := W1.setCell ⟨w.heap.size, 4, none⟩ (.slice so x.names.length sc)) hnv.out (fun e => by rw [List.eq_nil_of_length_eq_zero e]; rfl) hnin.out (fun k hk => Below.heap_setCell _ _ _ _ (by have := hlt1.out; have := hk.1; show k ≠ w.heap.size; omega)))
  have hz : (W1.setCell ⟨w.heap.size, 4, none⟩ (.slice so x.names.length sc)).heap.size = W1.heap.size := by simp
  have hnin2 := hid (show SlIn (fun k => X1.heap.size ≤ k ∧ k < (W1.setCell ⟨w.heap.size, 4, none⟩ (.slice so x.names.length sc)).heap.size) _ _ from hz ▸ hnin.out)
  clear hz hnv hnin K1w K2w bww
  generalize W1.setCell ⟨w.heap.size, 4, none⟩ (.slice so x.names.length sc) = X2 at K1 K2 bw hnv2 hnin2 ⊢
  obtain ⟨ro, rc, W3, hrun, ho, hb⟩ := app_exprs0 x.list (.slice lo x.list.length lc) X2 (e2'.out ▸ (h'.out.below bw.out).parts.2.2.2.2.2.2.1) (h'.out.below bw.out).parts.2.2.2.2.2.2.2 (h'.out.parts.1.2.2)
  have hrow := hid (own_blk ho).1
  have hcap := hid (own_blk ho).2
  clear ho
  replace hrun := hid hrun
  have hlt2 := hid K2.out.lt
  obtain ⟨c0, c1, c2, c3, c4, c5, cf⟩ := six K1.out
  have K1w := hid (K1.out.below hb K1.out.lt)
  have K2w := hid (K2.out.below hb K2.out.lt)
  have bww := hid (bt bw.out hb)
  have hnv3 := hid (SlV.below hnv2.out hb)
  obtain ⟨-, -, -, -, c4', c5', cf'⟩ := six K1w.out
  have hsz2 := hid hb.size
  clear hb hnv2
  go_upto_region 3 with (at_builtin; refine wpList_app rfl (.const (.slice none 0 0)) (.tmp 9) _ _ rfl _ _ _ _ rfl rfl hrun.out ?_)
  clear c0 c1 c2 c3 c4 c5 cf c4' c5' cf' hrun K1 K2 bw
  have K1 := hid (show Blk _ _ [.int .u8 (x.kind : Nat), .int .i64 x.num, .string x.str, .string x.typ, .slice so x.names.length sc, .slice ro x.list.length rc] _ from K1w.out.set 5 (.slice ro x.list.length rc))
  have K2 := hid (K2w.out.other (p := ⟨w.heap.size, 5, none⟩) (by show w.heap.size ≠ w.heap.size + 1; omega) (.slice ro x.list.length rc))
  have bw := hid (bww.out.setCell (p := ⟨w.heap.size, 5, none⟩) (Nat.le_refl _) (.slice ro x.list.length rc))
  have hnv := hid (sl_stay (w' := W3.setCell ⟨w.heap.size, 5, none⟩ (.slice ro x.list.length rc)) hnv3.out (fun e => by rw [List.eq_nil_of_length_eq_zero e]; rfl) hnin2.out (fun k hk => Below.heap_setCell _ _ _ _ (by have := hlt1.out; have := hk.1; show k ≠ w.heap.size; omega)))
  have hrow2 := hid (show (x.list = [] ∧ ro = none) ∨ ∃ g tail, ro = some ⟨g, 0, none⟩ ∧ X2.heap.size ≤ g ∧ Blk (W3.setCell ⟨w.heap.size, 5, none⟩ (.slice ro x.list.length rc)) g (T.encL x.list ++ tail) 26 by
    rcases hrow.out with ⟨h1, h2⟩ | ⟨g, tail, h1, h2, h3⟩
    · exact .inl ⟨by cases hx : x.list with | nil => rfl | cons y r => rw [hx] at h1; simp [T.encL, T.enc] at h1, h2⟩
    · exact .inr ⟨g, tail, h1, h2, h3.other (p := ⟨w.heap.size, 5, none⟩) (by have := hlt2.out; show w.heap.size ≠ g; omega) _⟩)
  clear hrow hnv3 K1w K2w bww
  generalize W3.setCell ⟨w.heap.size, 5, none⟩ (.slice ro x.list.length rc) = X3 at K1 K2 bw hnv hrow2 ⊢
  obtain ⟨g, tail, hro⟩ : ∃ g tail, Hid (X2.heap.size ≤ g ∧ (0 < x.list.length → ro = some ⟨g, 0, none⟩ ∧ Blk X3 g (T.encL x.list ++ tail) 26)) := by
    rcases hrow2.out with ⟨h1, h2⟩ | ⟨g, tail, h1, h2, h3⟩
    · exact ⟨X2.heap.size, [], hid ⟨Nat.le_refl _, fun h => by rw [h1] at h; simp at h⟩⟩
    · exact ⟨g, tail, hid ⟨h2, fun _ => ⟨h1, h3⟩⟩⟩
  have hg2 := hid hro.out.1
  have hroe := hid (fun h => (hro.out.2 h).1)
  have hrw0 := hid (fun h => (hro.out.2 h).2)
  clear hro hrow2
  obtain ⟨c0, c1, c2, c3, c4, c5, cf⟩ := six K1.out
  go_wp2_with fail
  go_loopw [15] (fun i wr => ∃ (k : Nat) (ys : List T), k ≤ x.list.length ∧ i = .int .i64 k ∧ Hid (ys.length = k) ∧ Hid (Blk wr w.heap.size [.int .u8 (x.kind : Nat), .int .i64 x.num, .string x.str, .string x.typ, .slice so x.names.length sc, .slice ro x.list.length rc] 26) ∧ Hid (Blk wr (w.heap.size + 1) [.int .u8 0, .int .i64 0, .string ⟨#[]⟩, .string ⟨#[]⟩, .slice none 0 0, .slice none 0 0] 26) ∧ Hid (SlV wr (.slice so x.names.length sc) x.names.length (strC x.names)) ∧ Hid (ysOk wr g x.list ys) ∧ (0 < x.list.length → Hid (Blk wr g (T.encL (ys ++ x.list.drop k) ++ tail) 26)) ∧ Hid (Below w.heap.size w wr)) (fun i _ => x.list.length - (intOf i).toNat)
  case atStart => exact ⟨0, [], by omega, rfl, hid rfl, K1, K2, hnv, hid ⟨trivial, by simp⟩, fun h => hid (hrw0.out h), bw⟩
  case round =>
    obtain ⟨k, ys, hk, rfl, hlen, K1', K2', hnv', hys, hrw', hBW⟩ := hrel
    clear c0 c1 c2 c3 c4 c5 cf K1 K2 hnv bw hrw0
    rename_i wr _
    have K1 := K1'
    have K2 := K2'
    have hnv := hnv'
    clear K1' K2' hnv'
    by_cases hkl : k < x.list.length
    · have hki : (k : Int) < (x.list.length : Int) := by omega
      have hrw := hrw' (by omega)
      clear hrw'
      obtain rfl := hroe.out (by omega)
      have hgl := hid hrw.out.lt
      obtain ⟨z, hz⟩ : ∃ z, Hid (x.list[k] = z) := ⟨_, hid rfl⟩
      have hzok := hid (show z.ok wr from hz.out ▸ (h'.out.below hBW.out).parts.2.2.2.2.2.2.2 _ (List.getElem_mem hkl))
      have hrec := hid (fun W (b : Below w.heap.size w W) => (hz.out ▸ ih'.out x.list[k] (List.getElem_mem hkl) : Cops z) W (hz.out ▸ (h'.out.below b).parts.2.2.2.2.2.2.2 _ (List.getElem_mem hkl)))
      obtain ⟨zno, znc, zlo, zlc, ez1, ez2, zl1, zl2⟩ := hzok.out.forms
      have hcz := hid (show czP wr g k z zno zlo znc zlc by
        have hcc := row_cells hrw.out k (by rw [List.length_append, hlen.out, List.length_drop]; omega)
        have hge : (ys ++ x.list.drop k)[k]'(by rw [List.length_append, hlen.out, List.length_drop]; omega) = z := by
          rw [List.getElem_append_right (by rw [hlen.out]; omega)]
          simp only [hlen.out, Nat.sub_self, List.getElem_drop, Nat.add_zero]
          exact hz.out
        rw [hge, ez1, ez2] at hcc
        exact hcc)
      have hzv : z.val = .agg #[.int .u8 (z.kind : Nat), .int .i64 z.num, .string z.str, .string z.typ, .slice zno z.names.length znc, .slice zlo z.list.length zlc] := by rw [T.lit, ez1, ez2]
      rw [hzv] at hrec
      clear hzv ez1 ez2 hzok zl1 zl2
      obtain ⟨c0, c1, c2, c3, c4, c5, cf⟩ := six K1.out
      go_upto_region 6 with fail
      clear c0 c1 c2 c3 c4 c5 cf
      have hmix : Tryz.prog.follows .mixedOrders = true := by kernel_rfl
      refine wp_region_any hmix ?_
      clear hmix
      rw [show ({ heap := wr.heap, tape := wr.tape, drawn := wr.drawn + 1, os := wr.os, output := wr.output } : World) = wr.drew from rfl]
      replace K1 := hid K1.out.drew
      replace K2 := hid K2.out.drew
      replace hrw := hid hrw.out.drew
      replace hnv := hid (SlV.below hnv.out (Below.refl _ wr).drew)
      replace hys := hid (ys_below (Below.refl _ wr).drew hys.out)
      replace hBW := hid hBW.out.drew
      replace hcz := hid (cz_below (Below.refl _ wr).drew hcz.out)
      replace hgl := hid (show g < wr.drew.heap.size from hgl.out)
      generalize wr.drew = w5 at K1 K2 hrw hnv hys hBW hcz hgl ⊢
      refine wpAny_take (i := 0) (v := ?_) rfl (by kernel_rfl) (by kernel_rfl) (by kernel_rfl) (fun _ _ _ h => h) (Or.inl ⟨by rfl, ?_⟩) ?_
      rotate_left 1
      (intro w; go_simp; try with_reducible rfl)
      (try simp only [Act.put, List.getElem_toArray, List.getElem_cons_zero, List.getElem_cons_succ, List.setIfInBounds_toArray, List.set_cons_zero, List.set_cons_succ])
      refine wpAny_take (i := 2) (v := ?_) rfl (by kernel_rfl) (by kernel_rfl) (by kernel_rfl) (fun _ _ _ h => h) (Or.inl ⟨by rfl, ?_⟩) ?_
      rotate_left 1
      (intro w; go_simp; try with_reducible rfl)
      (try simp only [Act.put, List.getElem_toArray, List.getElem_cons_zero, List.getElem_cons_succ, List.setIfInBounds_toArray, List.set_cons_zero, List.set_cons_succ])
      refine wpAny_take (i := 3) (v := ?_) rfl (by kernel_rfl) (by kernel_rfl) (by kernel_rfl) (fun _ _ _ h => h) (Or.inl ⟨by rfl, ?_⟩) ?_
      rotate_left 1
      (intro w; go_simp; try with_reducible rfl)
      (try simp only [Act.put, List.getElem_toArray, List.getElem_cons_zero, List.getElem_cons_succ, List.setIfInBounds_toArray, List.set_cons_zero, List.set_cons_succ])
      refine wpAny_take (i := 5) (v := ?_) rfl (by kernel_rfl) (by kernel_rfl) (by kernel_rfl) (fun _ _ _ h => h) (Or.inl ⟨by rfl, ?_⟩) ?_
      rotate_left 1
      (intro w; go_simp; try with_reducible rfl)
      (try simp only [Act.put, List.getElem_toArray, List.getElem_cons_zero, List.getElem_cons_succ, List.setIfInBounds_toArray, List.set_cons_zero, List.set_cons_succ])
      refine wpAny_ready (rs := [1, 4]) (by kernel_rfl) (by simp) ?_
      refine AllReady.cons rfl (fun K hK => ?_) ?_
      · skip
        obtain ⟨-, -, -, -, -, c5, cf⟩ := six K1.out
        go_simp
        clear c5 cf
        refine hK _ _ ?_
        clear hK K
        (try simp only [Act.put, List.getElem_toArray, List.getElem_cons_zero, List.getElem_cons_succ, List.setIfInBounds_toArray, List.set_cons_zero, List.set_cons_succ])
        refine wpAny_ready (rs := [4]) (by kernel_rfl) (by simp) ?_
        refine AllReady.cons rfl (fun K hK => ?_) AllReady.nil
        obtain ⟨-, -, -, -, -, c5, cf⟩ := six K1.out
        go_simp
        clear c5 cf
        refine hK _ _ ?_
        clear hK K
        (try simp only [Act.put, List.getElem_toArray, List.getElem_cons_zero, List.getElem_cons_succ, List.setIfInBounds_toArray, List.set_cons_zero, List.set_cons_succ])
        refine wpAny_take (i := 6) (v := ?_) rfl (by kernel_rfl) (by kernel_rfl) (by kernel_rfl) (fun _ _ _ h => h) (Or.inl ⟨by rfl, ?_⟩) ?_
        rotate_left 1
        (intro w; go_simp; try with_reducible rfl)
        (try simp only [Act.put, List.getElem_toArray, List.getElem_cons_zero, List.getElem_cons_succ, List.setIfInBounds_toArray, List.set_cons_zero, List.set_cons_succ])
        refine wpAny_ready (rs := [7]) (by kernel_rfl) (by simp) ?_
        refine AllReady.cons rfl (fun K hK => ?_) AllReady.nil
        obtain ⟨xf0, xf1, xf2, xf3, xf4, xf5, xff⟩ := hcz.out
        go_simp
        clear xf0 xf1 xf2 xf3 xf4 xf5 xff
        refine hK _ _ ?_
        clear hK K
        (try simp only [Act.put, List.getElem_toArray, List.getElem_cons_zero, List.getElem_cons_succ, List.setIfInBounds_toArray, List.set_cons_zero, List.set_cons_succ])
        refine wpAny_ready (rs := [8]) (by kernel_rfl) (by simp) ?_
        refine AllReady.cons rfl (fun K hK => ?_) AllReady.nil
        go_simp
        (with_reducible refine (hrec.out _ hBW.out).mono ?_)
        rintro e5 w5 ⟨⟨y, rfl, hlk, hyok, hyin, hyso⟩, b5⟩
        obtain ⟨yno, ync, ylo, ylc, ey1, ey2, yl1, yl2⟩ := hyok.forms
        have hyv : y.val = .agg #[.int .u8 (y.kind : Nat), .int .i64 y.num, .string y.str, .string y.typ, .slice yno y.names.length ync, .slice ylo y.list.length ylc] := by rw [T.lit, ey1, ey2]
        rw [hyv]
        clear hyv yl1 yl2
        replace hlk := hid hlk
        replace hyok := hid hyok; replace hyso := hid hyso
        replace ey1 := hid ey1
        replace ey2 := hid ey2
        replace hyin := hid (show y.inS (g < ·) from hyin.mono (fun k hk => Nat.lt_of_lt_of_le hgl.out hk))
        replace hcz := hid (cz_below b5 hcz.out)
        have hgl5 := hid (Nat.lt_of_lt_of_le hgl.out b5.size)
        clear hgl
        have hgl := hgl5
        clear hgl5
        replace K1 := hid (K1.out.below b5 K1.out.lt)
        replace K2 := hid (K2.out.below b5 K2.out.lt)
        replace hnv := hid (SlV.below hnv.out b5)
        replace hys := hid (ys_below b5 hys.out)
        replace hrw := hid (hrw.out.below b5 hrw.out.lt)
        replace hBW := hid (bt hBW.out b5)
        clear b5 hrec
        refine hK _ _ ?_
        clear hK K
        (try simp only [Act.put, List.getElem_toArray, List.getElem_cons_zero, List.getElem_cons_succ, List.setIfInBounds_toArray, List.set_cons_zero, List.set_cons_succ])
        refine wpAny_take (i := 9) (v := ?_) rfl (by kernel_rfl) (by kernel_rfl) (by kernel_rfl) (fun _ _ _ h => h) (Or.inl ⟨by rfl, ?_⟩) ?_
        rotate_left 1
        (intro w; go_simp; try with_reducible rfl)
        (try simp only [Act.put, List.getElem_toArray, List.getElem_cons_zero, List.getElem_cons_succ, List.setIfInBounds_toArray, List.set_cons_zero, List.set_cons_succ])
        refine wpAny_ready (rs := [10]) (by kernel_rfl) (by simp) ?_
        refine AllReady.cons rfl (fun K hK => ?_) AllReady.nil
        obtain ⟨xf0, xf1, xf2, xf3, xf4, xf5, xff⟩ := hcz.out
        go_simp
        clear xf0 xf1 xf2 xf3 xf4 xf5 xff
        refine hK _ _ ?_
        clear hK K
        (try simp only [Act.put, List.getElem_toArray, List.getElem_cons_zero, List.getElem_cons_succ, List.setIfInBounds_toArray, List.set_cons_zero, List.set_cons_succ])
        refine wpAny_done (by kernel_rfl) ?_ _
        rw [show ((((((w5.setCell ⟨g, k * 6, none⟩ (.int .u8 (y.kind : Nat))).setCell ⟨g, k * 6 + 1, none⟩ (.int .i64 y.num)).setCell ⟨g, k * 6 + 2, none⟩ (.string y.str)).setCell ⟨g, k * 6 + 3, none⟩ (.string y.typ)).setCell ⟨g, k * 6 + 4, none⟩ (.slice yno y.names.length ync)).setCell ⟨g, k * 6 + 5, none⟩ (.slice ylo y.list.length ylc)) = st6 w5 g (k * 6) (.int .u8 (y.kind : Nat)) (.int .i64 y.num) (.string y.str) (.string y.typ) (.slice yno y.names.length ync) (.slice ylo y.list.length ylc) from rfl]
        have hr7 := hid (copy_row (y := y) hrw.out hlen.out hkl ey1.out ey2.out)
        have hne : w.heap.size ≠ g ∧ w.heap.size + 1 ≠ g := by have := hg2.out; have := hlt2.out; omega
        replace K1 := hid (Blk.keepAt K1.out (heap_st6 w5 g (k * 6) (.int .u8 (y.kind : Nat)) (.int .i64 y.num) (.string y.str) (.string y.typ) (.slice yno y.names.length ync) (.slice ylo y.list.length ylc) hne.1))
        replace K2 := hid (Blk.keepAt K2.out (heap_st6 w5 g (k * 6) (.int .u8 (y.kind : Nat)) (.int .i64 y.num) (.string y.str) (.string y.typ) (.slice yno y.names.length ync) (.slice ylo y.list.length ylc) hne.2))
        replace hnv := hid (sl_stay (w' := st6 w5 g (k * 6) (.int .u8 (y.kind : Nat)) (.int .i64 y.num) (.string y.str) (.string y.typ) (.slice yno y.names.length ync) (.slice ylo y.list.length ylc)) hnv.out (fun e => by rw [List.eq_nil_of_length_eq_zero e]; rfl) hnin2.out (fun b hb => heap_st6 w5 g (k * 6) _ _ _ _ _ _ (by have := hg2.out; have := hb.2; omega)))
        have hgt : ∀ b, g < b → (st6 w5 g (k * 6) (.int .u8 (y.kind : Nat)) (.int .i64 y.num) (.string y.str) (.string y.typ) (.slice yno y.names.length ync) (.slice ylo y.list.length ylc)).heap[b]? = w5.heap[b]? := fun b hb => heap_st6 w5 g (k * 6) _ _ _ _ _ _ (by omega)
        have hys7 := hid (ys_next (x := x) hys.out hlen.out hkl hz.out hlk.out hyok.out hyin.out hyso.out hgt)
        replace hBW := hid (below_st6 hBW.out (show w.heap.size ≤ g by have := hg2.out; have := hlt2.out; omega) (k * 6) (.int .u8 (y.kind : Nat)) (.int .i64 y.num) (.string y.str) (.string y.typ) (.slice yno y.names.length ync) (.slice ylo y.list.length ylc))
        clear hgt hne hrw hys hcz hgl hlk hyok hyin hyso ey1 ey2 hz
        generalize st6 w5 g (k * 6) (.int .u8 (y.kind : Nat)) (.int .i64 y.num) (.string y.str) (.string y.typ) (.slice yno y.names.length ync) (.slice ylo y.list.length ylc) = X7 at K1 K2 hnv hys7 hr7 hBW ⊢
        go_wp2_with fail
        go_roundw
        case rel => exact ⟨k + 1, ys ++ [y], by omega, by go_num, hid (by rw [List.length_append, hlen.out]; rfl), K1, K2, hnv, hys7, fun _ => hr7, hBW⟩
        case measure => simp [intOf]; omega
      refine AllReady.cons rfl (fun K hK => ?_) AllReady.nil
      obtain ⟨-, -, -, -, -, c5, cf⟩ := six K1.out
      go_simp
      clear c5 cf
      refine hK _ _ ?_
      clear hK K
      (try simp only [Act.put, List.getElem_toArray, List.getElem_cons_zero, List.getElem_cons_succ, List.setIfInBounds_toArray, List.set_cons_zero, List.set_cons_succ])
      refine wpAny_take (i := 6) (v := ?_) rfl (by kernel_rfl) (by kernel_rfl) (by kernel_rfl) (fun _ _ _ h => h) (Or.inl ⟨by rfl, ?_⟩) ?_
      rotate_left 1
      (intro w; go_simp; try with_reducible rfl)
      (try simp only [Act.put, List.getElem_toArray, List.getElem_cons_zero, List.getElem_cons_succ, List.setIfInBounds_toArray, List.set_cons_zero, List.set_cons_succ])
      refine wpAny_ready (rs := [1, 7]) (by kernel_rfl) (by simp) ?_
      refine AllReady.cons rfl (fun K hK => ?_) ?_
      · skip
        obtain ⟨-, -, -, -, -, c5, cf⟩ := six K1.out
        go_simp
        clear c5 cf
        refine hK _ _ ?_
        clear hK K
        (try simp only [Act.put, List.getElem_toArray, List.getElem_cons_zero, List.getElem_cons_succ, List.setIfInBounds_toArray, List.set_cons_zero, List.set_cons_succ])
        refine wpAny_ready (rs := [7]) (by kernel_rfl) (by simp) ?_
        refine AllReady.cons rfl (fun K hK => ?_) AllReady.nil
        obtain ⟨xf0, xf1, xf2, xf3, xf4, xf5, xff⟩ := hcz.out
        go_simp
        clear xf0 xf1 xf2 xf3 xf4 xf5 xff
        refine hK _ _ ?_
        clear hK K
        (try simp only [Act.put, List.getElem_toArray, List.getElem_cons_zero, List.getElem_cons_succ, List.setIfInBounds_toArray, List.set_cons_zero, List.set_cons_succ])
        refine wpAny_ready (rs := [8]) (by kernel_rfl) (by simp) ?_
        refine AllReady.cons rfl (fun K hK => ?_) AllReady.nil
        go_simp
        (with_reducible refine (hrec.out _ hBW.out).mono ?_)
        rintro e5 w5 ⟨⟨y, rfl, hlk, hyok, hyin, hyso⟩, b5⟩
        obtain ⟨yno, ync, ylo, ylc, ey1, ey2, yl1, yl2⟩ := hyok.forms
        have hyv : y.val = .agg #[.int .u8 (y.kind : Nat), .int .i64 y.num, .string y.str, .string y.typ, .slice yno y.names.length ync, .slice ylo y.list.length ylc] := by rw [T.lit, ey1, ey2]
        rw [hyv]
        clear hyv yl1 yl2
        replace hlk := hid hlk
        replace hyok := hid hyok; replace hyso := hid hyso
        replace ey1 := hid ey1
        replace ey2 := hid ey2
        replace hyin := hid (show y.inS (g < ·) from hyin.mono (fun k hk => Nat.lt_of_lt_of_le hgl.out hk))
        replace hcz := hid (cz_below b5 hcz.out)
        have hgl5 := hid (Nat.lt_of_lt_of_le hgl.out b5.size)
        clear hgl
        have hgl := hgl5
        clear hgl5
        replace K1 := hid (K1.out.below b5 K1.out.lt)
        replace K2 := hid (K2.out.below b5 K2.out.lt)
        replace hnv := hid (SlV.below hnv.out b5)
        replace hys := hid (ys_below b5 hys.out)
        replace hrw := hid (hrw.out.below b5 hrw.out.lt)
        replace hBW := hid (bt hBW.out b5)
        clear b5 hrec
        refine hK _ _ ?_
        clear hK K
        (try simp only [Act.put, List.getElem_toArray, List.getElem_cons_zero, List.getElem_cons_succ, List.setIfInBounds_toArray, List.set_cons_zero, List.set_cons_succ])
        refine wpAny_take (i := 9) (v := ?_) rfl (by kernel_rfl) (by kernel_rfl) (by kernel_rfl) (fun _ _ _ h => h) (Or.inl ⟨by rfl, ?_⟩) ?_
        rotate_left 1
        (intro w; go_simp; try with_reducible rfl)
        (try simp only [Act.put, List.getElem_toArray, List.getElem_cons_zero, List.getElem_cons_succ, List.setIfInBounds_toArray, List.set_cons_zero, List.set_cons_succ])
        refine wpAny_ready (rs := [10]) (by kernel_rfl) (by simp) ?_
        refine AllReady.cons rfl (fun K hK => ?_) AllReady.nil
        obtain ⟨xf0, xf1, xf2, xf3, xf4, xf5, xff⟩ := hcz.out
        go_simp
        clear xf0 xf1 xf2 xf3 xf4 xf5 xff
        refine hK _ _ ?_
        clear hK K
        (try simp only [Act.put, List.getElem_toArray, List.getElem_cons_zero, List.getElem_cons_succ, List.setIfInBounds_toArray, List.set_cons_zero, List.set_cons_succ])
        refine wpAny_done (by kernel_rfl) ?_ _
        rw [show ((((((w5.setCell ⟨g, k * 6, none⟩ (.int .u8 (y.kind : Nat))).setCell ⟨g, k * 6 + 1, none⟩ (.int .i64 y.num)).setCell ⟨g, k * 6 + 2, none⟩ (.string y.str)).setCell ⟨g, k * 6 + 3, none⟩ (.string y.typ)).setCell ⟨g, k * 6 + 4, none⟩ (.slice yno y.names.length ync)).setCell ⟨g, k * 6 + 5, none⟩ (.slice ylo y.list.length ylc)) = st6 w5 g (k * 6) (.int .u8 (y.kind : Nat)) (.int .i64 y.num) (.string y.str) (.string y.typ) (.slice yno y.names.length ync) (.slice ylo y.list.length ylc) from rfl]
        have hr7 := hid (copy_row (y := y) hrw.out hlen.out hkl ey1.out ey2.out)
        have hne : w.heap.size ≠ g ∧ w.heap.size + 1 ≠ g := by have := hg2.out; have := hlt2.out; omega
        replace K1 := hid (Blk.keepAt K1.out (heap_st6 w5 g (k * 6) (.int .u8 (y.kind : Nat)) (.int .i64 y.num) (.string y.str) (.string y.typ) (.slice yno y.names.length ync) (.slice ylo y.list.length ylc) hne.1))
        replace K2 := hid (Blk.keepAt K2.out (heap_st6 w5 g (k * 6) (.int .u8 (y.kind : Nat)) (.int .i64 y.num) (.string y.str) (.string y.typ) (.slice yno y.names.length ync) (.slice ylo y.list.length ylc) hne.2))
        replace hnv := hid (sl_stay (w' := st6 w5 g (k * 6) (.int .u8 (y.kind : Nat)) (.int .i64 y.num) (.string y.str) (.string y.typ) (.slice yno y.names.length ync) (.slice ylo y.list.length ylc)) hnv.out (fun e => by rw [List.eq_nil_of_length_eq_zero e]; rfl) hnin2.out (fun b hb => heap_st6 w5 g (k * 6) _ _ _ _ _ _ (by have := hg2.out; have := hb.2; omega)))
        have hgt : ∀ b, g < b → (st6 w5 g (k * 6) (.int .u8 (y.kind : Nat)) (.int .i64 y.num) (.string y.str) (.string y.typ) (.slice yno y.names.length ync) (.slice ylo y.list.length ylc)).heap[b]? = w5.heap[b]? := fun b hb => heap_st6 w5 g (k * 6) _ _ _ _ _ _ (by omega)
        have hys7 := hid (ys_next (x := x) hys.out hlen.out hkl hz.out hlk.out hyok.out hyin.out hyso.out hgt)
        replace hBW := hid (below_st6 hBW.out (show w.heap.size ≤ g by have := hg2.out; have := hlt2.out; omega) (k * 6) (.int .u8 (y.kind : Nat)) (.int .i64 y.num) (.string y.str) (.string y.typ) (.slice yno y.names.length ync) (.slice ylo y.list.length ylc))
        clear hgt hne hrw hys hcz hgl hlk hyok hyin hyso ey1 ey2 hz
        generalize st6 w5 g (k * 6) (.int .u8 (y.kind : Nat)) (.int .i64 y.num) (.string y.str) (.string y.typ) (.slice yno y.names.length ync) (.slice ylo y.list.length ylc) = X7 at K1 K2 hnv hys7 hr7 hBW ⊢
        go_wp2_with fail
        go_roundw
        case rel => exact ⟨k + 1, ys ++ [y], by omega, by go_num, hid (by rw [List.length_append, hlen.out]; rfl), K1, K2, hnv, hys7, fun _ => hr7, hBW⟩
        case measure => simp [intOf]; omega
      refine AllReady.cons rfl (fun K hK => ?_) AllReady.nil
      obtain ⟨xf0, xf1, xf2, xf3, xf4, xf5, xff⟩ := hcz.out
      go_simp
      clear xf0 xf1 xf2 xf3 xf4 xf5 xff
      refine hK _ _ ?_
      clear hK K
      (try simp only [Act.put, List.getElem_toArray, List.getElem_cons_zero, List.getElem_cons_succ, List.setIfInBounds_toArray, List.set_cons_zero, List.set_cons_succ])
      refine wpAny_ready (rs := [1, 8]) (by kernel_rfl) (by simp) ?_
      refine AllReady.cons rfl (fun K hK => ?_) ?_
      · skip
        obtain ⟨-, -, -, -, -, c5, cf⟩ := six K1.out
        go_simp
        clear c5 cf
        refine hK _ _ ?_
        clear hK K
        (try simp only [Act.put, List.getElem_toArray, List.getElem_cons_zero, List.getElem_cons_succ, List.setIfInBounds_toArray, List.set_cons_zero, List.set_cons_succ])
        refine wpAny_ready (rs := [8]) (by kernel_rfl) (by simp) ?_
        refine AllReady.cons rfl (fun K hK => ?_) AllReady.nil
        go_simp
        (with_reducible refine (hrec.out _ hBW.out).mono ?_)
        rintro e5 w5 ⟨⟨y, rfl, hlk, hyok, hyin, hyso⟩, b5⟩
        obtain ⟨yno, ync, ylo, ylc, ey1, ey2, yl1, yl2⟩ := hyok.forms
        have hyv : y.val = .agg #[.int .u8 (y.kind : Nat), .int .i64 y.num, .string y.str, .string y.typ, .slice yno y.names.length ync, .slice ylo y.list.length ylc] := by rw [T.lit, ey1, ey2]
        rw [hyv]
        clear hyv yl1 yl2
        replace hlk := hid hlk
        replace hyok := hid hyok; replace hyso := hid hyso
        replace ey1 := hid ey1
        replace ey2 := hid ey2
        replace hyin := hid (show y.inS (g < ·) from hyin.mono (fun k hk => Nat.lt_of_lt_of_le hgl.out hk))
        replace hcz := hid (cz_below b5 hcz.out)
        have hgl5 := hid (Nat.lt_of_lt_of_le hgl.out b5.size)
        clear hgl
        have hgl := hgl5
        clear hgl5
        replace K1 := hid (K1.out.below b5 K1.out.lt)
        replace K2 := hid (K2.out.below b5 K2.out.lt)
        replace hnv := hid (SlV.below hnv.out b5)
        replace hys := hid (ys_below b5 hys.out)
        replace hrw := hid (hrw.out.below b5 hrw.out.lt)
        replace hBW := hid (bt hBW.out b5)
        clear b5 hrec
        refine hK _ _ ?_
        clear hK K
        (try simp only [Act.put, List.getElem_toArray, List.getElem_cons_zero, List.getElem_cons_succ, List.setIfInBounds_toArray, List.set_cons_zero, List.set_cons_succ])
        refine wpAny_take (i := 9) (v := ?_) rfl (by kernel_rfl) (by kernel_rfl) (by kernel_rfl) (fun _ _ _ h => h) (Or.inl ⟨by rfl, ?_⟩) ?_
        rotate_left 1
        (intro w; go_simp; try with_reducible rfl)
        (try simp only [Act.put, List.getElem_toArray, List.getElem_cons_zero, List.getElem_cons_succ, List.setIfInBounds_toArray, List.set_cons_zero, List.set_cons_succ])
        refine wpAny_ready (rs := [10]) (by kernel_rfl) (by simp) ?_
        refine AllReady.cons rfl (fun K hK => ?_) AllReady.nil
        obtain ⟨xf0, xf1, xf2, xf3, xf4, xf5, xff⟩ := hcz.out
        go_simp
        clear xf0 xf1 xf2 xf3 xf4 xf5 xff
        refine hK _ _ ?_
        clear hK K
        (try simp only [Act.put, List.getElem_toArray, List.getElem_cons_zero, List.getElem_cons_succ, List.setIfInBounds_toArray, List.set_cons_zero, List.set_cons_succ])
        refine wpAny_done (by kernel_rfl) ?_ _
        rw [show ((((((w5.setCell ⟨g, k * 6, none⟩ (.int .u8 (y.kind : Nat))).setCell ⟨g, k * 6 + 1, none⟩ (.int .i64 y.num)).setCell ⟨g, k * 6 + 2, none⟩ (.string y.str)).setCell ⟨g, k * 6 + 3, none⟩ (.string y.typ)).setCell ⟨g, k * 6 + 4, none⟩ (.slice yno y.names.length ync)).setCell ⟨g, k * 6 + 5, none⟩ (.slice ylo y.list.length ylc)) = st6 w5 g (k * 6) (.int .u8 (y.kind : Nat)) (.int .i64 y.num) (.string y.str) (.string y.typ) (.slice yno y.names.length ync) (.slice ylo y.list.length ylc) from rfl]
        have hr7 := hid (copy_row (y := y) hrw.out hlen.out hkl ey1.out ey2.out)
        have hne : w.heap.size ≠ g ∧ w.heap.size + 1 ≠ g := by have := hg2.out; have := hlt2.out; omega
        replace K1 := hid (Blk.keepAt K1.out (heap_st6 w5 g (k * 6) (.int .u8 (y.kind : Nat)) (.int .i64 y.num) (.string y.str) (.string y.typ) (.slice yno y.names.length ync) (.slice ylo y.list.length ylc) hne.1))
        replace K2 := hid (Blk.keepAt K2.out (heap_st6 w5 g (k * 6) (.int .u8 (y.kind : Nat)) (.int .i64 y.num) (.string y.str) (.string y.typ) (.slice yno y.names.length ync) (.slice ylo y.list.length ylc) hne.2))
        replace hnv := hid (sl_stay (w' := st6 w5 g (k * 6) (.int .u8 (y.kind : Nat)) (.int .i64 y.num) (.string y.str) (.string y.typ) (.slice yno y.names.length ync) (.slice ylo y.list.length ylc)) hnv.out (fun e => by rw [List.eq_nil_of_length_eq_zero e]; rfl) hnin2.out (fun b hb => heap_st6 w5 g (k * 6) _ _ _ _ _ _ (by have := hg2.out; have := hb.2; omega)))
        have hgt : ∀ b, g < b → (st6 w5 g (k * 6) (.int .u8 (y.kind : Nat)) (.int .i64 y.num) (.string y.str) (.string y.typ) (.slice yno y.names.length ync) (.slice ylo y.list.length ylc)).heap[b]? = w5.heap[b]? := fun b hb => heap_st6 w5 g (k * 6) _ _ _ _ _ _ (by omega)
        have hys7 := hid (ys_next (x := x) hys.out hlen.out hkl hz.out hlk.out hyok.out hyin.out hyso.out hgt)
        replace hBW := hid (below_st6 hBW.out (show w.heap.size ≤ g by have := hg2.out; have := hlt2.out; omega) (k * 6) (.int .u8 (y.kind : Nat)) (.int .i64 y.num) (.string y.str) (.string y.typ) (.slice yno y.names.length ync) (.slice ylo y.list.length ylc))
        clear hgt hne hrw hys hcz hgl hlk hyok hyin hyso ey1 ey2 hz
        generalize st6 w5 g (k * 6) (.int .u8 (y.kind : Nat)) (.int .i64 y.num) (.string y.str) (.string y.typ) (.slice yno y.names.length ync) (.slice ylo y.list.length ylc) = X7 at K1 K2 hnv hys7 hr7 hBW ⊢
        go_wp2_with fail
        go_roundw
        case rel => exact ⟨k + 1, ys ++ [y], by omega, by go_num, hid (by rw [List.length_append, hlen.out]; rfl), K1, K2, hnv, hys7, fun _ => hr7, hBW⟩
        case measure => simp [intOf]; omega
      refine AllReady.cons rfl (fun K hK => ?_) AllReady.nil
      go_simp
      (with_reducible refine (hrec.out _ hBW.out).mono ?_)
      rintro e5 w5 ⟨⟨y, rfl, hlk, hyok, hyin, hyso⟩, b5⟩
      obtain ⟨yno, ync, ylo, ylc, ey1, ey2, yl1, yl2⟩ := hyok.forms
      have hyv : y.val = .agg #[.int .u8 (y.kind : Nat), .int .i64 y.num, .string y.str, .string y.typ, .slice yno y.names.length ync, .slice ylo y.list.length ylc] := by rw [T.lit, ey1, ey2]
      rw [hyv]
      clear hyv yl1 yl2
      replace hlk := hid hlk
      replace hyok := hid hyok; replace hyso := hid hyso
      replace ey1 := hid ey1
      replace ey2 := hid ey2
      replace hyin := hid (show y.inS (g < ·) from hyin.mono (fun k hk => Nat.lt_of_lt_of_le hgl.out hk))
      replace hcz := hid (cz_below b5 hcz.out)
      have hgl5 := hid (Nat.lt_of_lt_of_le hgl.out b5.size)
      clear hgl
      have hgl := hgl5
      clear hgl5
      replace K1 := hid (K1.out.below b5 K1.out.lt)
      replace K2 := hid (K2.out.below b5 K2.out.lt)
      replace hnv := hid (SlV.below hnv.out b5)
      replace hys := hid (ys_below b5 hys.out)
      replace hrw := hid (hrw.out.below b5 hrw.out.lt)
      replace hBW := hid (bt hBW.out b5)
      clear b5 hrec
      refine hK _ _ ?_
      clear hK K
      (try simp only [Act.put, List.getElem_toArray, List.getElem_cons_zero, List.getElem_cons_succ, List.setIfInBounds_toArray, List.set_cons_zero, List.set_cons_succ])
      refine wpAny_ready (rs := [1]) (by kernel_rfl) (by simp) ?_
      refine AllReady.cons rfl (fun K hK => ?_) AllReady.nil
      obtain ⟨-, -, -, -, -, c5, cf⟩ := six K1.out
      go_simp
      clear c5 cf
      refine hK _ _ ?_
      clear hK K
      (try simp only [Act.put, List.getElem_toArray, List.getElem_cons_zero, List.getElem_cons_succ, List.setIfInBounds_toArray, List.set_cons_zero, List.set_cons_succ])
      refine wpAny_take (i := 9) (v := ?_) rfl (by kernel_rfl) (by kernel_rfl) (by kernel_rfl) (fun _ _ _ h => h) (Or.inl ⟨by rfl, ?_⟩) ?_
      rotate_left 1
      (intro w; go_simp; try with_reducible rfl)
      (try simp only [Act.put, List.getElem_toArray, List.getElem_cons_zero, List.getElem_cons_succ, List.setIfInBounds_toArray, List.set_cons_zero, List.set_cons_succ])
      refine wpAny_ready (rs := [10]) (by kernel_rfl) (by simp) ?_
      refine AllReady.cons rfl (fun K hK => ?_) AllReady.nil
      obtain ⟨xf0, xf1, xf2, xf3, xf4, xf5, xff⟩ := hcz.out
      go_simp
      clear xf0 xf1 xf2 xf3 xf4 xf5 xff
      refine hK _ _ ?_
      clear hK K
      (try simp only [Act.put, List.getElem_toArray, List.getElem_cons_zero, List.getElem_cons_succ, List.setIfInBounds_toArray, List.set_cons_zero, List.set_cons_succ])
      refine wpAny_done (by kernel_rfl) ?_ _
      rw [show ((((((w5.setCell ⟨g, k * 6, none⟩ (.int .u8 (y.kind : Nat))).setCell ⟨g, k * 6 + 1, none⟩ (.int .i64 y.num)).setCell ⟨g, k * 6 + 2, none⟩ (.string y.str)).setCell ⟨g, k * 6 + 3, none⟩ (.string y.typ)).setCell ⟨g, k * 6 + 4, none⟩ (.slice yno y.names.length ync)).setCell ⟨g, k * 6 + 5, none⟩ (.slice ylo y.list.length ylc)) = st6 w5 g (k * 6) (.int .u8 (y.kind : Nat)) (.int .i64 y.num) (.string y.str) (.string y.typ) (.slice yno y.names.length ync) (.slice ylo y.list.length ylc) from rfl]
      have hr7 := hid (copy_row (y := y) hrw.out hlen.out hkl ey1.out ey2.out)
      have hne : w.heap.size ≠ g ∧ w.heap.size + 1 ≠ g := by have := hg2.out; have := hlt2.out; omega
      replace K1 := hid (Blk.keepAt K1.out (heap_st6 w5 g (k * 6) (.int .u8 (y.kind : Nat)) (.int .i64 y.num) (.string y.str) (.string y.typ) (.slice yno y.names.length ync) (.slice ylo y.list.length ylc) hne.1))
      replace K2 := hid (Blk.keepAt K2.out (heap_st6 w5 g (k * 6) (.int .u8 (y.kind : Nat)) (.int .i64 y.num) (.string y.str) (.string y.typ) (.slice yno y.names.length ync) (.slice ylo y.list.length ylc) hne.2))
      replace hnv := hid (sl_stay (w' := st6 w5 g (k * 6) (.int .u8 (y.kind : Nat)) (.int .i64 y.num) (.string y.str) (.string y.typ) (.slice yno y.names.length ync) (.slice ylo y.list.length ylc)) hnv.out (fun e => by rw [List.eq_nil_of_length_eq_zero e]; rfl) hnin2.out (fun b hb => heap_st6 w5 g (k * 6) _ _ _ _ _ _ (by have := hg2.out; have := hb.2; omega)))
      have hgt : ∀ b, g < b → (st6 w5 g (k * 6) (.int .u8 (y.kind : Nat)) (.int .i64 y.num) (.string y.str) (.string y.typ) (.slice yno y.names.length ync) (.slice ylo y.list.length ylc)).heap[b]? = w5.heap[b]? := fun b hb => heap_st6 w5 g (k * 6) _ _ _ _ _ _ (by omega)
      have hys7 := hid (ys_next (x := x) hys.out hlen.out hkl hz.out hlk.out hyok.out hyin.out hyso.out hgt)
      replace hBW := hid (below_st6 hBW.out (show w.heap.size ≤ g by have := hg2.out; have := hlt2.out; omega) (k * 6) (.int .u8 (y.kind : Nat)) (.int .i64 y.num) (.string y.str) (.string y.typ) (.slice yno y.names.length ync) (.slice ylo y.list.length ylc))
      clear hgt hne hrw hys hcz hgl hlk hyok hyin hyso ey1 ey2 hz
      generalize st6 w5 g (k * 6) (.int .u8 (y.kind : Nat)) (.int .i64 y.num) (.string y.str) (.string y.typ) (.slice yno y.names.length ync) (.slice ylo y.list.length ylc) = X7 at K1 K2 hnv hys7 hr7 hBW ⊢
      go_wp2_with fail
      go_roundw
      case rel => exact ⟨k + 1, ys ++ [y], by omega, by go_num, hid (by rw [List.length_append, hlen.out]; rfl), K1, K2, hnv, hys7, fun _ => hr7, hBW⟩
      case measure => simp [intOf]; omega
    · have hki : ¬ (k : Int) < (x.list.length : Int) := by omega
      obtain rfl : k = x.list.length := by omega
      obtain ⟨y, hy1, hy2, hy3, hy4, hy5⟩ := copy_ok (B := w.heap.size) (W := st6 wr (w.heap.size + 1) 0 (.int .u8 (x.kind : Nat)) (.int .i64 x.num) (.string x.str) (.string x.typ) (.slice so x.names.length sc) (.slice ro x.list.length rc)) (x := x) (ys := ys) (g := g) (tail := tail) (t := 26) (so := so) (ro := ro) (sc := sc) (rc := rc) (S := fun k => X1.heap.size ≤ k ∧ k < X2.heap.size)
        ((h'.out.below hBW.out).keep (S := (· < w.heap.size)) (fun k hk => heap_st6 _ _ _ _ _ _ _ _ _ (by omega)) h'.out.inS)
        hlen.out ⟨hys.out.1, fun y hy => ⟨(hys.out.2 y hy).1.keep (fun k hk => heap_st6 _ _ _ _ _ _ _ _ _ (by have := hg2.out; have := hlt2.out; omega)) (hys.out.2 y hy).2.1, (hys.out.2 y hy).2.1, (hys.out.2 y hy).2.2.keep (fun k hk => heap_st6 _ _ _ _ _ _ _ _ _ (by have := hg2.out; have := hlt2.out; omega)) (hys.out.2 y hy).2.1⟩⟩
        (sl_stay hnv.out (fun e => by rw [List.eq_nil_of_length_eq_zero e]; rfl) hnin2.out (fun b hb => heap_st6 _ _ _ _ _ _ _ _ _ (by have := hlt1.out; have := hb.1; omega))) hnin2.out (fun k hk => by have := hlt1.out; have := hk.1; omega) (by have := hg2.out; have := hlt2.out; omega)
        (fun hp => ⟨hroe.out hp, Blk.keepAt (by have := (hrw' hp).out; rwa [List.drop_length, List.append_nil] at this) (heap_st6 _ _ _ _ _ _ _ _ _ (by have := hg2.out; have := hlt2.out; omega))⟩) hcap.out.1 hcap.out.2.1 hcap.out.2.2
      have hK := hid (show Blk _ (w.heap.size + 1) [.int .u8 (x.kind : Nat), .int .i64 x.num, .string x.str, .string x.typ, .slice so x.names.length sc, .slice ro x.list.length rc] 26 from blk_st6 (A := []) (C := []) (o := 0) K2.out rfl (.int .u8 (x.kind : Nat)) (.int .i64 x.num) (.string x.str) (.string x.typ) (.slice so x.names.length sc) (.slice ro x.list.length rc))
      have hBF := hid (below_st6 hBW.out (g := w.heap.size + 1) (Nat.le_succ _) 0 (.int .u8 (x.kind : Nat)) (.int .i64 x.num) (.string x.str) (.string x.typ) (.slice so x.names.length sc) (.slice ro x.list.length rc))
      replace hy1 := hid hy1
      replace hy2 := hid hy2
      replace hy3 := hid hy3
      replace hy4 := hid hy4
      replace hy5 := hid hy5
      clear hys hrw' hnv hroe hlen
      obtain ⟨c0, c1, c2, c3, c4, c5, cf⟩ := six K1.out
      obtain ⟨d0, d1, d2, d3, d4, d5, df⟩ := six K2.out
      go_wp2_with fail
      clear c0 c1 c2 c3 c4 c5 cf d0 d1 d2 d3 d4 d5 df
      obtain ⟨q0, q1, q2, q3, q4, q5, qf⟩ := six hK.out
      exact bodyPost_ret (v := .agg #[.int .u8 (x.kind : Nat), .int .i64 x.num, .string x.str, .string x.typ, .slice so x.names.length sc, .slice ro x.list.length rc]) (by unfold st6 at q0 q1 q2 q3 q4 q5; simp [results, Tryz.results36, go_sem, q0, q1, q2, q3, q4, q5]) rfl ⟨⟨y, by rw [hy1.out], hy2.out, hy3.out, hy4.out, hy5.out⟩, hBF.out⟩
theorem copied_own (x : T) : Cops x := by
  suffices h : ∀ n (x : T), x.size ≤ n → Cops x from h x.size x (Nat.le_refl _)
  intro n
  induction n with
  | zero => intro x hx; have := x.size_pos; omega
  | succ n ih => intro x hx; exact copied_step x (fun z hz => ih z (by have := T.size_part hz; omega))
theorem copied_any (x : T) (w : World) (h : x.ok w) : Calls Tryz.prog 36 #[x.val] w fun e w' => CopyOf w.heap.size x e w' ∧ Below w.heap.size w w' :=
  (copied_own x w h).mono fun _ _ h => ⟨h.1.of, h.2⟩
end Go.Proofs.YtihnhinnohnfgaaGreatDoor.Ex
