/-
  A request's fifteen cells.
-/
import Derived.Test.YtldlkoiekdlmhaaPkWireChg
namespace Go.Proofs.Ytldlkoiekdlmhaa.Wi
open Go.ChangeShapes Go.WideShapes Go.ChangeAt Go.RowKit
open Go.Proofs.Ytldlkoiekdlmhaa.Mem
open Go.Proofs.Ytldlkoiekdlmhaa.Crc hiding hid bt
set_option linter.unusedVariables false
set_option linter.unusedSimpArgs false
set_option maxRecDepth 100000
theorem pBind_assoc {α β γ : Type} (p : P α) (q : α → P β) (r : β → P γ) : pBind (pBind p q) r = pBind p fun a => pBind (q a) r := by
  funext l
  unfold pBind
  cases p l <;> rfl
theorem pBind_ret {α β : Type} (a : α) (r : α → P β) : pBind (pRet a) r = r a := rfl
/-- cells from place i on -/
def stL (W : World) (g : Nat) : List Value → Nat → World
  | [], _ => W
  | v :: vs, i => stL (W.setCell ⟨g, i, none⟩ v) g vs (i + 1)
theorem blk_stL (g : Nat) (t : TypeId) : ∀ (vs : List Value) (W : World) (pre cs : List Value) (i : Nat), pre.length = i → cs.length = vs.length → Blk W g (pre ++ cs) t → Blk (stL W g vs i) g (pre ++ vs) t := by
  intro vs
  induction vs with
  | nil => intro W pre cs i _ hl h; rw [List.eq_nil_of_length_eq_zero hl] at h; exact h
  | cons v vs ih =>
    intro W pre cs i hi hl h
    cases cs with
    | nil => simp at hl
    | cons c cs =>
      have h1 := h.set i v
      have e : (pre ++ c :: cs).set i v = (pre ++ [v]) ++ cs := by subst hi; simp [List.set_append]
      rw [e] at h1
      have := ih (W.setCell ⟨g, i, none⟩ v) (pre ++ [v]) cs (i + 1) (by simp [hi]) (by simpa using hl) h1
      show Blk (stL (W.setCell ⟨g, i, none⟩ v) g vs (i + 1)) g _ t
      simpa using this
theorem heap_stL (g : Nat) : ∀ (vs : List Value) (W : World) (i k : Nat), k ≠ g → (stL W g vs i).heap[k]? = W.heap[k]? := by
  intro vs
  induction vs with
  | nil => intro W i k _; rfl
  | cons v vs ih =>
    intro W i k hk
    show (stL (W.setCell ⟨g, i, none⟩ v) g vs (i + 1)).heap[k]? = _
    rw [ih _ _ _ hk, Below.heap_setCell _ _ _ _ (by simpa using hk)]
theorem but_stL {b B g : Nat} {w : World} (hg : B ≤ g) : ∀ (vs : List Value) (W : World) (i : Nat), But B b w W → But B b w (stL W g vs i) := by
  intro vs
  induction vs with
  | nil => intro W i h; exact h
  | cons v vs ih => intro W i h; exact ih _ _ (but_store h hg i v)
theorem bel_stL {B g : Nat} {w : World} (hg : B ≤ g) : ∀ (vs : List Value) (W : World) (i : Nat), Below B w W → Below B w (stL W g vs i) := by
  intro vs
  induction vs with
  | nil => intro W i h; exact h
  | cons v vs ih => intro W i h; exact ih _ _ (h.setCell (p := ⟨g, i, none⟩) hg v)
theorem oth_stL {g b : Nat} {cs : List Value} {t : TypeId} {W : World} (h : Blk W b cs t) (hg : g ≠ b) (vs : List Value) (i : Nat) : Blk (stL W g vs i) b cs t := ⟨(heap_stL g vs W i b (fun e => hg e.symm)).trans h.at'⟩
theorem rd_stL {g b : Nat} {o : Option (List UInt8)} {W : World} (h : Rd W b o) (hg : g ≠ b) (vs : List Value) (i : Nat) : Rd (stL W g vs i) b o := by
  obtain ⟨s, wr, K, r⟩ := h
  exact ⟨s, wr, oth_stL K hg vs i, r⟩
/-- between two steps: the box pb, the result's box rb, the reader b -/
structure WS (w0 : World) (b pb rb : Nat) (T : TypeId) (o : Option (List UInt8)) (cs zs : List Value) (w : World) : Prop where
  K : Blk w pb cs T
  R : Blk w rb zs T
  rd : Rd w b o
  but : But w0.heap.size b w0 w
  hb : b < w0.heap.size
  hp : w0.heap.size ≤ pb
  hr : w0.heap.size ≤ rb
  hpr : pb ≠ rb
theorem Rd.lt {w : World} {b : Nat} {o : Option (List UInt8)} (h : Rd w b o) : b < w.heap.size := by obtain ⟨s, wr, K, _⟩ := h; exact K.lt
theorem Rd.below {w w' : World} {b : Nat} {o : Option (List UInt8)} (h : Rd w b o) (hb : Below w.heap.size w w') : Rd w' b o := by
  obtain ⟨s, wr, K, r⟩ := h
  exact ⟨s, wr, K.below hb K.lt, r⟩
theorem Rd.store {w : World} {b c : Nat} {o : Option (List UInt8)} (h : Rd w b o) (hc : c ≠ b) (i : Nat) (v : Value) : Rd (w.setCell ⟨c, i, none⟩ v) b o := by
  obtain ⟨s, wr, K, r⟩ := h
  exact ⟨s, wr, K.other (p := ⟨c, i, none⟩) hc v, r⟩
theorem WS.new {w : World} {b : Nat} {o : Option (List UInt8)} (h : Rd w b o) (T : TypeId) (cs zs : List Value) : WS w b w.heap.size (w.heap.size + 1) T o cs zs ((w.alloc (.cells cs.toArray T)).alloc (.cells zs.toArray T)) := by
  have b1 := (Below.refl w.heap.size w).alloc (Nat.le_refl _) (.cells cs.toArray T)
  have b2 := b1.alloc (by simp) (.cells zs.toArray T)
  exact ⟨(Blk.new w cs T).alloc _, Blk.new' _ zs T _ (by simp), h.below b2, ⟨b2.os, b2.tape, b2.output, b2.size, fun k hk _ => b2.block k hk⟩, h.lt, Nat.le_refl _, by omega, by omega⟩
theorem WS.call {w0 w w' : World} {b pb rb : Nat} {T : TypeId} {o o' : Option (List UInt8)} {cs zs : List Value} (h : WS w0 b pb rb T o cs zs w) (hr : Rd w' b o') (hB : But w.heap.size b w w') : WS w0 b pb rb T o' cs zs w' :=
  ⟨h.K.but hB h.K.lt (by have := h.hb; have := h.hp; omega), h.R.but hB h.R.lt (by have := h.hb; have := h.hr; omega), hr, but_trans h.but hB h.but.size, h.hb, h.hp, h.hr, h.hpr⟩
theorem WS.set {w0 w : World} {b pb rb : Nat} {T : TypeId} {o : Option (List UInt8)} {cs zs : List Value} (h : WS w0 b pb rb T o cs zs w) (i : Nat) (v : Value) : WS w0 b pb rb T o (cs.set i v) zs (w.setCell ⟨pb, i, none⟩ v) :=
  ⟨h.K.set i v, h.R.other (p := ⟨pb, i, none⟩) h.hpr v, h.rd.store (by have := h.hb; have := h.hp; omega) i v, but_store h.but h.hp i v, h.hb, h.hp, h.hr, h.hpr⟩
/-- the result's box written whole -/
theorem WS.fin {w0 w : World} {b pb rb : Nat} {T : TypeId} {o : Option (List UInt8)} {cs zs : List Value} (h : WS w0 b pb rb T o cs zs w) (vs : List Value) (hl : zs.length = vs.length) : Blk (stL w rb vs 0) rb vs T ∧ Rd (stL w rb vs 0) b o ∧ But w0.heap.size b w0 (stL w rb vs 0) :=
  ⟨blk_stL rb T vs w [] zs 0 rfl hl h.R, rd_stL h.rd (by have := h.hb; have := h.hr; omega) vs 0, but_stL h.hr vs w 0 h.but⟩
def pU : P (ByteArray × ByteArray) := pBind pT fun x => pBind pT fun y => pRet (x, y)
def pQ2 (a : Ask) : P Ask := pBind pU fun x => pBind pU fun y => pBind pU fun z => pBind pT fun c => pRet { a with s0 := x.1, s1 := x.2, s2 := y.1, s3 := y.2, s4 := z.1, s5 := z.2, s6 := c }
theorem pQ2_eq (a : Ask) : pQ2 a = pQ a := by unfold pQ2 pU pQ; simp only [pBind_assoc, pBind_ret]
set_option maxHeartbeats 8000000 in
theorem ruid_any (b : Nat) (o : Option (List UInt8)) (t i : ByteArray) (w : World) (h : Rd w b o) :
    Calls Try.prog 41 #[.iface 65 (.pointer (some ⟨b, 0, none⟩)), .agg #[.string t, .string i]] w fun e w' => ∃ x y : ByteArray, e = .returned (.agg #[.string x, .string y]) ∧ x.size ≤ 2048 ∧ y.size ≤ 2048 ∧ RdP w b pU o (x, y) w' := by
  go_enter Try.func41, Try.ntmps41
  go_upto_region 1 with fail
  have S := hid (WS.new h 26 [.string t, .string i] [.string ⟨#[]⟩, .string ⟨#[]⟩])
  change Hid (WS w b _ _ _ _ _ _ ((w.alloc (.cells #[.string t, .string i] 26)).alloc (.cells #[.string ⟨#[]⟩, .string ⟨#[]⟩] 26))) at S
  generalize (w.alloc (.cells #[.string t, .string i] 26)).alloc (.cells #[.string ⟨#[]⟩, .string ⟨#[]⟩] 26) = X at S ⊢
  obtain ⟨pb, hpb⟩ : ∃ pb, w.heap.size = pb := ⟨_, rfl⟩
  obtain ⟨rb, hrb⟩ : ∃ rb, w.heap.size + 1 = rb := ⟨_, rfl⟩
  rw [hrb] at S ⊢
  rw [hpb] at S ⊢
  clear hpb hrb
  obtain ⟨k0, k1, kf⟩ := S.out.K.two
  have hc := hid (text_any b o t X S.out.rd)
  go_wp2_with fail
  refine hc.out.mono ?_
  rintro e w1 ⟨x, rfl, hx, o1, r1, r2, r3⟩
  replace S := hid (S.out.call r1 r3)
  replace r2 := hid r2
  clear hc r1 r3 k0 k1 kf
  obtain ⟨k0, k1, kf⟩ := S.out.K.two
  go_upto_region 2 with fail
  replace S := hid (S.out.set 0 (.string x))
  change Hid (WS w b pb rb _ o1 [.string x, .string i] _ (w1.setCell ⟨pb, 0, none⟩ (.string x))) at S
  clear k0 k1 kf
  generalize w1.setCell ⟨pb, 0, none⟩ (.string x) = X1 at S ⊢
  obtain ⟨k0, k1, kf⟩ := S.out.K.two
  have hc := hid (text_any b o1 i X1 S.out.rd)
  go_wp2_with fail
  refine hc.out.mono ?_
  rintro e w2 ⟨y, rfl, hy, o2, g1, g2, g3⟩
  replace S := hid (S.out.call g1 g3)
  replace g2 := hid g2
  clear hc g1 g3 k0 k1 kf
  obtain ⟨k0, k1, kf⟩ := S.out.K.two
  go_upto_region 3 with fail
  replace S := hid (S.out.set 1 (.string y))
  change Hid (WS w b pb rb _ o2 [.string x, .string y] _ (w2.setCell ⟨pb, 1, none⟩ (.string y))) at S
  clear k0 k1 kf
  generalize w2.setCell ⟨pb, 1, none⟩ (.string y) = X2 at S ⊢
  obtain ⟨k0, k1, kf⟩ := S.out.K.two
  obtain ⟨z0, z1, zf⟩ := S.out.R.two
  obtain ⟨F1, F2, F3⟩ := S.out.fin [.string x, .string y] rfl
  have hfin := hid (show RdP w b pU o (x, y) (stL X2 rb [.string x, .string y] 0) from ⟨o2, F2, r2.out.bind (q := fun x => pBind pT fun y => pRet (x, y)) (g2.out.bind (q := fun y => pRet (x, y)) (Res.ret _ _)), F3⟩)
  replace F1 := hid F1
  clear F2 F3 S r2 g2
  go_wp2_with fail
  obtain ⟨q0, q1, -⟩ := F1.out.two
  refine bodyPost_ret (v := .agg #[.string x, .string y]) ?_ rfl ?_
  · simp only [stL] at q0 q1
    simp [results, Try.results41, go_sem, q0, q1]
  · exact ⟨x, y, rfl, hx, hy, hfin.out⟩
end Go.Proofs.Ytldlkoiekdlmhaa.Wi
namespace Go.Proofs.Ytldlkoiekdlmhaa.Wi
open Go.ChangeShapes Go.WideShapes Go.ChangeAt Go.RowKit
open Go.Proofs.Ytldlkoiekdlmhaa.Mem
open Go.Proofs.Ytldlkoiekdlmhaa.Crc hiding hid bt
set_option linter.unusedVariables false
set_option linter.unusedSimpArgs false
theorem fifteen {w : World} {b : Nat} {v0 v1 v2 v3 v4 v5 v6 v7 v8 v9 v10 v11 v12 v13 v14 : Value} {t : TypeId} (h : Blk w b [v0, v1, v2, v3, v4, v5, v6, v7, v8, v9, v10, v11, v12, v13, v14] t) :
    w.cell? ⟨b, 0, none⟩ = some v0 ∧ w.cell? ⟨b, 1, none⟩ = some v1 ∧ w.cell? ⟨b, 2, none⟩ = some v2 ∧ w.cell? ⟨b, 3, none⟩ = some v3 ∧ w.cell? ⟨b, 4, none⟩ = some v4 ∧ w.cell? ⟨b, 5, none⟩ = some v5 ∧ w.cell? ⟨b, 6, none⟩ = some v6 ∧ w.cell? ⟨b, 7, none⟩ = some v7 ∧ w.cell? ⟨b, 8, none⟩ = some v8 ∧ w.cell? ⟨b, 9, none⟩ = some v9 ∧ w.cell? ⟨b, 10, none⟩ = some v10 ∧ w.cell? ⟨b, 11, none⟩ = some v11 ∧ w.cell? ⟨b, 12, none⟩ = some v12 ∧ w.cell? ⟨b, 13, none⟩ = some v13 ∧ w.cell? ⟨b, 14, none⟩ = some v14 ∧ ∀ o, w.frozen? ⟨b, o, none⟩ = false :=
  ⟨h.cell 0 (by simp), h.cell 1 (by simp), h.cell 2 (by simp), h.cell 3 (by simp), h.cell 4 (by simp), h.cell 5 (by simp), h.cell 6 (by simp), h.cell 7 (by simp), h.cell 8 (by simp), h.cell 9 (by simp), h.cell 10 (by simp), h.cell 11 (by simp), h.cell 12 (by simp), h.cell 13 (by simp), h.cell 14 (by simp), h.free⟩
def askV (a : Ask) : List Value := [.int .u8 (a.k : Nat), .int .u64 (a.tx : Nat), .int .u8 (a.c.k : Nat), .string a.c.i, .string a.c.t, .string a.c.ut, .string a.c.ui, .int .u64 (a.v : Nat), .string a.s0, .string a.s1, .string a.s2, .string a.s3, .string a.s4, .string a.s5, .string a.s6]
def askF (a : Ask) : Prop := askN a ∧ chF1 a.c ∧ a.s0.size ≤ 1048576 ∧ a.s1.size ≤ 1048576 ∧ a.s2.size ≤ 1048576 ∧ a.s3.size ≤ 1048576 ∧ a.s4.size ≤ 1048576 ∧ a.s5.size ≤ 1048576 ∧ a.s6.size ≤ 1048576
end Go.Proofs.Ytldlkoiekdlmhaa.Wi
