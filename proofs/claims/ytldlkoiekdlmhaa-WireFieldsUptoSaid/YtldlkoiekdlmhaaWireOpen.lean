/-
  A request, a reply opened: an argument is one of some bulk.
-/
import Derived.Test.YtldlkoiekdlmhaaPkWireRR
import Derived.Test.YtldlkoiekdlmhaaRows
import Derived.SliceStrings
import Derived.Deep.Slices
import Derived.Lib.SmallJoins
import Derived.SizedLaws
import Derived.WalkKit
namespace Go.Proofs.Ytldlkoiekdlmhaa.Wi
open Go.ChangeShapes Go.WideShapes Go.ChangeAt Go.RowKit Go.Joins Go.Deep
open Go.Proofs.Ytldlkoiekdlmhaa.Mem
set_option linter.unusedVariables false
set_option linter.unusedSimpArgs false
set_option maxRecDepth 100000
theorem bulk_str {H : Type} (c : ByteArray) : Rows.uptoBulk (DataW.lit (H := H) (.string c.data.toList)) = c.size + 1 := by
  simp [Rows.uptoBulk]
theorem open_uid {H : Type} {enc : TypeId × Value → H} {W : World} (n : Nat) (cs : List Value) (x : DataW H × List MemPlace) (h : DataW.trod enc Try.prog W 0 (fun _ => true) true n 26 cs = some x) :
    ∃ a b : ByteArray, cs = [.string a, .string b] ∧ a.size + b.size ≤ Rows.uptoBulk x.1 := by
  have hC : Try.prog.cellsOf 26 = 2 := by kernel_rfl
  obtain ⟨xs, k, hn, hxx, hlen, hxl, hf⟩ := DataW.trod_struct Try.underlying26 h
  subst hxx
  rw [hC] at hlen
  match cs, hlen, xs, hxl with
  | [a0, a1], _, [x0, x1], _ =>
    have k3 : Try.prog.cellsOf 9 = 1 := by kernel_rfl
    have f0 : DataW.trod enc Try.prog W 0 (fun _ => true) true k 9 [a0] = some x0 := by simpa [k3] using hf 0 _ rfl
    have f1 : DataW.trod enc Try.prog W 0 (fun _ => true) true k 9 [a1] = some x1 := by simpa [k3] using hf 1 _ rfl
    obtain ⟨c0, e0, y0, _⟩ := DataW.trod_string Try.underlying9 f0
    obtain ⟨c1, e1, y1, _⟩ := DataW.trod_string Try.underlying9 f1
    obtain rfl : a0 = .string c0 := by simpa using e0
    obtain rfl : a1 = .string c1 := by simpa using e1
    refine ⟨c0, c1, rfl, ?_⟩
    simp only [List.map_cons, List.map_nil, Rows.uptoBulk, Rows.uptoBulkAll]
    rw [y0, y1]
    simp only [bulk_str]; omega
theorem open_ch {H : Type} {enc : TypeId × Value → H} {W : World} (n : Nat) (cs : List Value) (x : DataW H × List MemPlace) (h : DataW.trod enc Try.prog W 0 (fun _ => true) true n 28 cs = some x) :
    ∃ c : Ch, cs = chV c ∧ c.k < 256 ∧ c.i.size + c.t.size + c.ut.size + c.ui.size ≤ Rows.uptoBulk x.1 := by
  have hC : Try.prog.cellsOf 28 = 5 := by kernel_rfl
  obtain ⟨xs, k, hn, hxx, hlen, hxl, hf⟩ := DataW.trod_struct Try.underlying28 h
  subst hxx
  rw [hC] at hlen
  match cs, hlen, xs, hxl with
  | [a0, a1, a2, a3, a4], _, [x0, x1, x2, x3], _ =>
    have k0 : Try.prog.cellsOf 24 = 1 := by kernel_rfl
    have k1 : Try.prog.cellsOf 9 = 1 := by kernel_rfl
    have k2 : Try.prog.cellsOf 26 = 2 := by kernel_rfl
    have f0 : DataW.trod enc Try.prog W 0 (fun _ => true) true k 24 [a0] = some x0 := by simpa [k0] using hf 0 _ rfl
    have f1 : DataW.trod enc Try.prog W 0 (fun _ => true) true k 9 [a1] = some x1 := by simpa [k1] using hf 1 _ rfl
    have f2 : DataW.trod enc Try.prog W 0 (fun _ => true) true k 9 [a2] = some x2 := by simpa [k1] using hf 2 _ rfl
    have f3 : DataW.trod enc Try.prog W 0 (fun _ => true) true k 26 [a3, a4] = some x3 := by simpa [k2] using hf 3 _ rfl
    obtain ⟨c0, e0, _, g0⟩ := DataW.trod_int Try.underlying24 f0
    obtain ⟨c1, e1, y1, _⟩ := DataW.trod_string Try.underlying9 f1
    obtain ⟨c2, e2, y2, _⟩ := DataW.trod_string Try.underlying9 f2
    obtain ⟨c3, c4, e3, b3⟩ := open_uid k _ x3 f3
    obtain rfl : a0 = .int .u8 c0 := by simpa using e0
    obtain rfl : a1 = .string c1 := by simpa using e1
    obtain rfl : a2 = .string c2 := by simpa using e2
    simp only [List.cons.injEq, and_true] at e3
    obtain ⟨rfl, rfl⟩ := e3
    have b0 := bounds_u8 g0
    refine ⟨⟨c0.toNat, c1, c2, c3, c4⟩, ?_, show c0.toNat < 256 by omega, ?_⟩
    · show _ = [Value.int .u8 ((c0.toNat : Nat) : Int), .string c1, .string c2, .string c3, .string c4]
      rw [Int.toNat_of_nonneg b0.1]
    · simp only [List.map_cons, List.map_nil, Rows.uptoBulk, Rows.uptoBulkAll]
      rw [y1, y2]
      simp only [bulk_str]; omega
def askB (a : Ask) : Nat := a.c.i.size + a.c.t.size + a.c.ut.size + a.c.ui.size + a.s0.size + a.s1.size + a.s2.size + a.s3.size + a.s4.size + a.s5.size + a.s6.size
theorem open_ask {H : Type} {enc : TypeId × Value → H} {W : World} (n : Nat) (cs : List Value) (x : DataW H × List MemPlace) (h : DataW.trod enc Try.prog W 0 (fun _ => true) true n 30 cs = some x) :
    ∃ a : Ask, cs = askV a ∧ askN a ∧ askB a ≤ Rows.uptoBulk x.1 := by
  have hC : Try.prog.cellsOf 30 = 15 := by kernel_rfl
  obtain ⟨xs, k, hn, hxx, hlen, hxl, hf⟩ := DataW.trod_struct Try.underlying30 h
  subst hxx
  rw [hC] at hlen
  match cs, hlen, xs, hxl with
  | [a0, a1, a2, a3, a4, a5, a6, a7, a8, a9, a10, a11, a12, a13, a14], _, [x0, x1, x2, x3, x4, x5, x6, x7], _ =>
    have k0 : Try.prog.cellsOf 22 = 1 := by kernel_rfl
    have k1 : Try.prog.cellsOf 23 = 1 := by kernel_rfl
    have k2 : Try.prog.cellsOf 28 = 5 := by kernel_rfl
    have k3 : Try.prog.cellsOf 26 = 2 := by kernel_rfl
    have k4 : Try.prog.cellsOf 9 = 1 := by kernel_rfl
    have f0 : DataW.trod enc Try.prog W 0 (fun _ => true) true k 22 [a0] = some x0 := by simpa [k0] using hf 0 _ rfl
    have f1 : DataW.trod enc Try.prog W 0 (fun _ => true) true k 23 [a1] = some x1 := by simpa [k1] using hf 1 _ rfl
    have f2 : DataW.trod enc Try.prog W 0 (fun _ => true) true k 28 [a2, a3, a4, a5, a6] = some x2 := by simpa [k2] using hf 2 _ rfl
    have f3 : DataW.trod enc Try.prog W 0 (fun _ => true) true k 23 [a7] = some x3 := by simpa [k1] using hf 3 _ rfl
    have f4 : DataW.trod enc Try.prog W 0 (fun _ => true) true k 26 [a8, a9] = some x4 := by simpa [k3] using hf 4 _ rfl
    have f5 : DataW.trod enc Try.prog W 0 (fun _ => true) true k 26 [a10, a11] = some x5 := by simpa [k3] using hf 5 _ rfl
    have f6 : DataW.trod enc Try.prog W 0 (fun _ => true) true k 26 [a12, a13] = some x6 := by simpa [k3] using hf 6 _ rfl
    have f7 : DataW.trod enc Try.prog W 0 (fun _ => true) true k 9 [a14] = some x7 := by simpa [k4] using hf 7 _ rfl
    obtain ⟨c0, e0, _, g0⟩ := DataW.trod_int Try.underlying22 f0
    obtain ⟨c1, e1, _, g1⟩ := DataW.trod_int Try.underlying23 f1
    obtain ⟨c, e2, hck, b2⟩ := open_ch k _ x2 f2
    obtain ⟨c3, e3, _, g3⟩ := DataW.trod_int Try.underlying23 f3
    obtain ⟨s0, s1, e4, b4⟩ := open_uid k _ x4 f4
    obtain ⟨s2, s3, e5, b5⟩ := open_uid k _ x5 f5
    obtain ⟨s4, s5, e6, b6⟩ := open_uid k _ x6 f6
    obtain ⟨s6, e7, y7, _⟩ := DataW.trod_string Try.underlying9 f7
    obtain rfl : a0 = .int .u8 c0 := by simpa using e0
    obtain rfl : a1 = .int .u64 c1 := by simpa using e1
    obtain rfl : a7 = .int .u64 c3 := by simpa using e3
    obtain rfl : a14 = .string s6 := by simpa using e7
    simp only [chV, List.cons.injEq, and_true] at e2 e4 e5 e6
    obtain ⟨rfl, rfl, rfl, rfl, rfl⟩ := e2
    obtain ⟨rfl, rfl⟩ := e4
    obtain ⟨rfl, rfl⟩ := e5
    obtain ⟨rfl, rfl⟩ := e6
    have b0 := bounds_u8 g0
    have b1 := bounds_u64 g1
    have b3 := bounds_u64 g3
    refine ⟨⟨c0.toNat, c1.toNat, c, c3.toNat, s0, s1, s2, s3, s4, s5, s6⟩, ?_, ⟨show c0.toNat < 256 by omega, show c1.toNat < _ by omega, show c3.toNat < _ by omega, hck⟩, ?_⟩
    · unfold askV
      dsimp only
      rw [Int.toNat_of_nonneg b0.1, Int.toNat_of_nonneg b1.1, Int.toNat_of_nonneg b3.1]
    · unfold askB
      simp only [List.map_cons, List.map_nil, Rows.uptoBulk, Rows.uptoBulkAll]
      rw [y7]
      simp only [bulk_str]; omega
theorem open_askv {H : Type} {enc : TypeId × Value → H} {W : World} {r : Reach} {b0 : Nat} {v : Value} {d : DataW H} {p : List MemPlace} (hv : Value.okWide Try.prog W r b0 30 v) (h : DataW.Trod enc Try.prog W 0 (fun _ => true) true 30 v d p) :
    ∃ a : Ask, v = .agg (askV a).toArray ∧ askN a ∧ askB a ≤ Rows.uptoBulk d := by
  obtain ⟨cs, rfl, _⟩ := okWide_struct Try.underlying30 hv
  obtain ⟨n, hf⟩ := h
  obtain ⟨y, hy, hok, hz⟩ := open_ask n _ (d, p) hf
  refine ⟨y, ?_, hok, hz⟩
  rw [← hy]
  simp [Value.cells]
theorem bulk_strs {H : Type} : ∀ l : List ByteArray, Rows.uptoBulkAll (strs (H := H) l) = (l.map fun s => s.size + 1).sum := by
  intro l
  induction l with
  | nil => rfl
  | cons s l ih =>
    show Rows.uptoBulk (DataW.lit (.string s.data.toList)) + Rows.uptoBulkAll (strs l) = _
    rw [ih, bulk_str]; rfl
theorem sum_len : ∀ l : List ByteArray, l.length ≤ (l.map fun s => s.size + 1).sum ∧ tot l ≤ 4 * (l.map fun s => s.size + 1).sum := by
  intro l
  induction l with
  | nil => exact ⟨Nat.le_refl _, Nat.le_refl _⟩
  | cons s l ih =>
    unfold tot at *
    simp only [List.map_cons, List.sum_cons, List.length_cons]
    omega
theorem open_txts {H : Type} {enc : TypeId × Value → H} {W : World} {n : Nat} {v : Value} {x : DataW H × List MemPlace} (h : DataW.trod enc Try.prog W 0 (fun _ => true) true n 38 [v] = some x) :
    ∃ so l sc, v = .slice so (List.length l) sc ∧ StrsV W v l ∧ l.length ≤ Rows.uptoBulk x.1 ∧ tot l ≤ 4 * Rows.uptoBulk x.1 := by
  rcases open_strings Try.underlying38 Try.underlying9 (by kernel_rfl) h with ⟨hcs, _⟩ | ⟨a, len, cap, ss, hcs, _, hl, hm, hss, hx, hc, hz⟩
  · obtain rfl : v = .slice none 0 0 := by simpa using hcs
    exact ⟨none, [], 0, rfl, SlV.nil W, by simp, by simp [tot]⟩
  · obtain rfl : v = .slice (some a) len cap := by simpa using hcs
    simp only [if_true] at hss
    have hlen : (ss.take len).length = len := by rw [List.length_take]; omega
    have hsum := sum_len (ss.take len)
    rw [hx]
    refine ⟨some a, ss.take len, cap, by rw [hlen], ⟨some a, cap, by rw [hlen], by rw [hlen]; exact hl, hm, by simp, fun h => ?_, fun b hb j hj => ?_⟩, ?_, ?_⟩
    · rw [hlen] at h; subst h; simp [strC]
    · cases hb
      have hj' : j < len := by rw [strC_len, hlen] at hj; exact hj
      rw [hc j (by omega), strC_get _ j (by rw [hlen]; exact hj')]
      simp [List.getD, show j < ss.length by omega]
    · simp only [Rows.uptoBulk, bulk_strs]; omega
    · simp only [Rows.uptoBulk, bulk_strs]; omega
theorem open_reply {H : Type} {enc : TypeId × Value → H} {W : World} (n : Nat) (cs : List Value) (x : DataW H × List MemPlace) (h : DataW.trod enc Try.prog W 0 (fun _ => true) true n 42 cs = some x) :
    ∃ (r : Rep) (so tq : Option Addr) (sc tc : Nat), cs = [.int .i64 r.why, .int .u64 (r.n : Nat), .int .i64 r.place, .bool r.allow, .slice so r.ids.length sc, .slice tq r.errs.length tc] ∧ StrsV W (.slice so r.ids.length sc) r.ids ∧ StrsV W (.slice tq r.errs.length tc) r.errs ∧ repN r ∧ r.ids.length + r.errs.length ≤ Rows.uptoBulk x.1 ∧ repT r ≤ 4 * Rows.uptoBulk x.1 + 13 ∧ (Lit.int .i64 r.why).wf = true ∧ (Lit.int .i64 r.place).wf = true := by
  have hC : Try.prog.cellsOf 42 = 6 := by kernel_rfl
  obtain ⟨xs, k, hn, hxx, hlen, hxl, hf⟩ := DataW.trod_struct Try.underlying42 h
  subst hxx
  rw [hC] at hlen
  match cs, hlen, xs, hxl with
  | [a0, a1, a2, a3, a4, a5], _, [x0, x1, x2, x3], _ =>
    have k0 : Try.prog.cellsOf 31 = 1 := by kernel_rfl
    have k1 : Try.prog.cellsOf 23 = 1 := by kernel_rfl
    have k2 : Try.prog.cellsOf 3 = 1 := by kernel_rfl
    have k3 : Try.prog.cellsOf 40 = 3 := by kernel_rfl
    have f0 : DataW.trod enc Try.prog W 0 (fun _ => true) true k 31 [a0] = some x0 := by simpa [k0] using hf 0 _ rfl
    have f1 : DataW.trod enc Try.prog W 0 (fun _ => true) true k 23 [a1] = some x1 := by simpa [k1] using hf 1 _ rfl
    have f2 : DataW.trod enc Try.prog W 0 (fun _ => true) true k 3 [a2] = some x2 := by simpa [k2] using hf 2 _ rfl
    have f3 : DataW.trod enc Try.prog W 0 (fun _ => true) true k 40 [a3, a4, a5] = some x3 := by simpa [k3] using hf 3 _ rfl
    obtain ⟨c0, e0, _, g0⟩ := DataW.trod_int Try.underlying31 f0
    obtain ⟨c1, e1, _, g1⟩ := DataW.trod_int Try.underlying23 f1
    obtain ⟨c2, e2, _, g2⟩ := DataW.trod_int Try.underlying3 f2
    obtain ⟨ys, k', hn', hyy, hlen', hyl, hf'⟩ := DataW.trod_struct Try.underlying40 f3
    subst hyy
    match ys, hyl with
    | [y0, y1, y2], _ =>
      have k4 : Try.prog.cellsOf 4 = 1 := by kernel_rfl
      have k5 : Try.prog.cellsOf 38 = 1 := by kernel_rfl
      have q0 : DataW.trod enc Try.prog W 0 (fun _ => true) true k' 4 [a3] = some y0 := by simpa [k4] using hf' 0 _ rfl
      have q1 : DataW.trod enc Try.prog W 0 (fun _ => true) true k' 38 [a4] = some y1 := by simpa [k4, k5] using hf' 1 _ rfl
      have q2 : DataW.trod enc Try.prog W 0 (fun _ => true) true k' 38 [a5] = some y2 := by simpa [k4, k5] using hf' 2 _ rfl
      obtain ⟨c3, e3, _⟩ := DataW.trod_bool Try.underlying4 q0
      obtain ⟨so, l1, sc, rfl, V1, m1, t1⟩ := open_txts q1
      obtain ⟨tq, l2, tc, rfl, V2, m2, t2⟩ := open_txts q2
      obtain rfl : a0 = .int .i64 c0 := by simpa using e0
      obtain rfl : a1 = .int .u64 c1 := by simpa using e1
      obtain rfl : a2 = .int .i64 c2 := by simpa using e2
      obtain rfl : a3 = .bool c3 := by simpa using e3
      have b1 := bounds_u64 g1
      refine ⟨⟨c0, c1.toNat, c2, c3, l1, l2⟩, so, tq, sc, tc, ?_, V1, V2, show c1.toNat < _ by omega, ?_, ?_, g0, g2⟩
      · dsimp only
        rw [Int.toNat_of_nonneg b1.1]
      · simp only [List.map_cons, List.map_nil, Rows.uptoBulk, Rows.uptoBulkAll]; omega
      · unfold repT
        simp only [List.map_cons, List.map_nil, Rows.uptoBulk, Rows.uptoBulkAll]; omega
theorem open_replyv {H : Type} {enc : TypeId × Value → H} {W : World} {r : Reach} {b0 : Nat} {v : Value} {d : DataW H} {p : List MemPlace} (hv : Value.okWide Try.prog W r b0 42 v) (h : DataW.Trod enc Try.prog W 0 (fun _ => true) true 42 v d p) :
    ∃ (r : Rep) (so tq : Option Addr) (sc tc : Nat), v = .agg #[.int .i64 r.why, .int .u64 (r.n : Nat), .int .i64 r.place, .bool r.allow, .slice so r.ids.length sc, .slice tq r.errs.length tc] ∧ StrsV W (.slice so r.ids.length sc) r.ids ∧ StrsV W (.slice tq r.errs.length tc) r.errs ∧ repN r ∧ r.ids.length + r.errs.length ≤ Rows.uptoBulk d ∧ repT r ≤ 4 * Rows.uptoBulk d + 13 := by
  obtain ⟨cs, rfl, _⟩ := okWide_struct Try.underlying42 hv
  obtain ⟨n, hf⟩ := h
  obtain ⟨y, so, tq, sc, tc, hy, h1, h2, h3, h4, h5, _⟩ := open_reply n _ (d, p) hf
  refine ⟨y, so, tq, sc, tc, ?_, h1, h2, h3, h4, h5⟩
  have e := congrArg List.toArray hy
  simp [Value.cells] at e
  rw [e]
end Go.Proofs.Ytldlkoiekdlmhaa.Wi
