/-
  wire.reader.change: contract.
-/
import Derived.Test.YtldlkoiekdlmhaaChPack
namespace Go.Proofs.Ytldlkoiekdlmhaa.Wi
open Go.ChangeShapes Go.WideShapes Go.ChangeAt Go.RowKit
open Go.Proofs.Ytldlkoiekdlmhaa.Mem
open Go.Proofs.Ytldlkoiekdlmhaa.Crc hiding hid bt
set_option linter.unusedVariables false
set_option linter.unusedSimpArgs false
set_option maxRecDepth 100000
theorem lB_len (l : List UInt8) : (lB l).2.length ≤ l.length := by
  unfold lB
  rw [List.length_drop]; omega
theorem lC_fit (l : List UInt8) (h : l.length ≤ 16777216) : ((lC l).1.k < 256 ∧ (lC l).1.i.size ≤ 16777216 ∧ (lC l).1.t.size ≤ 16777216 ∧ (lC l).1.ut.size ≤ 16777216 ∧ (lC l).1.ui.size ≤ 16777216) ∧ (lC l).2.length ≤ 16777216 := by
  have h0 := lB_len l
  have h1 := lT_size (lB l).2
  have h2 := lT_size (lT (lB l).2).2
  have h3 := lT_size (lT (lT (lB l).2).2).2
  have h4 := lT_size (lT (lT (lT (lB l).2).2).2).2
  have hb := lB_lt l
  unfold lC
  generalize (lB l).1 = k at *
  generalize (lB l).2 = r0 at *
  generalize lT r0 = p1 at *
  generalize lT p1.2 = p2 at *
  generalize lT p2.2 = p3 at *
  generalize lT p3.2 = p4 at *
  dsimp only
  refine ⟨⟨hb, ?_, ?_, ?_, ?_⟩, ?_⟩ <;> omega
theorem lCs_fit (n : Nat) : ∀ l : List UInt8, l.length ≤ 16777216 → chsF (lCs n l) := by
  induction n with
  | zero => intro l _ c hc; cases hc
  | succ n ih =>
    intro l h c hc
    obtain ⟨f1, f2⟩ := lC_fit l h
    rcases List.mem_cons.1 hc with rfl | hc
    · exact f1
    · exact ih _ f2 c hc
theorem lL_fit (l : List UInt8) (h : l.length ≤ 16777216) : chsF (lL l) := lCs_fit _ _ (by have := lB_len l; omega)
/-- what Unpack answers -/
def UnP (w : World) (s : List UInt8) (e : Ending) (w' : World) : Prop :=
  (∃ so cap l z, e = .returned (.tuple #[.slice so l.length cap, .int .i64 z]) ∧ w'.ownsRow w.heap.size 28 5 (.slice so l.length cap) l.length (chC l) ∧ chsF l ∧ (z = 0 ∧ packR l ∧ packE l = s ∨ z = 14 ∧ l = [] ∧ ∀ l0, packR l0 → packE l0 ≠ s)) ∧ Below w.heap.size w w'
set_option maxHeartbeats 8000000 in
theorem unpack_any (s : ByteArray) (w : World) (hs : s.size ≤ 16777216) :
    Calls Try.prog 81 #[.string s] w fun e w' => UnP w s.data.toList e w' := by
  have hfit := hid (lL_fit s.data.toList (by rw [len_size]; exact hs))
  go_enter Try.func81, Try.ntmps81
  go_upto_region 2 with fail
  have hC := hid (show CR (w.alloc (.cells #[.string s] 133)) w.heap.size s.data.toList from ⟨s, Blk.new w [.string s] 133, hs, rfl⟩)
  have bw := hid ((Below.refl w.heap.size w).alloc (Nat.le_refl _) (.cells #[.string s] 133))
  have hsz := hid (show w.heap.size ≤ (w.alloc (.cells #[.string s] 133)).heap.size by simp)
  generalize w.alloc (.cells #[.string s] 133) = X0 at hC bw hsz ⊢
  have hcall := hid (changes_any w.heap.size s.data.toList X0 hC.out)
  obtain ⟨l, hl⟩ : ∃ l, lL s.data.toList = l := ⟨_, rfl⟩
  rw [hl] at hcall hfit
  have hl' := hid hl
  clear hl hC
  go_wp2_with fail
  refine hcall.out.mono ?_
  rintro e w1 ⟨so, cap, rfl, hown, hB⟩
  have hV := hid (show ChsV w1 (.slice so l.length cap) l from SlV.own hown)
  replace hown := hid (ownsRow_mono hown hsz.out)
  replace bw := hid (bw.out.trans (hB.below (Nat.le_refl _) hsz.out))
  clear hB hcall
  have hp := hid (pack_any l _ w1 hV.out hfit.out)
  obtain ⟨n, hn⟩ : ∃ n, l.length = n := ⟨_, rfl⟩
  rw [hn] at hp ⊢
  replace hn := hid hn
  clear hV
  go_wp2_with fail
  refine hp.out.mono ?_
  rintro e w2 ⟨⟨t, z, rfl, hz⟩, b2⟩
  have hown2 := hid (ownsRow_below hown.out (b2.mono (Nat.le_refl _)))
  replace bw := hid (bw.out.trans (b2.mono bw.out.size))
  clear hp b2 hown
  have hno := hid (show (∀ l0, packR l0 → packE l0 ≠ s.data.toList) → UnP w s.data.toList (.returned (.tuple #[.slice none 0 0, .int .i64 14])) w2 from fun h => ⟨⟨none, 0, [], 14, rfl, World.ownsRow_nil _ _ _ _, fun c hc => (by cases hc), .inr ⟨rfl, rfl, h⟩⟩, bw.out⟩)
  have hread := hid (show ∀ l0, packR l0 → packE l0 = s.data.toList → l = l0 from fun l0 h0 e => by rw [← hl'.out, ← e, lL_E l0 h0])
  rcases hz with ⟨rfl, hR, rfl⟩ | ⟨hz, hR, rfl⟩
  · by_cases he : packE l = s.data.toList
    · have hfin := hid (show UnP w s.data.toList (.returned (.tuple #[.slice so n cap, .int .i64 0])) w2 from ⟨⟨so, cap, l, 0, by rw [hn.out], hown2.out, hfit.out, .inl ⟨rfl, hR, he⟩⟩, bw.out⟩)
      have hbs : bs (packE l) = s := by rw [he, bs_of]
      rw [hbs]
      clear he hR hno hread hbs
      go_wp2_with fail
      go_ret2
      exact hfin.out
    · have hfin := hid (hno.out (fun l0 h0 e => he (by rw [hread.out l0 h0 e]; exact e)))
      have hne : ¬ (bs (packE l)).toList = s.toList := by rw [tl_eq]; intro e; exact he (by rw [← e, bs_list])
      have hne' : ((bs (packE l)).toList == s.toList) = false := by simpa using hne
      generalize bs (packE l) = x at hne hne' ⊢
      clear he hR hno hread
      go_wp2_with fail
      go_ret2
      exact hfin.out
  · have hfin := hid (hno.out (fun l0 h0 e => hR (by rw [hread.out l0 h0 e]; exact h0)))
    have hz' : (z != 0) = true := by simpa using hz
    have hz2 : ¬ z = 0 := hz
    clear hR hno hread
    go_wp2_with fail
    go_ret2
    exact hfin.out
end Go.Proofs.Ytldlkoiekdlmhaa.Wi
namespace Go.Proofs.Ytldlkoiekdlmhaa.Wi
open Go.ChangeShapes Go.WideShapes Go.ChangeAt Go.RowKit
open Go.Proofs.Ytldlkoiekdlmhaa.Mem
open Go.Proofs.Ytldlkoiekdlmhaa.Crc hiding hid bt
set_option linter.unusedVariables false
set_option linter.unusedSimpArgs false
set_option maxRecDepth 100000
def chF1 (c : Ch) : Prop := c.k < 256 ∧ c.i.size ≤ 16777216 ∧ c.t.size ≤ 16777216 ∧ c.ut.size ≤ 16777216 ∧ c.ui.size ≤ 16777216
theorem chF1_zero : chF1 chZ := by unfold chF1; decide
def st5 (W : World) (g : Nat) (a0 a1 a2 a3 a4 : Value) : World := ((((W.setCell ⟨g, 0, none⟩ a0).setCell ⟨g, 1, none⟩ a1).setCell ⟨g, 2, none⟩ a2).setCell ⟨g, 3, none⟩ a3).setCell ⟨g, 4, none⟩ a4
theorem blk_st5 {W : World} {g : Nat} {b0 b1 b2 b3 b4 : Value} {t : TypeId} (h : Blk W g [b0, b1, b2, b3, b4] t) (a0 a1 a2 a3 a4 : Value) : Blk (st5 W g a0 a1 a2 a3 a4) g [a0, a1, a2, a3, a4] t :=
  ((((h.set 0 a0).set 1 a1).set 2 a2).set 3 a3).set 4 a4
theorem oth_st5 {W : World} {g b : Nat} {cs : List Value} {t : TypeId} (h : Blk W b cs t) (hg : g ≠ b) (a0 a1 a2 a3 a4 : Value) : Blk (st5 W g a0 a1 a2 a3 a4) b cs t :=
  ((((h.other (p := ⟨g, 0, none⟩) hg a0).other (p := ⟨g, 1, none⟩) hg a1).other (p := ⟨g, 2, none⟩) hg a2).other (p := ⟨g, 3, none⟩) hg a3).other (p := ⟨g, 4, none⟩) hg a4
theorem but_st5 {b B g : Nat} {w W : World} (h : But B b w W) (hg : B ≤ g) (a0 a1 a2 a3 a4 : Value) : But B b w (st5 W g a0 a1 a2 a3 a4) :=
  but_store (but_store (but_store (but_store (but_store h hg 0 a0) hg 1 a1) hg 2 a2) hg 3 a3) hg 4 a4
theorem packR_one {c : Ch} : packR [c] ↔ cR c := by
  constructor
  · intro h; exact ⟨h.2.1 c (by simp), h.2.2 c (by simp)⟩
  · intro h; exact ⟨by simp, by simpa using h.1, by simpa using h.2⟩
theorem pW_none {s : List UInt8} (h : ∀ c, cR c → packE [c] ≠ s) : pW s = none := by
  cases hp : pW s with
  | none => rfl
  | some r =>
    obtain ⟨e, _, hc⟩ := pW_of (c := r.1) (t := r.2) hp
    exact absurd e.symm (h _ hc)
set_option maxHeartbeats 8000000 in
theorem change_any (b : Nat) (o : Option (List UInt8)) (z : Ch) (w : World) (h : Rd w b o) :
    Calls Try.prog 76 #[.pointer (some ⟨b, 0, none⟩), .agg #[.int .u8 (z.k : Nat), .string z.i, .string z.t, .string z.ut, .string z.ui]] w fun e w' => ∃ c : Ch, e = .returned (.agg #[.int .u8 (c.k : Nat), .string c.i, .string c.t, .string c.ut, .string c.ui]) ∧ chF1 c ∧ RdP w b pW o c w' := by
  obtain ⟨s, wr0, K, hs, rfl⟩ := h
  go_enter Try.func76, Try.ntmps76
  go_upto_region 1 with fail
  have hblt := hid K.lt
  replace K := hid ((K.alloc (.cells #[.int .u8 (z.k : Nat), .string z.i, .string z.t, .string z.ut, .string z.ui] 28)).alloc (.cells #[.int .u8 0, .string ⟨#[]⟩, .string ⟨#[]⟩, .string ⟨#[]⟩, .string ⟨#[]⟩] 28))
  have bw := hid (((Below.refl w.heap.size w).alloc (Nat.le_refl _) (.cells #[.int .u8 (z.k : Nat), .string z.i, .string z.t, .string z.ut, .string z.ui] 28)).alloc (by simp) (.cells #[.int .u8 0, .string ⟨#[]⟩, .string ⟨#[]⟩, .string ⟨#[]⟩, .string ⟨#[]⟩] 28))
  have R := hid (Blk.new' (w.alloc (.cells #[.int .u8 (z.k : Nat), .string z.i, .string z.t, .string z.ut, .string z.ui] 28)) (chV chZ) 28 (w.heap.size + 1) (by simp))
  change Hid (Blk ((w.alloc (.cells #[.int .u8 (z.k : Nat), .string z.i, .string z.t, .string z.ut, .string z.ui] 28)).alloc (.cells #[.int .u8 0, .string ⟨#[]⟩, .string ⟨#[]⟩, .string ⟨#[]⟩, .string ⟨#[]⟩] 28)) _ _ _) at R
  generalize (w.alloc (.cells #[.int .u8 (z.k : Nat), .string z.i, .string z.t, .string z.ut, .string z.ui] 28)).alloc (.cells #[.int .u8 0, .string ⟨#[]⟩, .string ⟨#[]⟩, .string ⟨#[]⟩, .string ⟨#[]⟩] 28) = X0 at K bw R ⊢
  have hbut := hid (show But w.heap.size b w X0 from ⟨bw.out.os, bw.out.tape, bw.out.output, bw.out.size, fun k hk _ => bw.out.block k hk⟩)
  have hcall := hid (take_any b s wr0 s.size X0 K.out hs hs)
  obtain ⟨k0, k1, kf⟩ := K.out.two
  have hsi : (s.size : Int) ≤ 16777216 := by omega
  go_wp2_with fail
  refine hcall.out.mono ?_
  rintro e w1 ⟨ht, hB⟩
  rw [if_neg (Nat.lt_irrefl _)] at ht
  obtain ⟨x, t, rfl, hx, ht, K1⟩ := ht
  rw [List.take_of_length_le (by rw [len_size]; omega)] at hx
  rw [List.drop_eq_nil_of_le (by rw [len_size]; omega)] at ht
  obtain rfl : x = s := by rw [← bs_of x, hx, bs_of]
  obtain rfl : t = ⟨#[]⟩ := by rw [← bs_of t, ht]; rfl
  replace R := hid (show Blk w1 (w.heap.size + 1) (chV chZ) 28 from R.out.but hB R.out.lt (by have := hblt.out; omega))
  replace hbut := hid (but_trans hbut.out hB bw.out.size)
  replace K := hid K1
  clear hx ht K1 hB hcall k0 k1 kf bw
  go_wp2_with fail
  refine (unpack_any x w1 hs).mono ?_
  rintro e w2 ⟨⟨so, cap, l, zz, rfl, hown, hfit, hz⟩, b2⟩
  replace K := hid (K.out.below b2 K.out.lt)
  replace R := hid (R.out.below b2 R.out.lt)
  have hbs := hid hbut.out.size
  replace hbut := hid (but_below hbut.out b2 hbut.out.size)
  clear b2
  have hbad := hid (show (∀ c, cR c → packE [c] ≠ x.data.toList) → ∀ c : Ch, RdP w b pW (left x wr0) c (w2.setCell ⟨b, 1, none⟩ (.bool true)) from fun h c => by
    refine ⟨none, ⟨⟨#[]⟩, true, K.out.set 1 _, by decide, rfl⟩, ?_, but_set hbut.out 1 _⟩
    refine Res.stop fun m hm => ?_
    cases wr0 with
    | true => cases hm
    | false => cases hm; exact pW_none h)
  by_cases hgood : zz = 0 ∧ l.length = 1
  · obtain ⟨rfl, h1⟩ := hgood
    rcases hz with ⟨_, hR, he⟩ | ⟨h14, _⟩
    case inr => exact absurd h14 (by decide)
    obtain ⟨c, rfl⟩ : ∃ c, l = [c] := List.length_eq_one_iff.1 h1
    have hR1 := packR_one.1 hR
    have hfin := hid (show RdP w b pW (left x wr0) c (st5 w2 (w.heap.size + 1) (.int .u8 (c.k : Nat)) (.string c.i) (.string c.t) (.string c.ut) (.string c.ui)) from by
      refine ⟨left ⟨#[]⟩ wr0, ⟨_, wr0, oth_st5 K.out (by have := hblt.out; omega) _ _ _ _ _, by decide, rfl⟩, ?_, but_st5 hbut.out (by omega) _ _ _ _ _⟩
      cases wr0 with
      | true => exact ⟨rfl, fun y t e => by cases e⟩
      | false =>
        have e1 : pW x.data.toList = some (c, []) := by rw [← he]; exact pW_E c hR1
        exact ⟨by show some [] = Option.map Prod.snd (pW x.data.toList); rw [e1]; rfl, fun y t e => by
          change pW x.data.toList = _ at e
          rw [e1] at e
          simp only [Option.some.injEq, Prod.mk.injEq] at e
          exact e.1⟩)
    have hcf := hid (hfit c (by simp))
    have hV : ChsV w2 (.slice so 1 cap) [c] := SlV.own hown
    obtain ⟨sb, off, cp, e, -, hc⟩ := hV.open (by simp)
    simp only [Value.slice.injEq] at e
    obtain ⟨rfl, -, -⟩ := e
    obtain ⟨x0, x1, x2, x3, x4⟩ := hc 0 (by simp)
    simp only [Nat.zero_mul, Nat.add_zero, List.getElem_cons_zero] at x0 x1 x2 x3 x4
    obtain ⟨p0, p1, p2, p3, p4, hfr⟩ := five (show Blk w2 (w.heap.size + 1) [.int .u8 0, .string ⟨#[]⟩, .string ⟨#[]⟩, .string ⟨#[]⟩, .string ⟨#[]⟩] 28 from R.out)
    have hres := hid (blk_st5 R.out (.int .u8 (c.k : Nat)) (.string c.i) (.string c.t) (.string c.ut) (.string c.ui))
    clear hc hown hfit hR he h1 hR1 hbad hV
    go_wp2_with fail
    obtain ⟨r0, r1, r2, r3, r4, -⟩ := five hres.out
    refine bodyPost_ret (v := .agg #[.int .u8 (c.k : Nat), .string c.i, .string c.t, .string c.ut, .string c.ui]) ?_ rfl ?_
    · unfold st5 at r0 r1 r2 r3 r4
      simp [results, Try.results76, go_sem, r0, r1, r2, r3, r4]
    · exact ⟨c, rfl, hcf.out, hfin.out⟩
  · have hq := hid (hbad.out (fun c hc he => by
      have hp1 := packR_one.2 hc
      rcases hz with ⟨rfl, hR, he2⟩ | ⟨_, _, hno⟩
      · exact hgood ⟨rfl, by rw [packE_inj hR hp1 (he2.trans he.symm)]; rfl⟩
      · exact hno _ hp1 he) chZ)
    obtain ⟨n, hn⟩ : ∃ n, l.length = n := ⟨_, rfl⟩
    rw [hn] at hgood ⊢
    have hres := hid (show Blk (st5 (w2.setCell ⟨b, 1, none⟩ (.bool true)) (w.heap.size + 1) (.int .u8 0) (.string ⟨#[]⟩) (.string ⟨#[]⟩) (.string ⟨#[]⟩) (.string ⟨#[]⟩)) (w.heap.size + 1) [.int .u8 0, .string ⟨#[]⟩, .string ⟨#[]⟩, .string ⟨#[]⟩, .string ⟨#[]⟩] 28 from blk_st5 (R.out.other (p := ⟨b, 1, none⟩) (by have := hblt.out; show b ≠ _; omega) _) _ _ _ _ _)
    have hfin := hid (show RdP w b pW (left x wr0) chZ (st5 (w2.setCell ⟨b, 1, none⟩ (.bool true)) (w.heap.size + 1) (.int .u8 0) (.string ⟨#[]⟩) (.string ⟨#[]⟩) (.string ⟨#[]⟩) (.string ⟨#[]⟩)) from by
      obtain ⟨o', ⟨s', wr', K', hs', e'⟩, hr', hb'⟩ := hq.out
      exact ⟨o', ⟨s', wr', oth_st5 K' (by have := hblt.out; omega) _ _ _ _ _, hs', e'⟩, hr', but_st5 hb' (by omega) _ _ _ _ _⟩)
    obtain ⟨k0, k1, kf⟩ := K.out.two
    obtain ⟨p0, p1, p2, p3, p4, hfr⟩ := five (show Blk w2 (w.heap.size + 1) [.int .u8 0, .string ⟨#[]⟩, .string ⟨#[]⟩, .string ⟨#[]⟩, .string ⟨#[]⟩] 28 from R.out)
    have hrb : ¬ w.heap.size + 1 = b := by have := hblt.out; omega
    have hni : Hid ((n : Int) ≤ 9223372036854775807) := hid (by
      obtain ⟨_, _, _, q1, q2⟩ := ownsRow_form hown
      unfold maxLen at q2; omega)
    have hc2 : ¬ (zz = 0 ∧ (n : Int) = 1) := fun h => hgood ⟨h.1, by omega⟩
    clear hgood hz hbad hq hown hfit hn
    by_cases h0 : zz = 0
    · subst h0
      have h1 : ¬ (n : Int) = 1 := fun h => hc2 ⟨rfl, h⟩
      have h1' : ((n : Int) != 1) = true := by simpa using h1
      clear hc2
      go_wp2_with fail
      obtain ⟨r0, r1, r2, r3, r4, -⟩ := five hres.out
      refine bodyPost_ret (v := .agg #[.int .u8 0, .string ⟨#[]⟩, .string ⟨#[]⟩, .string ⟨#[]⟩, .string ⟨#[]⟩]) ?_ rfl ?_
      · unfold st5 at r0 r1 r2 r3 r4
        simp [results, Try.results76, go_sem, r0, r1, r2, r3, r4]
      · exact ⟨chZ, rfl, chF1_zero, hfin.out⟩
    · have h0' : (zz != 0) = true := by simpa using h0
      clear hc2
      go_wp2_with fail
      obtain ⟨r0, r1, r2, r3, r4, -⟩ := five hres.out
      refine bodyPost_ret (v := .agg #[.int .u8 0, .string ⟨#[]⟩, .string ⟨#[]⟩, .string ⟨#[]⟩, .string ⟨#[]⟩]) ?_ rfl ?_
      · unfold st5 at r0 r1 r2 r3 r4
        simp [results, Try.results76, go_sem, r0, r1, r2, r3, r4]
      · exact ⟨chZ, rfl, chF1_zero, hfin.out⟩
end Go.Proofs.Ytldlkoiekdlmhaa.Wi
