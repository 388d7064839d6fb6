/-
  wire.walkUid, walkQuery through a writer: contracts. Written by wip/wirewgen.py.
-/
import Derived.Test.YtldlkoiekdlmhaaWireWrite
import Derived.Test.YtldlkoiekdlmhaaPkWireAskV
namespace Go.Proofs.Ytldlkoiekdlmhaa.Wi
open Go.ChangeShapes Go.WideShapes Go.ChangeAt Go.RowKit
open Go.Proofs.Ytldlkoiekdlmhaa.Mem
open Go.Proofs.Ytldlkoiekdlmhaa.Lik (Kept)
open Go.Proofs.Ytldlkoiekdlmhaa.Crc hiding hid bt
set_option linter.unusedVariables false
set_option linter.unusedSimpArgs false
set_option maxRecDepth 100000
/-- between two steps: the box pb, the result's box rb, the writer b -/
structure WX (w0 : World) (B b pb rb : Nat) (T : TypeId) (o : Option (List UInt8)) (n m : Nat) (cs zs : List Value) (w : World) : Prop where
  K : Blk w pb cs T
  R : Blk w rb zs T
  wr : Wr w B b o n m
  bel : Below B w0 w
  kept : Kept b w0 w
  hB : B ≤ w0.heap.size
  hb : b < w0.heap.size
  hp : w0.heap.size ≤ pb
  hr : w0.heap.size ≤ rb
  hpr : pb ≠ rb
theorem Wr.below {w w' : World} {B b n m : Nat} {o : Option (List UInt8)} (h : Wr w B b o n m) (hb : Below w.heap.size w w') : Wr w' B b o n m := by
  obtain ⟨l, wr, I, r⟩ := h
  exact ⟨l, wr, I.below hb, r⟩
theorem Wr.lt {w : World} {B b n m : Nat} {o : Option (List UInt8)} (h : Wr w B b o n m) : b < w.heap.size := by
  obtain ⟨l, wr, I, r⟩ := h
  exact I.lt
theorem Wr.mono {w : World} {B b n m n' m' : Nat} {o : Option (List UInt8)} (h : Wr w B b o n m) (hn : n' ≤ n) (hm : m ≤ m') : Wr w B b o n' m' := by
  obtain ⟨l, wr, I, h1, h2, h3⟩ := h
  exact ⟨l, wr, I, by omega, by omega, h3⟩
/-- a store into a block that is no builder's and no row of bytes -/
theorem Wr.store {w : World} {B b n m : Nat} {o : Option (List UInt8)} (h : Wr w B b o n m) {g : Nat} {cs : List Value} {t : TypeId} (hg : Blk w g cs t) (hgb : g ≠ b) (ht : t ≠ 5) (i : Nat) (v : Value) : Wr (w.setCell ⟨g, i, none⟩ v) B b o n m := by
  obtain ⟨l, wr, I, r⟩ := h
  refine ⟨l, wr, I.grown fun k hk => Below.heap_setCell _ _ _ _ ?_, r⟩
  rcases hk with rfl | ⟨c, fz, e⟩
  · exact fun e => hgb e.symm
  · rintro rfl
    rw [hg.at'] at e
    simp only [Option.some.injEq, Obj.cells.injEq] at e
    exact ht e.2.1
theorem Wr.keeps {w w' : World} {B b n m : Nat} {o : Option (List UInt8)} (h : Wr w B b o n m) (k : Kept b w w') {c : Nat} {cs : List Value} {t : TypeId} (hc : Blk w c cs t) (hcb : c ≠ b) (h2 : t ≠ 5) : Blk w' c cs t := by
  obtain ⟨l, wr, I, r⟩ := h
  exact I.kept k hc hcb h2
theorem WX.new {w : World} {B b n m : Nat} {o : Option (List UInt8)} (h : Wr w B b o n m) (hB : B ≤ w.heap.size) (T : TypeId) (cs zs : List Value) : WX w B b w.heap.size (w.heap.size + 1) T o n m cs zs ((w.alloc (.cells cs.toArray T)).alloc (.cells zs.toArray T)) := by
  have b1 := (Below.refl w.heap.size w).alloc (Nat.le_refl _) (.cells cs.toArray T)
  have b2 := b1.alloc (by simp) (.cells zs.toArray T)
  exact ⟨(Blk.new w cs T).alloc _, Blk.new' _ zs T _ (by simp), h.below b2, b2.mono hB, kept_bel (kept_refl b w) b2, hB, h.lt, Nat.le_refl _, by omega, by omega⟩
theorem WX.call {w0 w w' : World} {B b pb rb n m n' m' : Nat} {T : TypeId} {o o' : Option (List UInt8)} {cs zs : List Value} (h : WX w0 B b pb rb T o n m cs zs w) (hT : T ≠ 5) (hP : WrP w B b o' n' m' w') : WX w0 B b pb rb T o' n' m' cs zs w' := by
  obtain ⟨hw, hb, hk⟩ := hP
  exact ⟨h.wr.keeps hk h.K (by have := h.hb; have := h.hp; omega) hT, h.wr.keeps hk h.R (by have := h.hb; have := h.hr; omega) hT, hw, h.bel.trans hb, kept_trans h.kept hk, h.hB, h.hb, h.hp, h.hr, h.hpr⟩
theorem WX.set {w0 w : World} {B b pb rb n m : Nat} {T : TypeId} {o : Option (List UInt8)} {cs zs : List Value} (h : WX w0 B b pb rb T o n m cs zs w) (hT : T ≠ 5) (i : Nat) (v : Value) : WX w0 B b pb rb T o n m (cs.set i v) zs (w.setCell ⟨pb, i, none⟩ v) :=
  ⟨h.K.set i v, h.R.other (p := ⟨pb, i, none⟩) h.hpr v, h.wr.store h.K (by have := h.hb; have := h.hp; omega) hT i v, h.bel.setCell (p := ⟨pb, i, none⟩) (by have := h.hB; have := h.hp; show B ≤ pb; omega) v, kept_store h.kept h.hp i v, h.hB, h.hb, h.hp, h.hr, h.hpr⟩
theorem wr_stL {B b n m g : Nat} {o : Option (List UInt8)} {t : TypeId} (hgb : g ≠ b) (ht : t ≠ 5) : ∀ (vs : List Value) (W : World) (cs : List Value) (i : Nat), Wr W B b o n m → Blk W g cs t → Wr (stL W g vs i) B b o n m := by
  intro vs
  induction vs with
  | nil => intro W cs i h _; exact h
  | cons v vs ih => intro W cs i h hg; exact ih _ _ _ (h.store hg hgb ht i v) (hg.set i v)
theorem kept_stL {b g : Nat} {w : World} (hg : w.heap.size ≤ g) : ∀ (vs : List Value) (W : World) (i : Nat), Kept b w W → Kept b w (stL W g vs i) := by
  intro vs
  induction vs with
  | nil => intro W i h; exact h
  | cons v vs ih => intro W i h; exact ih _ _ (kept_store h hg i v)
theorem WX.fin {w0 w : World} {B b pb rb n m : Nat} {T : TypeId} {o : Option (List UInt8)} {cs zs : List Value} (h : WX w0 B b pb rb T o n m cs zs w) (hT : T ≠ 5) (vs : List Value) (hl : zs.length = vs.length) : Blk (stL w rb vs 0) rb vs T ∧ WrP w0 B b o n m (stL w rb vs 0) :=
  ⟨blk_stL rb T vs w [] zs 0 rfl hl h.R, wr_stL (by have := h.hb; have := h.hr; omega) hT vs w zs 0 h.wr h.R, bel_stL (by have := h.hB; have := h.hr; omega) vs w 0 h.bel, kept_stL h.hr vs w 0 h.kept⟩
theorem chs_lit {W : World} {g : Nat} {c : Ch} (h : Blk W g (chV c) 28) : ChsV W (.slice (some ⟨g, 0, none⟩) 1 1) [c] := by
  refine ⟨some ⟨g, 0, none⟩, 1, rfl, Nat.le_refl _, by decide, by simp, by simp, fun a ha j hj => ?_⟩
  cases ha
  rw [Mem.add_plain, Nat.zero_add]
  have e : chC [c] = chV c := by simp [chC]
  have hj' : j < (chV c).length := by rw [← e]; exact hj
  rw [h.cell j hj']
  simp [e]
set_option maxHeartbeats 8000000 in
theorem wchange_any (B b n m : Nat) (o : Option (List UInt8)) (c : Ch) (w : World) (h : Wr w B b o n m) (hF : chF1 c) (hm : m ≤ 90000000) (hBw : B ≤ w.heap.size) :
    Calls Try.prog 60 #[.pointer (some ⟨b, 0, none⟩), .agg #[.int .u8 (c.k : Nat), .string c.i, .string c.t, .string c.ut, .string c.ui]] w fun e w' => e = .returned (.agg #[.int .u8 (c.k : Nat), .string c.i, .string c.t, .string c.ut, .string c.ui]) ∧ WrP w B b (wC c o) n (m + 8300) w' := by
  go_enter Try.func60, Try.ntmps60
  go_upto_region 1 with fail
  have S := hid (WX.new h hBw 28 [.int .u8 (c.k : Nat), .string c.i, .string c.t, .string c.ut, .string c.ui] [.int .u8 0, .string ⟨#[]⟩, .string ⟨#[]⟩, .string ⟨#[]⟩, .string ⟨#[]⟩])
  change Hid (WX w B b _ _ _ _ _ _ _ _ ((w.alloc (.cells #[.int .u8 (c.k : Nat), .string c.i, .string c.t, .string c.ut, .string c.ui] 28)).alloc (.cells #[.int .u8 0, .string ⟨#[]⟩, .string ⟨#[]⟩, .string ⟨#[]⟩, .string ⟨#[]⟩] 28))) at S
  generalize (w.alloc (.cells #[.int .u8 (c.k : Nat), .string c.i, .string c.t, .string c.ut, .string c.ui] 28)).alloc (.cells #[.int .u8 0, .string ⟨#[]⟩, .string ⟨#[]⟩, .string ⟨#[]⟩, .string ⟨#[]⟩] 28) = X at S ⊢
  obtain ⟨pb, hpb⟩ : ∃ pb, w.heap.size = pb := ⟨_, rfl⟩
  obtain ⟨rb, hrb⟩ : ∃ rb, w.heap.size + 1 = rb := ⟨_, rfl⟩
  rw [hrb] at S ⊢
  rw [hpb] at S ⊢
  clear hpb hrb h
  obtain ⟨k0, k1, k2, k3, k4, kf⟩ := five S.out.K
  go_wp2_with (refine (pack_any [c] _ _ (chs_lit (Blk.new X (chV c) 28)) (by intro x hx; rw [List.mem_singleton.1 hx]; exact hF)).mono ?_)
  rintro e w2 ⟨⟨s, z, rfl, hz⟩, b2⟩
  replace b2 := (((Below.refl X.heap.size X).alloc (Nat.le_refl _) (.cells (chV c).toArray 28)).trans (b2.mono (by simp)))
  have hB := S.out.hB
  have hXs := S.out.bel.size
  replace S := hid (S.out.call (by decide) (show WrP X B b o n m w2 from ⟨S.out.wr.below b2, b2.mono (by omega), kept_bel (kept_refl b X) b2⟩))
  have hBs := hid (show B ≤ w2.heap.size by have := b2.size; omega)
  clear b2 k0 k1 k2 k3 k4 kf hXs
  obtain ⟨l, wr, I, hn, hl, ho⟩ := S.out.wr
  replace ho := hid ho
  have hge := is_ge I
  by_cases h0 : z = 0
  · subst h0
    rcases hz with ⟨_, hR, rfl⟩ | ⟨hz, _⟩
    case inr => exact absurd rfl hz
    have hR1 := packR_one.1 hR
    have hbl : (bs (packE [c])).size ≤ 8300 := by
      rw [bs_size]
      have := chE_len c hR1.2
      simp [packE]; omega
    have hc := hid (Bld.bwrite_any 58 [.bool wr] htW B b l (bs (packE [c])) w2 I (by omega) hBs.out)
    have hfin := hid (show ∀ w', Bld.Is 58 [.bool wr] B b (l ++ (bs (packE [c])).data.toList) w' → Below B w2 w' → Kept b w2 w' → WrP w2 B b (wC c o) n (m + 8300) w' from fun w' J b1 k1 => by
      refine ⟨⟨_, wr, J, by rw [List.length_append]; omega, by rw [List.length_append, len_size]; omega, ?_⟩, b1, k1⟩
      rw [ho.out]
      unfold wC
      rw [if_pos hR1, bs_list]
      cases wr <;> rfl)
    generalize bs (packE [c]) = s at hc hfin hbl ⊢
    clear I hR hR1 hbl hn hl
    go_wp2_with fail
    refine hc.out.mono ?_
    rintro e w3 ⟨rfl, J, b3, k3⟩
    replace S := hid (S.out.call (by decide) (hfin.out w3 J b3 k3))
    clear hc hfin J b3 k3 ho
    obtain ⟨k0, k1, k2, k3, k4, kf⟩ := five S.out.K
    obtain ⟨z0, z1, z2, z3, z4, zf⟩ := five S.out.R
    obtain ⟨F1, F2⟩ := S.out.fin (by decide) [.int .u8 (c.k : Nat), .string c.i, .string c.t, .string c.ut, .string c.ui] rfl
    replace F1 := hid F1
    replace F2 := hid F2
    clear S
    go_wp2_with fail
    obtain ⟨q0, q1, q2, q3, q4, -⟩ := five F1.out
    refine bodyPost_ret (v := .agg #[.int .u8 (c.k : Nat), .string c.i, .string c.t, .string c.ut, .string c.ui]) ?_ rfl ?_
    · simp only [stL] at q0 q1 q2 q3 q4
      simp [results, Try.results60, go_sem, q0, q1, q2, q3, q4]
    · exact ⟨rfl, F2.out⟩
  · rcases hz with ⟨hz, _⟩ | ⟨_, hR, rfl⟩
    case inl => exact absurd hz h0
    have hR1 : ¬ cR c := fun h => hR (packR_one.2 h)
    obtain ⟨p, v, c0, c1, c2, cf⟩ := is_cells I
    have hset := setb (w := w2) hge 2 (.bool true)
    have hc := hid (Bld.bwrite_any 58 [.bool true] htW B b l ⟨#[]⟩ (w2.setCell ⟨b, 2, none⟩ (.bool true)) (is_wrong (wr' := true) I) (by show _ + 0 ≤ _; omega) (by simpa using hBs.out))
    have hfin := hid (show ∀ w', Bld.Is 58 [.bool true] B b (l ++ (ByteArray.mk #[]).data.toList) w' → Below B (w2.setCell ⟨b, 2, none⟩ (.bool true)) w' → Kept b (w2.setCell ⟨b, 2, none⟩ (.bool true)) w' → WrP w2 B b (wC c o) n (m + 8300) w' from fun w' J b1 k1 => by
      refine ⟨⟨_, true, J, by rw [List.length_append]; omega, by rw [List.length_append]; show _ + 0 ≤ _; omega, ?_⟩, hset.1.trans b1, kept_trans hset.2 k1⟩
      unfold wC
      rw [if_neg hR1]
      rfl)
    have h0' : (z != 0) = true := by simpa using h0
    clear I hR hR1 hn hl hset
    go_wp2_with fail
    refine hc.out.mono ?_
    rintro e w3 ⟨rfl, J, b3, k3⟩
    replace S := hid (S.out.call (by decide) (hfin.out w3 J b3 k3))
    clear hc hfin J b3 k3 ho c0 c1 c2 cf
    obtain ⟨k0, k1, k2, k3, k4, kf⟩ := five S.out.K
    obtain ⟨z0, z1, z2, z3, z4, zf⟩ := five S.out.R
    obtain ⟨F1, F2⟩ := S.out.fin (by decide) [.int .u8 (c.k : Nat), .string c.i, .string c.t, .string c.ut, .string c.ui] rfl
    replace F1 := hid F1
    replace F2 := hid F2
    clear S
    go_wp2_with fail
    obtain ⟨q0, q1, q2, q3, q4, -⟩ := five F1.out
    refine bodyPost_ret (v := .agg #[.int .u8 (c.k : Nat), .string c.i, .string c.t, .string c.ut, .string c.ui]) ?_ rfl ?_
    · simp only [stL] at q0 q1 q2 q3 q4
      simp [results, Try.results60, go_sem, q0, q1, q2, q3, q4]
    · exact ⟨rfl, F2.out⟩
set_option maxHeartbeats 8000000 in
theorem wuid_any (B b n m : Nat) (o : Option (List UInt8)) (t i : ByteArray) (w : World) (h : Wr w B b o n m) (hm : m + 8 + t.size + i.size ≤ 90000000) (hBw : B ≤ w.heap.size) :
    Calls Try.prog 41 #[.iface 53 (.pointer (some ⟨b, 0, none⟩)), .agg #[.string t, .string i]] w fun e w' => e = .returned (.agg #[.string t, .string i]) ∧ WrP w B b (wT i (wT t o)) n (m + 4 + t.size + 4 + i.size) w' := by
  go_enter Try.func41, Try.ntmps41
  go_upto_region 1 with fail
  have S := hid (WX.new h hBw 26 [.string t, .string i] [.string ⟨#[]⟩, .string ⟨#[]⟩])
  change Hid (WX w B b _ _ _ _ _ _ _ _ ((w.alloc (.cells #[.string t, .string i] 26)).alloc (.cells #[.string ⟨#[]⟩, .string ⟨#[]⟩] 26))) at S
  generalize (w.alloc (.cells #[.string t, .string i] 26)).alloc (.cells #[.string ⟨#[]⟩, .string ⟨#[]⟩] 26) = X at S ⊢
  obtain ⟨pb, hpb⟩ : ∃ pb, w.heap.size = pb := ⟨_, rfl⟩
  obtain ⟨rb, hrb⟩ : ∃ rb, w.heap.size + 1 = rb := ⟨_, rfl⟩
  rw [hrb] at S ⊢
  rw [hpb] at S ⊢
  clear hpb hrb h
  obtain ⟨k0, k1, kf⟩ := S.out.K.two
  have hc := hid (wtext_any B b n m o t X S.out.wr (by omega) (by have := S.out.bel.size; have := S.out.hB; omega))
  go_wp2_with fail
  refine hc.out.mono ?_
  rintro e w1 ⟨rfl, hP⟩
  replace S := hid (S.out.call (by decide) hP)
  clear hc hP k0 k1 kf
  obtain ⟨k0, k1, kf⟩ := S.out.K.two
  go_upto_region 2 with fail
  replace S := hid ((S.out).set (by decide) 0 (.string t))
  change Hid (WX w B b pb rb _ _ _ _ [.string t, .string i] _ ((w1).setCell ⟨pb, 0, none⟩ (.string t))) at S
  clear k0 k1 kf
  generalize (w1).setCell ⟨pb, 0, none⟩ (.string t) = X1 at S ⊢
  obtain ⟨k0, k1, kf⟩ := S.out.K.two
  have hc := hid (wtext_any B b n (m + 4 + t.size) _ i X1 S.out.wr (by omega) (by have := S.out.bel.size; have := S.out.hB; omega))
  go_wp2_with fail
  refine hc.out.mono ?_
  rintro e w2 ⟨rfl, hP⟩
  replace S := hid (S.out.call (by decide) hP)
  clear hc hP k0 k1 kf
  obtain ⟨k0, k1, kf⟩ := S.out.K.two
  go_upto_region 3 with fail
  replace S := hid ((S.out).set (by decide) 1 (.string i))
  change Hid (WX w B b pb rb _ _ _ _ [.string t, .string i] _ ((w2).setCell ⟨pb, 1, none⟩ (.string i))) at S
  clear k0 k1 kf
  generalize (w2).setCell ⟨pb, 1, none⟩ (.string i) = X2 at S ⊢
  obtain ⟨k0, k1, kf⟩ := S.out.K.two
  obtain ⟨z0, z1, zf⟩ := S.out.R.two
  obtain ⟨F1, F2⟩ := S.out.fin (by decide) [.string t, .string i] rfl
  replace F1 := hid F1
  replace F2 := hid F2
  clear S
  go_wp2_with fail
  obtain ⟨q0, q1, -⟩ := F1.out.two
  refine bodyPost_ret (v := .agg #[.string t, .string i]) ?_ rfl ?_
  · simp only [stL] at q0 q1
    simp [results, Try.results41, go_sem, q0, q1]
  · exact ⟨rfl, F2.out⟩
def wQ (a : Ask) (o : Option (List UInt8)) : Option (List UInt8) := wT a.s6 (wT a.s5 (wT a.s4 (wT a.s3 (wT a.s2 (wT a.s1 (wT a.s0 o))))))
set_option maxHeartbeats 8000000 in
theorem wquery_any (B b n m : Nat) (o : Option (List UInt8)) (a : Ask) (w : World) (h : Wr w B b o n m) (hF : askF a) (hm : m ≤ 50000000) (hBw : B ≤ w.heap.size) :
    Calls Try.prog 32 #[.iface 53 (.pointer (some ⟨b, 0, none⟩)), .agg #[.int .u8 (a.k : Nat), .int .u64 (a.tx : Nat), .int .u8 (a.c.k : Nat), .string a.c.i, .string a.c.t, .string a.c.ut, .string a.c.ui, .int .u64 (a.v : Nat), .string a.s0, .string a.s1, .string a.s2, .string a.s3, .string a.s4, .string a.s5, .string a.s6]] w fun e w' => e = .returned (.agg #[.int .u8 (a.k : Nat), .int .u64 (a.tx : Nat), .int .u8 (a.c.k : Nat), .string a.c.i, .string a.c.t, .string a.c.ut, .string a.c.ui, .int .u64 (a.v : Nat), .string a.s0, .string a.s1, .string a.s2, .string a.s3, .string a.s4, .string a.s5, .string a.s6]) ∧ WrP w B b (wQ a o) n (m + 8000000) w' := by
  obtain ⟨_, _, f0, f1, f2, f3, f4, f5, f6⟩ := hF
  go_enter Try.func32, Try.ntmps32
  go_upto_region 1 with fail
  have S := hid (WX.new h hBw 30 [.int .u8 (a.k : Nat), .int .u64 (a.tx : Nat), .int .u8 (a.c.k : Nat), .string a.c.i, .string a.c.t, .string a.c.ut, .string a.c.ui, .int .u64 (a.v : Nat), .string a.s0, .string a.s1, .string a.s2, .string a.s3, .string a.s4, .string a.s5, .string a.s6] [.int .u8 0, .int .u64 0, .int .u8 0, .string ⟨#[]⟩, .string ⟨#[]⟩, .string ⟨#[]⟩, .string ⟨#[]⟩, .int .u64 0, .string ⟨#[]⟩, .string ⟨#[]⟩, .string ⟨#[]⟩, .string ⟨#[]⟩, .string ⟨#[]⟩, .string ⟨#[]⟩, .string ⟨#[]⟩])
  change Hid (WX w B b _ _ _ _ _ _ _ _ ((w.alloc (.cells #[.int .u8 (a.k : Nat), .int .u64 (a.tx : Nat), .int .u8 (a.c.k : Nat), .string a.c.i, .string a.c.t, .string a.c.ut, .string a.c.ui, .int .u64 (a.v : Nat), .string a.s0, .string a.s1, .string a.s2, .string a.s3, .string a.s4, .string a.s5, .string a.s6] 30)).alloc (.cells #[.int .u8 0, .int .u64 0, .int .u8 0, .string ⟨#[]⟩, .string ⟨#[]⟩, .string ⟨#[]⟩, .string ⟨#[]⟩, .int .u64 0, .string ⟨#[]⟩, .string ⟨#[]⟩, .string ⟨#[]⟩, .string ⟨#[]⟩, .string ⟨#[]⟩, .string ⟨#[]⟩, .string ⟨#[]⟩] 30))) at S
  generalize (w.alloc (.cells #[.int .u8 (a.k : Nat), .int .u64 (a.tx : Nat), .int .u8 (a.c.k : Nat), .string a.c.i, .string a.c.t, .string a.c.ut, .string a.c.ui, .int .u64 (a.v : Nat), .string a.s0, .string a.s1, .string a.s2, .string a.s3, .string a.s4, .string a.s5, .string a.s6] 30)).alloc (.cells #[.int .u8 0, .int .u64 0, .int .u8 0, .string ⟨#[]⟩, .string ⟨#[]⟩, .string ⟨#[]⟩, .string ⟨#[]⟩, .int .u64 0, .string ⟨#[]⟩, .string ⟨#[]⟩, .string ⟨#[]⟩, .string ⟨#[]⟩, .string ⟨#[]⟩, .string ⟨#[]⟩, .string ⟨#[]⟩] 30) = X at S ⊢
  obtain ⟨pb, hpb⟩ : ∃ pb, w.heap.size = pb := ⟨_, rfl⟩
  obtain ⟨rb, hrb⟩ : ∃ rb, w.heap.size + 1 = rb := ⟨_, rfl⟩
  rw [hrb] at S ⊢
  rw [hpb] at S ⊢
  clear hpb hrb h
  obtain ⟨k0, k1, k2, k3, k4, k5, k6, k7, k8, k9, k10, k11, k12, k13, k14, kf⟩ := fifteen S.out.K
  have hc := hid (wuid_any B b n _ _ a.s0 a.s1 X S.out.wr (by omega) (by have := S.out.bel.size; have := S.out.hB; omega))
  go_wp2_with fail
  refine hc.out.mono ?_
  rintro e w1 ⟨rfl, hP⟩
  replace S := hid (S.out.call (by decide) hP)
  clear hc hP k0 k1 k2 k3 k4 k5 k6 k7 k8 k9 k10 k11 k12 k13 k14 kf
  obtain ⟨k0, k1, k2, k3, k4, k5, k6, k7, k8, k9, k10, k11, k12, k13, k14, kf⟩ := fifteen S.out.K
  go_upto_region 2 with fail
  replace S := hid (((S.out).set (by decide) 8 (.string a.s0)).set (by decide) 9 (.string a.s1))
  change Hid (WX w B b pb rb _ _ _ _ [.int .u8 (a.k : Nat), .int .u64 (a.tx : Nat), .int .u8 (a.c.k : Nat), .string a.c.i, .string a.c.t, .string a.c.ut, .string a.c.ui, .int .u64 (a.v : Nat), .string a.s0, .string a.s1, .string a.s2, .string a.s3, .string a.s4, .string a.s5, .string a.s6] _ (((w1).setCell ⟨pb, 8, none⟩ (.string a.s0)).setCell ⟨pb, 9, none⟩ (.string a.s1))) at S
  clear k0 k1 k2 k3 k4 k5 k6 k7 k8 k9 k10 k11 k12 k13 k14 kf
  generalize ((w1).setCell ⟨pb, 8, none⟩ (.string a.s0)).setCell ⟨pb, 9, none⟩ (.string a.s1) = X1 at S ⊢
  obtain ⟨k0, k1, k2, k3, k4, k5, k6, k7, k8, k9, k10, k11, k12, k13, k14, kf⟩ := fifteen S.out.K
  have hc := hid (wuid_any B b n _ _ a.s2 a.s3 X1 S.out.wr (by omega) (by have := S.out.bel.size; have := S.out.hB; omega))
  go_wp2_with fail
  refine hc.out.mono ?_
  rintro e w2 ⟨rfl, hP⟩
  replace S := hid (S.out.call (by decide) hP)
  clear hc hP k0 k1 k2 k3 k4 k5 k6 k7 k8 k9 k10 k11 k12 k13 k14 kf
  obtain ⟨k0, k1, k2, k3, k4, k5, k6, k7, k8, k9, k10, k11, k12, k13, k14, kf⟩ := fifteen S.out.K
  go_upto_region 3 with fail
  replace S := hid (((S.out).set (by decide) 10 (.string a.s2)).set (by decide) 11 (.string a.s3))
  change Hid (WX w B b pb rb _ _ _ _ [.int .u8 (a.k : Nat), .int .u64 (a.tx : Nat), .int .u8 (a.c.k : Nat), .string a.c.i, .string a.c.t, .string a.c.ut, .string a.c.ui, .int .u64 (a.v : Nat), .string a.s0, .string a.s1, .string a.s2, .string a.s3, .string a.s4, .string a.s5, .string a.s6] _ (((w2).setCell ⟨pb, 10, none⟩ (.string a.s2)).setCell ⟨pb, 11, none⟩ (.string a.s3))) at S
  clear k0 k1 k2 k3 k4 k5 k6 k7 k8 k9 k10 k11 k12 k13 k14 kf
  generalize ((w2).setCell ⟨pb, 10, none⟩ (.string a.s2)).setCell ⟨pb, 11, none⟩ (.string a.s3) = X2 at S ⊢
  obtain ⟨k0, k1, k2, k3, k4, k5, k6, k7, k8, k9, k10, k11, k12, k13, k14, kf⟩ := fifteen S.out.K
  have hc := hid (wuid_any B b n _ _ a.s4 a.s5 X2 S.out.wr (by omega) (by have := S.out.bel.size; have := S.out.hB; omega))
  go_wp2_with fail
  refine hc.out.mono ?_
  rintro e w3 ⟨rfl, hP⟩
  replace S := hid (S.out.call (by decide) hP)
  clear hc hP k0 k1 k2 k3 k4 k5 k6 k7 k8 k9 k10 k11 k12 k13 k14 kf
  obtain ⟨k0, k1, k2, k3, k4, k5, k6, k7, k8, k9, k10, k11, k12, k13, k14, kf⟩ := fifteen S.out.K
  go_upto_region 4 with fail
  replace S := hid (((S.out).set (by decide) 12 (.string a.s4)).set (by decide) 13 (.string a.s5))
  change Hid (WX w B b pb rb _ _ _ _ [.int .u8 (a.k : Nat), .int .u64 (a.tx : Nat), .int .u8 (a.c.k : Nat), .string a.c.i, .string a.c.t, .string a.c.ut, .string a.c.ui, .int .u64 (a.v : Nat), .string a.s0, .string a.s1, .string a.s2, .string a.s3, .string a.s4, .string a.s5, .string a.s6] _ (((w3).setCell ⟨pb, 12, none⟩ (.string a.s4)).setCell ⟨pb, 13, none⟩ (.string a.s5))) at S
  clear k0 k1 k2 k3 k4 k5 k6 k7 k8 k9 k10 k11 k12 k13 k14 kf
  generalize ((w3).setCell ⟨pb, 12, none⟩ (.string a.s4)).setCell ⟨pb, 13, none⟩ (.string a.s5) = X3 at S ⊢
  obtain ⟨k0, k1, k2, k3, k4, k5, k6, k7, k8, k9, k10, k11, k12, k13, k14, kf⟩ := fifteen S.out.K
  have hc := hid (wtext_any B b n _ _ a.s6 X3 S.out.wr (by omega) (by have := S.out.bel.size; have := S.out.hB; omega))
  go_wp2_with fail
  refine hc.out.mono ?_
  rintro e w4 ⟨rfl, hP⟩
  replace S := hid (S.out.call (by decide) hP)
  clear hc hP k0 k1 k2 k3 k4 k5 k6 k7 k8 k9 k10 k11 k12 k13 k14 kf
  obtain ⟨k0, k1, k2, k3, k4, k5, k6, k7, k8, k9, k10, k11, k12, k13, k14, kf⟩ := fifteen S.out.K
  go_upto_region 5 with fail
  replace S := hid ((S.out).set (by decide) 14 (.string a.s6))
  change Hid (WX w B b pb rb _ _ _ _ [.int .u8 (a.k : Nat), .int .u64 (a.tx : Nat), .int .u8 (a.c.k : Nat), .string a.c.i, .string a.c.t, .string a.c.ut, .string a.c.ui, .int .u64 (a.v : Nat), .string a.s0, .string a.s1, .string a.s2, .string a.s3, .string a.s4, .string a.s5, .string a.s6] _ ((w4).setCell ⟨pb, 14, none⟩ (.string a.s6))) at S
  clear k0 k1 k2 k3 k4 k5 k6 k7 k8 k9 k10 k11 k12 k13 k14 kf
  generalize (w4).setCell ⟨pb, 14, none⟩ (.string a.s6) = X4 at S ⊢
  obtain ⟨k0, k1, k2, k3, k4, k5, k6, k7, k8, k9, k10, k11, k12, k13, k14, kf⟩ := fifteen S.out.K
  obtain ⟨z0, z1, z2, z3, z4, z5, z6, z7, z8, z9, z10, z11, z12, z13, z14, zf⟩ := fifteen S.out.R
  obtain ⟨F1, F2⟩ := S.out.fin (by decide) [.int .u8 (a.k : Nat), .int .u64 (a.tx : Nat), .int .u8 (a.c.k : Nat), .string a.c.i, .string a.c.t, .string a.c.ut, .string a.c.ui, .int .u64 (a.v : Nat), .string a.s0, .string a.s1, .string a.s2, .string a.s3, .string a.s4, .string a.s5, .string a.s6] rfl
  replace F1 := hid F1
  replace F2 := hid F2
  clear S
  go_wp2_with fail
  obtain ⟨q0, q1, q2, q3, q4, q5, q6, q7, q8, q9, q10, q11, q12, q13, q14, -⟩ := fifteen F1.out
  refine bodyPost_ret (v := .agg #[.int .u8 (a.k : Nat), .int .u64 (a.tx : Nat), .int .u8 (a.c.k : Nat), .string a.c.i, .string a.c.t, .string a.c.ut, .string a.c.ui, .int .u64 (a.v : Nat), .string a.s0, .string a.s1, .string a.s2, .string a.s3, .string a.s4, .string a.s5, .string a.s6]) ?_ rfl ?_
  · simp only [stL] at q0 q1 q2 q3 q4 q5 q6 q7 q8 q9 q10 q11 q12 q13 q14
    simp [results, Try.results32, go_sem, q0, q1, q2, q3, q4, q5, q6, q7, q8, q9, q10, q11, q12, q13, q14]
  · exact ⟨rfl, F2.out.1.mono (Nat.le_refl _) (by omega), F2.out.2⟩
end Go.Proofs.Ytldlkoiekdlmhaa.Wi
