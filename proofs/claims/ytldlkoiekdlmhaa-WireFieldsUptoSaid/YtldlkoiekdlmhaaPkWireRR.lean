/-
  wire's calls: contracts. Written by wip/wiretopgen.py.
-/
import Derived.Test.YtldlkoiekdlmhaaWireStW
import Derived.Test.YtldlkoiekdlmhaaWireRep
import Derived.Test.YtldlkoiekdlmhaaPkPush2
import Derived.Test.YtldlkoiekdlmhaaPkWireRA
namespace Go.Proofs.Ytldlkoiekdlmhaa.Wi
open Go.ChangeShapes Go.WideShapes Go.ChangeAt Go.RowKit
open Go.Proofs.Ytldlkoiekdlmhaa.Mem
open Go.Proofs.Ytldlkoiekdlmhaa.Lik (Kept)
open Go.Proofs.Ytldlkoiekdlmhaa.Crc hiding hid bt
set_option linter.unusedVariables false
set_option linter.unusedSimpArgs false
set_option maxRecDepth 100000
/-- what is written of a request -/
def wA (a : Ask) (o : Option (List UInt8)) : Option (List UInt8) :=
  if a.k = 2 then wC a.c (wN a.tx (w1 a.k o)) else if a.k = 3 ∨ a.k = 4 then wN a.tx (w1 a.k o) else if a.k = 5 then wQ a (w1 a.k o) else if a.k = 6 then wQ a (wN a.v (w1 a.k o)) else w1 a.k o
end Go.Proofs.Ytldlkoiekdlmhaa.Wi
namespace Go.Proofs.Ytldlkoiekdlmhaa.Wi
open Go.Proofs.Ytldlkoiekdlmhaa.Crc hiding hid bt
set_option linter.unusedVariables false
set_option linter.unusedSimpArgs false
theorem wT_none (s : ByteArray) : wT s none = none := by unfold wT; split <;> rfl
theorem wQ_some (a : Ask) (l : List UInt8) : wQ a (some l) = if qS a then some (l ++ qE a) else none := by
  unfold wQ
  by_cases h0 : a.s0.size ≤ 2048
  case neg => rw [if_neg (fun h => h0 h.1)]; simp only [wT, if_neg h0, Option.map_none, ite_self]
  by_cases h1 : a.s1.size ≤ 2048
  case neg => rw [if_neg (fun h => h1 h.2.1)]; simp only [wT, if_neg h1, Option.map_none, ite_self]
  by_cases h2 : a.s2.size ≤ 2048
  case neg => rw [if_neg (fun h => h2 h.2.2.1)]; simp only [wT, if_neg h2, Option.map_none, ite_self]
  by_cases h3 : a.s3.size ≤ 2048
  case neg => rw [if_neg (fun h => h3 h.2.2.2.1)]; simp only [wT, if_neg h3, Option.map_none, ite_self]
  by_cases h4 : a.s4.size ≤ 2048
  case neg => rw [if_neg (fun h => h4 h.2.2.2.2.1)]; simp only [wT, if_neg h4, Option.map_none, ite_self]
  by_cases h5 : a.s5.size ≤ 2048
  case neg => rw [if_neg (fun h => h5 h.2.2.2.2.2.1)]; simp only [wT, if_neg h5, Option.map_none, ite_self]
  by_cases h6 : a.s6.size ≤ 2048
  case neg => rw [if_neg (fun h => h6 h.2.2.2.2.2.2)]; simp only [wT, if_neg h6]
  rw [if_pos ⟨h0, h1, h2, h3, h4, h5, h6⟩]
  simp only [wT, if_pos h0, if_pos h1, if_pos h2, if_pos h3, if_pos h4, if_pos h5, if_pos h6, Option.map_some, qE, List.append_assoc]
/-- what is written of a request, if nothing was wrong -/
theorem wA_some (a : Ask) (ha : askN a) (l : List UInt8) (h : wA a (some []) = some l) : l = askE a ∧ (a.k = 2 → cR a.c) ∧ (a.k = 5 ∨ a.k = 6 → qS a) := by
  have hk : w1 (a.k : Int) (some []) = some [UInt8.ofNat a.k] := by
    unfold w1
    rw [if_pos ⟨by omega, by have := ha.1; omega⟩]
    simp
  unfold wA at h
  rw [hk] at h
  unfold askE askT
  by_cases h2 : a.k = 2
  · rw [if_pos h2] at h ⊢
    unfold wC wN at h
    by_cases hc : cR a.c
    · rw [if_pos hc] at h
      simp at h
      exact ⟨by rw [← h], fun _ => hc, fun h => by omega⟩
    · rw [if_neg hc] at h; cases h
  · rw [if_neg h2] at h ⊢
    by_cases h3 : a.k = 3 ∨ a.k = 4
    · rw [if_pos h3] at h ⊢
      unfold wN at h
      simp at h
      exact ⟨by rw [← h], fun h => absurd h h2, fun h => by omega⟩
    · rw [if_neg h3] at h ⊢
      by_cases h5 : a.k = 5
      · rw [if_pos h5] at h ⊢
        rw [wQ_some] at h
        by_cases hq : qS a
        · rw [if_pos hq] at h
          simp at h
          exact ⟨by rw [← h], fun h => absurd h h2, fun _ => hq⟩
        · rw [if_neg hq] at h; cases h
      · rw [if_neg h5] at h ⊢
        by_cases h6 : a.k = 6
        · rw [if_pos h6] at h ⊢
          unfold wN at h
          rw [Option.map_some, wQ_some] at h
          by_cases hq : qS a
          · rw [if_pos hq] at h
            simp at h
            exact ⟨by rw [← h], fun h => absurd h h2, fun _ => hq⟩
          · rw [if_neg hq] at h; cases h
        · rw [if_neg h6] at h ⊢
          cases h
          exact ⟨rfl, fun h => absurd h h2, fun h => by omega⟩
theorem wA_right (a : Ask) (ha : askN a) (hr : askR a) : wA a (some []) = some (askE a) := by
  obtain ⟨hk8, htx, hc, hv, hq⟩ := hr
  have hk : w1 (a.k : Int) (some []) = some [UInt8.ofNat a.k] := by
    unfold w1
    rw [if_pos ⟨by omega, by have := ha.1; omega⟩]
    simp
  unfold wA
  rw [hk]
  unfold askE askT
  by_cases h2 : a.k = 2
  · rw [if_pos h2] at hc ⊢
    rw [if_pos h2]
    unfold wC wN
    rw [if_pos hc]
    simp
  · rw [if_neg h2, if_neg h2]
    by_cases h3 : a.k = 3 ∨ a.k = 4
    · rw [if_pos h3, if_pos h3]; rfl
    · rw [if_neg h3, if_neg h3]
      by_cases h5 : a.k = 5
      · rw [if_pos h5, if_pos h5]
        rw [if_pos (.inl h5)] at hq
        rw [wQ_some, if_pos hq]; rfl
      · rw [if_neg h5, if_neg h5]
        by_cases h6 : a.k = 6
        · rw [if_pos h6, if_pos h6]
          rw [if_pos (.inr h6)] at hq
          unfold wN
          rw [Option.map_some, wQ_some, if_pos hq]
          simp
        · rw [if_neg h6, if_neg h6]
theorem wTs_none : ∀ l, wTs l none = none := by
  intro l
  induction l with
  | nil => rfl
  | cons s l ih => show wTs l (wT s none) = none; rw [wT_none, ih]
theorem wTs_some : ∀ (l : List ByteArray) (m : List UInt8), wTs l (some m) = if ∀ s ∈ l, s.size ≤ 2048 then some (m ++ l.flatMap txt) else none := by
  intro l
  induction l with
  | nil => intro m; simp [wTs]
  | cons s l ih =>
    intro m
    show wTs l (wT s (some m)) = _
    unfold wT
    by_cases hs : s.size ≤ 2048
    · rw [if_pos hs, Option.map_some, ih]
      by_cases hl : ∀ x ∈ l, x.size ≤ 2048
      · rw [if_pos hl, if_pos (by intro x hx; rcases List.mem_cons.1 hx with rfl | hx; exact hs; exact hl x hx)]
        simp
      · rw [if_neg hl, if_neg (fun h => hl fun x hx => h x (List.mem_cons_of_mem _ hx))]
    · rw [if_neg hs, wTs_none, if_neg (fun h => hs (h s (by simp)))]
theorem wL_some (l : List ByteArray) (m : List UInt8) (o : List UInt8) (h : wL l (some m) = some o) : lR l ∧ o = m ++ lE l := by
  unfold wL w1 at h
  by_cases hn : (0 : Int) ≤ (l.length : Int) ∧ (l.length : Int) ≤ 255
  · rw [if_pos hn, Option.map_some, wTs_some] at h
    by_cases hl : ∀ s ∈ l, s.size ≤ 2048
    · rw [if_pos hl] at h
      simp only [Option.some.injEq] at h
      exact ⟨⟨by omega, hl⟩, by rw [← h]; simp [lE]⟩
    · rw [if_neg hl] at h; cases h
  · rw [if_neg hn, wTs_none] at h; cases h
theorem wL_right (l : List ByteArray) (m : List UInt8) (h : lR l) : wL l (some m) = some (m ++ lE l) := by
  unfold wL w1
  have := h.1
  rw [if_pos (by omega), Option.map_some, wTs_some, if_pos h.2]
  simp [lE]
theorem wL_none (l : List ByteArray) : wL l none = none := by
  unfold wL w1
  split <;> exact wTs_none l
theorem wR_some (r : Rep) (o : List UInt8) (h : wR r (some []) = some o) : repR r ∧ o = repE r := by
  unfold wR at h
  cases h1 : w1 r.why (some []) with
  | none => rw [h1] at h; simp [wN, wF, wL_none, w1] at h
  | some l1 =>
    rw [h1] at h
    have hw : (0 ≤ r.why ∧ r.why ≤ 255) ∧ l1 = [UInt8.ofNat r.why.toNat] := by
      unfold w1 at h1
      by_cases hc : 0 ≤ r.why ∧ r.why ≤ 255
      · rw [if_pos hc] at h1; simp at h1; exact ⟨hc, h1.symm⟩
      · rw [if_neg hc] at h1; cases h1
    rw [show wN r.n (some l1) = some (l1 ++ leb 8 r.n) from rfl] at h
    cases h2 : w1 r.place (some (l1 ++ leb 8 r.n)) with
    | none => rw [h2] at h; simp [wF, wL_none] at h
    | some l2 =>
      rw [h2] at h
      have hp : (0 ≤ r.place ∧ r.place ≤ 255) ∧ l2 = (l1 ++ leb 8 r.n) ++ [UInt8.ofNat r.place.toNat] := by
        unfold w1 at h2
        by_cases hc : 0 ≤ r.place ∧ r.place ≤ 255
        · rw [if_pos hc] at h2; simp only [Option.map_some, Option.some.injEq] at h2; exact ⟨hc, h2.symm⟩
        · rw [if_neg hc] at h2; cases h2
      rw [show wF r.allow (some l2) = some (l2 ++ [fl r.allow]) from rfl] at h
      cases h3 : wL r.ids (some (l2 ++ [fl r.allow])) with
      | none => rw [h3, wL_none] at h; cases h
      | some l3 =>
        rw [h3] at h
        obtain ⟨hi, e3⟩ := wL_some _ _ _ h3
        obtain ⟨he, e4⟩ := wL_some _ _ _ h
        refine ⟨⟨hw.1, hp.1, hi, he⟩, ?_⟩
        rw [e4, e3, hp.2, hw.2]
        simp [repE]
theorem wR_right (r : Rep) (h : repR r) : wR r (some []) = some (repE r) := by
  obtain ⟨hw, hp, hi, he⟩ := h
  unfold wR
  have e1 : w1 r.why (some []) = some [UInt8.ofNat r.why.toNat] := by unfold w1; rw [if_pos hw]; rfl
  rw [e1, show wN r.n (some [UInt8.ofNat r.why.toNat]) = some ([UInt8.ofNat r.why.toNat] ++ leb 8 r.n) from rfl]
  have e2 : w1 r.place (some ([UInt8.ofNat r.why.toNat] ++ leb 8 r.n)) = some (([UInt8.ofNat r.why.toNat] ++ leb 8 r.n) ++ [UInt8.ofNat r.place.toNat]) := by unfold w1; rw [if_pos hp]; rfl
  rw [e2, show ∀ l, wF r.allow (some l) = some (l ++ [fl r.allow]) from fun _ => rfl, wL_right _ _ hi, wL_right _ _ he]
  simp [repE]
end Go.Proofs.Ytldlkoiekdlmhaa.Wi
namespace Go.Proofs.Ytldlkoiekdlmhaa.Wi
open Go.ChangeShapes Go.WideShapes Go.ChangeAt Go.RowKit
open Go.Proofs.Ytldlkoiekdlmhaa.Mem
open Go.Proofs.Ytldlkoiekdlmhaa.Lik (Kept)
open Go.Proofs.Ytldlkoiekdlmhaa.Crc hiding hid bt
set_option linter.unusedVariables false
set_option linter.unusedSimpArgs false
set_option maxRecDepth 100000
/-- what ReadReply answers of bytes -/
def RepP (s : List UInt8) (r : Rep) (z : Int) : Prop := z = 0 ∧ repR r ∧ repN r ∧ repE r = s ∨ z = 14 ∧ r = repZ ∧ ∀ r', repR r' → repN r' → repE r' ≠ s
theorem rep_yes {s : List UInt8} {r : Rep} {o : Option (List UInt8)} (h : Res pR (some s) r o) (hd : dn o = true) : RepP s r 0 := by
  rw [dn_iff] at hd
  obtain ⟨q1, q2⟩ := h
  simp only [Option.bind_some] at q1 q2
  cases hp : pR s with
  | none => rw [hp, hd] at q1; cases q1
  | some x =>
    rw [hp, hd] at q1
    have q3 := q2 x.1 x.2 hp
    have q4 : x.2 = [] := by simpa using q1.symm
    obtain ⟨e, hr, hn⟩ := pR_of (r := r) (t := []) (by rw [hp, show x = (r, []) from Prod.ext q3.symm q4])
    exact .inl ⟨rfl, hr, hn, by rw [e, List.append_nil]⟩
theorem rep_no {s : List UInt8} {r : Rep} {o : Option (List UInt8)} (h : Res pR (some s) r o) (hn : dn o = false) : RepP s repZ 14 := by
  refine .inr ⟨rfl, rfl, fun r' hr hN e => ?_⟩
  obtain ⟨q1, q2⟩ := h
  have hp := pR_E r' hr hN []
  rw [List.append_nil, e] at hp
  simp only [Option.bind_some] at q1 q2
  rw [hp] at q1
  have : dn o = true := by rw [dn_iff, q1]; rfl
  rw [this] at hn; cases hn
set_option maxHeartbeats 16000000 in
theorem readreply_any (s : ByteArray) (w : World) (hs : s.size ≤ 16777216) :
    Calls Try.prog 16 #[.string s] w fun e w' => (∃ (r : Rep) (so : Option Addr) (sc : Nat) (to : Option Addr) (tc : Nat) (z : Int), e = .returned (.tuple #[.agg #[.int .i64 r.why, .int .u64 (r.n : Nat), .int .i64 r.place, .bool r.allow, .slice so r.ids.length sc, .slice to r.errs.length tc], .int .i64 z]) ∧ StrsV w' (.slice so r.ids.length sc) r.ids ∧ StrsV w' (.slice to r.errs.length tc) r.errs ∧ lR r.ids ∧ lR r.errs ∧ repN r ∧ RepP s.data.toList r z) ∧ Below w.heap.size w w' := by
  go_enter Try.func16, Try.ntmps16
  go_upto_region 2 with fail
  have R := hid ((Blk.new w [.int .i64 0, .int .u64 0, .int .i64 0, .bool false, .slice none 0 0, .slice none 0 0] 42).alloc (.cells #[.string s, .bool false] 67))
  have D := hid (show Rd ((w.alloc (.cells #[.int .i64 0, .int .u64 0, .int .i64 0, .bool false, .slice none 0 0, .slice none 0 0] 42)).alloc (.cells #[.string s, .bool false] 67)) (w.heap.size + 1) (some s.data.toList) from ⟨s, false, Blk.new' _ [.string s, .bool false] 67 _ (by simp), hs, rfl⟩)
  have bw := hid (((Below.refl w.heap.size w).alloc (Nat.le_refl _) (.cells #[.int .i64 0, .int .u64 0, .int .i64 0, .bool false, .slice none 0 0, .slice none 0 0] 42)).alloc (by simp) (.cells #[.string s, .bool false] 67))
  change Hid (Blk ((w.alloc (.cells #[.int .i64 0, .int .u64 0, .int .i64 0, .bool false, .slice none 0 0, .slice none 0 0] 42)).alloc (.cells #[.string s, .bool false] 67)) _ _ _) at R
  generalize (w.alloc (.cells #[.int .i64 0, .int .u64 0, .int .i64 0, .bool false, .slice none 0 0, .slice none 0 0] 42)).alloc (.cells #[.string s, .bool false] 67) = X at R D bw ⊢
  obtain ⟨b, hb⟩ : ∃ b, w.heap.size + 1 = b := ⟨_, rfl⟩
  obtain ⟨rb, hrb⟩ : ∃ rb, w.heap.size = rb := ⟨_, rfl⟩
  rw [hb] at D ⊢
  have hbr := hid (show rb ≠ b ∧ w.heap.size ≤ rb ∧ w.heap.size ≤ b by omega)
  rw [hrb] at R ⊢
  clear hb hrb
  have hrX := hid R.out.lt
  have hc := hid (rreply_any b _ X D.out)
  go_wp2_with fail
  refine hc.out.mono ?_
  rintro e w1' ⟨r, so, sc, to, tc, rfl, V1, V2, L1, L2, hN, o1, r1, r2, r3⟩
  replace R := hid (R.out.but r3 R.out.lt hbr.out.1)
  replace bw := hid (bw.out.trans (r3.below hbr.out.2.2 bw.out.size))
  replace D := hid r1
  replace r2 := hid r2
  replace V1 := hid V1
  replace V2 := hid V2
  replace L1 := hid L1
  replace L2 := hid L2
  clear hc r1 r3
  go_upto_region 3 with fail
  have ba := hid ((Below.refl w1'.heap.size w1').alloc (Nat.le_refl _) (.cells #[.int .i64 r.why, .int .u64 (r.n : Nat), .int .i64 r.place, .bool r.allow, .slice so r.ids.length sc, .slice to r.errs.length tc] 42))
  have K := hid (Blk.new w1' [.int .i64 r.why, .int .u64 (r.n : Nat), .int .i64 r.place, .bool r.allow, .slice so r.ids.length sc, .slice to r.errs.length tc] 42)
  replace R := hid (R.out.alloc (.cells #[.int .i64 r.why, .int .u64 (r.n : Nat), .int .i64 r.place, .bool r.allow, .slice so r.ids.length sc, .slice to r.errs.length tc] 42))
  replace D := hid (D.out.below ba.out)
  replace V1 := hid (ownsRow_below V1.out ba.out)
  replace V2 := hid (ownsRow_below V2.out ba.out)
  replace bw := hid (bw.out.alloc bw.out.size (.cells #[.int .i64 r.why, .int .u64 (r.n : Nat), .int .i64 r.place, .bool r.allow, .slice so r.ids.length sc, .slice to r.errs.length tc] 42))
  change Hid (Blk (w1'.alloc (.cells #[.int .i64 r.why, .int .u64 (r.n : Nat), .int .i64 r.place, .bool r.allow, .slice so r.ids.length sc, .slice to r.errs.length tc] 42)) _ _ _) at K
  clear ba
  generalize w1'.alloc (.cells #[.int .i64 r.why, .int .u64 (r.n : Nat), .int .i64 r.place, .bool r.allow, .slice so r.ids.length sc, .slice to r.errs.length tc] 42) = X1 at K R D bw V1 V2 ⊢
  obtain ⟨pb, hpb⟩ : ∃ pb, w1'.heap.size = pb := ⟨_, rfl⟩
  rw [hpb] at K ⊢
  clear hpb
  have hc := hid (done_any b o1 X1 D.out)
  go_wp2_with fail
  refine hc.out.mono ?_
  rintro e w2 ⟨rfl, b2⟩
  replace K := hid (K.out.below b2 K.out.lt)
  replace R := hid (R.out.below b2 R.out.lt)
  replace bw := hid (bw.out.trans (b2.mono bw.out.size))
  replace V1 := hid (ownsRow_below V1.out b2)
  replace V2 := hid (ownsRow_below V2.out b2)
  clear b2 hc D
  cases hd : dn o1 with
  | true =>
    have hP := hid (rep_yes r2.out hd)
    have F1 := hid (R.out.row [.int .i64 r.why, .int .u64 (r.n : Nat), .int .i64 r.place, .bool r.allow, .slice so r.ids.length sc, .slice to r.errs.length tc])
    have F2 := hid (below_row bw.out hbr.out.2.1 #[.int .i64 r.why, .int .u64 (r.n : Nat), .int .i64 r.place, .bool r.allow, .slice so r.ids.length sc, .slice to r.errs.length tc])
    have G1 := hid (show StrsV (w2.setRow rb #[.int .i64 r.why, .int .u64 (r.n : Nat), .int .i64 r.place, .bool r.allow, .slice so r.ids.length sc, .slice to r.errs.length tc]) (.slice so r.ids.length sc) r.ids from SlV.own (ownsRow_at V1.out fun g hg => setRow_other _ _ _ _ (by have := V1.out.lt g hg; have := hrX.out; omega)))
    have G2 := hid (show StrsV (w2.setRow rb #[.int .i64 r.why, .int .u64 (r.n : Nat), .int .i64 r.place, .bool r.allow, .slice so r.ids.length sc, .slice to r.errs.length tc]) (.slice to r.errs.length tc) r.errs from SlV.own (ownsRow_at V2.out fun g hg => setRow_other _ _ _ _ (by have := V2.out.lt g hg; have := hrX.out; omega)))
    clear r2 V1 V2 hd
    as_aux_lemma =>
    go_upto_region 5 with fail
    refine wp_region_lit ?_
    refine wpList_load_row rfl 42 (.tmp 5) rfl pb rfl 42 _ (0, 0) _ K.out.at' Try.underlying42 rfl (by kernel_rfl) ?_
    refine wpList_store_row rfl 42 (.tmp 2) (.tmp 17) rfl rb #[.int .i64 r.why, .int .u64 (r.n : Nat), .int .i64 r.place, .bool r.allow, .slice so r.ids.length sc, .slice to r.errs.length tc] rfl rfl 42 _ R.out.at' (by kernel_rfl) rfl (by simp [Value.oneCell']) ?_
    generalize w2.setRow rb #[.int .i64 r.why, .int .u64 (r.n : Nat), .int .i64 r.place, .bool r.allow, .slice so r.ids.length sc, .slice to r.errs.length tc] = W3 at F1 F2 G1 G2 ⊢
    go_wp2_with fail
    refine bodyPost_ret (v := .tuple #[.agg #[.int .i64 r.why, .int .u64 (r.n : Nat), .int .i64 r.place, .bool r.allow, .slice so r.ids.length sc, .slice to r.errs.length tc], .int .i64 0]) (results_ct Try.results16 _ _ rb 42 _ (0, 0) _ rfl F1.out.at' Try.underlying42 rfl (by kernel_rfl)) rfl ?_
    exact ⟨⟨r, so, sc, to, tc, 0, rfl, G1.out, G2.out, L1.out, L2.out, hN, hP.out⟩, F2.out⟩
  | false =>
    have hP := hid (rep_no r2.out hd)
    have F1 := hid (R.out.row [.int .i64 0, .int .u64 0, .int .i64 0, .bool false, .slice none 0 0, .slice none 0 0])
    have F2 := hid (below_row bw.out hbr.out.2.1 #[.int .i64 0, .int .u64 0, .int .i64 0, .bool false, .slice none 0 0, .slice none 0 0])
    clear r2 V1 V2 hd
    as_aux_lemma =>
    go_upto_region 4 with fail
    refine wp_region_lit ?_
    refine wpList_build0 rfl 42 rfl #[.int .i64 0, .int .u64 0, .int .i64 0, .bool false, .slice none 0 0, .slice none 0 0] (by kernel_rfl) ?_
    refine wpList_store_row rfl 42 (.tmp 2) (.tmp 16) rfl rb #[.int .i64 0, .int .u64 0, .int .i64 0, .bool false, .slice none 0 0, .slice none 0 0] rfl rfl 42 _ R.out.at' (by kernel_rfl) rfl (by simp [Value.oneCell']) ?_
    generalize w2.setRow rb #[.int .i64 0, .int .u64 0, .int .i64 0, .bool false, .slice none 0 0, .slice none 0 0] = W3 at F1 F2 ⊢
    go_wp2_with fail
    refine bodyPost_ret (v := .tuple #[.agg #[.int .i64 0, .int .u64 0, .int .i64 0, .bool false, .slice none 0 0, .slice none 0 0], .int .i64 14]) (results_ct Try.results16 _ _ rb 42 _ (0, 0) _ rfl F1.out.at' Try.underlying42 rfl (by kernel_rfl)) rfl ?_
    exact ⟨⟨repZ, none, 0, none, 0, 14, rfl, SlV.nil _, SlV.nil _, ⟨by decide, by simp [repZ]⟩, ⟨by decide, by simp [repZ]⟩, (by show (0 : Nat) < 18446744073709551616; decide), hP.out⟩, F2.out⟩
/-- what WriteReply answers of a reply -/
def RepW (r : Rep) (s : ByteArray) (z : Int) : Prop := z = 0 ∧ repR r ∧ s = bs (repE r) ∨ z = 14 ∧ ¬ repR r ∧ s = ⟨#[]⟩
set_option maxHeartbeats 16000000 in
theorem writereply_any (r : Rep) (so to : Option Addr) (sc tc : Nat) (w : World) (hV1 : StrsV w (.slice so r.ids.length sc) r.ids) (hV2 : StrsV w (.slice to r.errs.length tc) r.errs) (hn : repN r) (hl1 : r.ids.length ≤ 1048576) (hl2 : r.errs.length ≤ 1048576) (hm : repT r ≤ 90000000) :
    Calls Try.prog 14 #[.agg #[.int .i64 r.why, .int .u64 (r.n : Nat), .int .i64 r.place, .bool r.allow, .slice so r.ids.length sc, .slice to r.errs.length tc]] w fun e w' => (∃ (s : ByteArray) (z : Int), e = .returned (.tuple #[.string s, .int .i64 z]) ∧ RepW r s z) ∧ Below w.heap.size w w' := by
  go_enter Try.func14, Try.ntmps14
  go_upto_region 2 with fail
  have ba := hid ((Below.refl w.heap.size w).alloc (Nat.le_refl _) (.cells #[.int .i64 r.why, .int .u64 (r.n : Nat), .int .i64 r.place, .bool r.allow, .slice so r.ids.length sc, .slice to r.errs.length tc] 42))
  have V1 := hid (hV1.below ba.out)
  have V2 := hid (hV2.below ba.out)
  have bb := hid ((Below.refl (w.alloc (.cells #[.int .i64 r.why, .int .u64 (r.n : Nat), .int .i64 r.place, .bool r.allow, .slice so r.ids.length sc, .slice to r.errs.length tc] 42)).heap.size (w.alloc (.cells #[.int .i64 r.why, .int .u64 (r.n : Nat), .int .i64 r.place, .bool r.allow, .slice so r.ids.length sc, .slice to r.errs.length tc] 42))).alloc (Nat.le_refl _) (.cells #[.pointer none, .slice none 0 0, .bool false] 58))
  have K := hid ((Blk.new w [.int .i64 r.why, .int .u64 (r.n : Nat), .int .i64 r.place, .bool r.allow, .slice so r.ids.length sc, .slice to r.errs.length tc] 42).alloc (.cells #[.pointer none, .slice none 0 0, .bool false] 58))
  have D := hid (show Wr ((w.alloc (.cells #[.int .i64 r.why, .int .u64 (r.n : Nat), .int .i64 r.place, .bool r.allow, .slice so r.ids.length sc, .slice to r.errs.length tc] 42)).alloc (.cells #[.pointer none, .slice none 0 0, .bool false] 58)) (w.alloc (.cells #[.int .i64 r.why, .int .u64 (r.n : Nat), .int .i64 r.place, .bool r.allow, .slice so r.ids.length sc, .slice to r.errs.length tc] 42)).heap.size (w.alloc (.cells #[.int .i64 r.why, .int .u64 (r.n : Nat), .int .i64 r.place, .bool r.allow, .slice so r.ids.length sc, .slice to r.errs.length tc] 42)).heap.size (some []) 0 0 from
    ⟨[], false, Bld.Is.new 58 [.bool false] _, Nat.le_refl _, Nat.le_refl _, rfl⟩)
  change Hid (Blk ((w.alloc (.cells #[.int .i64 r.why, .int .u64 (r.n : Nat), .int .i64 r.place, .bool r.allow, .slice so r.ids.length sc, .slice to r.errs.length tc] 42)).alloc (.cells #[.pointer none, .slice none 0 0, .bool false] 58)) _ _ _) at K
  have hsz : (w.alloc (.cells #[.int .i64 r.why, .int .u64 (r.n : Nat), .int .i64 r.place, .bool r.allow, .slice so r.ids.length sc, .slice to r.errs.length tc] 42)).heap.size = w.heap.size + 1 := by simp
  have hsz2 := hid (show w.heap.size + 1 < ((w.alloc (.cells #[.int .i64 r.why, .int .u64 (r.n : Nat), .int .i64 r.place, .bool r.allow, .slice so r.ids.length sc, .slice to r.errs.length tc] 42)).alloc (.cells #[.pointer none, .slice none 0 0, .bool false] 58)).heap.size by simp)
  generalize (w.alloc (.cells #[.int .i64 r.why, .int .u64 (r.n : Nat), .int .i64 r.place, .bool r.allow, .slice so r.ids.length sc, .slice to r.errs.length tc] 42)).alloc (.cells #[.pointer none, .slice none 0 0, .bool false] 58) = X at K D bb hsz2 ⊢
  generalize w.alloc (.cells #[.int .i64 r.why, .int .u64 (r.n : Nat), .int .i64 r.place, .bool r.allow, .slice so r.ids.length sc, .slice to r.errs.length tc] 42) = wB at D bb V1 V2 hsz ba
  rw [hsz] at D bb
  replace hsz := hid hsz
  obtain ⟨b, hb⟩ : ∃ b, w.heap.size + 1 = b := ⟨_, rfl⟩
  obtain ⟨pb, hpb⟩ : ∃ pb, w.heap.size = pb := ⟨_, rfl⟩
  have hpp := hid (show pb < b ∧ w.heap.size ≤ pb ∧ w.heap.size ≤ b by omega)
  rw [hb] at D hsz2 bb hsz ⊢
  rw [hpb] at K ⊢
  clear hb hpb
  have bw := hid (show Below w.heap.size w X from ba.out.trans (bb.out.mono hpp.out.2.2))
  clear ba
  obtain ⟨k0, k1, k2, k3, k4, k5, kf⟩ := sixc K.out
  have hc := hid (wreply_any b b 0 0 (some []) r so to sc tc X wB D.out V1.out V2.out hsz.out bb.out hn hl1 hl2 (by omega) (by have := hsz2.out; omega))
  go_wp2_with fail
  refine hc.out.mono ?_
  rintro e w1' ⟨⟨v, rfl⟩, hW, b1, kk1⟩
  replace bw := hid (bw.out.trans (b1.mono hpp.out.2.2))
  obtain ⟨l, wr, I, hn1, hl, ho⟩ := hW
  replace ho := hid ho
  clear hc b1 kk1 D V1 V2 bb k0 k1 k2 k3 k4 k5 kf K
  have hne : l ≠ [] := by rintro rfl; simp at hn1
  obtain ⟨p0, v0, c0, c1, c2, cf⟩ := is_cells I
  replace I := hid I
  clear hn1 hl
  cases wr with
  | true =>
    have hfin := hid (show RepW r ⟨#[]⟩ 14 from .inr ⟨rfl, (fun hr => by have := wR_right r hr; rw [ho.out] at this; cases this), rfl⟩)
    clear ho
    go_wp2_with fail
    go_ret2
    exact ⟨⟨_, _, rfl, hfin.out⟩, bw.out⟩
  | false =>
    obtain ⟨hr, hle⟩ := wR_some r l ho.out
    have hfin := hid (show RepW r (bs l) 0 from .inl ⟨rfl, hr, by rw [hle]⟩)
    have hc := hid (Bld.bstring_any 58 [.bool false] htW b b l w1' I.out hne)
    clear ho hr hle hne
    go_wp2_with fail
    refine hc.out.mono ?_
    rintro e w4 ⟨rfl, -, b4, -⟩
    replace bw := hid (bw.out.trans (b4.mono hpp.out.2.2))
    clear hc b4
    go_wp2_with fail
    go_ret2
    exact ⟨⟨_, _, rfl, hfin.out⟩, bw.out⟩
end Go.Proofs.Ytldlkoiekdlmhaa.Wi
