/-
  What is written of a request, of a reply, as one text. No program is named.
-/
import Derived.Test.YtldlkoiekdlmhaaWireAskWD
import Derived.Test.YtldlkoiekdlmhaaWireRep
namespace Go.Proofs.Ytldlkoiekdlmhaa.Wi
open Go.Proofs.Ytldlkoiekdlmhaa.Crc hiding hid bt
set_option linter.unusedVariables false
set_option linter.unusedSimpArgs false
theorem wT_none (s : ByteArray) : wT s none = none := by unfold wT; split <;> rfl
theorem wQ_some (a : Ask) (l : List UInt8) : wQ a (some l) = if qS a then some (l ++ qE a) else none := by
  unfold wQ
  by_cases h0 : a.s0.size ≤ 2048
  case neg => rw [if_neg (fun h => h0 h.1)]; simp only [wT, if_neg h0, Option.map_none, ite_self]
  by_cases h1 : a.s1.size ≤ 2048
  case neg => rw [if_neg (fun h => h1 h.2.1)]; simp only [wT, if_neg h1, Option.map_none, ite_self]
  by_cases h2 : a.s2.size ≤ 2048
  case neg => rw [if_neg (fun h => h2 h.2.2.1)]; simp only [wT, if_neg h2, Option.map_none, ite_self]
  by_cases h3 : a.s3.size ≤ 2048
  case neg => rw [if_neg (fun h => h3 h.2.2.2.1)]; simp only [wT, if_neg h3, Option.map_none, ite_self]
  by_cases h4 : a.s4.size ≤ 2048
  case neg => rw [if_neg (fun h => h4 h.2.2.2.2.1)]; simp only [wT, if_neg h4, Option.map_none, ite_self]
  by_cases h5 : a.s5.size ≤ 2048
  case neg => rw [if_neg (fun h => h5 h.2.2.2.2.2.1)]; simp only [wT, if_neg h5, Option.map_none, ite_self]
  by_cases h6 : a.s6.size ≤ 2048
  case neg => rw [if_neg (fun h => h6 h.2.2.2.2.2.2)]; simp only [wT, if_neg h6]
  rw [if_pos ⟨h0, h1, h2, h3, h4, h5, h6⟩]
  simp only [wT, if_pos h0, if_pos h1, if_pos h2, if_pos h3, if_pos h4, if_pos h5, if_pos h6, Option.map_some, qE, List.append_assoc]
/-- what is written of a request, if nothing was wrong -/
theorem wA_some (a : Ask) (ha : askN a) (l : List UInt8) (h : wA a (some []) = some l) : l = askE a ∧ (a.k = 2 → cR a.c) ∧ (a.k = 5 ∨ a.k = 6 → qS a) := by
  have hk : w1 (a.k : Int) (some []) = some [UInt8.ofNat a.k] := by
    unfold w1
    rw [if_pos ⟨by omega, by have := ha.1; omega⟩]
    simp
  unfold wA at h
  rw [hk] at h
  unfold askE askT
  by_cases h2 : a.k = 2
  · rw [if_pos h2] at h ⊢
    unfold wC wN at h
    by_cases hc : cR a.c
    · rw [if_pos hc] at h
      simp at h
      exact ⟨by rw [← h], fun _ => hc, fun h => by omega⟩
    · rw [if_neg hc] at h; cases h
  · rw [if_neg h2] at h ⊢
    by_cases h3 : a.k = 3 ∨ a.k = 4
    · rw [if_pos h3] at h ⊢
      unfold wN at h
      simp at h
      exact ⟨by rw [← h], fun h => absurd h h2, fun h => by omega⟩
    · rw [if_neg h3] at h ⊢
      by_cases h5 : a.k = 5
      · rw [if_pos h5] at h ⊢
        rw [wQ_some] at h
        by_cases hq : qS a
        · rw [if_pos hq] at h
          simp at h
          exact ⟨by rw [← h], fun h => absurd h h2, fun _ => hq⟩
        · rw [if_neg hq] at h; cases h
      · rw [if_neg h5] at h ⊢
        by_cases h6 : a.k = 6
        · rw [if_pos h6] at h ⊢
          unfold wN at h
          rw [Option.map_some, wQ_some] at h
          by_cases hq : qS a
          · rw [if_pos hq] at h
            simp at h
            exact ⟨by rw [← h], fun h => absurd h h2, fun _ => hq⟩
          · rw [if_neg hq] at h; cases h
        · rw [if_neg h6] at h ⊢
          cases h
          exact ⟨rfl, fun h => absurd h h2, fun h => by omega⟩
theorem wA_right (a : Ask) (ha : askN a) (hr : askR a) : wA a (some []) = some (askE a) := by
  obtain ⟨hk8, htx, hc, hv, hq⟩ := hr
  have hk : w1 (a.k : Int) (some []) = some [UInt8.ofNat a.k] := by
    unfold w1
    rw [if_pos ⟨by omega, by have := ha.1; omega⟩]
    simp
  unfold wA
  rw [hk]
  unfold askE askT
  by_cases h2 : a.k = 2
  · rw [if_pos h2] at hc ⊢
    rw [if_pos h2]
    unfold wC wN
    rw [if_pos hc]
    simp
  · rw [if_neg h2, if_neg h2]
    by_cases h3 : a.k = 3 ∨ a.k = 4
    · rw [if_pos h3, if_pos h3]; rfl
    · rw [if_neg h3, if_neg h3]
      by_cases h5 : a.k = 5
      · rw [if_pos h5, if_pos h5]
        rw [if_pos (.inl h5)] at hq
        rw [wQ_some, if_pos hq]; rfl
      · rw [if_neg h5, if_neg h5]
        by_cases h6 : a.k = 6
        · rw [if_pos h6, if_pos h6]
          rw [if_pos (.inr h6)] at hq
          unfold wN
          rw [Option.map_some, wQ_some, if_pos hq]
          simp
        · rw [if_neg h6, if_neg h6]
theorem wTs_none : ∀ l, wTs l none = none := by
  intro l
  induction l with
  | nil => rfl
  | cons s l ih => show wTs l (wT s none) = none; rw [wT_none, ih]
theorem wTs_some : ∀ (l : List ByteArray) (m : List UInt8), wTs l (some m) = if ∀ s ∈ l, s.size ≤ 2048 then some (m ++ l.flatMap txt) else none := by
  intro l
  induction l with
  | nil => intro m; simp [wTs]
  | cons s l ih =>
    intro m
    show wTs l (wT s (some m)) = _
    unfold wT
    by_cases hs : s.size ≤ 2048
    · rw [if_pos hs, Option.map_some, ih]
      by_cases hl : ∀ x ∈ l, x.size ≤ 2048
      · rw [if_pos hl, if_pos (by intro x hx; rcases List.mem_cons.1 hx with rfl | hx; exact hs; exact hl x hx)]
        simp
      · rw [if_neg hl, if_neg (fun h => hl fun x hx => h x (List.mem_cons_of_mem _ hx))]
    · rw [if_neg hs, wTs_none, if_neg (fun h => hs (h s (by simp)))]
theorem wL_some (l : List ByteArray) (m : List UInt8) (o : List UInt8) (h : wL l (some m) = some o) : lR l ∧ o = m ++ lE l := by
  unfold wL w1 at h
  by_cases hn : (0 : Int) ≤ (l.length : Int) ∧ (l.length : Int) ≤ 255
  · rw [if_pos hn, Option.map_some, wTs_some] at h
    by_cases hl : ∀ s ∈ l, s.size ≤ 2048
    · rw [if_pos hl] at h
      simp only [Option.some.injEq] at h
      exact ⟨⟨by omega, hl⟩, by rw [← h]; simp [lE]⟩
    · rw [if_neg hl] at h; cases h
  · rw [if_neg hn, wTs_none] at h; cases h
theorem wL_right (l : List ByteArray) (m : List UInt8) (h : lR l) : wL l (some m) = some (m ++ lE l) := by
  unfold wL w1
  have := h.1
  rw [if_pos (by omega), Option.map_some, wTs_some, if_pos h.2]
  simp [lE]
theorem wL_none (l : List ByteArray) : wL l none = none := by
  unfold wL w1
  split <;> exact wTs_none l
theorem wR_some (r : Rep) (o : List UInt8) (h : wR r (some []) = some o) : repR r ∧ o = repE r := by
  unfold wR at h
  cases h1 : w1 r.why (some []) with
  | none => rw [h1] at h; simp [wN, wF, wL_none, w1] at h
  | some l1 =>
    rw [h1] at h
    have hw : (0 ≤ r.why ∧ r.why ≤ 255) ∧ l1 = [UInt8.ofNat r.why.toNat] := by
      unfold w1 at h1
      by_cases hc : 0 ≤ r.why ∧ r.why ≤ 255
      · rw [if_pos hc] at h1; simp at h1; exact ⟨hc, h1.symm⟩
      · rw [if_neg hc] at h1; cases h1
    rw [show wN r.n (some l1) = some (l1 ++ leb 8 r.n) from rfl] at h
    cases h2 : w1 r.place (some (l1 ++ leb 8 r.n)) with
    | none => rw [h2] at h; simp [wF, wL_none] at h
    | some l2 =>
      rw [h2] at h
      have hp : (0 ≤ r.place ∧ r.place ≤ 255) ∧ l2 = (l1 ++ leb 8 r.n) ++ [UInt8.ofNat r.place.toNat] := by
        unfold w1 at h2
        by_cases hc : 0 ≤ r.place ∧ r.place ≤ 255
        · rw [if_pos hc] at h2; simp only [Option.map_some, Option.some.injEq] at h2; exact ⟨hc, h2.symm⟩
        · rw [if_neg hc] at h2; cases h2
      rw [show wF r.allow (some l2) = some (l2 ++ [fl r.allow]) from rfl] at h
      cases h3 : wL r.ids (some (l2 ++ [fl r.allow])) with
      | none => rw [h3, wL_none] at h; cases h
      | some l3 =>
        rw [h3] at h
        obtain ⟨hi, e3⟩ := wL_some _ _ _ h3
        obtain ⟨he, e4⟩ := wL_some _ _ _ h
        refine ⟨⟨hw.1, hp.1, hi, he⟩, ?_⟩
        rw [e4, e3, hp.2, hw.2]
        simp [repE]
theorem wR_right (r : Rep) (h : repR r) : wR r (some []) = some (repE r) := by
  obtain ⟨hw, hp, hi, he⟩ := h
  unfold wR
  have e1 : w1 r.why (some []) = some [UInt8.ofNat r.why.toNat] := by unfold w1; rw [if_pos hw]; rfl
  rw [e1, show wN r.n (some [UInt8.ofNat r.why.toNat]) = some ([UInt8.ofNat r.why.toNat] ++ leb 8 r.n) from rfl]
  have e2 : w1 r.place (some ([UInt8.ofNat r.why.toNat] ++ leb 8 r.n)) = some (([UInt8.ofNat r.why.toNat] ++ leb 8 r.n) ++ [UInt8.ofNat r.place.toNat]) := by unfold w1; rw [if_pos hp]; rfl
  rw [e2, show ∀ l, wF r.allow (some l) = some (l ++ [fl r.allow]) from fun _ => rfl, wL_right _ _ hi, wL_right _ _ he]
  simp [repE]
end Go.Proofs.Ytldlkoiekdlmhaa.Wi
