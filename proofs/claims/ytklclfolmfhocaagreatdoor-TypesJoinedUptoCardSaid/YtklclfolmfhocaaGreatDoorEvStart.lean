/-
  The names that an evaluated call begins with: variables that are only read, by their own numbers. No walk.
-/
import Derived.Test.YtklclfolmfhocaaGreatDoorEvFlat
namespace Go.Proofs.YtklclfolmfhocaaGreatDoor.Ev
open Go.ChangeShapes Go.WideShapes Go.ChangeAt Go.RowKit
open Go.Proofs.YtklclfolmfhocaaGreatDoor.Mem
set_option linter.unusedVariables false
set_option linter.unusedSimpArgs false
def scalB : Value → Bool
  | .int _ _ => true
  | .string _ => true
  | .bool _ => true
  | _ => false
theorem scal_rl (m : Mu) : ∀ (cs : List Value), cs.all scalB = true → RL m cs cs
  | [], _ => .nil
  | v :: cs, h => by
    simp only [List.all_cons, Bool.and_eq_true] at h
    refine .cons ?_ (scal_rl m cs h.2)
    cases v <;> first | exact .int _ _ | exact .string _ | exact .bool _ | (exfalso; revert h; simp [scalB])
/-- the names so far are variables -/
structure Begun (m : Mu) (s : St) (B : Nat) (W : World) : Prop where
  holds : Holds m s B W
  self : ∀ n l, m n = some l → l.blk = n
  res : s.res = []
  live : ∀ n l, m n = some l → ∃ c, s.get n = some c
theorem Begun.start {B : Nat} {W : World} (hg : Glob B W) (n0 : Nat) (hn : n0 ≤ 2 ^ 40) : Begun (fun _ => none) ⟨.leaf, n0, [], none⟩ B W where
  holds := by
    have hno : ∀ n c, (⟨.leaf, n0, [], none⟩ : St).get n = some c → False := fun n c e => by
      rw [show (⟨Tr.leaf, n0, [], none⟩ : St).get n = Tr.get 42 Tr.leaf n from rfl, Tr.get_leaf] at e
      cases e
    refine ⟨fun _ _ => rfl, fun n h => ?_, fun n h => ?_, hn, ?_, fun n c _ h => (hno n c h).elim, fun n k c d l e h _ _ _ _ => (hno n c h).elim, fun n c _ h _ => (hno n c h).elim, hg.base, ⟨fun n c _ h => (hno _ c h).elim, fun n k c d l e _ _ h => (hno _ c h).elim⟩⟩
    · have h2 : n ∈ ([] : List Nat) := h
      cases h2
    · have h2 : (none : Option Nat) = some n := h
      cases h2
    · rw [hg.size]; exact Nat.le_refl _
  self := fun n l h => by cases h
  res := rfl
  live := fun n l h => by cases h
theorem Begun.add {m : Mu} {s : St} {B : Nat} {W : World} (h : Begun m s B W) (g : Nat) (hg : g < s.next) (hB : g < B) (hm : m g = none) (cs : List Value) (hs : cs.all scalB = true)
    (hc : ∀ j (hj : j < cs.length), W.cell? ⟨g, j, none⟩ = some cs[j]) : Begun (m.put g ⟨g, 0⟩) (s.put g (some ⟨cs, 0, none, true⟩)) B W := by
  have hg4 : g < 2 ^ 40 := by have := h.holds.big; omega
  have hsub : Sub m (m.put g ⟨g, 0⟩) := Sub.put _ hm
  have hmu : (m.put g ⟨g, 0⟩) g = some ⟨g, 0⟩ := by simp [Mu.put]
  have hold : ∀ k, k ≠ g → (m.put g ⟨g, 0⟩) k = m k := fun k hk => by simp [Mu.put, hk]
  have hget : ∀ k c, k < 2 ^ 40 → (s.put g (some ⟨cs, 0, none, true⟩)).get k = some c → (k = g ∧ c = ⟨cs, 0, none, true⟩) ∨ (k ≠ g ∧ s.get k = some c) := fun k c hk e => by
    by_cases hk2 : k = g
    · subst hk2
      exact .inl ⟨rfl, Option.some.inj (e.symm.trans (St.get_put_same s k _ hk))⟩
    · exact .inr ⟨hk2, (St.get_put_other s _ hk2).symm.trans e⟩
  have hself : ∀ n l, (m.put g ⟨g, 0⟩) n = some l → l.blk = n := fun n l e => by
    by_cases hk : n = g
    · subst hk; rw [hmu] at e; cases e; rfl
    · rw [hold n hk] at e; exact h.self n l e
  refine ⟨⟨fun n hn => ?_, fun n hn => ?_, h.holds.cin, h.holds.big, h.holds.room, fun n c hn e => ?_, fun n k c d l e _ _ hl he q => ?_, fun n c hn e hro => ?_, h.holds.keep, ⟨fun n c hn e => by
    obtain ⟨l, h1, h2⟩ := h.holds.maps.1 n c hn ((St.get_put_other s _ (by omega)).symm.trans e)
    exact ⟨l, hsub _ _ h1, h2.up hsub⟩, fun n k c d l e hn hk hc hd hl he => by
    have hc := (St.get_put_other s _ (by omega)).symm.trans hc
    have hd := (St.get_put_other s _ (by omega)).symm.trans hd
    obtain ⟨l1, h3, h4⟩ := h.holds.maps.1 n c hn hc
    obtain ⟨l2, h5, h6⟩ := h.holds.maps.1 k d hk hd
    rw [hsub _ _ h3] at hl; cases hl
    rw [hsub _ _ h5] at he; cases he
    exact h.holds.maps.2 n k c d _ _ hn hk hc hd h3 h5⟩⟩, hself, h.res, fun n l e => ?_⟩
  · have h2 : s.next ≤ n := hn
    rw [hold n (by omega)]
    exact h.holds.fresh n h2
  · have h2 : n ∈ s.res := hn
    rw [h.res] at h2
    cases h2
  · rcases hget n c hn e with ⟨rfl, rfl⟩ | ⟨h1, h2⟩
    · exact ⟨_, hmu, fun q => (by cases q), fun _ => hB, cs, scal_rl _ cs hs, hc⟩
    · obtain ⟨l, h3, h4⟩ := h.holds.at' n c hn h2
      exact ⟨l, hsub _ _ h3, h4.up hsub⟩
  · have q1 := hself n l hl
    have q2 := hself k e he
    omega
  · rcases hget n c hn e with ⟨rfl, rfl⟩ | ⟨h1, h2⟩
    · exact ⟨0, hmu⟩
    · obtain ⟨cap, h3⟩ := h.holds.glob n c hn h2 hro
      exact ⟨cap, hsub _ _ h3⟩
  · by_cases hk : n = g
    · subst hk
      exact ⟨_, St.get_put_same s n _ hg4⟩
    · rw [hold n hk] at e
      obtain ⟨c, hc2⟩ := h.live n l e
      exact ⟨c, (St.get_put_other s _ hk).trans hc2⟩
end Go.Proofs.YtklclfolmfhocaaGreatDoor.Ev
