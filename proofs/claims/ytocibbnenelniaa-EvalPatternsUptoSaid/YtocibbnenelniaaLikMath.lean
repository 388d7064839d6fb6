/-
  Patterns and the texts between their stars: lists of bytes alone. No program is named.
-/
import Derived.Lib.CutLaws
import Derived.Lib.Strings
namespace Go.Proofs.Ytocibbnenelniaa.Lik
set_option linter.unusedVariables false
set_option linter.unusedSimpArgs false
abbrev By := List UInt8
/-- the texts between the stars, cur being what stands ahead -/
def btw : By → By → List By
  | [], cur => [cur]
  | 92 :: 42 :: r, cur => btw r (cur ++ [42])
  | 42 :: r, cur => cur :: btw r []
  | c :: r, cur => btw r (cur ++ [c])
theorem btw_esc (r cur : By) : btw (92 :: 42 :: r) cur = btw r (cur ++ [42]) := by rw [btw]
theorem btw_star (r cur : By) : btw (42 :: r) cur = cur :: btw r [] := by rw [btw]
theorem btw_else (c : UInt8) (r cur : By) (h : Lib.hasPrefix (c :: r) [92, 42] = false) (g : c ≠ 42) : btw (c :: r) cur = btw r (cur ++ [c]) := by
  rw [btw]
  · intro r' e1 e2
    subst e1 e2
    simp [Lib.hasPrefix] at h
  · exact g
theorem btw_len : ∀ (n : Nat) (s cur : By), s.length ≤ n → (btw s cur).length ≤ s.length + 1 := by
  intro n
  induction n with
  | zero => intro s cur h; have e : s = [] := List.eq_nil_of_length_eq_zero (by omega); subst e; simp [btw]
  | succ n ih =>
    intro s cur h
    cases s with
    | nil => simp [btw]
    | cons c r =>
      by_cases hp : Lib.hasPrefix (c :: r) [92, 42] = true
      · have : ∃ r', c :: r = 92 :: 42 :: r' := by
          simp only [Lib.hasPrefix, List.isPrefixOf_iff_prefix] at hp
          obtain ⟨t, ht⟩ := hp
          exact ⟨t, ht.symm⟩
        obtain ⟨r', e⟩ := this
        rw [e] at h ⊢
        simp only [List.length_cons] at h ⊢
        rw [btw_esc]
        have := ih r' (cur ++ [42]) (by omega)
        omega
      · by_cases hc : c = 42
        · subst hc
          simp only [List.length_cons] at h ⊢
          rw [btw_star]
          have := ih r [] (by omega)
          simp only [List.length_cons]
          omega
        · simp only [List.length_cons] at h ⊢
          rw [btw_else c r cur (by simpa using hp) hc]
          have := ih r (cur ++ [c]) (by omega)
          omega
theorem btw_ne : ∀ (n : Nat) (s cur : By), s.length ≤ n → 0 < (btw s cur).length := by
  intro n
  induction n with
  | zero => intro s cur h; have e : s = [] := List.eq_nil_of_length_eq_zero (by omega); subst e; simp [btw]
  | succ n ih =>
    intro s cur h
    cases s with
    | nil => simp [btw]
    | cons c r =>
      by_cases hp : Lib.hasPrefix (c :: r) [92, 42] = true
      · have : ∃ r', c :: r = 92 :: 42 :: r' := by
          simp only [Lib.hasPrefix, List.isPrefixOf_iff_prefix] at hp
          obtain ⟨t, ht⟩ := hp
          exact ⟨t, ht.symm⟩
        obtain ⟨r', e⟩ := this
        rw [e] at h ⊢
        simp only [List.length_cons] at h
        rw [btw_esc]
        exact ih r' (cur ++ [42]) (by omega)
      · by_cases hc : c = 42
        · subst hc
          rw [btw_star]
          simp
        · simp only [List.length_cons] at h
          rw [btw_else c r cur (by simpa using hp) hc]
          exact ih r (cur ++ [c]) (by omega)
/-- a text without stars and strokes -/
def Bare (s : By) : Prop := ∀ c ∈ s, c ≠ 42 ∧ c ≠ 92
theorem btw_bare (s r cur : By) (h : Bare s) : btw (s ++ r) cur = btw r (cur ++ s) := by
  induction s generalizing cur with
  | nil => simp
  | cons c s ih =>
    have hc := h c (by simp)
    rw [List.cons_append, btw_else c (s ++ r) cur (by
      simp only [Lib.hasPrefix, List.isPrefixOf, Bool.and_eq_false_iff]
      left; simpa using Ne.symm hc.2) hc.1, ih _ (fun x hx => h x (by simp [hx]))]
    simp
/-- the middle texts, looked for one behind the other -/
def mids : By → List By → Bool → By × Bool
  | s, [], t => (s, t)
  | s, m :: l, t => if t then mids (Lib.cut s m).2.1 l (Lib.cut s m).2.2 else (s, false)
def likeL (s : By) (ts : List By) : Bool :=
  match ts with
  | [] => false
  | [t] => s == t
  | t :: r => let x := mids (Lib.trimPrefix s t) (r.take (r.length - 1)) (Lib.hasPrefix s t); x.2 && Lib.hasSuffix x.1 (r.getLastD [])
def likeB (s p : By) : Bool := likeL s (btw p [])
theorem mids_false (s : By) (l : List By) : mids s l false = (s, false) := by cases l <;> simp [mids]
/-! ### the forms of the statement -/
theorem btw_plain (s : By) (h : Bare s) : btw s [] = [s] := by
  have := btw_bare s [] [] h
  simpa [btw] using this
theorem like_plain (a s : By) (h : Bare s) : likeB a s = (a == s) := by
  unfold likeB; rw [btw_plain s h]; rfl
theorem trimPrefix_nil (s : By) : Lib.trimPrefix s [] = s := by simp [Lib.trimPrefix]
theorem hasPrefix_nil (s : By) : Lib.hasPrefix s [] = true := by simp [Lib.hasPrefix]
theorem hasSuffix_nil (s : By) : Lib.hasSuffix s [] = true := by simp [Lib.hasSuffix]
theorem hasPrefix_self (s r : By) : Lib.hasPrefix (s ++ r) s = true := by simp [Lib.hasPrefix]
theorem like_star (a : By) : likeB a [42] = true := by
  unfold likeB
  rw [btw_star, btw]
  simp [likeL, mids, hasPrefix_nil, trimPrefix_nil, hasSuffix_nil]
theorem like_esc_star (a : By) : likeB (42 :: a) [92, 42, 42] = true := by
  unfold likeB
  rw [btw_esc, btw_star, btw]
  simp [likeL, mids, Lib.hasPrefix, Lib.hasSuffix]
theorem cut_found (a s c : By) : (Lib.cut (a ++ s ++ c) s).2.2 = true := by
  have h : ¬ Lib.index (a ++ s ++ c) s < 0 := by
    rcases Lib.index_spec (a ++ s ++ c) s with ⟨h1, h2⟩ | ⟨i, h1, -⟩
    · have := h2 a.length (by simp only [List.length_append]; omega)
      have e : List.isPrefixOf s (s ++ c) = true := by rw [List.isPrefixOf_iff_prefix]; exact ⟨c, rfl⟩
      simp [Lib.occAt, e] at this
    · omega
  unfold Lib.cut
  rw [if_pos (by omega)]
theorem cut_nil (s : By) : (Lib.cut s []).2.2 = true := by
  have := cut_found [] [] s
  simpa using this
theorem like_stars (a s c : By) (h : Bare s) : likeB (a ++ s ++ c) (42 :: (s ++ [42])) = true := by
  unfold likeB
  rw [btw_star, btw_bare s [42] [] h, btw_star, btw]
  simp only [likeL, List.nil_append, List.length_cons, List.length_nil, List.take_succ_cons, Nat.add_one_sub_one, Nat.zero_add, List.take_zero, mids, hasPrefix_nil, trimPrefix_nil, if_true, Bool.and_eq_true]
  exact ⟨cut_found a s c, by simp [hasSuffix_nil]⟩
theorem like_two (s c : By) (h : Bare s) : likeB (s ++ c) (s ++ [42, 42]) = true := by
  unfold likeB
  rw [btw_bare s [42, 42] [] h, btw_star, btw_star, btw]
  simp only [likeL, List.nil_append, List.length_cons, List.length_nil, List.take_succ_cons, Nat.add_one_sub_one, Nat.zero_add, List.take_zero, mids, hasPrefix_self, if_true, Bool.and_eq_true]
  exact ⟨cut_nil _, by simp [hasSuffix_nil]⟩
theorem like_self (s : By) (h : Bare s) : likeB s s = true := by rw [like_plain s s h]; simp
/-- what of a text is neither star nor stroke -/
def bare (s : By) : By := s.filter fun c => c != 42 && c != 92
theorem bare_bare (s : By) : Bare (bare s) := fun c hc => by
  have := (List.mem_filter.1 hc).2
  simpa using this
theorem bare_len (s : By) : (bare s).length ≤ s.length := List.length_filter_le ..
theorem bare_snoc (s : By) (c : UInt8) : bare (s ++ [c]) = bare s ++ if c ≠ 42 ∧ c ≠ 92 then [c] else [] := by
  unfold bare
  rw [List.filter_append]
  by_cases h1 : c = 42 <;> by_cases h2 : c = 92 <;> simp [h1, h2]
theorem like1 : likeB [97, 98] [97, 42] = true := by decide +kernel
theorem like2 : likeB [97, 98] [97, 92, 42] = false := by decide +kernel
end Go.Proofs.Ytocibbnenelniaa.Lik
