/-
  token.escapes, token.letters: what their maps hold.
-/
import Derived.Test.YtklclfolmfhocaaGreatDoorProg
import Derived.Test.YtklclfolmfhocaaGreatDoorMem
import Derived.Maps.RangeWalk
import Derived.Maps.Ext
import Derived.Maps.OwnSet
namespace Go.Proofs.YtklclfolmfhocaaGreatDoor.Tok
open Go.ChangeShapes Go.WideShapes Go.ChangeAt Go.RowKit Go.Maps
open Go.Proofs.YtklclfolmfhocaaGreatDoor.Mem
set_option linter.unusedVariables false
set_option linter.unusedSimpArgs false
set_option maxRecDepth 100000
abbrev K8 (x : Int) : Lit := .int .u8 x
abbrev V8 (x : Int) : DataW Unit := .lit (.int .u8 x)
def escD : DataW Unit := (((((DataW.map []).put (K8 34) (V8 34)).put (K8 92) (V8 92)).put (K8 110) (V8 10)).put (K8 116) (V8 9)).put (K8 48) (V8 0)
/-- the byte that a stroke and a letter stand for -/
def escV (x : Int) : Option Int := if x = 48 then some 0 else if x = 116 then some 9 else if x = 110 then some 10 else if x = 92 then some 92 else if x = 34 then some 34 else none
/-- the letter behind a stroke for a byte -/
def letV (c : Int) : Option Int := if c = 0 then some 48 else if c = 9 then some 116 else if c = 10 then some 110 else if c = 92 then some 92 else if c = 34 then some 34 else none
theorem k8_ne {x y : Int} (h : x ≠ y) : K8 x ≠ K8 y := fun e => h (by injection e)
theorem isKey (x : Int) : WideAt.IsKeyLit (K8 x) := trivial
theorem isMap1 : IsMap (DataW.map [] : DataW Unit) := ⟨_, rfl⟩
theorem esc_is (x : Int) : Maps.has escD (K8 x) = (escV x).isSome ∧ ∀ z, escD.atKey (K8 x) z = match escV x with | some v => V8 v | none => z := by
  unfold escD escV
  by_cases h1 : x = 48
  · subst h1
    exact ⟨has_put_same ((((isMap1.put _ _).put _ _).put _ _).put _ _) (isKey _) _, fun z => atKey_put_same ((((isMap1.put _ _).put _ _).put _ _).put _ _) (isKey _) _ _⟩
  · rw [has_put_other (k8_ne h1), if_neg h1]
    simp only [atKey_put_other (k8_ne h1)]
    by_cases h2 : x = 116
    · subst h2
      exact ⟨has_put_same (((isMap1.put _ _).put _ _).put _ _) (isKey _) _, fun z => atKey_put_same (((isMap1.put _ _).put _ _).put _ _) (isKey _) _ _⟩
    · rw [has_put_other (k8_ne h2), if_neg h2]
      simp only [atKey_put_other (k8_ne h2)]
      by_cases h3 : x = 110
      · subst h3
        exact ⟨has_put_same ((isMap1.put _ _).put _ _) (isKey _) _, fun z => atKey_put_same ((isMap1.put _ _).put _ _) (isKey _) _ _⟩
      · rw [has_put_other (k8_ne h3), if_neg h3]
        simp only [atKey_put_other (k8_ne h3)]
        by_cases h4 : x = 92
        · subst h4
          exact ⟨has_put_same (isMap1.put _ _) (isKey _) _, fun z => atKey_put_same (isMap1.put _ _) (isKey _) _ _⟩
        · rw [has_put_other (k8_ne h4), if_neg h4]
          simp only [atKey_put_other (k8_ne h4)]
          by_cases h5 : x = 34
          · subst h5
            exact ⟨has_put_same isMap1 (isKey _) _, fun z => atKey_put_same isMap1 (isKey _) _ _⟩
          · rw [has_put_other (k8_ne h5), if_neg h5]
            simp only [atKey_put_other (k8_ne h5)]
            exact ⟨rfl, fun z => rfl⟩
theorem esc_let {x c : Int} (h : escV x = some c) : letV c = some x := by
  unfold escV at h
  unfold letV
  by_cases h1 : x = 48
  · subst h1; simp at h; subst h; simp
  · rw [if_neg h1] at h
    by_cases h2 : x = 116
    · subst h2; simp at h; subst h; simp
    · rw [if_neg h2] at h
      by_cases h3 : x = 110
      · subst h3; simp at h; subst h; simp
      · rw [if_neg h3] at h
        by_cases h4 : x = 92
        · subst h4; simp at h; subst h; simp
        · rw [if_neg h4] at h
          by_cases h5 : x = 34
          · subst h5; simp at h; subst h; simp
          · rw [if_neg h5] at h; cases h
theorem let_esc {x c : Int} (h : letV c = some x) : escV x = some c := by
  unfold letV at h
  unfold escV
  by_cases h1 : c = 0
  · subst h1; simp at h; subst h; simp
  · rw [if_neg h1] at h
    by_cases h2 : c = 9
    · subst h2; simp at h; subst h; simp
    · rw [if_neg h2] at h
      by_cases h3 : c = 10
      · subst h3; simp at h; subst h; simp
      · rw [if_neg h3] at h
        by_cases h4 : c = 92
        · subst h4; simp at h; subst h; simp
        · rw [if_neg h4] at h
          by_cases h5 : c = 34
          · subst h5; simp at h; subst h; simp
          · rw [if_neg h5] at h; cases h
/-- the map of letters, as far as it is filled -/
structure Some' (D : DataW Unit) (left : Lit → Bool) : Prop where
  isMap : IsMap D
  no : ∀ c, letV c = none → Maps.has D (K8 c) = false
  yes : ∀ c x, letV c = some x → (left (K8 x) = true → Maps.has D (K8 c) = false) ∧ (left (K8 x) = false → Maps.has D (K8 c) = true ∧ ∀ z, D.atKey (K8 c) z = V8 x)
theorem Some'.start : Some' (DataW.map []) (Maps.has escD) :=
  ⟨isMap1, fun _ _ => rfl, fun c x h => ⟨fun _ => rfl, fun q => by rw [(esc_is x).1, let_esc h] at q; cases q⟩⟩
theorem Some'.step {D : DataW Unit} {left : Lit → Bool} (h : Some' D left) {x c : Int} (hat : ∀ z, escD.atKey (K8 x) z = V8 c) : Some' (D.put (K8 c) (V8 x)) (fun z => left z && !z.sameKey (K8 x)) := by
  have hx : escV x = some c := by
    have h1 := hat (V8 1)
    have h2 := hat (V8 2)
    rw [(esc_is x).2] at h1 h2
    cases he : escV x with
    | none => rw [he] at h1 h2; have h3 : V8 1 = V8 2 := h1.trans h2.symm; simp at h3
    | some v => rw [he] at h1; simp at h1; rw [h1]
  have hl := esc_let hx
  refine ⟨h.isMap.put _ _, fun c' hc' => ?_, fun c' x' hc' => ?_⟩
  · have hne : c' ≠ c := fun e => by subst e; rw [hl] at hc'; cases hc'
    rw [has_put_other (k8_ne hne)]
    exact h.no c' hc'
  · by_cases e : c' = c
    · subst e
      rw [hl] at hc'
      cases hc'
      refine ⟨fun q => ?_, fun _ => ⟨has_put_same h.isMap (isKey _) _, fun z => atKey_put_same h.isMap (isKey _) _ _⟩⟩
      rw [Bool.and_eq_true] at q
      have : (K8 x).sameKey (K8 x) = true := by simp [Lit.sameKey]
      rw [this] at q
      cases q.2
    · have hxe : x' ≠ x := fun q => by
        subst q
        have := let_esc hc'
        rw [hx] at this
        cases this
        exact e rfl
      have hs : (K8 x').sameKey (K8 x) = false := sameKey_ne (k8_ne hxe)
      rw [has_put_other (k8_ne e)]
      simp only [atKey_put_other (k8_ne e), hs, Bool.not_false, Bool.and_true]
      exact h.yes c' x' hc'
/-- the map of letters -/
def LetD (D : DataW Unit) : Prop := ∀ c, Maps.has D (K8 c) = (letV c).isSome ∧ ∀ x, letV c = some x → ∀ z, D.atKey (K8 c) z = V8 x
theorem Some'.done {D : DataW Unit} {left : Lit → Bool} (h : Some' D left) (hl : ∀ k, left k = false) : LetD D := fun c => by
  cases hc : letV c with
  | none => exact ⟨h.no c hc, fun x e => by cases e⟩
  | some x =>
    obtain ⟨h1, h2⟩ := (h.yes c x hc).2 (hl _)
    exact ⟨h1, fun x' e z => by cases e; exact h2 z⟩
theorem law8 : Keyed Tryz.prog 5 := int_keyed Tryz.underlying5
theorem wf8 {x : Int} (h0 : 0 ≤ x) (h1 : x ≤ 255) : (Lit.int .u8 x).wf = true := by
  simp [Lit.wf, IntKind.min, IntKind.max, IntKind.bits, IntKind.signed]
  omega
theorem max5 {n : Nat} (h : n ≤ 100) : n < maxLen := by unfold maxLen; omega
set_option maxHeartbeats 1000000 in
theorem escapes_any (w : World) : Calls Tryz.prog 179 #[] w fun e w' => e = .returned (.map (some w.heap.size)) ∧ w'.ownsMap Tryz.prog 5 (plainElem Tryz.prog 5) w.heap.size 5 escD ∧ Below w.heap.size w w' := by
  have hmm := @run_makeMap Tryz.prog
  have hK : ∀ x : Int, 0 ≤ x → x ≤ 255 → keyOf Tryz.prog 5 (.int .u8 x) = some (K8 x) := fun x h0 h1 => keyOf_int_mk Tryz.underlying5 (wf8 h0 h1)
  have hV : ∀ x : Int, 0 ≤ x → x ≤ 255 → plainElem (H := Unit) Tryz.prog 5 (.int .u8 x) = some (V8 x, []) := fun x h0 h1 => plainElem_int Tryz.underlying5 (wf8 h0 h1)
  have H0 : (w.alloc (.map #[] 0)).ownsMap (H := Unit) Tryz.prog 5 (plainElem Tryz.prog 5) w.heap.size 0 (.map []) := World.ownsMap_made _ _ _ _
  have B0 : Below w.heap.size w (w.alloc (.map #[] 0)) := (Below.refl _ _).alloc (Nat.le_refl _) _
  obtain ⟨w1, r1, H1, G1⟩ := H0.update law8 Tryz.underlying211 (max5 (by omega)) (hK 34 (by omega) (by omega)) (hV 34 (by omega) (by omega))
  have B1 := B0.grown G1 (by simp) (fun j hj => by cases hj; exact Nat.le_refl _)
  obtain ⟨w2, r2, H2, G2⟩ := H1.update law8 Tryz.underlying211 (max5 (by omega)) (hK 92 (by omega) (by omega)) (hV 92 (by omega) (by omega))
  have B2 := B1.grown G2 B1.size (fun j hj => by cases hj; exact Nat.le_refl _)
  obtain ⟨w3, r3, H3, G3⟩ := H2.update law8 Tryz.underlying211 (max5 (by omega)) (hK 110 (by omega) (by omega)) (hV 10 (by omega) (by omega))
  have B3 := B2.grown G3 B2.size (fun j hj => by cases hj; exact Nat.le_refl _)
  obtain ⟨w4, r4, H4, G4⟩ := H3.update law8 Tryz.underlying211 (max5 (by omega)) (hK 116 (by omega) (by omega)) (hV 9 (by omega) (by omega))
  have B4 := B3.grown G4 B3.size (fun j hj => by cases hj; exact Nat.le_refl _)
  obtain ⟨w5, r5, H5, G5⟩ := H4.update law8 Tryz.underlying211 (max5 (by omega)) (hK 48 (by omega) (by omega)) (hV 0 (by omega) (by omega))
  have B5 := hid (B4.grown G5 B4.size (fun j hj => by cases hj; exact Nat.le_refl _))
  have H5 := hid H5
  clear H0 H1 H2 H3 H4 G1 G2 G3 G4 G5 B0 B1 B2 B3 B4 hK hV
  go_enter Tryz.func179, Tryz.ntmps179
  go_wp2
  go_ret
  exact ⟨rfl, H5.out, B5.out⟩
/-- what letters answers -/
def LetR (w : World) (e : Ending) (w' : World) : Prop := ∃ D n, e = .returned (.map (some w.heap.size)) ∧ n ≤ 5 ∧ w'.ownsMap Tryz.prog 5 (plainElem Tryz.prog 5) w.heap.size n D ∧ LetD D ∧ Below w.heap.size w w'
set_option maxHeartbeats 4000000 in
theorem letters_any (w : World) : Calls Tryz.prog 163 #[] w (LetR w) := by
  have hmm := @run_makeMap Tryz.prog
  have e1 : (w.alloc (.map #[] 0)).heap.size = w.heap.size + 1 := by simp
  have hsz : Maps.size escD = 5 := by kernel_rfl
  go_enter Tryz.func163, Tryz.ntmps163
  go_wp2_with fail
  refine (escapes_any _).mono ?_
  rintro e w1 ⟨rfl, H1, B1⟩
  have M0 : (w.alloc (.map #[] 0)).ownsMap (H := Unit) Tryz.prog 5 (plainElem Tryz.prog 5) w.heap.size 0 (.map []) := World.ownsMap_made _ _ _ _
  have M1 := M0.kept (World.grownBy.mk B1.os B1.tape B1.output B1.size (fun k hk _ => B1.block k hk) : (w.alloc (.map #[] 0)).grownBy w1 none) (by simp)
  have hw1 : w.heap.size + 2 ≤ w1.heap.size := by have := H1.lt; rw [e1] at this; omega
  have X1 : Below w.heap.size w w1 := ((Below.refl _ w).alloc (Nat.le_refl _) _).trans (B1.mono (by simp))
  rw [e1] at H1 ⊢
  clear M0 B1
  go_wp2_with (first
    | (at_range; refine wpList_range_own _ rfl _ 211 rfl 5 5 law8 Tryz.underlying211 _ (w.heap.size + 1) 5 _ rfl H1 ?_; intro w0 hrg0 hg0 hs0)
    | fail)
  go_frame
  have M2 := hid (M1.kept hg0 (by simp))
  have X2 := hid (X1.grown hg0 X1.size (fun j hj => by cases hj))
  have hr := hid hrg0
  clear M1 X1 H1 hg0 hrg0
  go_loopw [2] (fun _ wr => ∃ (left : Lit → Bool) (cnt : Nat) (D : DataW Unit), wr.ranges Tryz.prog 5 (plainElem Tryz.prog 5) (w.heap.size + 1) w1.heap.size 5 escD left cnt ∧ cnt ≤ 5 ∧
      wr.ownsMap Tryz.prog 5 (plainElem Tryz.prog 5) w.heap.size (5 - cnt) D ∧ Hid (Some' D left) ∧ Hid (Below w.heap.size w wr)) (fun _ wr => wr.rangeLeft (w.heap.size + 1) w1.heap.size)
  case atStart => exact ⟨_, _, .map [], hr.out, by rw [hsz]; omega, M2.out.mono (Nat.zero_le _), hid Some'.start, X2⟩
  case round =>
    obtain ⟨left, cnt, D, hrg, hcs, hout, hA, hnx⟩ := hrel
    clear hr M2 X2
    go_wp2_with (first
      | (at_next; refine wpList_next_ranges_ii _ rfl _ rfl 5 5 .u8 .u8 law8 Tryz.underlying5 Tryz.underlying5 (w.heap.size + 1) w1.heap.size 5 _ _ _ rfl hrg ?_ ?_)
      | fail)
    · intro hc0 hl0
      go_wp2
      go_ret
      exact ⟨D, _, rfl, by omega, hout, hA.out.done hl0, hnx.out⟩
    · intro x c w2 cnt1 hwx hwc hlx hat hrg1 hlt hg1 hs1 hen
      have hout1 := hout.kept hg1 (by simp; omega)
      go_wp2_with (first
        | (at_mapUpdate; refine wpList_mapUpdate_own _ rfl _ _ _ 211 rfl 5 5 law8 Tryz.underlying211 _ w.heap.size _ _ rfl hout1 (max5 (by omega)) _ _ _ rfl rfl (keyOf_int_mk Tryz.underlying5 hwc) _ [] (plainElem_int Tryz.underlying5 hwx) ?_; intro w3 hout2 hg2; go_frame)
        | fail)
      have hrg2 := hrg1.kept hg2 (fun e => by have := Option.some.inj e; omega) (fun e => by have := Option.some.inj e; omega)
      have hA2 := hid (hA.out.step hat)
      have hnx2 := hid ((hnx.out.grown hg1 hnx.out.size (fun j hj => by cases hj; omega)).grown hg2 (by have := hnx.out.size; omega) (fun j hj => by cases hj; exact Nat.le_refl _))
      go_roundw
      case rel => exact ⟨_, cnt1, _, hrg2, by omega, hout2.mono (by omega), hA2, hnx2⟩
      case measure => rw [hrg2.left_eq, hrg.left_eq]; exact hlt
end Go.Proofs.YtklclfolmfhocaaGreatDoor.Tok
