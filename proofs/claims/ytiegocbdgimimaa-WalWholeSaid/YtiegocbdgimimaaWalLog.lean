/-
  The frames that lie in a region, and the log of an epoch. No walk.
-/
import Derived.Test.YtiegocbdgimimaaWalLay
namespace Go.Proofs.Ytiegocbdgimimaa.Wal
open Go.Proofs.Ytiegocbdgimimaa.Mem Go.Proofs.Ytiegocbdgimimaa.Rec Go.Proofs.Ytiegocbdgimimaa.Sector
set_option linter.unusedVariables false
set_option maxRecDepth 10000
/-- The sectors from a place on. -/
def texts (h : Nat → ByteArray) (a n : Nat) : List ByteArray := (List.range n).map fun i => h (a + i)
theorem texts_len (h : Nat → ByteArray) (a n : Nat) : (texts h a n).length = n := by simp [texts]
theorem texts_succ (h : Nat → ByteArray) (a n : Nat) : texts h a (n + 1) = texts h a n ++ [h (a + n)] := by simp [texts, List.range_succ]
theorem texts_cons (h : Nat → ByteArray) (a n : Nat) : texts h a (n + 1) = h a :: texts h (a + 1) n := by
  apply List.ext_getElem
  · simp [texts]
  · intro i h1 h2
    cases i with
    | zero => simp [texts]
    | succ i => simp [texts]; congr 1; omega
/-- The frame that lies at a place, and how many sectors it has. -/
def frAt (h : Nat → ByteArray) (s a : Nat) : Fr × Nat :=
  if s ≤ a then (zeroFr, 0)
  else if (headE (h a).data.toList).2 ≠ 0 then (zeroFr, 0)
  else if s - a ≤ pcs (headE (h a).data.toList).1.len then (zeroFr, 0)
  else if (joinE (texts h a (1 + pcs (headE (h a).data.toList).1.len))).2 ≠ 0 then (zeroFr, 0)
  else ((joinE (texts h a (1 + pcs (headE (h a).data.toList).1.len))).1, 1 + pcs (headE (h a).data.toList).1.len)
/-- What is there where a frame lies. -/
structure Lies (h : Nat → ByteArray) (s a : Nat) (f : Fr) (n : Nat) : Prop where
  ok : f.okn
  chk : fchk f.kind f.pay.size = 0
  num : n = pcs f.pay.size + 1
  room : a + n ≤ s
  secs : texts h a n = secsL f
theorem Lies.head {h : Nat → ByteArray} {s a : Nat} {f : Fr} {n : Nat} (l : Lies h s a f n) : h a = bs (headL (hdOf f)) := by
  have := l.secs
  rw [l.num, texts_cons, secsL_eq] at this
  exact (List.cons.inj this).1
theorem Lies.headE {h : Nat → ByteArray} {s a : Nat} {f : Fr} {n : Nat} (l : Lies h s a f n) : headE (h a).data.toList = (hdOf f, 0) := by
  rw [l.head]; exact head_of f l.ok l.chk
theorem frAt_of {h : Nat → ByteArray} {s a : Nat} {f : Fr} {n : Nat} (l : Lies h s a f n) : frAt h s a = (f, n) := by
  have e := l.headE
  have hr := l.room
  have hn := l.num
  unfold frAt
  rw [e]
  dsimp only
  have hp : (hdOf f).len = f.pay.size := rfl
  rw [hp, show 1 + pcs f.pay.size = n by omega, l.secs, join_secs f l.ok l.chk, if_neg (by omega), if_neg (by simp), if_neg (by omega), if_neg (by simp)]
theorem of_frAt {h : Nat → ByteArray} {s a : Nat} (hn : (frAt h s a).2 ≠ 0) : Lies h s a (frAt h s a).1 (frAt h s a).2 := by
  unfold frAt at hn ⊢
  split at hn
  · exact absurd rfl hn
  · rename_i h1
    split at hn
    · exact absurd rfl hn
    · rename_i h2
      split at hn
      · exact absurd rfl hn
      · rename_i h3
        split at hn
        · exact absurd rfl hn
        · rename_i h4
          rw [if_neg h1, if_neg h2, if_neg h3, if_neg h4]
          dsimp only
          rcases join_two (texts h a (1 + pcs (headE (h a).data.toList).1.len)) with hj | ⟨f, hj, hs, hc, k1, k2, k3⟩
          · rw [hj] at h4; exact absurd (by decide) h4
          · rw [hj]
            have hlen : pcs f.pay.size = pcs (headE (h a).data.toList).1.len := by
              have := congrArg List.length hs
              rw [secsL_len, texts_len] at this; omega
            refine ⟨⟨k1, k2, k3, by have := (fchk_zero hc).2; dsimp only; omega⟩, hc, ?_, ?_, hs.symm⟩
            · dsimp only; omega
            · omega
theorem Lies.ext {h h' : Nat → ByteArray} {s a : Nat} {f : Fr} {n : Nat} (l : Lies h s a f n) (he : ∀ i, a ≤ i → i < a + n → h' i = h i) : Lies h' s a f n := by
  refine ⟨l.ok, l.chk, l.num, l.room, ?_⟩
  rw [← l.secs]
  unfold texts
  apply List.map_congr_left
  intro i hi
  exact he _ (by omega) (by have := List.mem_range.1 hi; omega)
theorem frAt_room (h : Nat → ByteArray) (s a : Nat) : (frAt h s a).2 = 0 ∨ a + (frAt h s a).2 ≤ s := by
  by_cases hn : (frAt h s a).2 = 0
  · exact .inl hn
  · exact .inr (of_frAt hn).room
theorem frAt_none {h : Nat → ByteArray} {s a : Nat} (hn : (frAt h s a).2 = 0) : frAt h s a = (zeroFr, 0) := by
  unfold frAt at hn ⊢
  split
  · rfl
  · rename_i h1
    rw [if_neg h1] at hn
    split
    · rfl
    · rename_i h2
      rw [if_neg h2] at hn
      split
      · rfl
      · rename_i h3
        rw [if_neg h3] at hn
        split
        · rfl
        · rename_i h4
          rw [if_neg h4] at hn
          dsimp only at hn; omega
/-! ### logs -/
def pos (h : Nat → ByteArray) (s : Nat) : Nat → Nat
  | 0 => 0
  | k + 1 => pos h s k + (frAt h s (pos h s k)).2
def good (h : Nat → ByteArray) (s ep k : Nat) : Bool := decide ((frAt h s (pos h s k)).2 ≠ 0) && decide ((frAt h s (pos h s k)).1.epoch = ep) && decide ((frAt h s (pos h s k)).1.seq = k)
def cntF (h : Nat → ByteArray) (s ep : Nat) : Nat → Nat → Nat
  | 0, k => k
  | n + 1, k => if good h s ep k then cntF h s ep n (k + 1) else k
/-- How many frames the log has. -/
def cnt (h : Nat → ByteArray) (s ep : Nat) : Nat := cntF h s ep 1024 0
theorem cntF_spec (h : Nat → ByteArray) (s ep : Nat) : ∀ n k, (∀ j, j < k → good h s ep j = true) → k ≤ cntF h s ep n k ∧ cntF h s ep n k ≤ k + n ∧ (∀ j, j < cntF h s ep n k → good h s ep j = true) ∧ (cntF h s ep n k < k + n → good h s ep (cntF h s ep n k) = false) := by
  intro n
  induction n with
  | zero => intro k hk; exact ⟨Nat.le_refl _, Nat.le_refl _, hk, fun h => by unfold cntF at h; omega⟩
  | succ n ih =>
    intro k hk
    unfold cntF
    cases hg : good h s ep k with
    | true =>
      rw [if_pos rfl]
      obtain ⟨a, b, c, d⟩ := ih (k + 1) (fun j hj => by
        by_cases e : j = k
        · rw [e]; exact hg
        · exact hk j (by omega))
      exact ⟨by omega, by omega, c, fun hh => d (by omega)⟩
    | false =>
      rw [if_neg (by simp)]
      exact ⟨Nat.le_refl _, by omega, hk, fun _ => hg⟩
theorem cnt_le (h : Nat → ByteArray) (s ep : Nat) : cnt h s ep ≤ 1024 := by have := (cntF_spec h s ep 1024 0 (fun j hj => absurd hj (by omega))).2.1; unfold cnt; omega
theorem cnt_good (h : Nat → ByteArray) (s ep : Nat) {j : Nat} (hj : j < cnt h s ep) : good h s ep j = true := (cntF_spec h s ep 1024 0 (fun j hj => absurd hj (by omega))).2.2.1 j hj
theorem cnt_end (h : Nat → ByteArray) (s ep : Nat) (hc : cnt h s ep < 1024) : good h s ep (cnt h s ep) = false := (cntF_spec h s ep 1024 0 (fun j hj => absurd hj (by omega))).2.2.2 (by unfold cnt at hc; omega)
theorem cnt_is (h : Nat → ByteArray) (s ep c : Nat) (h1 : c ≤ 1024) (h2 : ∀ j, j < c → good h s ep j = true) (h3 : c < 1024 → good h s ep c = false) : cnt h s ep = c := by
  rcases Nat.lt_trichotomy (cnt h s ep) c with hlt | he | hlt
  · have a := cnt_end h s ep (by omega)
    rw [h2 _ hlt] at a; exact absurd a (by simp)
  · exact he
  · have a := cnt_good h s ep hlt
    have := cnt_le h s ep
    rw [h3 (by omega)] at a; exact absurd a (by simp)
theorem cnt_ge (h : Nat → ByteArray) (s ep c : Nat) (h1 : c ≤ 1024) (h2 : ∀ j, j < c → good h s ep j = true) : c ≤ cnt h s ep := by
  rcases Nat.lt_or_ge (cnt h s ep) c with hlt | hge
  · have a := cnt_end h s ep (by omega)
    rw [h2 _ hlt] at a; exact absurd a (by simp)
  · exact hge
theorem pos_le (h : Nat → ByteArray) (s k : Nat) : pos h s k ≤ s := by
  induction k with
  | zero => exact Nat.zero_le _
  | succ k ih => unfold pos; have := frAt_room h s (pos h s k); omega
theorem pos_mono (h : Nat → ByteArray) (s : Nat) {j k : Nat} (hjk : j ≤ k) : pos h s j ≤ pos h s k := by
  induction k with
  | zero =>
    obtain rfl : j = 0 := by omega
    exact Nat.le_refl _
  | succ k ih =>
    by_cases e : j = k + 1
    · rw [e]; exact Nat.le_refl _
    · exact Nat.le_trans (ih (by omega)) (show pos h s k ≤ pos h s k + (frAt h s (pos h s k)).2 by omega)
theorem good_lies {h : Nat → ByteArray} {s ep k : Nat} (hg : good h s ep k = true) : Lies h s (pos h s k) (frAt h s (pos h s k)).1 (frAt h s (pos h s k)).2 ∧ (frAt h s (pos h s k)).1.epoch = ep ∧ (frAt h s (pos h s k)).1.seq = k := by
  simp only [good, Bool.and_eq_true, decide_eq_true_eq] at hg
  exact ⟨of_frAt hg.1.1, hg.1.2, hg.2⟩
/-- Sectors that are as they were have the frames that they had. -/
theorem pos_ext {h h' : Nat → ByteArray} {s ep c : Nat} (hg : ∀ j, j < c → good h s ep j = true) (he : ∀ i, i < pos h s c → h' i = h i) : ∀ k, k ≤ c → pos h' s k = pos h s k ∧ ∀ j, j < k → frAt h' s (pos h s j) = frAt h s (pos h s j) := by
  intro k
  induction k with
  | zero => intro _; exact ⟨rfl, fun j hj => absurd hj (by omega)⟩
  | succ k ih =>
    intro hk
    obtain ⟨a, b⟩ := ih (by omega)
    obtain ⟨l, _, _⟩ := good_lies (hg k (by omega))
    have hle : pos h s k + (frAt h s (pos h s k)).2 ≤ pos h s c := pos_mono h s (j := k + 1) (by omega)
    have e : frAt h' s (pos h s k) = frAt h s (pos h s k) := by
      rw [frAt_of (l.ext (fun i hi hi2 => he i (by omega)))]
    refine ⟨?_, fun j hj => ?_⟩
    · unfold pos; rw [a, e]
    · by_cases ej : j = k
      · rw [ej]; exact e
      · exact b j (by omega)
theorem good_ext {h h' : Nat → ByteArray} {s ep c : Nat} (hg : ∀ j, j < c → good h s ep j = true) (he : ∀ i, i < pos h s c → h' i = h i) : ∀ j, j < c → good h' s ep j = true := by
  intro j hj
  have p := pos_ext hg he
  have := hg j hj
  unfold good at this ⊢
  rw [(p j (by omega)).1, (p (j + 1) (by omega)).2 j (by omega)]
  exact this
def logF (h : Nat → ByteArray) (s ep : Nat) : List Fr := (List.range (cnt h s ep)).map fun k => (frAt h s (pos h s k)).1
def endF (h : Nat → ByteArray) (s ep : Nat) : Nat := pos h s (cnt h s ep)
theorem logF_len (h : Nat → ByteArray) (s ep : Nat) : (logF h s ep).length = cnt h s ep := by simp [logF]
/-- What is behind the log's end is no matter, as long as nothing goes on there. -/
theorem log_same {h h' : Nat → ByteArray} {s ep : Nat} (he : ∀ i, i < endF h s ep → h' i = h i) (hx : cnt h s ep < 1024 → good h' s ep (cnt h s ep) = false) : cnt h' s ep = cnt h s ep ∧ logF h' s ep = logF h s ep ∧ endF h' s ep = endF h s ep := by
  have hg : ∀ j, j < cnt h s ep → good h s ep j = true := fun j hj => cnt_good h s ep hj
  have hc := cnt_is h' s ep (cnt h s ep) (cnt_le h s ep) (good_ext hg he) hx
  have p := pos_ext hg he
  refine ⟨hc, ?_, ?_⟩
  · unfold logF
    rw [hc]
    apply List.map_congr_left
    intro k hk
    have := List.mem_range.1 hk
    rw [(p k (by omega)).1, (p (k + 1) (by omega)).2 k (by omega)]
  · unfold endF
    rw [hc]; exact (p _ (Nat.le_refl _)).1
/-- A frame more: the log goes on with it. -/
theorem log_more {h h' : Nat → ByteArray} {s ep : Nat} {f : Fr} {n : Nat} (he : ∀ i, i < endF h s ep → h' i = h i) (hc : cnt h s ep < 1024) (l : Lies h' s (endF h s ep) f n) (hep : f.epoch = ep) (hsq : f.seq = cnt h s ep) :
    cnt h s ep + 1 ≤ cnt h' s ep ∧ (∀ k, k < cnt h s ep → (frAt h' s (pos h' s k)).1 = (frAt h s (pos h s k)).1) ∧ frAt h' s (pos h' s (cnt h s ep)) = (f, n) ∧ pos h' s (cnt h s ep) = endF h s ep ∧ pos h' s (cnt h s ep + 1) = endF h s ep + n := by
  have hg : ∀ j, j < cnt h s ep → good h s ep j = true := fun j hj => cnt_good h s ep hj
  have p := pos_ext hg he
  have g := good_ext hg he
  have pc : pos h' s (cnt h s ep) = endF h s ep := (p _ (Nat.le_refl _)).1
  have fc : frAt h' s (pos h' s (cnt h s ep)) = (f, n) := by rw [pc]; exact frAt_of l
  have gc : good h' s ep (cnt h s ep) = true := by
    unfold good
    rw [fc]
    simp [hep, hsq, l.num]
  refine ⟨cnt_ge h' s ep _ (by omega) (fun j hj => ?_), fun k hk => ?_, fc, pc, ?_⟩
  · by_cases e : j = cnt h s ep
    · rw [e]; exact gc
    · exact g j (by omega)
  · rw [(p k (by omega)).1, (p (k + 1) (by omega)).2 k (by omega)]
  · have : pos h' s (cnt h s ep + 1) = pos h' s (cnt h s ep) + (frAt h' s (pos h' s (cnt h s ep))).2 := rfl
    rw [this, fc, pc]
/-- What a disk's region holds. -/
def cont (d : Disk) (r : Rg) (i : Nat) : ByteArray := (readE d (r.f + i)).1
def scanE (d : Disk) (r : Rg) (ep : Nat) : List Fr × Nat × Int :=
  if walChk d r ≠ 0 then ([], 0, walChk d r)
  else if d.off = true then ([], 0, 15)
  else (logF (cont d r) r.s.toNat ep, endF (cont d r) r.s.toNat ep, 0)
theorem cont_now {d : Disk} {r : Rg} (h : walChk d r = 0) (ho : d.off = false) {i : Nat} (hi : (i : Int) < r.s) : cont d r i = now d (r.f + i) := by
  obtain ⟨h1, h2, h3, h4, h5⟩ := walChk_zero h
  unfold cont readE
  rw [h1, if_neg (by simp), ho, if_neg (by simp), show missB d.secs.length (r.f + i) = false by simp [missB]; omega, if_neg (by simp)]
  rfl
end Go.Proofs.Ytiegocbdgimimaa.Wal
