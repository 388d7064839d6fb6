/-
  Plain mathematics of the check sum: no program is imported. One bit's step, one byte's, a text's; linear, injective; what a turned bit does.
-/
import Derived.WalkKit
namespace Go.Proofs.Ytldlkoiekdlmhaa.CrcMath

/-- One bit out of the register. -/
def bit1 (c : Nat) : Nat := if c % 2 = 1 then (c / 2) ^^^ 3988292384 else c / 2
/-- k bits. -/
def bitN : Nat → Nat → Nat
  | 0, c => c
  | k + 1, c => bitN k (bit1 c)
/-- One byte. -/
def byte1 (c b : Nat) : Nat := bitN 8 (c ^^^ b)
/-- A text. -/
def run (c : Nat) (l : List UInt8) : Nat := l.foldl (fun c b => byte1 c b.toNat) c
def inv (c : Nat) : Nat := 4294967295 - c
/-- The sum gone on with. -/
def more (c : Nat) (l : List UInt8) : Nat := inv (run (inv c) l)

theorem xor_lt {a b : Nat} (ha : a < 4294967296) (hb : b < 4294967296) : a ^^^ b < 4294967296 := Nat.xor_lt_two_pow (n := 32) ha hb
theorem bit1_lt {c : Nat} (h : c < 4294967296) : bit1 c < 4294967296 := by
  unfold bit1; split
  · exact xor_lt (by omega) (by omega)
  · omega
theorem bitN_lt (k : Nat) : ∀ {c : Nat}, c < 4294967296 → bitN k c < 4294967296 := by
  induction k with
  | zero => exact fun h => h
  | succ k ih => exact fun h => ih (bit1_lt h)
theorem bitN_succ (k : Nat) : ∀ c, bitN (k + 1) c = bit1 (bitN k c) := by
  induction k with
  | zero => exact fun _ => rfl
  | succ k ih => intro c; show bitN (k + 1) (bit1 c) = _; rw [ih]; rfl
theorem byte1_lt {c b : Nat} (h : c < 4294967296) (hb : b < 256) : byte1 c b < 4294967296 := bitN_lt 8 (xor_lt h (by omega))
theorem run_lt (l : List UInt8) : ∀ {c : Nat}, c < 4294967296 → run c l < 4294967296 := by
  induction l with
  | nil => exact fun h => h
  | cons b l ih => intro c h; exact ih (byte1_lt h (UInt8.toNat_lt b))
theorem run_append (c : Nat) (a b : List UInt8) : run c (a ++ b) = run (run c a) b := by simp [run, List.foldl_append]
theorem run_snoc (c : Nat) (a : List UInt8) (b : UInt8) : run c (a ++ [b]) = byte1 (run c a) b.toNat := by rw [run_append]; rfl
theorem inv_lt (c : Nat) : inv c < 4294967296 := by unfold inv; omega
theorem inv_inv {c : Nat} (h : c < 4294967296) : inv (inv c) = c := by unfold inv; omega
theorem more_lt (c : Nat) (l : List UInt8) : more c l < 4294967296 := inv_lt _
theorem more_append {c : Nat} (a b : List UInt8) : more c (a ++ b) = more (more c a) b := by
  unfold more; rw [inv_inv (run_lt a (inv_lt c)), run_append]
theorem more_nil {c : Nat} (h : c < 4294967296) : more c [] = c := by unfold more; exact inv_inv h
theorem sum_check : more 0 [49, 50, 51, 52, 53, 54, 55, 56, 57] = 3421780262 := by decide +kernel

/-! ### linear -/
theorem xor_half (a b : Nat) : (a ^^^ b) / 2 = a / 2 ^^^ b / 2 := Nat.xor_div_two_pow (n := 1)
theorem xor_odd (a b : Nat) : (a ^^^ b) % 2 = (a % 2 + b % 2) % 2 := by
  have h : (a ^^^ b) % 2 = a % 2 ^^^ b % 2 := Nat.xor_mod_two_pow (n := 1)
  rw [h]
  rcases Nat.mod_two_eq_zero_or_one a with ha | ha <;> rcases Nat.mod_two_eq_zero_or_one b with hb | hb <;> simp [ha, hb]
theorem bit1_xor (a b : Nat) : bit1 (a ^^^ b) = bit1 a ^^^ bit1 b := by
  unfold bit1
  rw [xor_half, xor_odd]
  rcases Nat.mod_two_eq_zero_or_one a with ha | ha <;> rcases Nat.mod_two_eq_zero_or_one b with hb | hb <;> simp only [ha, hb] <;> simp
  · rw [Nat.xor_assoc]
  · rw [Nat.xor_assoc, Nat.xor_assoc, Nat.xor_comm (b / 2)]
  · rw [Nat.xor_assoc, Nat.xor_comm (3988292384), Nat.xor_assoc, Nat.xor_self, Nat.xor_zero]
theorem bitN_xor (k : Nat) : ∀ a b, bitN k (a ^^^ b) = bitN k a ^^^ bitN k b := by
  induction k with
  | zero => exact fun _ _ => rfl
  | succ k ih => intro a b; show bitN k (bit1 (a ^^^ b)) = _; rw [bit1_xor, ih]; rfl
theorem bit1_zero : bit1 0 = 0 := rfl
theorem bitN_zero (k : Nat) : bitN k 0 = 0 := by
  induction k with
  | zero => rfl
  | succ k ih => exact ih

/-! ### injective: what is not nothing stays so -/
theorem bit1_ne {c : Nat} (h : c < 4294967296) (h0 : c ≠ 0) : bit1 c ≠ 0 := by
  unfold bit1; split
  · intro e
    have e2 : c / 2 = 3988292384 := by
      have := congrArg (· ^^^ 3988292384) e
      simpa [Nat.xor_assoc] using this
    omega
  · omega
theorem bitN_ne (k : Nat) : ∀ {c : Nat}, c < 4294967296 → c ≠ 0 → bitN k c ≠ 0 := by
  induction k with
  | zero => exact fun _ h => h
  | succ k ih => exact fun h h0 => ih (bit1_lt h) (bit1_ne h h0)

/-! ### two texts that differ -/
theorem xor_zero_eq {a b : Nat} (h : a ^^^ b = 0) : a = b := by
  have h2 := congrArg (· ^^^ b) h
  simpa [Nat.xor_assoc] using h2
theorem getD_in {α : Type} {l : List α} {i : Nat} {d : α} (h : i < l.length) : l.getD i d = l[i] := by simp [List.getD, List.getElem?_eq_getElem h]
theorem byte1_xor (a b x y : Nat) : byte1 (a ^^^ b) (x ^^^ y) = byte1 a x ^^^ byte1 b y := by
  unfold byte1
  rw [← bitN_xor]
  congr 1
  rw [Nat.xor_assoc, Nat.xor_assoc]; congr 1
  rw [← Nat.xor_assoc, ← Nat.xor_assoc, Nat.xor_comm b x]
theorem bitN_add (j k c : Nat) : bitN (j + k) c = bitN k (bitN j c) := by
  induction j generalizing c with
  | zero => rw [Nat.zero_add]; rfl
  | succ j ih => rw [Nat.succ_add]; exact ih (bit1 c)
theorem run_xor (l : List UInt8) : ∀ c d, run c l ^^^ run d l = bitN (8 * l.length) (c ^^^ d) := by
  induction l with
  | nil => exact fun _ _ => rfl
  | cons b l ih =>
    intro c d
    show run (byte1 c b.toNat) l ^^^ run (byte1 d b.toNat) l = _
    rw [ih, ← byte1_xor, Nat.xor_self, List.length_cons, Nat.mul_succ, Nat.add_comm, bitN_add]
    unfold byte1; rw [Nat.xor_zero]
theorem run_ne {l : List UInt8} {c d : Nat} (hc : c < 4294967296) (hd : d < 4294967296) (h : c ≠ d) : run c l ≠ run d l := by
  intro e
  have h1 := run_xor l c d
  rw [e, Nat.xor_self] at h1
  refine bitN_ne (8 * l.length) (xor_lt hc hd) ?_ h1.symm
  intro h2
  exact h (xor_zero_eq h2)

/-- One bit turned: of byte p / 8 that of weight 2 ^ (p mod 8). -/
def turn (b : UInt8) (j : Nat) : UInt8 := b ^^^ UInt8.ofNat (2 ^ j)
def flip (l : List UInt8) (p : Nat) : List UInt8 := l.set (p / 8) (turn (l.getD (p / 8) 0) (p % 8))
theorem flip_length (l : List UInt8) (p : Nat) : (flip l p).length = l.length := by simp [flip]
theorem pow_lt {j : Nat} (h : j < 8) : 2 ^ j < 256 := by
  have : j = 0 ∨ j = 1 ∨ j = 2 ∨ j = 3 ∨ j = 4 ∨ j = 5 ∨ j = 6 ∨ j = 7 := by omega
  rcases this with h | h | h | h | h | h | h | h <;> subst h <;> decide
theorem turn_nat (b : UInt8) {j : Nat} (h : j < 8) : (turn b j).toNat = b.toNat ^^^ 2 ^ j := by
  unfold turn; rw [UInt8.toNat_xor, UInt8.toNat_ofNat_of_lt' (pow_lt h)]
theorem turn_turn (b : UInt8) (j : Nat) : turn (turn b j) j = b := by
  unfold turn; rw [UInt8.xor_assoc, UInt8.xor_self, UInt8.xor_zero]
theorem flip_split (l : List UInt8) (p : Nat) (h : p / 8 < l.length) :
    ∃ pre b post, l = pre ++ b :: post ∧ pre.length = p / 8 ∧ flip l p = pre ++ turn b (p % 8) :: post := by
  refine ⟨l.take (p / 8), l[p / 8], l.drop (p / 8 + 1), ?_, by simp; omega, ?_⟩
  · rw [List.getElem_cons_drop, List.take_append_drop]
  · unfold flip
    rw [List.set_eq_take_append_cons_drop, if_pos h, getD_in h]
theorem flip_flip (l : List UInt8) (p : Nat) (h : p / 8 < l.length) : flip (flip l p) p = l := by
  unfold flip
  rw [getD_in h, getD_in (l := l.set _ _) (by simpa using h), List.getElem_set_self, turn_turn, List.set_set, List.set_getElem_self]
theorem pow_ne (j : Nat) : 2 ^ j ≠ 0 := Nat.pos_iff_ne_zero.1 (Nat.two_pow_pos j)
theorem run_turn (r : Nat) (hr : r < 4294967296) (b x : Nat) (hb : b < 256) (hx : x < 256) (h0 : x ≠ 0) (post : List UInt8) :
    run (byte1 r (b ^^^ x)) post ≠ run (byte1 r b) post := by
  have hlt : b ^^^ x < 256 := Nat.xor_lt_two_pow (n := 8) hb hx
  refine run_ne (byte1_lt hr hlt) (byte1_lt hr hb) ?_
  intro e
  have h1 := byte1_xor r r (b ^^^ x) b
  rw [e, Nat.xor_self, Nat.xor_self, Nat.xor_comm b x, Nat.xor_assoc, Nat.xor_self, Nat.xor_zero] at h1
  unfold byte1 at h1
  rw [Nat.zero_xor] at h1
  exact bitN_ne 8 (by omega) h0 h1
/-- With one bit turned a text has another sum. -/
theorem more_flip (c : Nat) (l : List UInt8) (p : Nat) (h : p / 8 < l.length) : more c (flip l p) ≠ more c l := by
  obtain ⟨pre, b, post, hl, _, hf⟩ := flip_split l p h
  have hj : p % 8 < 8 := Nat.mod_lt _ (by omega)
  intro e
  have e2 : run (inv c) (flip l p) = run (inv c) l := by
    have := congrArg inv e
    unfold more at this
    rwa [inv_inv (run_lt _ (inv_lt c)), inv_inv (run_lt _ (inv_lt c))] at this
  rw [hf, hl, run_append, run_append] at e2
  refine run_turn (run (inv c) pre) (run_lt _ (inv_lt c)) b.toNat (2 ^ (p % 8)) (UInt8.toNat_lt b) (pow_lt hj) (pow_ne _) post ?_
  rw [← turn_nat b hj]; exact e2

theorem no_meet : ∀ i, i < 8 → ∀ j, j < 8 → ∀ t, t < 4 → 8 * (t + 1) + j ≤ 31 + i → bitN (8 * t) (bitN 8 (2 ^ i)) ≠ 2 ^ j := by decide +kernel

/-- With two bits turned that are less than 32 apart a text has another sum. -/
theorem more_flip2 (c : Nat) (l : List UInt8) (p q : Nat) (h : p / 8 < l.length) (hq : q < p) (hd : p ≤ q + 31) : more c (flip (flip l p) q) ≠ more c l := by
  have hj : p % 8 < 8 := Nat.mod_lt _ (by omega)
  have hi : q % 8 < 8 := Nat.mod_lt _ (by omega)
  intro e
  have e2 : run (inv c) (flip (flip l p) q) = run (inv c) l := by
    have := congrArg inv e
    unfold more at this
    rwa [inv_inv (run_lt _ (inv_lt c)), inv_inv (run_lt _ (inv_lt c))] at this
  by_cases hs : q / 8 = p / 8
  · -- one byte
    obtain ⟨pre, b, post, hl, hlen, hf⟩ := flip_split l p h
    have hf2 : flip (flip l p) q = pre ++ turn (turn b (p % 8)) (q % 8) :: post := by
      rw [hf]; unfold flip; rw [hs, ← hlen]; simp [List.getD]
    rw [hf2, hl, run_append, run_append] at e2
    refine run_turn (run (inv c) pre) (run_lt _ (inv_lt c)) b.toNat (2 ^ (p % 8) ^^^ 2 ^ (q % 8)) (UInt8.toNat_lt b) (Nat.xor_lt_two_pow (n := 8) (pow_lt hj) (pow_lt hi)) ?_ post ?_
    · intro e0
      have hne : p % 8 ≠ q % 8 := by omega
      have : 2 ^ (p % 8) = 2 ^ (q % 8) := xor_zero_eq e0
      exact hne ((Nat.pow_right_inj (by omega)).1 this)
    · have h3 : (turn (turn b (p % 8)) (q % 8)).toNat = b.toNat ^^^ (2 ^ (p % 8) ^^^ 2 ^ (q % 8)) := by
        rw [turn_nat _ hi, turn_nat _ hj, Nat.xor_assoc]
      rw [← h3]; exact e2
  · -- two bytes: q's is the first
    obtain ⟨pre2, b2, post, hl, hlen, hf⟩ := flip_split l p h
    have hlt : q / 8 < pre2.length := by omega
    obtain ⟨pre, b, mid, hl2, hlen2, hf2⟩ := flip_split pre2 q hlt
    have hf3 : flip (flip l p) q = (pre ++ turn b (q % 8) :: mid) ++ turn b2 (p % 8) :: post := by
      rw [hf, ← hf2]; unfold flip
      rw [List.set_append_left _ _ hlt, getD_in (by simp; omega), getD_in hlt, List.getElem_append_left hlt]
    rw [hf3, hl, hl2, run_append, run_append, run_append, run_append] at e2
    have hmid : mid.length = p / 8 - q / 8 - 1 := by
      have := congrArg List.length hl2
      simp at this; omega
    generalize hr : run (inv c) pre = r at e2
    have hrl : r < 4294967296 := by rw [← hr]; exact run_lt _ (inv_lt c)
    have hu : byte1 r (turn b (q % 8)).toNat ^^^ byte1 r b.toNat = bitN 8 (2 ^ (q % 8)) := by
      rw [← byte1_xor, Nat.xor_self, turn_nat _ hi, Nat.xor_comm b.toNat, Nat.xor_assoc, Nat.xor_self, Nat.xor_zero]
      unfold byte1; rw [Nat.zero_xor]
    have hm := run_xor mid (byte1 r (turn b (q % 8)).toNat) (byte1 r b.toNat)
    rw [hu] at hm
    have l1 : byte1 r (turn b (q % 8)).toNat < 4294967296 := byte1_lt hrl (UInt8.toNat_lt _)
    have l2 : byte1 r b.toNat < 4294967296 := byte1_lt hrl (UInt8.toNat_lt _)
    have e3 : run (byte1 (run (byte1 r (turn b (q % 8)).toNat) mid) (turn b2 (p % 8)).toNat) post = run (byte1 (run (byte1 r b.toNat) mid) b2.toNat) post := e2
    generalize hx : run (byte1 r (turn b (q % 8)).toNat) mid = x at e3 hm
    generalize hy : run (byte1 r b.toNat) mid = y at e3 hm
    have lx : x < 4294967296 := by rw [← hx]; exact run_lt _ l1
    have ly : y < 4294967296 := by rw [← hy]; exact run_lt _ l2
    refine run_ne (l := post) (byte1_lt lx (UInt8.toNat_lt _)) (byte1_lt ly (UInt8.toNat_lt _)) ?_ e3
    intro e4
    have h1 := byte1_xor x y (turn b2 (p % 8)).toNat b2.toNat
    rw [e4, Nat.xor_self, hm, turn_nat _ hj, Nat.xor_comm b2.toNat, Nat.xor_assoc, Nat.xor_self, Nat.xor_zero] at h1
    unfold byte1 at h1
    have lz : bitN (8 * mid.length) (bitN 8 (2 ^ (q % 8))) ^^^ 2 ^ (p % 8) < 4294967296 := by
      have := pow_lt hj
      have := pow_lt hi
      exact xor_lt (bitN_lt _ (bitN_lt 8 (by omega))) (by omega)
    refine bitN_ne 8 lz ?_ h1
    intro e5
    have e6 : bitN (8 * mid.length) (bitN 8 (2 ^ (q % 8))) = 2 ^ (p % 8) := xor_zero_eq e5
    rw [hmid] at e6
    exact no_meet (q % 8) hi (p % 8) hj (p / 8 - q / 8 - 1) (by omega) (by omega) e6
end Go.Proofs.Ytldlkoiekdlmhaa.CrcMath
