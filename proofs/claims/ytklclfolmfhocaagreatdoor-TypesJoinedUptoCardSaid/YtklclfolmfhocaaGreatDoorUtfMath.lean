/-
  UTF-8: what a text's own rounds say of it. No walk.
-/
import Derived.Lib.ValidAsc
import Derived.Lib.DecodeN
namespace Go.Proofs.YtklclfolmfhocaaGreatDoor.Nam
open Go Go.Lib
set_option linter.unusedVariables false
def bad3 : ByteArray := ⟨#[239, 191, 189]⟩
/-- the text stands there -/
def here (s : ByteArray) (i : Nat) : Bool := decide (i + 3 ≤ s.size) && ((s.extract i (i + 3)).toList == bad3.toList)
theorem get_toNat (s : ByteArray) (i : Nat) : (s.get! i).toNat < 256 := (s.get! i).toNat_lt
theorem get!_ext (s : ByteArray) (a b j : Nat) (h : a + j < b) (hb : b ≤ s.size) : (s.extract a b).get! j = s.get! (a + j) := by
  have e1 : j < (s.extract a b).size := by rw [ByteArray.size_extract]; omega
  show (s.extract a b).data[j]! = s.data[a + j]!
  rw [getElem!_pos _ j e1, getElem!_pos s.data (a + j) (by show a + j < s.size; omega)]
  show (s.extract a b).data[j] = _
  simp [ByteArray.data_extract]
theorem here_iff (s : ByteArray) (i : Nat) (h : i + 3 ≤ s.size) : here s i = true ↔ (s.get! i).toNat = 239 ∧ (s.get! (i + 1)).toNat = 191 ∧ (s.get! (i + 2)).toNat = 189 := by
  unfold here
  rw [decide_eq_true h, Bool.true_and, beq_iff_eq, ByteArray.toList_eq, ByteArray.toList_eq]
  have hsz : (s.extract i (i + 3)).size = 3 := by rw [ByteArray.size_extract]; omega
  have e0 := get!_ext s i (i + 3) 0 (by omega) h
  have e1 := get!_ext s i (i + 3) 1 (by omega) h
  have e2 := get!_ext s i (i + 3) 2 (by omega) h
  replace e0 : (s.extract i (i + 3)).get! 0 = s.get! i := e0
  rw [← e0, ← e1, ← e2]
  generalize s.extract i (i + 3) = x at hsz
  obtain ⟨⟨l⟩⟩ := x
  have hl : l.length = 3 := hsz
  match l, hl with
  | [a, b, c], _ =>
    show [a, b, c] = [239, 191, 189] ↔ a.toNat = 239 ∧ b.toNat = 191 ∧ c.toNat = 189
    simp only [List.cons.injEq, and_true]
    constructor
    · rintro ⟨rfl, rfl, rfl⟩; decide
    · rintro ⟨h1, h2, h3⟩; exact ⟨UInt8.toNat_inj.1 h1, UInt8.toNat_inj.1 h2, UInt8.toNat_inj.1 h3⟩
theorem dec_bad (s : ByteArray) (i : Nat) (h : i < s.size) (hr : (Utf8.decode s i).1 = 65533) : (Utf8.decode s i).2 = 1 ↔ here s i = false := by
  have a0 := get_toNat s i; have a1 := get_toNat s (i + 1); have a2 := get_toNat s (i + 2); have a3 := get_toNat s (i + 3)
  have key : here s i = true ↔ (i + 3 ≤ s.size ∧ (s.get! i).toNat = 239 ∧ (s.get! (i + 1)).toNat = 191 ∧ (s.get! (i + 2)).toNat = 189) := by
    by_cases hh : i + 3 ≤ s.size
    · rw [here_iff s i hh]; exact ⟨fun x => ⟨hh, x⟩, fun x => x.2⟩
    · unfold here; simp [hh]
  rw [decode_at] at hr ⊢
  generalize (s.get! i).toNat = b0 at *
  generalize (s.get! (i + 1)).toNat = b1 at *
  generalize (s.get! (i + 2)).toNat = b2 at *
  generalize (s.get! (i + 3)).toNat = b3 at *
  have key2 : here s i = false ↔ ¬ (i + 3 ≤ s.size ∧ b0 = 239 ∧ b1 = 191 ∧ b2 = 189) := by rw [← key]; simp
  rw [key2]
  have hn : (i + 3 ≤ s.size) ↔ 2 < s.size - i := by omega
  rw [hn]
  generalize s.size - i = n at *
  clear key key2 hn
  unfold decodeN at hr ⊢
  split at hr
  · simp only at hr; omega
  · rename_i c0
    rw [if_neg c0]
    split at hr
    · rename_i c1
      rw [if_pos c1]
      split at hr
      · rename_i c2
        simp only at hr; omega
      · rename_i c2
        rw [if_neg c2]
        simp only [true_iff]; omega
    · rename_i c1
      rw [if_neg c1]
      split at hr
      · rename_i c2
        rw [if_pos c2]
        split at hr
        · rename_i c3
          rw [if_pos c3]
          simp only at hr ⊢; omega
        · rename_i c3
          rw [if_neg c3]
          simp only [true_iff]; omega
      · rename_i c2
        rw [if_neg c2]
        split at hr
        · rename_i c3
          rw [if_pos c3]
          split at hr
          · rename_i c4
            simp only at hr; omega
          · rename_i c4
            rw [if_neg c4]
            simp only [true_iff]; omega
        · rename_i c3
          rw [if_neg c3]
          simp only [true_iff]; omega
def utfB (s : ByteArray) : Bool := validD s.data.toList
def tailB (s : ByteArray) (i : Nat) : Bool := validD (s.data.toList.drop i)
theorem tail_zero (s : ByteArray) : tailB s 0 = utfB s := rfl
theorem tail_end (s : ByteArray) (i : Nat) (h : ¬ i < s.size) : tailB s i = true := by
  unfold tailB
  rw [List.drop_eq_nil_of_le (by show s.size ≤ i; omega)]
  rfl
theorem decL (s : ByteArray) (i : Nat) (h : i < s.size) : decodeL (s.data.toList.drop i) = Utf8.decode s i := decodeL_drop s i
theorem tail_step (s : ByteArray) (i : Nat) (h : i < s.size) : tailB s i = if (Utf8.decode s i).1 = 65533 ∧ here s i = false then false else tailB s (i + (Utf8.decode s i).2) := by
  have hne : s.data.toList.drop i ≠ [] := by
    intro e
    have := congrArg List.length e
    rw [List.length_drop] at this
    have e2 : s.data.toList.length = s.size := rfl
    simp only [List.length_nil] at this
    omega
  unfold tailB
  rw [validD_step _ hne, decL s i h, List.drop_drop]
  by_cases hr : (Utf8.decode s i).1 = 65533
  · have := dec_bad s i h hr
    by_cases hk : (Utf8.decode s i).2 = 1
    · rw [if_pos ⟨hr, hk⟩, if_pos ⟨hr, this.1 hk⟩]
    · rw [if_neg (fun x => hk x.2), if_neg (fun x => hk (this.2 x.2))]
  · rw [if_neg (fun x => hr x.1), if_neg (fun x => hr x.1)]
end Go.Proofs.YtklclfolmfhocaaGreatDoor.Nam
