/-
  Names, and names of types, as data. No walk.
-/
import Derived.Lib.SplitLaws
namespace Go.Proofs.YtklclfolmfhocaaGreatDoor.Nam
open Go Go.Lib
set_option linter.unusedVariables false
def dig (b : Nat) : Bool := decide (48 ≤ b) && decide (b ≤ 57)
def ltr (b : Nat) : Bool := (decide (65 ≤ b) && decide (b ≤ 90)) || (decide (97 ≤ b) && decide (b ≤ 122))
def chr (b : Nat) : Bool := dig b || ltr b || decide (b = 95)
def wordsL : List (List UInt8) := [[116, 114, 117, 101], [102, 97, 108, 115, 101], [105, 102], [116, 104, 101, 110], [101, 108, 115, 101], [105, 110], [104, 97, 115], [105, 115], [108, 105, 107, 101], [112, 101, 114, 109, 105, 116], [102, 111, 114, 98, 105, 100], [119, 104, 101, 110], [117, 110, 108, 101, 115, 115], [112, 114, 105, 110, 99, 105, 112, 97, 108], [97, 99, 116, 105, 111, 110], [114, 101, 115, 111, 117, 114, 99, 101], [99, 111, 110, 116, 101, 120, 116], [101, 110, 116, 105, 116, 121], [97, 112, 112, 108, 105, 101, 115, 84, 111]]
def NameP (s : ByteArray) : Prop := 0 < s.size ∧ s.size ≤ 64 ∧ s.data.toList ∉ wordsL ∧ dig (s.get! 0).toNat = false ∧ ∀ i, i < s.size → chr (s.get! i).toNat = true
instance (s : ByteArray) : Decidable (NameP s) := by unfold NameP; infer_instance
def nameB (s : ByteArray) : Bool := decide (NameP s)
theorem get!_of {s : ByteArray} {i : Nat} (h : i < s.size) : s.get! i = s[i] := by
  show s.data[i]! = _
  rw [getElem!_pos s.data i h]
  rfl
def sep : ByteArray := ⟨#[58, 58]⟩
theorem sep_size : sep.size = 2 := rfl
def restB (s : ByteArray) : Bool := (splitB sep 0 (countB s sep) s).all nameB
def typeB (s : ByteArray) : Bool := decide (s.size ≤ 64) && restB s
theorem restB_miss {s : ByteArray} (h : indexB s sep = -1) : restB s = nameB s := by
  unfold restB
  rw [splitB_miss _ _ _ _ h]
  simp
theorem restB_hit {s : ByteArray} {i : Nat} (h : indexB s sep = i) : restB s = (nameB (s.extract 0 i) && restB (s.extract (i + 2) s.size)) := by
  unfold restB
  rw [countB_hit s sep i (by decide) h, Nat.add_comm 1, splitB_hit _ _ _ _ _ h, List.all_cons]
  rfl
theorem ext_size {s : ByteArray} {a : Nat} (h : a ≤ s.size) : (s.extract a s.size).size = s.size - a := by rw [ByteArray.size_extract]; omega
theorem nameB_false {s : ByteArray} (h : ¬ NameP s) : nameB s = false := decide_eq_false h
theorem nameB_nil {s : ByteArray} (h : s.size = 0) : nameB s = false := nameB_false fun x => by have := x.1; omega
theorem nameB_long {s : ByteArray} (h : 64 < s.size) : nameB s = false := nameB_false fun x => by have := x.2.1; omega
theorem nameB_res {s : ByteArray} (h : s.data.toList ∈ wordsL) : nameB s = false := nameB_false fun x => x.2.2.1 h
theorem nameB_dig {s : ByteArray} (h : 0 < s.size) (hd : dig s[0].toNat = true) : nameB s = false := nameB_false fun x => by
  have := x.2.2.2.1
  rw [get!_of h, hd] at this
  exact absurd this (by simp)
theorem nameB_chr {s : ByteArray} {i : Nat} (h : i < s.size) (hd : chr s[i].toNat = false) : nameB s = false := nameB_false fun x => by
  have := x.2.2.2.2 i h
  rw [get!_of h, hd] at this
  exact absurd this (by simp)
theorem nameB_yes {s : ByteArray} (h0 : 0 < s.size) (h1 : s.size ≤ 64) (h2 : s.data.toList ∉ wordsL) (h3 : dig s[0].toNat = false) (h4 : ∀ i (h : i < s.size), chr s[i].toNat = true) : nameB s = true :=
  decide_eq_true ⟨h0, h1, h2, by rw [get!_of h0]; exact h3, fun i hi => by rw [get!_of hi]; exact h4 i hi⟩
theorem nil_of {s : ByteArray} (h : s.size = 0) : s = ⟨#[]⟩ := ByteArray.ext (Array.eq_empty_of_size_eq_zero h)
/-- no sep begins in s at a place from a on, ahead of i -/
def Clear (s : ByteArray) (a i : Nat) : Prop := ∀ j, a ≤ j → j < i → occAt s.data.toList sep.data.toList j = false
theorem Clear.nil (s : ByteArray) (a i : Nat) (h : i ≤ a) : Clear s a i := fun j h1 h2 => by omega
theorem Clear.succ {s : ByteArray} {a i : Nat} (h : Clear s a i) (hi : occAt s.data.toList sep.data.toList i = false) : Clear s a (i + 1) := fun j h1 h2 => by
  by_cases e : j = i
  · rw [e]; exact hi
  · exact h j h1 (by omega)
theorem occ_ext (s : ByteArray) (a j : Nat) : occAt (s.extract a s.size).data.toList sep.data.toList j = occAt s.data.toList sep.data.toList (a + j) := by
  rw [extract_to_end]
  unfold occAt
  rw [List.drop_drop]
/-- what is compared: two bytes -/
theorem occ_two {s : ByteArray} {i : Nat} (h : i + 1 < s.size) : occAt s.data.toList sep.data.toList i = ((s.extract i (i + 2)).toList == sep.toList) := occ_of_piece s sep i (by rw [sep_size]; omega)
theorem rest_hit {s : ByteArray} {a i : Nat} (hc : Clear s a i) (ha : a ≤ i) (hi : i + 1 < s.size) (ho : occAt s.data.toList sep.data.toList i = true) :
    restB (s.extract a s.size) = (nameB (s.extract a i) && restB (s.extract (i + 2) s.size)) := by
  have hx : indexB (s.extract a s.size) sep = ((i - a : Nat) : Int) := by
    show index _ _ = _
    refine index_hit (fun j hj => ?_) ?_ ?_
    · rw [occ_ext]; exact hc _ (by omega) (by omega)
    · have := ext_size (s := s) (a := a) (by omega)
      show i - a ≤ (s.extract a s.size).size
      omega
    · rw [occ_ext, show a + (i - a) = i by omega]; exact ho
  rw [restB_hit hx]
  congr 2
  · rw [ByteArray.extract_extract]; congr 1 <;> omega
  · rw [ByteArray.extract_extract]
    have := ext_size (s := s) (a := a) (by omega)
    congr 1 <;> omega
theorem rest_end {s : ByteArray} {a : Nat} (ha : a ≤ s.size) (hc : ∀ j, a ≤ j → j + 1 < s.size → occAt s.data.toList sep.data.toList j = false) : restB (s.extract a s.size) = nameB (s.extract a s.size) := by
  refine restB_miss ?_
  show index _ _ = _
  refine index_none (fun j hj => ?_)
  rw [occ_ext]
  by_cases h : a + j + 1 < s.size
  · exact hc _ (by omega) h
  · cases ho : occAt s.data.toList sep.data.toList (a + j) with
    | false => rfl
    | true =>
      rcases occAt_room ho with h1 | h1
      · have e1 : sep.data.toList.length = 2 := rfl
        have e2 : s.data.toList.length = s.size := rfl
        omega
      · exact absurd h1 (by decide)
end Go.Proofs.YtklclfolmfhocaaGreatDoor.Nam
