/-
  The contracts of Flip, both.
-/
import Derived.Test.YtgplioocnbjhaaaCrcCore
import Derived.Laws.IdiomStrings
import Derived.RegionTactic
import Derived.ChangeAlike
namespace Go.Proofs.Ytgplioocnbjhaaa.Crc
open Go.ChangeShapes Go.WideShapes Go.ChangeAt Go.RowKit
open Go.Proofs.Ytgplioocnbjhaaa.CrcMath
set_option linter.unusedVariables false
set_option maxRecDepth 100000

/-- What '[]byte(s)' leaves. -/
theorem bytes_world (w : World) (s : ByteArray) (hs : s.size ≤ maxLen) : ∃ (W : World) (cap : Nat), (convert 9 105 (.string s)).run Try.prog w = .ok (.slice (some ⟨w.heap.size, 0, none⟩) s.size cap) W ∧
    Below w.heap.size w W ∧ W.heap.size = w.heap.size + 1 ∧ (∀ j (h : j < s.size), W.cell? ⟨w.heap.size, j, none⟩ = some (.int .u8 (s.data.toList[j].toNat : Int))) ∧
    (∀ j, j < s.size → W.frozen? ⟨w.heap.size, j, none⟩ = false) ∧ s.size ≤ cap ∧ cap ≤ maxLen := by
  have hge := grownCap_ge w s.size 0 5
  have hle := grownCap_le_maxLen w s.size 0 5 hs
  have hb := run_bytes_of_string (P := Try.prog) w 9 105 5 s Try.underlying9 Try.underlying105 Try.underlying5
  generalize grownCap w s.size 0 5 = cap at *
  refine ⟨_, cap, hb, ?_, ?_, ?_, ?_, hge, hle⟩
  · exact (Below.refl _ _).drew.alloc (by simp) _
  · simp
  · intro j h
    have hsz : j < (bytesRow s cap).size := by simp [bytesRow]; omega
    have := World.cell?_alloc_mark w.drew (bytesRow s cap) 5 ((bytesRow s cap).size, (bytesRow s cap).size + 1) j
    rw [show w.drew.heap.size = w.heap.size from rfl] at this
    rw [this, Array.getElem?_eq_getElem hsz]
    simp [bytesRow, h]
  · intro j h
    have hsz : j < (bytesRow s cap).size := by simp [bytesRow]; omega
    have := World.frozen?_alloc_mark w.drew (bytesRow s cap) 5 (bytesRow s cap).size ((bytesRow s cap).size + 1) j
    rw [show w.drew.heap.size = w.heap.size from rfl] at this
    rw [this]
    have : ¬ (bytesRow s cap).size ≤ j := by omega
    simp [this]

theorem flip_cells {W : World} {g : Nat} {l : List UInt8} {p : Nat} (h : p / 8 < l.length) (hcell : ∀ j (h : j < l.length), W.cell? ⟨g, j, none⟩ = some (.int .u8 (l[j].toNat : Int))) (v : Value)
    (hv : v = .int .u8 ((turn l[p / 8] (p % 8)).toNat : Int)) (j : Nat) (hj : j < (CrcMath.flip l p).length) : (W.setCell ⟨g, p / 8, none⟩ v).cell? ⟨g, j, none⟩ = some (.int .u8 ((CrcMath.flip l p)[j].toNat : Int)) := by
  subst hv
  have hj' : j < l.length := by rwa [flip_length] at hj
  by_cases e : j = p / 8
  · subst e
    rw [World.cell?_setCell_same _ _ _ (hcell _ h)]
    simp only [CrcMath.flip, List.getElem_set_self, getD_in h]
  · rw [World.cell?_setCell_other _ _ _ _ (by simp only [ne_eq, Addr.mk.injEq, not_and]; exact fun _ h _ => e h.symm), hcell j hj']
    simp only [CrcMath.flip]
    rw [List.getElem_set_ne (by omega)]

theorem turn_bits (b : UInt8) (j : Nat) (hj : j < 8) : bits BinOp.xor IntKind.u8 (b.toNat : Int) (2 ^ j % 256) = ((turn b j).toNat : Int) := by
  have h1 := pow_lt hj
  have h2 : ((2 : Int) ^ j % 256) = ((2 ^ j : Nat) : Int) := by
    rw [show ((2 : Int) ^ j) = ((2 ^ j : Nat) : Int) by push_cast; rfl]
    exact Int.emod_eq_of_lt (Int.natCast_nonneg _) (Int.ofNat_lt.2 h1)
  rw [h2, u8_xor_nat _ _ (UInt8.toNat_lt b) h1, turn_nat b hj]

theorem emod_two (x : Int) : x % 256 * 2 % 256 = x * 2 % 256 := by omega
theorem flip_no (s : ByteArray) (bit : Int) (w : World) (hs : s.size ≤ 140737488351232) (h : bit < 0 ∨ (s.size : Int) ≤ bit / 8) (hb : bit ≤ 9223372036854775807) :
    Calls Try.prog 54 #[.string s, .int .i64 bit] w fun e w' => e = .returned (.tuple #[.string ⟨#[]⟩, .int .i64 1]) ∧ w = w' := by
  by_cases h1 : bit < 0
  · clear h hb
    go_enter Try.func54, Try.ntmps54
    go_wp2_with fail
    go_ret2
    exact ⟨rfl, rfl⟩
  · have h2 : 0 ≤ bit := by omega
    have h3 : (s.size : Int) ≤ bit / 8 := by omega
    clear h h1
    go_enter Try.func54, Try.ntmps54
    go_wp2_with fail
    go_ret2
    exact ⟨rfl, rfl⟩

theorem flip_yes (s : ByteArray) (p : Nat) (w : World) (hs : s.size ≤ 140737488351232) (h : p / 8 < s.size) :
    Calls Try.prog 54 #[.string s, .int .i64 p] w fun e w' => e = .returned (.tuple #[.string ⟨(flip s.data.toList p).toArray⟩, .int .i64 0]) ∧ Below w.heap.size w w' := by
  have h1 : ¬ (p : Int) < 0 := by omega
  have h2 : ¬ (s.size : Int) ≤ (p : Int) / 8 := by omega
  have h3 : (p : Int) ≤ 9223372036854775807 := by omega
  go_enter Try.func54, Try.ntmps54
  go_wp2_with fail
  obtain ⟨W, cap, hr, hbw, hsz, hcell, hfro, hc1, hc2⟩ := bytes_world w s (by unfold maxLen; omega)
  rw [hr]
  have hcell2 := hid hcell
  have hfro2 := hid hfro
  have hc := hcell (p / 8) h
  have hf := hfro (p / 8) h
  clear hcell hfro hr
  obtain ⟨b, hbe⟩ : ∃ b, s.data.toList[p / 8] = b := ⟨_, rfl⟩
  rw [hbe] at hc
  have hx2 := hid (turn_bits b (p % 8) (Nat.mod_lt _ (by omega)))
  have hbe2 := hid hbe
  clear hbe
  go_wp2_with fail
  go_region
  all_goals
    rw [hx2.out]
    clear hx2 hc hf
    have hback := run_convert_bytes_back (P := Try.prog) (W.setCell ⟨w.heap.size, p / 8, none⟩ (.int .u8 ((turn b (p % 8)).toNat : Int))).drew 105 9 5 ⟨w.heap.size, 0, none⟩ cap (CrcMath.flip s.data.toList p) Try.underlying105 Try.underlying5 Try.underlying9
      (fun j hj => by
        have hadd : (⟨w.heap.size, 0, none⟩ : Addr).add j = ⟨w.heap.size, j, none⟩ := by unfold Addr.add; split <;> simp_all
        rw [hadd]
        rw [World.cell?_drew]
        exact flip_cells (by simpa using h) (fun i hi => hcell2.out i (by simpa using hi)) _ (by rw [hbe2.out]) j hj)
    rw [flip_length] at hback
    have hl : s.data.toList.length = s.size := by simp
    rw [hl] at hback
    have hback2 := hid hback
    clear hback hl
    go_wp2_with fail
    rw [hback2.out]
    go_wp2_with fail
    go_ret2
    exact ⟨rfl, (hbw.setCell (Nat.le_refl _) _).drew⟩

end Go.Proofs.Ytgplioocnbjhaaa.Crc
