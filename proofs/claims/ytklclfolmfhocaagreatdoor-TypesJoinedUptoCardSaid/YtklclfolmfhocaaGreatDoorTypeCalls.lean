/-
  value.TypeName, and the document's: contracts.
-/
import Derived.Test.YtklclfolmfhocaaGreatDoorNameCalls
import Derived.Shelf.Strings.Split
import Derived.Laws.Strings2
import Derived.Laws.Strings3
namespace Go.Proofs.YtklclfolmfhocaaGreatDoor.Nam
open Go.ChangeShapes Go.WideShapes Go.ChangeAt Go.RowKit
open Go.Proofs.YtklclfolmfhocaaGreatDoor.Mem
open Go.Lib (splitB countB occAt)
set_option linter.unusedVariables false
set_option linter.unusedSimpArgs false
set_option maxRecDepth 100000
/-- what strings.Split gives at "::" -/
def SplitTold : Prop := ∀ (s : ByteArray) (w : World), s.size < 4294967281 → (∃ m, w.cell? ⟨2, 0, none⟩ = some (.int .i64 m)) →
  Calls Tryz.prog 110 #[.string s, .string ⟨#[58, 58]⟩] w fun e w' => e = .returned (.slice (some ⟨w.heap.size, 0, none⟩) (countB s sep + 1) (countB s sep + 1)) ∧ Blk w' w.heap.size (strC (splitB sep 0 (countB s sep) s)) 9 ∧ Below w.heap.size w w'
theorem split_len (s : ByteArray) : (splitB sep 0 (countB s sep) s).length = countB s sep + 1 := Lib.splitB_all sep (by decide) 0 _ s rfl
theorem piece_le (k : Nat) : ∀ s : ByteArray, ∀ p ∈ splitB sep 0 k s, p.size ≤ s.size := by
  induction k with
  | zero => intro s p hp; rw [Lib.splitB_zero, List.mem_singleton] at hp; rw [hp]; exact Nat.le_refl _
  | succ k ih =>
    intro s p hp
    rcases Lib.indexB_cases s sep with hx | ⟨i, hx, hr⟩
    · rw [Lib.splitB_miss _ _ _ _ hx, List.mem_singleton] at hp; rw [hp]; exact Nat.le_refl _
    · rw [Lib.splitB_hit _ _ _ _ _ hx, List.mem_cons] at hp
      rcases hp with rfl | hp
      · rw [ByteArray.size_extract]; omega
      · have := ih _ p hp
        rw [ByteArray.size_extract] at this
        omega
theorem all_no {L : List ByteArray} {k : Nat} (hk : k < L.length) (h : nameB L[k] = false) : L.all nameB = false := by
  rw [List.all_eq_false]
  exact ⟨L[k], List.getElem_mem _, by rw [h]; simp⟩
theorem all_yes {L : List ByteArray} (h : ∀ k (hk : k < L.length), nameB L[k] = true) : L.all nameB = true := by
  rw [List.all_eq_true]
  intro x hx
  obtain ⟨k, hk, rfl⟩ := List.getElem_of_mem hx
  exact h k hk
set_option maxHeartbeats 4000000 in
theorem type_any (hS : SplitTold) (s : ByteArray) (w : World) (hs : s.size ≤ 140737488355328) (hm : ∃ m, w.cell? ⟨2, 0, none⟩ = some (.int .i64 m)) :
    Calls Tryz.prog 79 #[.string s] w fun e w' => e = .returned (.bool (typeB s)) ∧ Below w.heap.size w w' := by
  have hsi : (s.size : Int) ≤ 140737488355328 := by omega
  by_cases h1 : 64 < s.size
  · have hn := hid (show typeB s = false by unfold typeB; rw [decide_eq_false (by omega)]; rfl)
    have h1i : (64 : Int) < (s.size : Int) := by omega
    clear h1
    go_enter Tryz.func79, Tryz.ntmps79
    go_wp2_with fail
    go_ret
    exact ⟨by rw [hn.out]; rfl, Below.refl _ _⟩
  · have h1i : ¬ (64 : Int) < (s.size : Int) := by omega
    have hall := hid (show typeB s = (splitB sep 0 (countB s sep) s).all nameB by unfold typeB restB; rw [decide_eq_true (by omega)]; rfl)
    have hsp := hid (hS s w (by omega) hm)
    have hle := hid (piece_le (countB s sep) s)
    have hlen := split_len s
    have hcl := hid (Lib.countB_le sep (by decide) s.size s (Nat.le_refl _))
    generalize splitB sep 0 (countB s sep) s = L at hall hsp hle hlen
    have hL : (countB s sep : Int) ≤ 64 := by have := hcl.out; omega
    generalize countB s sep = n at hsp hlen hL hcl
    have hlen' := hid hlen
    clear h1 hlen hm hcl hS
    go_enter Tryz.func79, Tryz.ntmps79
    go_wp2_with fail
    refine hsp.out.mono ?_
    rintro e w1 ⟨rfl, hB, bw⟩
    have hB' := hid hB
    have bw' := hid bw
    generalize w.heap.size = n0 at hB' ⊢
    clear hB bw hsp
    go_wp2_with fail
    go_loop [11] (fun i => ∃ k : Nat, k ≤ n + 1 ∧ i = .int .i64 k ∧ Hid (∀ j (h : j < L.length), j < k → nameB L[j] = true)) (fun i => n + 1 - (intOf i).toNat)
    case atStart => exact ⟨0, by omega, rfl, hid (fun j _ h => absurd h (by omega))⟩
    case round =>
      obtain ⟨k, hk, rfl, hinv⟩ := hrel
      by_cases hlt : k < n + 1
      · have hki : (k : Int) < (n : Int) + 1 := by omega
        have hkl : k < L.length := by rw [hlen'.out]; exact hlt
        have hcell := (hB'.out.cell k (by rw [strC_len]; exact hkl)).trans (congrArg some (strC_get L k hkl))
        have hnm := hid (fun W => name_any L[k] W (by have := hle.out _ (List.getElem_mem hkl); omega))
        have hno := hid (fun h => all_no hkl h)
        have hyes := hid (show nameB L[k] = true → ∀ j (h : j < L.length), j < k + 1 → nameB L[j] = true from fun hc j h hj => by
          by_cases e : j = k
          · subst e; exact hc
          · exact hinv.out j h (by omega))
        clear hinv
        generalize L[k] = x at hcell hnm hno hyes
        go_wp2_with fail
        refine (hnm.out _).mono ?_
        rintro e w2 ⟨rfl, rfl⟩
        clear hnm
        cases hx : nameB x with
        | true =>
          have hc := hid (hyes.out hx)
          clear hyes hno hx
          go_wp2_with fail
          go_round
          case rel => exact ⟨k + 1, by omega, by go_num, hc⟩
          case measure => simp [intOf]; omega
        | false =>
          have hn := hid (hno.out hx)
          clear hyes hno hx
          go_wp2_with fail
          go_ret
          exact ⟨by rw [hall.out, hn.out]; rfl, bw'.out⟩
      · have hki : ¬ (k : Int) < (n : Int) + 1 := by omega
        have hn := hid (all_yes (fun j hj => hinv.out j hj (by have := hlen'.out; omega)))
        clear hinv
        go_wp2_with fail
        go_ret
        exact ⟨by rw [hall.out, hn.out]; rfl, bw'.out⟩
/-! ### the document's -/
theorem slice_at (s : ByteArray) (i j : Nat) (x y : Int) (hx : x = i) (hy : y = j) (h1 : i ≤ j) (h2 : j ≤ s.size) (W : World) :
    (Instr.slice 9 (.string s) (some (.int .i64 x)) (some (.int .i64 y)) none).run Tryz.prog W = .ok (.string (s.extract i j)) W := by
  rw [run_slice_string (P := Tryz.prog) W 9 s .i64 .i64 x y Tryz.underlying9 (by omega) (by omega) (by omega), hx, hy]
  rfl
theorem slice_from (s : ByteArray) (i : Nat) (x : Int) (hx : x = i) (h2 : i ≤ s.size) (W : World) :
    (Instr.slice 9 (.string s) (some (.int .i64 x)) none none).run Tryz.prog W = .ok (.string (s.extract i s.size)) W := by
  rw [run_slice_string_from_if (P := Tryz.prog) W 9 s .i64 x Tryz.underlying9, if_pos ⟨by omega, by omega⟩, hx]
  rfl
end Go.Proofs.YtklclfolmfhocaaGreatDoor.Nam
