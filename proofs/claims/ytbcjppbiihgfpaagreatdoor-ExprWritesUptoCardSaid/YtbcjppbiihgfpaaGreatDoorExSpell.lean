/-
  expr.spelling: its contract, by the evaluator (each of the 256 ops). No walk.
-/
import Derived.Test.YtbcjppbiihgfpaaGreatDoorEvSigns
import Derived.Test.YtbcjppbiihgfpaaGreatDoorExKids
namespace Go.Proofs.YtbcjppbiihgfpaaGreatDoor.Ex
open Go.ChangeShapes Go.WideShapes Go.ChangeAt Go.RowKit
open Go.Proofs.YtbcjppbiihgfpaaGreatDoor.Mem
set_option linter.unusedVariables false
set_option maxRecDepth 100000
noncomputable def isText (l : List UInt8) : Option (Value × Ev.St) → Bool
  | some (.string b, _) => Ev.eqBytes b.data.toList l
  | _ => false
theorem isText_eq {l : List UInt8} {r : Option (Value × Ev.St)} (h : isText l r = true) : ∃ s, r = some (.string ⟨l.toArray⟩, s) := by
  unfold isText at h
  split at h
  · rename_i b s
    rw [Ev.eqBytes_eq, beq_iff_eq] at h
    exact ⟨s, by rw [← h]⟩
  · cases h
noncomputable def spOne (k : Nat) : Bool := isText (spellT k) (Ev.evCall Tryz.prog (Ev.evDraw Tryz.prog) Ev.orc 1000 166 [.int .u8 (.ofNat k)] Ev.st0)
noncomputable def spAll (n : Nat) : Nat → Bool := Nat.rec (fun _ => true) (fun _ ih k => Ev.sel (spOne k) (ih (Nat.succ k)) false) n
theorem spAll_at : ∀ (n k : Nat), spAll n k = true → ∀ j, k ≤ j → j < k + n → spOne j = true := by
  intro n
  induction n with
  | zero => intro k _ j h1 h2; omega
  | succ n ih =>
    intro k h j h1 h2
    have e : spAll (n + 1) k = Ev.sel (spOne k) (spAll n (k + 1)) false := rfl
    rw [e] at h
    cases hk : spOne k with
    | false => rw [hk] at h; cases h
    | true =>
      rw [hk] at h
      rcases Nat.eq_or_lt_of_le h1 with rfl | h3
      · exact hk
      · exact ih (k + 1) h j h3 (by omega)
theorem sp_a : spAll 64 0 = true := by kernel_rfl
theorem sp_b : spAll 64 64 = true := by kernel_rfl
theorem sp_c : spAll 64 128 = true := by kernel_rfl
theorem sp_d : spAll 64 192 = true := by kernel_rfl
theorem spOne_all (k : Nat) (hk : k < 256) : spOne k = true := by
  rcases Nat.lt_or_ge k 64 with h1 | h1
  · exact spAll_at 64 0 sp_a k (by omega) (by omega)
  · rcases Nat.lt_or_ge k 128 with h2 | h2
    · exact spAll_at 64 64 sp_b k h1 (by omega)
    · rcases Nat.lt_or_ge k 192 with h3 | h3
      · exact spAll_at 64 128 sp_c k h2 (by omega)
      · exact spAll_at 64 192 sp_d k h3 (by omega)
theorem spell_any (k : Nat) (hk : k < 256) (W : World) (h : Ev.Laid W) :
    Calls Tryz.prog 166 #[.int .u8 (k : Nat)] W fun e W' => e = .returned (.string (spellS k)) ∧ Below W.heap.size W W' := by
  obtain ⟨s, hs⟩ := isText_eq (spOne_all k hk)
  exact Ev.answers hs rfl rfl h
end Go.Proofs.YtbcjppbiihgfpaaGreatDoor.Ex
