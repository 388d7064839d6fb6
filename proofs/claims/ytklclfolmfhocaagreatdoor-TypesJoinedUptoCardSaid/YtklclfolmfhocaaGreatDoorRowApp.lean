/-
  append of a slice that is read to a row of the call's own, whatever the elements are; a literal's row. No program is named.
-/
import Derived.Test.YtklclfolmfhocaaGreatDoorKeep
import Derived.Laws.OwnMore
namespace Go.Proofs.YtklclfolmfhocaaGreatDoor.Mem
open Go.ChangeShapes Go.WideShapes Go.ChangeAt Go.RowKit
set_option linter.unusedVariables false
set_option linter.unusedSimpArgs false
theorem app_own {P : Program} (W : World) (base : Nat) (t ty e : TypeId) (i : TypeInfo) (z : Value) (size bytes : Nat) (ht : P.underlying t = some (.slice e)) (hi : P.info? e = some i) (hz : i.zero = some z)
    (hsize : i.size = size) (hby : i.bytes = bytes) (hzs : z.cells.size = size) (hsz : 0 < size)
    (v : Value) (n : Nat) (xs : List Value) (hown : W.ownsRow base e size v n xs) (u : Value) (m : Nat) (cs : List Value) (hu : SlV W u m cs) (hl : cs.length = m * size) (h1 : ∀ x ∈ cs, x.oneCell' = true)
    (h63 : n + m ≤ maxLen) (hbytes : (n + m) * bytes ≤ 140737488355328) (hbase : base ≤ W.heap.size) :
    ∃ v' W', (Builtin.append_ #[t, t] ty #[v, u]).run P W = .ok v' W' ∧ W'.ownsRow base e size v' (n + m) (xs ++ cs) ∧ W.grownBy W' v.ownBlock ∧ Placed W v v' := by
  obtain ⟨ao, cap, rfl, q2, q3, q4, q5, q6⟩ := hu
  cases ao with
  | none =>
    obtain rfl := q4 rfl
    obtain rfl : m = 0 := by omega
    obtain rfl := q5 rfl
    refine ⟨v, W, ?_, by simpa using hown, ⟨rfl, rfl, rfl, Nat.le_refl _, fun _ _ _ => rfl⟩, .inl rfl⟩
    obtain ⟨vo, vc, rfl, hle, _⟩ := ownsRow_form hown
    cases vo <;> simp [Builtin.append_, Builtin.lenOf, run_underlying ht, sizeOf, typeInfo, hi, hle, run_firstCells_none, storeCells]
  | some a =>
    exact run_append_place (P := P) W base t ty e i z size bytes ht hi hz hsize hby hzs hsz v n xs hown a m cap cs hl (getElem?_cells' (fun j hj => q6 a rfl j hj)) h1 h63 hbytes hbase
end Go.Proofs.YtklclfolmfhocaaGreatDoor.Mem
