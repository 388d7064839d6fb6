/-
  burnt; a write appended to a disk of the call's own.
-/
import Derived.Test.YtgplioocnbjhaaaSectorHolds
import Derived.Test.YtgplioocnbjhaaaSectorPend
import Derived.Test.YtgplioocnbjhaaaSectorCopyRef
namespace Go.Proofs.Ytgplioocnbjhaaa.Sector
open Go.ChangeShapes Go.WideShapes Go.ChangeAt Go.RowKit
open Go.Proofs.Ytgplioocnbjhaaa.Mem
set_option linter.unusedVariables false
theorem burnt_0 (so po : Option Addr) (n sc m pc : Nat) (off : Bool) (w : World) :
    Calls Try.prog 59 #[.agg #[.slice so n sc, .slice po m pc, .bool off, .int .i64 0]] w fun e w' => e = .returned (.tuple #[.agg #[.slice so n sc, .slice po m pc, .bool true, .int .i64 0], .bool false]) ∧ Below w.heap.size w w' := by
  go_enter Try.func59, Try.ntmps59
  go_wp2_with fail
  refine bodyPost_ret (v := .tuple #[.agg #[.slice so n sc, .slice po m pc, .bool true, .int .i64 0], .bool false]) (by simp [results, Try.results59, go_sem]) rfl ?_
  exact ⟨rfl, by go_grown⟩
def fuseE (f : Int) : Int := if 0 < f then f - 1 else f
theorem burnt_1 (so po : Option Addr) (n sc m pc : Nat) (off : Bool) (f : Int) (w : World) (h0 : f ≠ 0) (hw : (Lit.int .i64 f).wf = true) :
    Calls Try.prog 59 #[.agg #[.slice so n sc, .slice po m pc, .bool off, .int .i64 f]] w fun e w' => e = .returned (.tuple #[.agg #[.slice so n sc, .slice po m pc, .bool off, .int .i64 (fuseE f)], .bool true]) ∧ Below w.heap.size w w' := by
  have hf := bounds_i64 hw
  have h1 : (f == 0) = false := beq_eq_false_iff_ne.2 h0
  have hu := hf.2
  clear hw hf
  by_cases hp : 0 < f
  · have he : Hid (fuseE f = f - 1) := hid (by unfold fuseE; rw [if_pos hp])
    go_enter Try.func59, Try.ntmps59
    go_wp2_with fail
    refine bodyPost_ret (v := .tuple #[.agg #[.slice so n sc, .slice po m pc, .bool off, .int .i64 (f - 1)], .bool true]) (by simp [results, Try.results59, go_sem]) rfl ?_
    rw [he.out]
    exact ⟨rfl, by go_grown⟩
  · have he : Hid (fuseE f = f) := hid (by unfold fuseE; rw [if_neg hp])
    go_enter Try.func59, Try.ntmps59
    go_wp2_with fail
    refine bodyPost_ret (v := .tuple #[.agg #[.slice so n sc, .slice po m pc, .bool off, .int .i64 f], .bool true]) (by simp [results, Try.results59, go_sem]) rfl ?_
    rw [he.out]
    exact ⟨rfl, by go_grown⟩
theorem app_write (B : Nat) (w : World) (sv : Value) (po : Option Addr) (pc : Nat) (d : Disk) (n : Int) (s : ByteArray) (hB : B ≤ w.heap.size) (hown : OwnDisk B w sv (.slice po d.pend.length pc) d) (hlen : d.pend.length ≤ 4096) :
    ∃ ao cap w', (Builtin.append_ #[23, 23] 23 #[.slice po d.pend.length pc, .slice (some ⟨w.heap.size, 0, none⟩) 1 1]).run Try.prog (w.alloc (.cells #[.int .i64 n, .string s] 96)) = .ok (.slice ao (d.pend.length + 1) cap) w' ∧
      OwnDisk B w' sv (.slice ao (d.pend.length + 1) cap) { d with pend := d.pend ++ [(n, s)] } ∧ Below B w w' := by
  obtain ⟨i0, hi, hz0, hz1, hz2⟩ := info_parts info_write
  have hal : Below w.heap.size w (w.alloc (.cells #[.int .i64 n, .string s] 96)) := (Below.refl _ w).alloc (Nat.le_refl _) _
  obtain ⟨M, hBM, hMw, hsM, hpM⟩ := hown.far
  have hp2 := ownsRow_below hpM hal
  have hs2 := ownsRow_below hown.secs hal
  obtain ⟨v', w', hr, hv, hg, hnil⟩ := run_append_own (P := Try.prog) (w.alloc (.cells #[.int .i64 n, .string s] 96)) M 23 23 96 i0 (.agg #[.int .i64 0, .string ⟨#[]⟩]) 2 24 Try.underlying23 hi hz0 hz1 hz2 rfl (by decide)
    _ _ _ hp2 ⟨w.heap.size, 0, none⟩ 1 1 [.int .i64 n, .string s] rfl (by
      intro j u hu
      match j, hu with
      | 0, hu => simp at hu; subst hu; simp [go_sem]
      | 1, hu => simp at hu; subst hu; simp [go_sem, Addr.add]) (by simp [Value.oneCell']) (by unfold maxLen; omega) (by omega) (by simp; omega)
  obtain ⟨ao, cap, rfl, _, _⟩ := ownsRow_form hv
  refine ⟨ao, cap, w', hr, ⟨?_, M, hBM, ?_, hsM, ?_⟩, (hal.mono hB).grown hg (by simp; omega) (fun k hk => Nat.le_trans hBM (hp2.lt k hk).1)⟩
  · exact ownsRow_kept hs2 hg (by
      cases hk : sv.ownBlock with
      | none => exact .inl rfl
      | some k => exact .inr (fun e => hown.apart k hk (by rw [← e])))
  · have hb := (hal.mono hB).grown hg (by simp; omega) (fun k hk => Nat.le_trans hBM (hp2.lt k hk).1)
    exact Nat.le_trans hMw hb.size
  · simp only [prC_append, List.length_append, List.length_cons, List.length_nil]
    exact hv
end Go.Proofs.Ytgplioocnbjhaaa.Sector
