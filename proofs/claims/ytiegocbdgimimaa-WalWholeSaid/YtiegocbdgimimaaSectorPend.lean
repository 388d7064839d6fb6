/-
  The contract of pend.
-/
import Derived.Test.YtiegocbdgimimaaSectorSettle
import Derived.Deep.RegionLaw
namespace Go.Proofs.Ytiegocbdgimimaa.Sector
open Go.ChangeShapes Go.WideShapes Go.ChangeAt Go.RowKit
open Go.Proofs.Ytiegocbdgimimaa.Mem
set_option linter.unusedVariables false

def Pended (w : World) (B db : Nat) (sv : Value) (d : Disk) (e0 : Ending) (w' : World) : Prop :=
  ∃ W pv, e0 = .returned (.tuple #[]) ∧ w' = W.setCell ⟨db, 1, none⟩ pv ∧ Below B w W ∧ OwnDisk B W sv pv d ∧ ∃ ao cap, pv = .slice ao d.pend.length cap

theorem ownsRow_kept {w w' : World} {base : Nat} {e : TypeId} {size : Nat} {v : Value} {n : Nat} {xs : List Value} {row : Option Nat} (h : w.ownsRow base e size v n xs) (hg : w.grownBy w' row) (hne : v.ownBlock = none ∨ v.ownBlock ≠ row) : w'.ownsRow base e size v n xs := h.kept hg hne

/-- append, by an equation on its run, as one step of a region that draws. -/
theorem step_append_run {P : Program} {ops : Array Oper} {o : Oper} {a : Act} {w : World} {K : Act → World → Prop} {Q : Exit → Act → World → Prop} {E : Prop}
    (hg : o.guard = none) (s x : Operand) (t : TypeId) (hop : o.op = Op.call { callee := Callee.builtin Builtin.append, args := #[s, x], argTypes := #[t, t] })
    (v1 v2 v : Value) (w' : World) (hs : a.eval s = v1) (hx : a.eval x = v2) (hrun : (Builtin.append_ #[t, t] o.type #[v1, v2]).run P w = .ok v w') (hK : K (a.put o.dst v) w') :
    if Region.wanted o (yielded ops a.tmps) = true then Oper.wp P o a w K Q else E := by
  have hw : Region.wanted o (yielded ops a.tmps) = true := by simp [Region.wanted, hg]
  rw [if_pos hw]
  unfold Oper.wp
  simp [execOp, hop, resolve, invoke, builtin, hs, hx, hrun, Result.andThen]
  exact hK
theorem pend_any (B db : Nat) (hdb : db < B) (sv pv : Value) (d : Disk) (n : Int) (s : ByteArray) (w : World) (hB : B ≤ w.heap.size) (hblk : Blk w db [sv, pv, .bool d.off, .int .i64 d.fuse] 25) (hown : OwnDisk B w sv pv d)
    (hlen : d.pend.length ≤ 4096) :
    Calls Try.prog 96 #[.agg #[.int .i64 n, .string s], .pointer (some ⟨db, 0, none⟩)] w (Pended w B db sv { d with pend := d.pend ++ [(n, s)] }) := by
  obtain ⟨i0, hi, hz0, hz1, hz2⟩ := info_parts info_write
  obtain ⟨po, pc, rfl, hpl, hpm⟩ := ownsRow_form hown.pend
  have hal : Below w.heap.size w ((w.alloc (.cells #[.int .i64 n, .string s] 133)).alloc (.cells #[.int .i64 n, .string s] 62)).drew :=
    (((Below.refl _ w).alloc (Nat.le_refl _) _).alloc (by simp) _).drew
  obtain ⟨M, hBM, hMw, hsM, hpM⟩ := hown.far
  have hp2 := ownsRow_below hpM hal
  have hs2 := ownsRow_below hown.secs hal
  obtain ⟨v', w', hr, hv, hg, hnil⟩ := run_append_own (P := Try.prog) (((w.alloc (.cells #[.int .i64 n, .string s] 133)).alloc (.cells #[.int .i64 n, .string s] 62)).drew) M 23 23 62 i0 (.agg #[.int .i64 0, .string ⟨#[]⟩]) 2 24 Try.underlying23 hi hz0 hz1 hz2 rfl (by decide)
    _ _ _ hp2 ⟨w.heap.size + 1, 0, none⟩ 1 1 [.int .i64 n, .string s] rfl (by
      intro j u hu
      match j, hu with
      | 0, hu => simp at hu; subst hu; simp [go_sem]
      | 1, hu => simp at hu; subst hu; simp [go_sem, Addr.add]) (by simp [Value.oneCell']) (by unfold maxLen; omega) (by omega) (by simp; omega)
  obtain ⟨ao, cap, rfl, _, _⟩ := ownsRow_form hv
  have hbw : Below B w w' := ((hal.mono hB).grown hg (by simp; omega) (fun k hk => Nat.le_trans hBM (hp2.lt k hk).1))
  have hbl' := (hblk.below hbw hdb)
  obtain ⟨b0, b1, b2, b3, bf⟩ := hblk.four
  obtain ⟨d0, d1, d2, d3, df⟩ := hbl'.four
  have c1a := ((hblk.alloc (.cells #[.int .i64 n, .string s] 133))).four.2.1
  have c1b := ((hblk.alloc (.cells #[.int .i64 n, .string s] 133)).alloc (.cells #[.int .i64 n, .string s] 62)).four.2.1
  have hdone : Hid (OwnDisk B w' sv (.slice ao (d.pend.length + 1) cap) { d with pend := d.pend ++ [(n, s)] }) := hid ⟨by
      exact ownsRow_kept hs2 hg (by
        cases hk : sv.ownBlock with
        | none => exact .inl rfl
        | some k => exact .inr (fun e => hown.apart k hk (by rw [← e]))), M, hBM, Nat.le_trans hMw (by have := hbw.size; omega), hsM, by
      simp only [prC_append, List.length_append, List.length_cons, List.length_nil]
      exact hv⟩
  have hbw' := hid hbw
  clear hv hg hbw hs2 hp2 hal hown hblk hbl' hnil hpl hpm
  go_enter Try.func96, Try.ntmps96
  go_wp2_with fail
  go_region_law (refine step_append_run rfl (.tmp 8) (.tmp 10) 23 rfl _ _ _ _ rfl rfl hr ?_)
  all_goals go_returns
  all_goals exact ⟨w', _, rfl, rfl, hbw'.out, hdone.out, ao, cap, by simp⟩
end Go.Proofs.Ytiegocbdgimimaa.Sector
