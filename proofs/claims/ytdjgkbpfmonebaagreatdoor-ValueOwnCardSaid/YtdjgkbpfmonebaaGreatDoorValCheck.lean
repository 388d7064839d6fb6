/-
  value.measured, value.Check, of any value: contracts.
-/
import Derived.Test.YtdjgkbpfmonebaaGreatDoorValMeasured
namespace Go.Proofs.YtdjgkbpfmonebaaGreatDoor.Val
open Go.ChangeShapes Go.WideShapes Go.ChangeAt Go.RowKit
open Go.Proofs.YtdjgkbpfmonebaaGreatDoor.Mem Go.Proofs.YtdjgkbpfmonebaaGreatDoor.Nam
set_option linter.unusedVariables false
set_option linter.unusedSimpArgs false
set_option maxRecDepth 100000
theorem meas_any (hS : SplitTold) (hV : ValidTold) (x : T) : Meas x := by
  suffices h : ∀ n (x : T), x.size ≤ n → Meas x from h x.size x (Nat.le_refl _)
  intro n
  induction n with
  | zero => intro x hx; have := x.size_pos; omega
  | succ n ih => intro x hx; exact meas_step hS hV x (fun z hz => ih z (by have := T.size_part hz; omega))
/-- what start-up lays, as these contracts ask it -/
structure Start (w : World) : Prop where
  ml : ∃ m, w.cell? ⟨3, 0, none⟩ = some (.int .i64 m)
  tabs : Tabs w
theorem Start.below {w w' : World} (h : Start w) (b : Below w.heap.size w w') : Start w' :=
  ⟨by obtain ⟨m, hm⟩ := h.ml; exact ⟨m, (b.cell (World.block_lt_of_cell? _ _ hm)).trans hm⟩, h.tabs.below b⟩
def chkV (x : T) : Int := match measT x with
  | none => 7
  | some p => if 8 < p.1 then 4 else if 128 < p.2 then 2 else 0
set_option maxHeartbeats 4000000 in
theorem check_any (hS : SplitTold) (hV : ValidTold) (x : T) (w : World) (h : x.ok w) (hw : Start w) :
    Calls Tryz.prog 10 #[x.val] w fun e w' => e = .returned (.int .i64 (chkV x)) ∧ Below w.heap.size w w' := by
  have cM := hid (fun W (b : Below w.heap.size w W) => meas_any hS hV x W (h.below b) (hw.below b).ml (hw.below b).tabs)
  obtain ⟨no, nc, lo, lc, e1, e2, l1, l2⟩ := h.forms
  have hxv : x.val = .agg #[.int .u8 (x.kind : Nat), .bool x.bool, .int .i64 x.num, .string x.str, .string x.typ, .slice no x.names.length nc, .slice lo x.list.length lc] := by show Value.agg _ = _; unfold T.enc; rw [e1, e2]
  rw [hxv] at cM ⊢
  obtain ⟨R, hR⟩ : ∃ R, chkV x = R := ⟨_, rfl⟩
  rw [hR]
  have hR' := hid (show R = (match measT x with | none => 7 | some p => if 8 < p.1 then 4 else if 128 < p.2 then 2 else 0) from hR.symm)
  clear hR h hw hS hV hxv e1 e2 l1 l2
  go_enter Tryz.func10, Tryz.ntmps10
  go_wp2_with fail
  refine (cM.out _ (by go_grown)).mono ?_
  rintro e w1 ⟨rfl, b1⟩
  have b1' : Hid (Below w.heap.size w w1) := hid (bt (by go_grown) b1)
  clear b1 cM
  cases hm : measT x with
  | none =>
    have hn := hid (show R = 7 by rw [hR'.out, hm])
    clear hR' hm
    rw [show measV none = .tuple #[.agg #[.int .i64 0, .int .i64 0], .bool false] from rfl]
    go_wp2_with fail
    go_ret
    exact ⟨by rw [hn.out]; rfl, b1'.out.alloc b1'.out.size _⟩
  | some p =>
    obtain ⟨d, c⟩ := p
    replace hR' := hid (show R = if 8 < d then 4 else if 128 < c then 2 else 0 by rw [hR'.out, hm])
    clear hm
    rw [show measV (some (d, c)) = .tuple #[.agg #[.int .i64 d, .int .i64 c], .bool true] from rfl]
    by_cases h1 : 8 < d
    · have hn := hid (hR'.out.trans (if_pos h1))
      clear hR'
      go_wp2_with fail
      go_ret
      exact ⟨by rw [hn.out]; rfl, b1'.out.alloc b1'.out.size _⟩
    · by_cases h2 : 128 < c
      · have hn := hid (hR'.out.trans ((if_neg h1).trans (if_pos h2)))
        clear hR'
        go_wp2_with fail
        go_ret
        exact ⟨by rw [hn.out]; rfl, b1'.out.alloc b1'.out.size _⟩
      · have hn := hid (hR'.out.trans ((if_neg h1).trans (if_neg h2)))
        clear hR'
        go_wp2_with fail
        go_ret
        exact ⟨by rw [hn.out]; rfl, b1'.out.alloc b1'.out.size _⟩
end Go.Proofs.YtdjgkbpfmonebaaGreatDoor.Val
