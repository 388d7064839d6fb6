/-
  lictorlaw04.WalScans: for every input that can be read the function returns true, and its arguments read as before. No condition.
-/
import Derived.Test.YtiagjjbcngchpaaRefAll
import Derived.Deep.RegionHeld3
import Derived.Test.YtiagjjbcngchpaaRows
import Derived.Test.YtiagjjbcngchpaaSectorOpen
import Derived.Test.YtiagjjbcngchpaaSlotAll
import Derived.WalkKit
import Derived.ProofKit
import Derived.OpenShut
import Derived.ShutString
import Derived.ChangeOld
import Derived.Below
import Derived.SizedLaws
namespace Go.Proofs.Ytiagjjbcngchpaa.walScans
open Go.ChangeShapes Go.WideShapes Go.ChangeAt Go.RowKit
open Go.Proofs.Ytiagjjbcngchpaa.Mem Go.Proofs.Ytiagjjbcngchpaa.Rec Go.Proofs.Ytiagjjbcngchpaa.Sector Go.Proofs.Ytiagjjbcngchpaa.Wal
set_option linter.unusedVariables false
set_option linter.unusedSimpArgs false
set_option maxRecDepth 100000
set_option maxHeartbeats 4000000 in
theorem walk (v0 : Value) (d : Disk) (r : Rg) (a2 : Int) (w : World) (h0 : DiskV w v0 d) (f0 : (Lit.int .i64 d.fuse).wf = true) (w1 : r.has) (w2 : (Lit.int .u64 a2).wf = true) :
    Calls Try.prog 3 #[v0, rgV r, .int .u64 a2] w fun e w' => e = .returned (.bool true) ∧ Below w.heap.size w w' := by
  obtain ⟨ep, rfl, hep⟩ := Crc.nat_u64 w2
  have hv := hid h0
  obtain ⟨rf, rs⟩ := r
  have hr := hid w1
  obtain ⟨sv, pv, rfl, hs, hp⟩ := h0
  obtain ⟨so, scap, rfl, _⟩ := hs.form
  obtain ⟨po, pcap, rfl, _⟩ := hp.form
  clear hs hp f0 w1 w2 hep
  have hs1 := hid (fun v W (h : DiskV W v d) => scan_any d v ⟨rf, rs⟩ ep W h hr.out)
  have hs2 := hid (fun v W (h : DiskV W v d) => rscan_any d v ⟨rf, rs⟩ ep W h hr.out)
  have hc1 := hid (fun v W (h : DiskV W v d) => wcheck_any d v ⟨rf, rs⟩ W h hr.out)
  have hc2 := hid (fun v W (h : DiskV W v d) => rwcheck_any d v ⟨rf, rs⟩ W h hr.out)
  obtain ⟨X, hX⟩ : ∃ X, scanE d ⟨rf, rs⟩ ep = X := ⟨_, rfl⟩
  rw [hX] at hs1 hs2
  clear hX
  obtain ⟨c, hX⟩ : ∃ c, walChk d ⟨rf, rs⟩ = c := ⟨_, rfl⟩
  rw [hX] at hc1 hc2
  clear hX
  obtain ⟨l, n, z⟩ := X
  rw [show rgV ⟨rf, rs⟩ = .agg #[.int .i64 rf, .int .i64 rs] from rfl] at hs1 hs2 hc1 hc2 ⊢
  go_enter Try.func3, Try.ntmps3
  go_upto_region 1 with fail
  have M := hid (((Bag.nil w).push [.slice so d.secs.length scap, .slice po d.pend.length pcap, .bool d.off, .int .i64 d.fuse] 25 w.heap.size rfl).push [.int .i64 rf, .int .i64 rs] 27 (w.heap.size + 1) (by simp))
  generalize (w.alloc (.cells #[.slice so d.secs.length scap, .slice po d.pend.length pcap, .bool d.off, .int .i64 d.fuse] 25)).alloc (.cells #[.int .i64 rf, .int .i64 rs] 27) = X0 at M ⊢
  obtain ⟨d0, d1, d2, d3, df⟩ := (M.out.get 0 rfl).four
  obtain ⟨q0, q1, qf⟩ := (M.out.get 1 rfl).two
  go_wp2_with fail
  (with_reducible refine (hs1.out _ _ (hv.out.below M.out.bel)).mono ?_)
  rintro e w1 ⟨ao1, cap1, rfl, o1, bw⟩
  replace M := hid (M.out.below bw)
  have g1 := hid (FrsV.own (l := l) o1 rfl)
  clear bw hs1 o1 d0 d1 d2 d3 df q0 q1 qf
  obtain ⟨d0, d1, d2, d3, df⟩ := (M.out.get 0 rfl).four
  obtain ⟨q0, q1, qf⟩ := (M.out.get 1 rfl).two
  dsimp only
  go_wp2_with fail
  (with_reducible refine (hs2.out _ _ (hv.out.below M.out.bel)).mono ?_)
  rintro e w2 ⟨ao2, cap2, rfl, o2, bw⟩
  replace M := hid (M.out.below bw)
  replace g1 := hid (g1.out.below bw)
  have g2 := hid (FrsV.own (l := l) o2 rfl)
  clear bw hs2 o2 d0 d1 d2 d3 df q0 q1 qf
  obtain ⟨d0, d1, d2, d3, df⟩ := (M.out.get 0 rfl).four
  obtain ⟨q0, q1, qf⟩ := (M.out.get 1 rfl).two
  dsimp only
  go_upto_region 3 with fail
  have Mw := hid M.out.drew
  have bwd := hid ((Below.refl w2.heap.size w2).drew)
  go_region_held3 (fun W => W.cell? ⟨w.heap.size, 0, none⟩ = some (.slice so d.secs.length scap) ∧ W.cell? ⟨w.heap.size, 1, none⟩ = some (.slice po d.pend.length pcap) ∧ W.cell? ⟨w.heap.size, 2, none⟩ = some (.bool d.off) ∧ W.cell? ⟨w.heap.size, 3, none⟩ = some (.int .i64 d.fuse) ∧ W.cell? ⟨w.heap.size + 1, 0, none⟩ = some (.int .i64 rf) ∧ W.cell? ⟨w.heap.size + 1, 1, none⟩ = some (.int .i64 rs)) (exact ⟨d0, d1, d2, d3, q0, q1⟩) (first
    | (go_at_call 12; refine (Wal.lives_any _).mono ?_; rintro e w3 ⟨rfl, b3⟩; have M3 := hid (Mw.out.below b3); have k1 := hid ((g1.out.below bwd.out).below b3); have k2 := hid ((g2.out.below bwd.out).below b3); obtain ⟨d0, d1, d2, d3, df⟩ := (M3.out.get 0 rfl).four; obtain ⟨q0, q1, qf⟩ := (M3.out.get 1 rfl).two)
    | (go_at_call 13; refine (fsame_any l _ _ _ k1.out k2.out).mono ?_; rintro e w4 ⟨rfl, b4⟩; have M4 := hid (M3.out.below b4); obtain ⟨d0, d1, d2, d3, df⟩ := (M4.out.get 0 rfl).four; obtain ⟨q0, q1, qf⟩ := (M4.out.get 1 rfl).two)
    | (go_at_call 14; refine (hc1.out _ _ (hv.out.below M4.out.bel)).mono ?_; rintro e w5 ⟨rfl, b5⟩; have M5 := hid (M4.out.below b5); obtain ⟨d0, d1, d2, d3, df⟩ := (M5.out.get 0 rfl).four; obtain ⟨q0, q1, qf⟩ := (M5.out.get 1 rfl).two)
    | (go_at_call 15; refine (hc2.out _ _ (hv.out.below M5.out.bel)).mono ?_; rintro e w6 ⟨rfl, b6⟩; have M6 := hid (M5.out.below b6); obtain ⟨d0, d1, d2, d3, df⟩ := (M6.out.get 0 rfl).four; obtain ⟨q0, q1, qf⟩ := (M6.out.get 1 rfl).two))
  all_goals
    go_wp2_with fail
    go_ret
    exact ⟨by simp, M6.out.bel⟩
end Go.Proofs.Ytiagjjbcngchpaa.walScans
namespace Go.Proofs.Ytiagjjbcngchpaa.walScans
open Go.ChangeShapes Go.WideShapes Go.ChangeAt Go.RowKit
open Go.ChangeMaps (open_string shut_string)
set_option linter.unusedVariables false
theorem own : ownKnob Try.prog.godebug = none := by kernel_rfl
theorem laidOut : laidOutB Try.prog = true := by kernel_rfl
set_option maxRecDepth 100000 in
theorem lifted (os : Os) (started : os.Started) (H : Type) (enc : TypeId × Value → H) :
    ReturnsInHanded {} Try.checked os 3 .any (Rows.walScansSpec.pre6 enc Try.prog Try.f3 Rows.walScansRow.domain false) (Rows.walScansSpec.post enc Try.prog Try.f3 false true false false) := by
  refine returnsInHanded_of_change_sized (C := Try.checked) own started (by kernel_rfl) Try.func3
    (ChangeSpec.witness6 (enc := enc) (C := Try.checked) false ⟨#[], #[.agg #[.slice none 0 0, .slice none 0 0, .bool false, .int .i64 0], .agg #[.int .i64 0, .int .i64 0], .int .u64 0], []⟩ 8 (by kernel_rfl) (by kernel_rfl) (by kernel_rfl) (by kernel_rfl)) ?_
  intro W base args ds gs before hval0 hW hcnd hsz0 _
  have hsz : (DataW.weightsEach Try.prog (Try.f3.params.toList ++ Rows.walScansSpec.plain.varTypes Try.prog) (ds ++ gs)).all (· ≤ reachBytes) = true := hsz0
  have hval : ∀ (j : Nat) t v, Try.f3.params[j]? = some t → args[j]? = some v → Value.okWide Try.prog W .any base t v := hval0
  have hW' := hW
  obtain ⟨p, q, hA0, hV, rfl, hfz, hnd⟩ := hW
  have hA : DataW.TrodAll enc Try.prog W 0 (fun _ => true) true Try.f3.params.toList args.toList ds p := hA0
  rw [Try.params3] at hA hval
  obtain ⟨v0, vs0, d0, ds0, p0, q0, hargs, rfl, rfl, h0, r0⟩ := trodAll_cons hA
  obtain ⟨v1, vs1, d1, ds1, p1, q1, rfl, rfl, rfl, h1, r1⟩ := trodAll_cons r0
  obtain ⟨v2, vs2, d2, ds2, p2, q2, rfl, rfl, rfl, h2, r2⟩ := trodAll_cons r1
  obtain ⟨rfl, rfl, rfl⟩ := trodAll_nil r2
  obtain rfl : args = #[v0, v1, v2] := by cases args; simp_all
  obtain ⟨rfl, rfl⟩ := trodVars_none hV
  have lt0 : ∀ x ∈ p0, x.block < W.heap.size := by obtain ⟨m, hm⟩ := h0; exact DataW.trod_lt m _ _ _ hm
  obtain ⟨a0, w0, f0⟩ := Sector.open_disk (hval 0 25 v0 rfl rfl) h0
  have lt1 : ∀ x ∈ p1, x.block < W.heap.size := by obtain ⟨m, hm⟩ := h1; exact DataW.trod_lt m _ _ _ hm
  obtain ⟨a1, rfl, w1⟩ := Wal.open_region (hval 1 27 v1 rfl rfl) h1
  obtain ⟨a2, rfl, rfl, rfl, w2⟩ := open_int Try.underlying28 (hval 2 28 v2 rfl rfl) h2
  clear hA0 hval0
  refine (walk v0 a0 a1 a2 W w0 f0 w1 w2).mono fun e W' ⟨he, bel⟩ => ?_
  subst he
  exact ⟨_, rfl, _, _, _, [], _, [], hW', trodAll_mk1 (shut_bool Try.underlying4 _), (trodAll_cons_mk (Below.trod laidOut (by kernel_rfl) (of_decide_eq_true (by kernel_rfl)) h0 bel lt0) (trodAll_cons_mk (Below.trod laidOut (by kernel_rfl) (of_decide_eq_true (by kernel_rfl)) h1 bel lt1) (trodAll_cons_mk (shut_int Try.underlying28 w2) trodAll_mk0))), rfl, bel.frame _, fun h => by cases h⟩
theorem over : Rows.walScansRow.holds Try.pinned (OpenSpec.ofChange Rows.walScansSpec) :=
  OpenClaim.holds_of_wide 3 Try.f3 rfl rfl rfl rfl rfl rfl rfl ⟨rfl, rfl, rfl, rfl, rfl⟩ rfl rfl rfl rfl rfl (by kernel_rfl) Try.func3 (by kernel_rfl)
    (of_decide_eq_true (by kernel_rfl)) (by unfold Func.isWrapper; first | (rw [if_pos (by decide +kernel)]; kernel_rfl) | (rw [if_neg (by decide +kernel)]; exact ⟨rfl, rfl⟩))
    (fun os started H enc _ => lifted os started H enc)
theorem proved : Rows.WalScansSaid := over
end Go.Proofs.Ytiagjjbcngchpaa.walScans
