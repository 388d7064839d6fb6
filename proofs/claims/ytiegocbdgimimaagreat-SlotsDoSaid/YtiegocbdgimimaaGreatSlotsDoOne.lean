/-
  lictorlaw05.SlotsDo: for every input that can be read the function returns true, and its arguments read as before. No condition.
-/
import Derived.Test.YtiegocbdgimimaaGreatRefAll
import Derived.Test.YtiegocbdgimimaaGreatRefRun
import Derived.Test.YtiegocbdgimimaaGreatSectorCopyRef
import Derived.Deep.RegionHeld3
import Derived.Test.YtiegocbdgimimaaGreatSectorOpen
import Derived.SizedLaws
import Derived.Test.YtiegocbdgimimaaGreatRows
import Derived.Test.YtiegocbdgimimaaGreatSlotAll
import Derived.WalkKit
import Derived.ProofKit
import Derived.OpenShut
import Derived.ShutString
import Derived.ChangeOld
import Derived.Below
namespace Go.Proofs.YtiegocbdgimimaaGreat.Slot
open Go.ChangeShapes Go.WideShapes Go.ChangeAt Go.RowKit
open Go.Proofs.YtiegocbdgimimaaGreat.Mem Go.Proofs.YtiegocbdgimimaaGreat.Rec Go.Proofs.YtiegocbdgimimaaGreat.Sector Go.Proofs.YtiegocbdgimimaaGreat.Wal
set_option linter.unusedVariables false
set_option linter.unusedSimpArgs false
set_option maxRecDepth 100000
set_option maxHeartbeats 4000000 in
theorem rslchk_any (d : Disk) (v : Value) (a b : Rg) (w : World) (h : DiskV w v d) (ha : a.has) (hb : b.has) :
    Calls Tryz.prog 12 #[v, rgV a, rgV b] w fun e w' => e = .returned (.int .i64 (slChk d a b)) ∧ Below w.heap.size w w' := by
  have hca := hid (fun v W (h : DiskV W v d) => rwcheck_any d v a W h ha)
  have hcb := hid (fun v W (h : DiskV W v d) => rwcheck_any d v b W h hb)
  have hv := hid h
  obtain ⟨sv, pv, rfl, hs, hp⟩ := h
  obtain ⟨so, scap, rfl, _⟩ := hs.form
  obtain ⟨po, pcap, rfl, _⟩ := hp.form
  clear hs hp
  obtain ⟨af, az⟩ := a
  obtain ⟨bf, bz⟩ := b
  clear ha hb
  rw [show rgV ⟨af, az⟩ = .agg #[.int .i64 af, .int .i64 az] from rfl] at hca ⊢
  rw [show rgV ⟨bf, bz⟩ = .agg #[.int .i64 bf, .int .i64 bz] from rfl] at hcb ⊢
  go_enter Tryz.func12, Tryz.ntmps12
  go_upto_region 1 with fail
  have M := hid ((((Bag.nil w).push [.slice so d.secs.length scap, .slice po d.pend.length pcap, .bool d.off, .int .i64 d.fuse] 25 w.heap.size rfl).push [.int .i64 af, .int .i64 az] 27 (w.heap.size + 1) (by simp)).push [.int .i64 bf, .int .i64 bz] 27 (w.heap.size + 2) (by simp))
  generalize ((w.alloc (.cells #[.slice so d.secs.length scap, .slice po d.pend.length pcap, .bool d.off, .int .i64 d.fuse] 25)).alloc (.cells #[.int .i64 af, .int .i64 az] 27)).alloc (.cells #[.int .i64 bf, .int .i64 bz] 27) = X0 at M ⊢
  obtain ⟨d0, d1, d2, d3, df⟩ := (M.out.get 0 rfl).four
  obtain ⟨p0, p1, pf⟩ := (M.out.get 1 rfl).two
  go_wp2_with fail
  (with_reducible refine (hca.out _ _ (hv.out.below M.out.bel)).mono ?_)
  rintro e w1 ⟨rfl, bw⟩
  replace M := hid (M.out.below bw)
  clear bw hca d0 d1 d2 d3 df p0 p1 pf
  by_cases h1 : walChk d ⟨af, az⟩ = 0
  · have k1 := hid (walChk_zero h1)
    rw [h1]
    obtain ⟨d0, d1, d2, d3, df⟩ := (M.out.get 0 rfl).four
    obtain ⟨q0, q1, qf⟩ := (M.out.get 2 rfl).two
    go_wp2_with fail
    (with_reducible refine (hcb.out _ _ (hv.out.below M.out.bel)).mono ?_)
    rintro e w1 ⟨rfl, bw⟩
    replace M := hid (M.out.below bw)
    clear bw hcb d0 d1 d2 d3 df q0 q1 qf
    by_cases h2 : walChk d ⟨bf, bz⟩ = 0
    · obtain ⟨x1, x2, x3, x4, x5⟩ := walChk_zero h2
      obtain ⟨y1, y2, y3, y4, y5⟩ := k1.out
      dsimp only at x2 x3 x4 y2 y3 y4
      have hfin := hid (show slChk d ⟨af, az⟩ ⟨bf, bz⟩ = if twiceB ⟨af, az⟩ ⟨bf, bz⟩ = true then 10 else 0 by unfold slChk; rw [if_neg (by simpa using h1), if_neg (by simpa using h2)])
      rw [h2]
      clear h1 h2 k1 x1 y1
      have z1 : IntKind.i64.wrap (bf + bz) = bf + bz := by rw [IntWalk.i64_in _ (by omega)]
      have z2 : IntKind.i64.wrap (af + az) = af + az := by rw [IntWalk.i64_in _ (by omega)]
      obtain ⟨p0, p1, pf⟩ := (M.out.get 1 rfl).two
      obtain ⟨q0, q1, qf⟩ := (M.out.get 2 rfl).two
      by_cases c1 : af < bf + bz
      · by_cases c2 : bf < af + az
        · replace hfin := hid (show slChk d ⟨af, az⟩ ⟨bf, bz⟩ = 10 by rw [hfin.out, if_pos (by unfold twiceB; simp [c1, c2])])
          go_wp2_with fail
          go_ret
          exact ⟨by rw [hfin.out]; rfl, M.out.bel⟩
        · replace hfin := hid (show slChk d ⟨af, az⟩ ⟨bf, bz⟩ = 0 by rw [hfin.out, if_neg (by unfold twiceB; simp [c1, c2])])
          go_wp2_with fail
          go_ret
          exact ⟨by rw [hfin.out]; rfl, M.out.bel⟩
      · replace hfin := hid (show slChk d ⟨af, az⟩ ⟨bf, bz⟩ = 0 by rw [hfin.out, if_neg (by unfold twiceB; simp [c1])])
        go_wp2_with fail
        go_ret
        exact ⟨by rw [hfin.out]; rfl, M.out.bel⟩
    · have hfin := hid (show slChk d ⟨af, az⟩ ⟨bf, bz⟩ = walChk d ⟨bf, bz⟩ by unfold slChk; rw [if_neg (by simpa using h1), if_pos h2])
      have e1 : (walChk d ⟨bf, bz⟩ == 0) = false := by simpa using h2
      generalize walChk d ⟨bf, bz⟩ = c at e1 hfin ⊢
      clear h1 h2 k1
      go_wp2_with fail
      go_ret
      exact ⟨by rw [hfin.out]; rfl, M.out.bel⟩
  · have hfin := hid (show slChk d ⟨af, az⟩ ⟨bf, bz⟩ = walChk d ⟨af, az⟩ by unfold slChk; rw [if_pos h1])
    have e1 : (walChk d ⟨af, az⟩ == 0) = false := by simpa using h1
    generalize walChk d ⟨af, az⟩ = c at e1 hfin ⊢
    clear h1 hcb
    go_wp2_with fail
    go_ret
    exact ⟨by rw [hfin.out]; rfl, M.out.bel⟩
set_option maxHeartbeats 4000000 in
theorem rimage_any (d : Disk) (v : Value) (F S : Nat) (w : World) (h : DiskV w v d) (hc : walChk d ⟨F, S⟩ = 0) (ho : d.off = false) :
    Calls Tryz.prog 14 #[v, rgV ⟨F, S⟩] w (ImTold w (imIn (cont d ⟨F, S⟩) S)) := by
  have hfr := hid (fun v W (h : DiskV W v d) => (show Calls Tryz.prog 26 #[v, rgV ⟨F, S⟩, .int .i64 0] W (FrTold W (frAt (cont d ⟨F, S⟩) S 0)) from rframe_any d v F S 0 W h hc ho (by omega)))
  have hv := hid h
  obtain ⟨sv, pv, rfl, hs, hp⟩ := h
  obtain ⟨so, scap, rfl, _⟩ := hs.form
  obtain ⟨po, pcap, rfl, _⟩ := hp.form
  clear hs hp
  obtain ⟨x, hx⟩ : ∃ x, frAt (cont d ⟨F, S⟩) S 0 = x := ⟨_, rfl⟩
  rw [hx] at hfr
  have hI := hid hx
  clear hx hc ho
  obtain ⟨f, n⟩ := x
  rw [show rgV ⟨F, S⟩ = .agg #[.int .i64 (F : Nat), .int .i64 (S : Nat)] from rfl] at hfr ⊢
  go_enter Tryz.func14, Tryz.ntmps14
  go_upto_region 1 with fail
  have M := hid ((((Bag.nil w).push [.slice so d.secs.length scap, .slice po d.pend.length pcap, .bool d.off, .int .i64 d.fuse] 25 w.heap.size rfl).push [.int .i64 (F : Nat), .int .i64 (S : Nat)] 27 (w.heap.size + 1) (by simp)).push [.int .u64 0, .string ⟨#[]⟩] 30 (w.heap.size + 2) (by simp))
  generalize ((w.alloc (.cells #[.slice so d.secs.length scap, .slice po d.pend.length pcap, .bool d.off, .int .i64 d.fuse] 25)).alloc (.cells #[.int .i64 (F : Nat), .int .i64 (S : Nat)] 27)).alloc (.cells #[.int .u64 0, .string ⟨#[]⟩] 30) = X0 at M ⊢
  obtain ⟨d0, d1, d2, d3, df⟩ := (M.out.get 0 rfl).four
  obtain ⟨p0, p1, pf⟩ := (M.out.get 1 rfl).two
  go_wp2_with fail
  (with_reducible refine (hfr.out _ _ (hv.out.below M.out.bel)).mono ?_)
  rintro e w1 ⟨rfl, bw⟩
  replace M := hid (M.out.below bw)
  clear bw hfr d0 d1 d2 d3 df p0 p1 pf
  unfold frV
  dsimp only
  go_upto_region 2 with fail
  replace M := hid (M.out.push [.int .u8 f.kind, .int .u64 f.epoch, .int .u64 f.seq, .string f.pay] 45 w1.heap.size rfl)
  generalize w1.alloc (.cells #[.int .u8 f.kind, .int .u64 f.epoch, .int .u64 f.seq, .string f.pay] 45) = X1 at M ⊢
  generalize w1.heap.size = n1 at M ⊢
  by_cases h1 : n = 0
  · have e1 : ((n : Int) == 0) = true := by rw [h1]; rfl
    have hfin := hid (show imIn (cont d ⟨F, S⟩) S = none by unfold imIn; rw [hI.out, if_neg (fun hz => hz.1 h1)])
    clear h1 hI
    obtain ⟨f0, f1, f2, f3, ff⟩ := (M.out.get 3 rfl).four
    obtain ⟨z0, z1, zf⟩ := (M.out.get 2 rfl).two
    have M9 := hid ((M.out.put 2 rfl (by decide) (by decide) 0 (.int .u64 0)).put 2 rfl (by decide) (by decide) 1 (.string ⟨#[]⟩))
    go_wp2_with fail
    clear f0 f1 f2 f3 ff z0 z1 zf
    obtain ⟨q0, q1, qf⟩ := (M9.out.get 2 rfl).two
    exact bodyPost_ret (v := .tuple #[.agg #[.int .u64 0, .string ⟨#[]⟩], .bool false]) (by simp [results, Tryz.results14, go_sem, q0, q1]) rfl ⟨by rw [hfin.out]; rfl, M9.out.bel⟩
  · have e1 : ((n : Int) == 0) = false := by rw [beq_eq_false_iff_ne]; omega
    by_cases h2 : f.kind = 2
    · have e2 : ((f.kind : Int) != 2) = false := by rw [h2]; rfl
      by_cases h3 : f.seq = 0
      · have e3 : ((f.seq : Int) != 0) = false := by rw [h3]; rfl
        have hfin := hid (show imIn (cont d ⟨F, S⟩) S = some ⟨f.epoch, f.pay⟩ by unfold imIn; rw [hI.out, if_pos ⟨h1, h3, h2⟩])
        clear h1 h2 h3 hI
        obtain ⟨f0, f1, f2, f3, ff⟩ := (M.out.get 3 rfl).four
        obtain ⟨z0, z1, zf⟩ := (M.out.get 2 rfl).two
        have M9 := hid ((M.out.put 2 rfl (by decide) (by decide) 0 (.int .u64 f.epoch)).put 2 rfl (by decide) (by decide) 1 (.string f.pay))
        go_wp2_with fail
        clear f0 f1 f2 f3 ff z0 z1 zf
        obtain ⟨q0, q1, qf⟩ := (M9.out.get 2 rfl).two
        exact bodyPost_ret (v := .tuple #[.agg #[.int .u64 f.epoch, .string f.pay], .bool true]) (by simp [results, Tryz.results14, go_sem, q0, q1]) rfl ⟨by rw [hfin.out]; rfl, M9.out.bel⟩
      · have e3 : ((f.seq : Int) != 0) = true := by rw [bne_iff_ne]; omega
        have hfin := hid (show imIn (cont d ⟨F, S⟩) S = none by unfold imIn; rw [hI.out, if_neg (fun hz => h3 hz.2.1)])
        clear h1 h2 h3 hI
        obtain ⟨f0, f1, f2, f3, ff⟩ := (M.out.get 3 rfl).four
        obtain ⟨z0, z1, zf⟩ := (M.out.get 2 rfl).two
        have M9 := hid ((M.out.put 2 rfl (by decide) (by decide) 0 (.int .u64 0)).put 2 rfl (by decide) (by decide) 1 (.string ⟨#[]⟩))
        go_wp2_with fail
        clear f0 f1 f2 f3 ff z0 z1 zf
        obtain ⟨q0, q1, qf⟩ := (M9.out.get 2 rfl).two
        exact bodyPost_ret (v := .tuple #[.agg #[.int .u64 0, .string ⟨#[]⟩], .bool false]) (by simp [results, Tryz.results14, go_sem, q0, q1]) rfl ⟨by rw [hfin.out]; rfl, M9.out.bel⟩
    · have e2 : ((f.kind : Int) != 2) = true := by rw [bne_iff_ne]; omega
      have hfin := hid (show imIn (cont d ⟨F, S⟩) S = none by unfold imIn; rw [hI.out, if_neg (fun hz => h2 hz.2.2)])
      clear h1 h2 hI
      obtain ⟨f0, f1, f2, f3, ff⟩ := (M.out.get 3 rfl).four
      obtain ⟨z0, z1, zf⟩ := (M.out.get 2 rfl).two
      have M9 := hid ((M.out.put 2 rfl (by decide) (by decide) 0 (.int .u64 0)).put 2 rfl (by decide) (by decide) 1 (.string ⟨#[]⟩))
      go_wp2_with fail
      clear f0 f1 f2 f3 ff z0 z1 zf
      obtain ⟨q0, q1, qf⟩ := (M9.out.get 2 rfl).two
      exact bodyPost_ret (v := .tuple #[.agg #[.int .u64 0, .string ⟨#[]⟩], .bool false]) (by simp [results, Tryz.results14, go_sem, q0, q1]) rfl ⟨by rw [hfin.out]; rfl, M9.out.bel⟩
set_option maxHeartbeats 4000000 in
theorem rload_bad (d : Disk) (v : Value) (a b : Rg) (w : World) (h : DiskV w v d) (ha : a.has) (hb : b.has) (hc : slChk d a b ≠ 0) :
    Calls Tryz.prog 6 #[v, rgV a, rgV b] w (LdTold w (loadE d a b)) := by
  have hck := hid (fun v W (h : DiskV W v d) => rslchk_any d v a b W h ha hb)
  have hv := hid h
  obtain ⟨sv, pv, rfl, hs, hp⟩ := h
  obtain ⟨so, scap, rfl, _⟩ := hs.form
  obtain ⟨po, pcap, rfl, _⟩ := hp.form
  clear hs hp
  have hfin := hid (show loadE d a b = ⟨zeroIm, 0, slChk d a b⟩ by unfold loadE; rw [if_pos hc])
  obtain ⟨af, az⟩ := a
  obtain ⟨bf, bz⟩ := b
  have e1 : (slChk d ⟨af, az⟩ ⟨bf, bz⟩ == 0) = false := by simpa using hc
  have e2 : (slChk d ⟨af, az⟩ ⟨bf, bz⟩ != 0) = true := by simpa using hc
  generalize slChk d ⟨af, az⟩ ⟨bf, bz⟩ = c at e1 e2 hfin hck
  clear hc ha hb
  rw [show rgV ⟨af, az⟩ = .agg #[.int .i64 af, .int .i64 az] from rfl] at hck ⊢
  rw [show rgV ⟨bf, bz⟩ = .agg #[.int .i64 bf, .int .i64 bz] from rfl] at hck ⊢
  go_enter Tryz.func6, Tryz.ntmps6
  go_upto_region 1 with fail
  have M := hid (((((Bag.nil w).push [.slice so d.secs.length scap, .slice po d.pend.length pcap, .bool d.off, .int .i64 d.fuse] 25 w.heap.size rfl).push [.int .i64 af, .int .i64 az] 27 (w.heap.size + 1) (by simp)).push [.int .i64 bf, .int .i64 bz] 27 (w.heap.size + 2) (by simp)).push [.int .u64 0, .string ⟨#[]⟩] 30 (w.heap.size + 3) (by simp))
  generalize (((w.alloc (.cells #[.slice so d.secs.length scap, .slice po d.pend.length pcap, .bool d.off, .int .i64 d.fuse] 25)).alloc (.cells #[.int .i64 af, .int .i64 az] 27)).alloc (.cells #[.int .i64 bf, .int .i64 bz] 27)).alloc (.cells #[.int .u64 0, .string ⟨#[]⟩] 30) = X0 at M ⊢
  obtain ⟨d0, d1, d2, d3, df⟩ := (M.out.get 0 rfl).four
  obtain ⟨p0, p1, pf⟩ := (M.out.get 1 rfl).two
  obtain ⟨q0, q1, qf⟩ := (M.out.get 2 rfl).two
  go_wp2_with fail
  (with_reducible refine (hck.out _ _ (hv.out.below M.out.bel)).mono ?_)
  rintro e w1 ⟨rfl, bw⟩
  replace M := hid (M.out.below bw)
  clear bw hck d0 d1 d2 d3 df p0 p1 pf q0 q1 qf
  obtain ⟨z0, z1, zf⟩ := (M.out.get 3 rfl).two
  have M9 := hid ((M.out.put 3 rfl (by decide) (by decide) 0 (.int .u64 0)).put 3 rfl (by decide) (by decide) 1 (.string ⟨#[]⟩))
  go_wp2_with fail
  clear z0 z1 zf
  obtain ⟨q0, q1, qf⟩ := (M9.out.get 3 rfl).two
  exact bodyPost_ret (v := .tuple #[.agg #[.int .u64 0, .string ⟨#[]⟩], .int .i64 0, .int .i64 c]) (by simp [results, Tryz.results6, go_sem, q0, q1]) rfl ⟨by rw [hfin.out]; rfl, M9.out.bel⟩
set_option maxHeartbeats 4000000 in
theorem rload_off (d : Disk) (v : Value) (a b : Rg) (w : World) (h : DiskV w v d) (ha : a.has) (hb : b.has) (hc : slChk d a b = 0) (ho : d.off = true) :
    Calls Tryz.prog 6 #[v, rgV a, rgV b] w (LdTold w (loadE d a b)) := by
  have hck := hid (fun v W (h : DiskV W v d) => rslchk_any d v a b W h ha hb)
  rw [hc] at hck
  have hv := hid h
  obtain ⟨sv, pv, rfl, hs, hp⟩ := h
  obtain ⟨so, scap, rfl, _⟩ := hs.form
  obtain ⟨po, pcap, rfl, _⟩ := hp.form
  clear hs hp
  have hfin := hid (show loadE d a b = ⟨zeroIm, 0, 15⟩ by unfold loadE; rw [if_neg (by simpa using hc), if_pos ho])
  have ho' := hid ho
  obtain ⟨af, az⟩ := a
  obtain ⟨bf, bz⟩ := b
  clear hc ha hb ho
  rw [show rgV ⟨af, az⟩ = .agg #[.int .i64 af, .int .i64 az] from rfl] at hck ⊢
  rw [show rgV ⟨bf, bz⟩ = .agg #[.int .i64 bf, .int .i64 bz] from rfl] at hck ⊢
  go_enter Tryz.func6, Tryz.ntmps6
  go_upto_region 1 with fail
  have M := hid (((((Bag.nil w).push [.slice so d.secs.length scap, .slice po d.pend.length pcap, .bool d.off, .int .i64 d.fuse] 25 w.heap.size rfl).push [.int .i64 af, .int .i64 az] 27 (w.heap.size + 1) (by simp)).push [.int .i64 bf, .int .i64 bz] 27 (w.heap.size + 2) (by simp)).push [.int .u64 0, .string ⟨#[]⟩] 30 (w.heap.size + 3) (by simp))
  generalize (((w.alloc (.cells #[.slice so d.secs.length scap, .slice po d.pend.length pcap, .bool d.off, .int .i64 d.fuse] 25)).alloc (.cells #[.int .i64 af, .int .i64 az] 27)).alloc (.cells #[.int .i64 bf, .int .i64 bz] 27)).alloc (.cells #[.int .u64 0, .string ⟨#[]⟩] 30) = X0 at M ⊢
  obtain ⟨d0, d1, d2, d3, df⟩ := (M.out.get 0 rfl).four
  obtain ⟨p0, p1, pf⟩ := (M.out.get 1 rfl).two
  obtain ⟨q0, q1, qf⟩ := (M.out.get 2 rfl).two
  go_wp2_with fail
  (with_reducible refine (hck.out _ _ (hv.out.below M.out.bel)).mono ?_)
  rintro e w1 ⟨rfl, bw⟩
  replace M := hid (M.out.below bw)
  clear bw hck d0 d1 d2 d3 df p0 p1 pf q0 q1 qf
  obtain ⟨d0, d1, d2, d3, df⟩ := (M.out.get 0 rfl).four
  have ho2 := ho'.out
  obtain ⟨z0, z1, zf⟩ := (M.out.get 3 rfl).two
  have M9 := hid ((M.out.put 3 rfl (by decide) (by decide) 0 (.int .u64 0)).put 3 rfl (by decide) (by decide) 1 (.string ⟨#[]⟩))
  go_wp2_with fail
  clear ho2
  clear d0 d1 d2 d3 df
  clear z0 z1 zf
  obtain ⟨q0, q1, qf⟩ := (M9.out.get 3 rfl).two
  exact bodyPost_ret (v := .tuple #[.agg #[.int .u64 0, .string ⟨#[]⟩], .int .i64 0, .int .i64 15]) (by simp [results, Tryz.results6, go_sem, q0, q1]) rfl ⟨by rw [hfin.out]; rfl, M9.out.bel⟩
set_option maxHeartbeats 8000000 in
theorem rload_go (d : Disk) (v : Value) (F S G T : Nat) (w : World) (h : DiskV w v d) (ha : Rg.has ⟨F, S⟩) (hb : Rg.has ⟨G, T⟩) (hc : slChk d ⟨F, S⟩ ⟨G, T⟩ = 0) (ho : d.off = false) :
    Calls Tryz.prog 6 #[v, rgV ⟨F, S⟩, rgV ⟨G, T⟩] w (LdTold w (loadE d ⟨F, S⟩ ⟨G, T⟩)) := by
  have hck := hid (fun v W (h : DiskV W v d) => rslchk_any d v ⟨F, S⟩ ⟨G, T⟩ W h ha hb)
  rw [hc] at hck
  obtain ⟨c1, c2, c3⟩ := slChk_zero hc
  have hia := hid (fun v W (h : DiskV W v d) => rimage_any d v F S W h c1 ho)
  have hib := hid (fun v W (h : DiskV W v d) => rimage_any d v G T W h c2 ho)
  have hv := hid h
  obtain ⟨sv, pv, rfl, hs, hp⟩ := h
  obtain ⟨so, scap, rfl, _⟩ := hs.form
  obtain ⟨po, pcap, rfl, _⟩ := hp.form
  clear hs hp
  have hl := hid (show loadE d ⟨F, S⟩ ⟨G, T⟩ = pickE (imIn (cont d ⟨F, S⟩) S) (imIn (cont d ⟨G, T⟩) T) by unfold loadE; rw [if_neg (by simpa using hc), if_neg (by rw [ho]; simp)]; rfl)
  have ho' := hid ho
  clear hc ha hb ho c1 c2 c3
  generalize imIn (cont d ⟨F, S⟩) S = IA at hia hl
  generalize imIn (cont d ⟨G, T⟩) T = IB at hib hl
  rw [show rgV ⟨F, S⟩ = .agg #[.int .i64 (F : Nat), .int .i64 (S : Nat)] from rfl] at hck hia ⊢
  rw [show rgV ⟨G, T⟩ = .agg #[.int .i64 (G : Nat), .int .i64 (T : Nat)] from rfl] at hck hib ⊢
  go_enter Tryz.func6, Tryz.ntmps6
  go_upto_region 1 with fail
  have M := hid (((((Bag.nil w).push [.slice so d.secs.length scap, .slice po d.pend.length pcap, .bool d.off, .int .i64 d.fuse] 25 w.heap.size rfl).push [.int .i64 (F : Nat), .int .i64 (S : Nat)] 27 (w.heap.size + 1) (by simp)).push [.int .i64 (G : Nat), .int .i64 (T : Nat)] 27 (w.heap.size + 2) (by simp)).push [.int .u64 0, .string ⟨#[]⟩] 30 (w.heap.size + 3) (by simp))
  generalize (((w.alloc (.cells #[.slice so d.secs.length scap, .slice po d.pend.length pcap, .bool d.off, .int .i64 d.fuse] 25)).alloc (.cells #[.int .i64 (F : Nat), .int .i64 (S : Nat)] 27)).alloc (.cells #[.int .i64 (G : Nat), .int .i64 (T : Nat)] 27)).alloc (.cells #[.int .u64 0, .string ⟨#[]⟩] 30) = X0 at M ⊢
  obtain ⟨d0, d1, d2, d3, df⟩ := (M.out.get 0 rfl).four
  obtain ⟨p0, p1, pf⟩ := (M.out.get 1 rfl).two
  obtain ⟨q0, q1, qf⟩ := (M.out.get 2 rfl).two
  go_wp2_with fail
  (with_reducible refine (hck.out _ _ (hv.out.below M.out.bel)).mono ?_)
  rintro e w1 ⟨rfl, bw⟩
  replace M := hid (M.out.below bw)
  clear bw hck d0 d1 d2 d3 df p0 p1 pf q0 q1 qf
  obtain ⟨d0, d1, d2, d3, df⟩ := (M.out.get 0 rfl).four
  obtain ⟨p0, p1, pf⟩ := (M.out.get 1 rfl).two
  have ho2 := ho'.out
  go_upto_region 6 with fail
  clear ho2
  go_wp2_with fail
  cases IA with
  | none =>
    cases IB with
    | none =>
      (with_reducible refine (hia.out _ _ (hv.out.below M.out.bel)).mono ?_)
      rintro e w1 ⟨rfl, bw⟩
      replace M := hid (M.out.below bw)
      clear bw hia d0 d1 d2 d3 df p0 p1 pf
      dsimp only [Option.getD, Option.isSome, imV, zeroIm]
      go_upto_region 7 with fail
      replace M := hid (M.out.push [.int .u64 0, .string ⟨#[]⟩] 30 w1.heap.size rfl)
      generalize w1.alloc (.cells #[.int .u64 0, .string ⟨#[]⟩] 30) = X1 at M ⊢
      generalize w1.heap.size = n1 at M ⊢
      obtain ⟨d0, d1, d2, d3, df⟩ := (M.out.get 0 rfl).four
      obtain ⟨q0, q1, qf⟩ := (M.out.get 2 rfl).two
      go_wp2_with fail
      (with_reducible refine (hib.out _ _ (hv.out.below M.out.bel)).mono ?_)
      rintro e w2 ⟨rfl, bw⟩
      replace M := hid (M.out.below bw)
      clear bw hib d0 d1 d2 d3 df q0 q1 qf
      dsimp only [Option.getD, Option.isSome, imV, zeroIm]
      go_upto_region 8 with fail
      replace M := hid (M.out.push [.int .u64 0, .string ⟨#[]⟩] 30 w2.heap.size rfl)
      generalize w2.alloc (.cells #[.int .u64 0, .string ⟨#[]⟩] 30) = X2 at M ⊢
      generalize w2.heap.size = n2 at M ⊢
      have hfin := hid (show loadE d ⟨F, S⟩ ⟨G, T⟩ = ⟨zeroIm, 0, 9⟩ from hl.out)
      clear hl
      obtain ⟨z0, z1, zf⟩ := (M.out.get 3 rfl).two
      have M9 := hid ((M.out.put 3 rfl (by decide) (by decide) 0 (.int .u64 0)).put 3 rfl (by decide) (by decide) 1 (.string ⟨#[]⟩))
      go_wp2_with fail
      clear z0 z1 zf
      obtain ⟨q0, q1, qf⟩ := (M9.out.get 3 rfl).two
      exact bodyPost_ret (v := .tuple #[.agg #[.int .u64 0, .string ⟨#[]⟩], .int .i64 0, .int .i64 9]) (by simp [results, Tryz.results6, go_sem, q0, q1]) rfl ⟨by rw [hfin.out]; rfl, M9.out.bel⟩
    | some y =>
      (with_reducible refine (hia.out _ _ (hv.out.below M.out.bel)).mono ?_)
      rintro e w1 ⟨rfl, bw⟩
      replace M := hid (M.out.below bw)
      clear bw hia d0 d1 d2 d3 df p0 p1 pf
      dsimp only [Option.getD, Option.isSome, imV, zeroIm]
      go_upto_region 7 with fail
      replace M := hid (M.out.push [.int .u64 0, .string ⟨#[]⟩] 30 w1.heap.size rfl)
      generalize w1.alloc (.cells #[.int .u64 0, .string ⟨#[]⟩] 30) = X1 at M ⊢
      generalize w1.heap.size = n1 at M ⊢
      obtain ⟨d0, d1, d2, d3, df⟩ := (M.out.get 0 rfl).four
      obtain ⟨q0, q1, qf⟩ := (M.out.get 2 rfl).two
      go_wp2_with fail
      (with_reducible refine (hib.out _ _ (hv.out.below M.out.bel)).mono ?_)
      rintro e w2 ⟨rfl, bw⟩
      replace M := hid (M.out.below bw)
      clear bw hib d0 d1 d2 d3 df q0 q1 qf
      dsimp only [Option.getD, Option.isSome, imV, zeroIm]
      go_upto_region 8 with fail
      replace M := hid (M.out.push [.int .u64 (y.epoch : Nat), .string y.pay] 30 w2.heap.size rfl)
      generalize w2.alloc (.cells #[.int .u64 (y.epoch : Nat), .string y.pay] 30) = X2 at M ⊢
      generalize w2.heap.size = n2 at M ⊢
      have hfin := hid (show loadE d ⟨F, S⟩ ⟨G, T⟩ = ⟨y, 1, 0⟩ from hl.out)
      clear hl
      obtain ⟨y0, y1, yf⟩ := (M.out.get 5 rfl).two
      obtain ⟨z0, z1, zf⟩ := (M.out.get 3 rfl).two
      have M9 := hid ((M.out.put 3 rfl (by decide) (by decide) 0 (.int .u64 (y.epoch : Nat))).put 3 rfl (by decide) (by decide) 1 (.string y.pay))
      go_wp2_with fail
      clear y0 y1 yf
      clear z0 z1 zf
      obtain ⟨q0, q1, qf⟩ := (M9.out.get 3 rfl).two
      exact bodyPost_ret (v := .tuple #[.agg #[.int .u64 (y.epoch : Nat), .string y.pay], .int .i64 1, .int .i64 0]) (by simp [results, Tryz.results6, go_sem, q0, q1]) rfl ⟨by rw [hfin.out]; rfl, M9.out.bel⟩
  | some x =>
    cases IB with
    | none =>
      (with_reducible refine (hia.out _ _ (hv.out.below M.out.bel)).mono ?_)
      rintro e w1 ⟨rfl, bw⟩
      replace M := hid (M.out.below bw)
      clear bw hia d0 d1 d2 d3 df p0 p1 pf
      dsimp only [Option.getD, Option.isSome, imV, zeroIm]
      go_upto_region 7 with fail
      replace M := hid (M.out.push [.int .u64 (x.epoch : Nat), .string x.pay] 30 w1.heap.size rfl)
      generalize w1.alloc (.cells #[.int .u64 (x.epoch : Nat), .string x.pay] 30) = X1 at M ⊢
      generalize w1.heap.size = n1 at M ⊢
      obtain ⟨d0, d1, d2, d3, df⟩ := (M.out.get 0 rfl).four
      obtain ⟨q0, q1, qf⟩ := (M.out.get 2 rfl).two
      go_wp2_with fail
      (with_reducible refine (hib.out _ _ (hv.out.below M.out.bel)).mono ?_)
      rintro e w2 ⟨rfl, bw⟩
      replace M := hid (M.out.below bw)
      clear bw hib d0 d1 d2 d3 df q0 q1 qf
      dsimp only [Option.getD, Option.isSome, imV, zeroIm]
      go_upto_region 8 with fail
      replace M := hid (M.out.push [.int .u64 0, .string ⟨#[]⟩] 30 w2.heap.size rfl)
      generalize w2.alloc (.cells #[.int .u64 0, .string ⟨#[]⟩] 30) = X2 at M ⊢
      generalize w2.heap.size = n2 at M ⊢
      have hfin := hid (show loadE d ⟨F, S⟩ ⟨G, T⟩ = ⟨x, 0, 0⟩ from hl.out)
      clear hl
      obtain ⟨x0, x1, xf⟩ := (M.out.get 4 rfl).two
      obtain ⟨z0, z1, zf⟩ := (M.out.get 3 rfl).two
      have M9 := hid ((M.out.put 3 rfl (by decide) (by decide) 0 (.int .u64 (x.epoch : Nat))).put 3 rfl (by decide) (by decide) 1 (.string x.pay))
      go_wp2_with fail
      clear x0 x1 xf
      clear z0 z1 zf
      obtain ⟨q0, q1, qf⟩ := (M9.out.get 3 rfl).two
      exact bodyPost_ret (v := .tuple #[.agg #[.int .u64 (x.epoch : Nat), .string x.pay], .int .i64 0, .int .i64 0]) (by simp [results, Tryz.results6, go_sem, q0, q1]) rfl ⟨by rw [hfin.out]; rfl, M9.out.bel⟩
    | some y =>
      (with_reducible refine (hia.out _ _ (hv.out.below M.out.bel)).mono ?_)
      rintro e w1 ⟨rfl, bw⟩
      replace M := hid (M.out.below bw)
      clear bw hia d0 d1 d2 d3 df p0 p1 pf
      dsimp only [Option.getD, Option.isSome, imV, zeroIm]
      go_upto_region 7 with fail
      replace M := hid (M.out.push [.int .u64 (x.epoch : Nat), .string x.pay] 30 w1.heap.size rfl)
      generalize w1.alloc (.cells #[.int .u64 (x.epoch : Nat), .string x.pay] 30) = X1 at M ⊢
      generalize w1.heap.size = n1 at M ⊢
      obtain ⟨d0, d1, d2, d3, df⟩ := (M.out.get 0 rfl).four
      obtain ⟨q0, q1, qf⟩ := (M.out.get 2 rfl).two
      go_wp2_with fail
      (with_reducible refine (hib.out _ _ (hv.out.below M.out.bel)).mono ?_)
      rintro e w2 ⟨rfl, bw⟩
      replace M := hid (M.out.below bw)
      clear bw hib d0 d1 d2 d3 df q0 q1 qf
      dsimp only [Option.getD, Option.isSome, imV, zeroIm]
      go_upto_region 8 with fail
      replace M := hid (M.out.push [.int .u64 (y.epoch : Nat), .string y.pay] 30 w2.heap.size rfl)
      generalize w2.alloc (.cells #[.int .u64 (y.epoch : Nat), .string y.pay] 30) = X2 at M ⊢
      generalize w2.heap.size = n2 at M ⊢
      by_cases hxy : x.epoch < y.epoch
      · have hfin := hid (show loadE d ⟨F, S⟩ ⟨G, T⟩ = ⟨y, 1, 0⟩ by rw [hl.out]; show (if x.epoch < y.epoch then _ else _) = _; rw [if_pos hxy])
        have e1 : ¬ (y.epoch : Int) ≤ (x.epoch : Int) := by omega
        clear hxy hl
        obtain ⟨x0, x1, xf⟩ := (M.out.get 4 rfl).two
        obtain ⟨y0, y1, yf⟩ := (M.out.get 5 rfl).two
        obtain ⟨z0, z1, zf⟩ := (M.out.get 3 rfl).two
        have M9 := hid ((M.out.put 3 rfl (by decide) (by decide) 0 (.int .u64 (y.epoch : Nat))).put 3 rfl (by decide) (by decide) 1 (.string y.pay))
        go_wp2_with fail
        clear x0 x1 xf y0 y1 yf
        clear z0 z1 zf
        obtain ⟨q0, q1, qf⟩ := (M9.out.get 3 rfl).two
        exact bodyPost_ret (v := .tuple #[.agg #[.int .u64 (y.epoch : Nat), .string y.pay], .int .i64 1, .int .i64 0]) (by simp [results, Tryz.results6, go_sem, q0, q1]) rfl ⟨by rw [hfin.out]; rfl, M9.out.bel⟩
      · have hfin := hid (show loadE d ⟨F, S⟩ ⟨G, T⟩ = ⟨x, 0, 0⟩ by rw [hl.out]; show (if x.epoch < y.epoch then _ else _) = _; rw [if_neg hxy])
        have e1 : (y.epoch : Int) ≤ (x.epoch : Int) := by omega
        clear hxy hl
        obtain ⟨x0, x1, xf⟩ := (M.out.get 4 rfl).two
        obtain ⟨y0, y1, yf⟩ := (M.out.get 5 rfl).two
        obtain ⟨z0, z1, zf⟩ := (M.out.get 3 rfl).two
        have M9 := hid ((M.out.put 3 rfl (by decide) (by decide) 0 (.int .u64 (x.epoch : Nat))).put 3 rfl (by decide) (by decide) 1 (.string x.pay))
        go_wp2_with fail
        clear x0 x1 xf y0 y1 yf
        clear z0 z1 zf
        obtain ⟨q0, q1, qf⟩ := (M9.out.get 3 rfl).two
        exact bodyPost_ret (v := .tuple #[.agg #[.int .u64 (x.epoch : Nat), .string x.pay], .int .i64 0, .int .i64 0]) (by simp [results, Tryz.results6, go_sem, q0, q1]) rfl ⟨by rw [hfin.out]; rfl, M9.out.bel⟩
theorem rload_any (d : Disk) (v : Value) (a b : Rg) (w : World) (h : DiskV w v d) (ha : a.has) (hb : b.has) :
    Calls Tryz.prog 6 #[v, rgV a, rgV b] w (LdTold w (loadE d a b)) := by
  by_cases hc : slChk d a b = 0
  · cases ho : d.off with
    | true => exact rload_off d v a b w h ha hb hc ho
    | false =>
      obtain ⟨c1, c2, c3⟩ := slChk_zero hc
      obtain ⟨x1, x2, x3, x4, x5⟩ := walChk_zero c1
      obtain ⟨y1, y2, y3, y4, y5⟩ := walChk_zero c2
      obtain ⟨af, az⟩ := a
      obtain ⟨bf, bz⟩ := b
      dsimp only at x2 x3 y2 y3
      obtain ⟨F, rfl⟩ : ∃ F : Nat, af = F := ⟨af.toNat, by omega⟩
      obtain ⟨S, rfl⟩ : ∃ F : Nat, az = F := ⟨az.toNat, by omega⟩
      obtain ⟨G, rfl⟩ : ∃ F : Nat, bf = F := ⟨bf.toNat, by omega⟩
      obtain ⟨T, rfl⟩ : ∃ F : Nat, bz = F := ⟨bz.toNat, by omega⟩
      exact rload_go d v F S G T w h ha hb hc ho
  · exact rload_bad d v a b w h ha hb hc
end Go.Proofs.YtiegocbdgimimaaGreat.Slot
namespace Go.Proofs.YtiegocbdgimimaaGreat.Slot
open Go.ChangeShapes Go.WideShapes Go.ChangeAt Go.RowKit
open Go.Proofs.YtiegocbdgimimaaGreat.Mem Go.Proofs.YtiegocbdgimimaaGreat.Rec Go.Proofs.YtiegocbdgimimaaGreat.Sector Go.Proofs.YtiegocbdgimimaaGreat.Wal
set_option linter.unusedVariables false
set_option linter.unusedSimpArgs false
set_option maxRecDepth 100000
theorem slChk_not (d : Disk) (a b : Rg) : slChk d a b ≠ 9 ∧ slChk d a b ≠ 15 := by
  have hw : ∀ r, walChk d r ≠ 9 ∧ walChk d r ≠ 15 := fun r => by unfold walChk; split <;> (try split) <;> decide
  unfold slChk
  split
  · exact hw a
  · split
    · exact hw b
    · split <;> decide
theorem load_ways {d : Disk} {a b : Rg} (hc : slChk d a b = 0) (ho : d.off = false) : loadE d a b = ⟨zeroIm, 0, 9⟩ ∨ (∃ im, loadE d a b = ⟨im, 0, 0⟩) ∨ (∃ im, loadE d a b = ⟨im, 1, 0⟩) := by
  unfold loadE
  rw [if_neg (by simpa using hc), if_neg (by rw [ho]; simp)]
  generalize imIn (cont d a) a.s.toNat = IA
  generalize imIn (cont d b) b.s.toNat = IB
  cases IA with
  | none =>
    cases IB with
    | none => exact .inl rfl
    | some y => exact .inr (.inr ⟨y, rfl⟩)
  | some x =>
    cases IB with
    | none => exact .inr (.inl ⟨x, rfl⟩)
    | some y =>
      by_cases h : x.epoch < y.epoch
      · exact .inr (.inr ⟨y, if_pos h⟩)
      · exact .inr (.inl ⟨x, if_neg h⟩)
theorem save_run {d : Disk} {r : Rg} {m : Im} {hd : ByteArray} {t : List ByteArray} (h0 : walChk d r = 0) (hL : secsL (imFr m) = hd :: t) (hk : fchk 2 m.pay.size = 0) :
    (((appE d r 0 (imFr m)).d, if (appE d r 0 (imFr m)).c = 16 then (17 : Int) else (appE d r 0 (imFr m)).c) : Disk × Int) = if r.s < (t.length : Int) + 1 then (d, 17) else runE d (layE r.f hd t) := by
  have hsE : sectorsE (imFr m) = (hd :: t, 0) := by unfold sectorsE; rw [if_pos (show fchk (imFr m).kind (imFr m).pay.size = 0 from hk), hL]
  have hs := (walChk_zero h0).2.2.1
  by_cases h3 : r.s < (t.length : Int) + 1
  · have : appE d r 0 (imFr m) = ⟨d, 0, 16⟩ := by
      unfold appE
      rw [if_neg (by simpa using h0), hsE, if_neg (by simp), if_neg (by omega), if_pos (by dsimp only; rw [List.length_cons]; push_cast; omega)]
    rw [this, if_pos h3]
    rfl
  · rw [appE_run h0 hsE (by omega) (by omega) (by omega), if_neg h3, Int.add_zero]
    have := run_code (layE r.f hd t) d
    generalize runE d (layE r.f hd t) = x at this ⊢
    obtain ⟨x, c⟩ := x
    dsimp only at this ⊢
    by_cases hc : c = 0
    · subst hc; rfl
    · rw [if_pos hc]; dsimp only; rw [if_neg this.1]
theorem save_9 {d : Disk} {a b : Rg} {m : Im} {hd : ByteArray} {t : List ByteArray} (hs : slChk d a b = 0) (hl : loadE d a b = ⟨zeroIm, 0, 9⟩) (hL : secsL (imFr m) = hd :: t) :
    (fchk 2 m.pay.size ≠ 0 → saveE d a b m = (d, fchk 2 m.pay.size)) ∧ (fchk 2 m.pay.size = 0 → saveE d a b m = if a.s < (t.length : Int) + 1 then (d, 17) else runE d (layE a.f hd t)) := by
  refine ⟨fun hk => ?_, fun hk => ?_⟩
  · have e : slotE d a b m = (⟨0, 0⟩, fchk 2 m.pay.size) := by unfold slotE; rw [hl, if_neg (by simp), if_pos hk]
    unfold saveE
    rw [if_neg (by simpa using hs), e, if_pos hk]
  · have e : slotE d a b m = (a, 0) := by unfold slotE; rw [hl, if_neg (by simp), if_neg (by simpa using hk), if_pos rfl]
    unfold saveE
    rw [if_neg (by simpa using hs), e, if_neg (by simp)]
    exact save_run (slChk_zero hs).1 hL hk
theorem save_0 {d : Disk} {a b : Rg} {m im : Im} {hd : ByteArray} {t : List ByteArray} (hs : slChk d a b = 0) (hl : loadE d a b = ⟨im, 0, 0⟩) (hL : secsL (imFr m) = hd :: t) :
    (fchk 2 m.pay.size ≠ 0 → saveE d a b m = (d, fchk 2 m.pay.size)) ∧ (fchk 2 m.pay.size = 0 → (m.epoch ≤ im.epoch → saveE d a b m = (d, 1)) ∧ (¬ m.epoch ≤ im.epoch → saveE d a b m = if b.s < (t.length : Int) + 1 then (d, 17) else runE d (layE b.f hd t))) := by
  refine ⟨fun hk => ?_, fun hk => ⟨fun h2 => ?_, fun h2 => ?_⟩⟩
  · have e : slotE d a b m = (⟨0, 0⟩, fchk 2 m.pay.size) := by unfold slotE; rw [hl, if_neg (by simp), if_pos hk]
    unfold saveE
    rw [if_neg (by simpa using hs), e, if_pos hk]
  · have e : slotE d a b m = (⟨0, 0⟩, 1) := by unfold slotE; rw [hl, if_neg (by simp), if_neg (by simpa using hk), if_neg (by simp), if_pos h2]
    unfold saveE
    rw [if_neg (by simpa using hs), e, if_pos (by simp)]
  · have e : slotE d a b m = (b, 0) := by unfold slotE; rw [hl, if_neg (by simp), if_neg (by simpa using hk), if_neg (by simp), if_neg h2, if_pos rfl]
    unfold saveE
    rw [if_neg (by simpa using hs), e, if_neg (by simp)]
    exact save_run (slChk_zero hs).2.1 hL hk
theorem save_1 {d : Disk} {a b : Rg} {m im : Im} {hd : ByteArray} {t : List ByteArray} (hs : slChk d a b = 0) (hl : loadE d a b = ⟨im, 1, 0⟩) (hL : secsL (imFr m) = hd :: t) :
    (fchk 2 m.pay.size ≠ 0 → saveE d a b m = (d, fchk 2 m.pay.size)) ∧ (fchk 2 m.pay.size = 0 → (m.epoch ≤ im.epoch → saveE d a b m = (d, 1)) ∧ (¬ m.epoch ≤ im.epoch → saveE d a b m = if a.s < (t.length : Int) + 1 then (d, 17) else runE d (layE a.f hd t))) := by
  refine ⟨fun hk => ?_, fun hk => ⟨fun h2 => ?_, fun h2 => ?_⟩⟩
  · have e : slotE d a b m = (⟨0, 0⟩, fchk 2 m.pay.size) := by unfold slotE; rw [hl, if_neg (by simp), if_pos hk]
    unfold saveE
    rw [if_neg (by simpa using hs), e, if_pos hk]
  · have e : slotE d a b m = (⟨0, 0⟩, 1) := by unfold slotE; rw [hl, if_neg (by simp), if_neg (by simpa using hk), if_neg (by simp), if_pos h2]
    unfold saveE
    rw [if_neg (by simpa using hs), e, if_pos (by simp)]
  · have e : slotE d a b m = (a, 0) := by unfold slotE; rw [hl, if_neg (by simp), if_neg (by simpa using hk), if_neg (by simp), if_neg h2, if_neg (by simp)]
    unfold saveE
    rw [if_neg (by simpa using hs), e, if_neg (by simp)]
    exact save_run (slChk_zero hs).1 hL hk
set_option maxHeartbeats 4000000 in
theorem rsave_bad (d : Disk) (v : Value) (a b : Rg) (m : Im) (w : World) (h : DiskV w v d) (ha : a.has) (hb : b.has) (hc : slChk d a b ≠ 0) :
    Calls Tryz.prog 8 #[v, rgV a, rgV b, imV m] w (Svd w (saveE d a b m)) := by
  have hld := hid (fun v W (h : DiskV W v d) => rload_any d v a b W h ha hb)
  have hv := hid h
  obtain ⟨sv, pv, rfl, hs, hp⟩ := h
  obtain ⟨so, scap, rfl, _⟩ := hs.form
  obtain ⟨po, pcap, rfl, _⟩ := hp.form
  clear hs hp
  have hfin := hid (show saveE d a b m = (zeroDisk, slChk d a b) by unfold saveE; rw [if_pos hc])
  have hl := hid (show loadE d a b = ⟨zeroIm, 0, slChk d a b⟩ by unfold loadE; rw [if_pos hc])
  rw [hl.out] at hld
  have e0 : slChk d a b ≠ 9 ∧ slChk d a b ≠ 15 := slChk_not d a b
  obtain ⟨af, az⟩ := a
  obtain ⟨bf, bz⟩ := b
  have e1 : (slChk d ⟨af, az⟩ ⟨bf, bz⟩ != 0) = true := by simpa using hc
  have e2 : (slChk d ⟨af, az⟩ ⟨bf, bz⟩ != 9) = true := by simpa using e0.1
  have e3 : (slChk d ⟨af, az⟩ ⟨bf, bz⟩ != 15) = true := by simpa using e0.2
  generalize slChk d ⟨af, az⟩ ⟨bf, bz⟩ = c at e1 e2 e3 hfin hld
  clear hc ha hb e0 hl
  rw [show rgV ⟨af, az⟩ = .agg #[.int .i64 af, .int .i64 az] from rfl] at hld ⊢
  rw [show rgV ⟨bf, bz⟩ = .agg #[.int .i64 bf, .int .i64 bz] from rfl] at hld ⊢
  rw [show imV m = .agg #[.int .u64 m.epoch, .string m.pay] from rfl]
  go_enter Tryz.func8, Tryz.ntmps8
  go_upto_region 1 with fail
  have M := hid ((((((Bag.nil w).push [.slice so d.secs.length scap, .slice po d.pend.length pcap, .bool d.off, .int .i64 d.fuse] 25 w.heap.size rfl).push [.int .i64 af, .int .i64 az] 27 (w.heap.size + 1) (by simp)).push [.int .i64 bf, .int .i64 bz] 27 (w.heap.size + 2) (by simp)).push [.int .u64 m.epoch, .string m.pay] 30 (w.heap.size + 3) (by simp)).push [.slice none 0 0, .slice none 0 0, .bool false, .int .i64 0] 25 (w.heap.size + 4) (by simp))
  generalize ((((w.alloc (.cells #[.slice so d.secs.length scap, .slice po d.pend.length pcap, .bool d.off, .int .i64 d.fuse] 25)).alloc (.cells #[.int .i64 af, .int .i64 az] 27)).alloc (.cells #[.int .i64 bf, .int .i64 bz] 27)).alloc (.cells #[.int .u64 m.epoch, .string m.pay] 30)).alloc (.cells #[.slice none 0 0, .slice none 0 0, .bool false, .int .i64 0] 25) = X0 at M ⊢
  obtain ⟨d0, d1, d2, d3, df⟩ := (M.out.get 0 rfl).four
  obtain ⟨a0, a1, af⟩ := (M.out.get 1 rfl).two
  obtain ⟨b0, b1, bf⟩ := (M.out.get 2 rfl).two
  go_wp2_with fail
  (with_reducible refine (hld.out _ _ (hv.out.below M.out.bel)).mono ?_)
  rintro e w1 ⟨rfl, bw⟩
  replace M := hid (M.out.below bw)
  clear bw hld d0 d1 d2 d3 df a0 a1 af b0 b1 bf
  unfold imV
  try dsimp only [zeroIm]
  go_upto_region 2 with fail
  replace M := hid (M.out.push [.int .u64 0, .string ⟨#[]⟩] 30 w1.heap.size rfl)
  generalize w1.alloc (.cells #[.int .u64 0, .string ⟨#[]⟩] 30) = X1 at M ⊢
  generalize w1.heap.size = n1 at M ⊢
  obtain ⟨z0, z1, z2, z3, zf⟩ := (M.out.get 4 rfl).four
  have M9 := hid ((((M.out.put 4 rfl (by decide) (by decide) 0 (.slice none 0 0)).put 4 rfl (by decide) (by decide) 1 (.slice none 0 0)).put 4 rfl (by decide) (by decide) 2 (.bool false)).put 4 rfl (by decide) (by decide) 3 (.int .i64 0))
  go_wp2_with fail
  clear z0 z1 z2 z3 zf
  obtain ⟨q0, q1, q2, q3, qf⟩ := (M9.out.get 4 rfl).four
  have hown9 := zero_own (w := _) M9.out.bel.size
  exact bodyPost_ret (v := .tuple #[.agg #[.slice none 0 0, .slice none 0 0, .bool false, .int .i64 0], .int .i64 c]) (by simp [results, Tryz.results8, go_sem, q0, q1, q2, q3]) rfl ⟨.slice none 0 0, .slice none 0 0, by rw [hfin.out]; rfl, by rw [hfin.out]; exact hown9, M9.out.bel⟩
set_option maxHeartbeats 4000000 in
theorem rsave_off (d : Disk) (v : Value) (a b : Rg) (m : Im) (w : World) (h : DiskV w v d) (ha : a.has) (hb : b.has) (hc : slChk d a b = 0) (ho : d.off = true) :
    Calls Tryz.prog 8 #[v, rgV a, rgV b, imV m] w (Svd w (saveE d a b m)) := by
  have hld := hid (fun v W (h : DiskV W v d) => rload_any d v a b W h ha hb)
  obtain ⟨x1, x2, x3, x4, x5⟩ := walChk_zero (slChk_zero hc).1
  have hcopy := hid (fun v W (h : DiskV W v d) => rcopy_any d v W h (by omega) (by have := okB_pend' x1; omega))
  have hv := hid h
  obtain ⟨sv, pv, rfl, hs, hp⟩ := h
  obtain ⟨so, scap, rfl, _⟩ := hs.form
  obtain ⟨po, pcap, rfl, _⟩ := hp.form
  clear hs hp
  have hl : loadE d a b = ⟨zeroIm, 0, 15⟩ := by unfold loadE; rw [if_neg (by simpa using hc), if_pos ho]
  have hfin := hid (show saveE d a b m = (d, 15) by unfold saveE slotE; rw [if_neg (by simpa using hc), hl]; simp)
  rw [hl] at hld
  clear hc ha hb hl ho x1 x2 x3 x4 x5
  obtain ⟨af, az⟩ := a
  obtain ⟨bf, bz⟩ := b
  rw [show rgV ⟨af, az⟩ = .agg #[.int .i64 af, .int .i64 az] from rfl] at hld ⊢
  rw [show rgV ⟨bf, bz⟩ = .agg #[.int .i64 bf, .int .i64 bz] from rfl] at hld ⊢
  rw [show imV m = .agg #[.int .u64 m.epoch, .string m.pay] from rfl]
  go_enter Tryz.func8, Tryz.ntmps8
  go_upto_region 1 with fail
  have M := hid ((((((Bag.nil w).push [.slice so d.secs.length scap, .slice po d.pend.length pcap, .bool d.off, .int .i64 d.fuse] 25 w.heap.size rfl).push [.int .i64 af, .int .i64 az] 27 (w.heap.size + 1) (by simp)).push [.int .i64 bf, .int .i64 bz] 27 (w.heap.size + 2) (by simp)).push [.int .u64 m.epoch, .string m.pay] 30 (w.heap.size + 3) (by simp)).push [.slice none 0 0, .slice none 0 0, .bool false, .int .i64 0] 25 (w.heap.size + 4) (by simp))
  generalize ((((w.alloc (.cells #[.slice so d.secs.length scap, .slice po d.pend.length pcap, .bool d.off, .int .i64 d.fuse] 25)).alloc (.cells #[.int .i64 af, .int .i64 az] 27)).alloc (.cells #[.int .i64 bf, .int .i64 bz] 27)).alloc (.cells #[.int .u64 m.epoch, .string m.pay] 30)).alloc (.cells #[.slice none 0 0, .slice none 0 0, .bool false, .int .i64 0] 25) = X0 at M ⊢
  obtain ⟨d0, d1, d2, d3, df⟩ := (M.out.get 0 rfl).four
  obtain ⟨a0, a1, af⟩ := (M.out.get 1 rfl).two
  obtain ⟨b0, b1, bf⟩ := (M.out.get 2 rfl).two
  go_wp2_with fail
  (with_reducible refine (hld.out _ _ (hv.out.below M.out.bel)).mono ?_)
  rintro e w1 ⟨rfl, bw⟩
  replace M := hid (M.out.below bw)
  clear bw hld d0 d1 d2 d3 df a0 a1 af b0 b1 bf
  unfold imV
  try dsimp only [zeroIm]
  go_upto_region 2 with fail
  replace M := hid (M.out.push [.int .u64 0, .string ⟨#[]⟩] 30 w1.heap.size rfl)
  generalize w1.alloc (.cells #[.int .u64 0, .string ⟨#[]⟩] 30) = X1 at M ⊢
  generalize w1.heap.size = n1 at M ⊢
  obtain ⟨d0, d1, d2, d3, df⟩ := (M.out.get 0 rfl).four
  go_wp2_with fail
  (with_reducible refine (hcopy.out _ _ (hv.out.below M.out.bel)).mono ?_)
  rintro e5 w5 ⟨sv5, pv5, rfl, o5, b5⟩
  obtain ⟨so5, sc5, rfl, _⟩ := ownsRow_form o5.secs
  obtain ⟨po5, pc5, rfl, _⟩ := ownsRow_form o5.pend
  replace M := hid (M.out.res o5 b5)
  clear o5 b5 hcopy d0 d1 d2 d3 df
  obtain ⟨z0, z1, z2, z3, zf⟩ := (M.out.get 4 rfl).four
  have M9 := hid ((((M.out.put 4 rfl (by decide) (by decide) 0 (.slice so5 d.secs.length sc5)).put 4 rfl (by decide) (by decide) 1 (.slice po5 d.pend.length pc5)).put 4 rfl (by decide) (by decide) 2 (.bool d.off)).put 4 rfl (by decide) (by decide) 3 (.int .i64 d.fuse))
  go_wp2_with fail
  clear z0 z1 z2 z3 zf
  obtain ⟨q0, q1, q2, q3, qf⟩ := (M9.out.get 4 rfl).four
  have hown9 := M9.out.own ⟨.slice so5 d.secs.length sc5, .slice po5 d.pend.length pc5, d⟩ (by simp)
  exact bodyPost_ret (v := .tuple #[.agg #[.slice so5 d.secs.length sc5, .slice po5 d.pend.length pc5, .bool d.off, .int .i64 d.fuse], .int .i64 15]) (by simp [results, Tryz.results8, go_sem, q0, q1, q2, q3]) rfl ⟨.slice so5 d.secs.length sc5, .slice po5 d.pend.length pc5, by rw [hfin.out], by rw [hfin.out]; exact hown9, M9.out.bel⟩
set_option maxHeartbeats 16000000 in
theorem rsave_go (d : Disk) (v : Value) (F S G T : Nat) (m : Im) (w : World) (h : DiskV w v d) (hfu : (Lit.int .i64 d.fuse).wf = true) (ha : Rg.has ⟨F, S⟩) (hb : Rg.has ⟨G, T⟩) (hm : m.has) (hc : slChk d ⟨F, S⟩ ⟨G, T⟩ = 0) (ho : d.off = false) :
    Calls Tryz.prog 8 #[v, rgV ⟨F, S⟩, rgV ⟨G, T⟩, imV m] w (Svd w (saveE d ⟨F, S⟩ ⟨G, T⟩ m)) := by
  have hld := hid (fun v W (h : DiskV W v d) => rload_any d v ⟨F, S⟩ ⟨G, T⟩ W h ha hb)
  obtain ⟨x1, x2, x3, x4, x5⟩ := walChk_zero (slChk_zero hc).1
  obtain ⟨y1, y2, y3, y4, y5⟩ := walChk_zero (slChk_zero hc).2.1
  dsimp only at x2 x3 x4 y2 y3 y4
  have hcopy := hid (fun v W (h : DiskV W v d) => rcopy_any d v W h (by omega) (by have := okB_pend' x1; omega))
  have hse := hid (fun W => rsecs_any (imFr m) W (imFr_has hm))
  rw [show frV (imFr m) = .agg #[.int .u8 2, .int .u64 m.epoch, .int .u64 0, .string m.pay] from rfl] at hse
  obtain ⟨t, hL, hT⟩ := secsL_head (imFr m)
  generalize bs (headL (hdOf (imFr m))) = hd at hL
  replace hL := hid hL
  replace hT := hid (show t.length = pcs m.pay.size from hT)
  have hfu' := hid hfu
  have hF : (F : Int) ≤ 1024 := by omega
  have hG : (G : Int) ≤ 1024 := by omega
  have hSz : (S : Int) ≤ 1024 := by omega
  have hTz : (T : Int) ≤ 1024 := by omega
  clear x1 x2 x3 x4 x5 y1 y2 y3 y4 y5 hm hfu
  have hv := hid h
  obtain ⟨sv, pv, rfl, hs, hp⟩ := h
  obtain ⟨so, scap, rfl, _⟩ := hs.form
  obtain ⟨po, pcap, rfl, _⟩ := hp.form
  clear hs hp
  rcases load_ways hc ho with hl | ⟨im, hl⟩ | ⟨im, hl⟩
  · clear ho
    rw [hl] at hld
    have hS := hid (save_9 hc hl (t := t) hL.out)
    clear hc ha hb hl
    rw [show rgV ⟨F, S⟩ = .agg #[.int .i64 (F : Nat), .int .i64 (S : Nat)] from rfl] at hld ⊢
    rw [show rgV ⟨G, T⟩ = .agg #[.int .i64 (G : Nat), .int .i64 (T : Nat)] from rfl] at hld ⊢
    rw [show imV m = .agg #[.int .u64 m.epoch, .string m.pay] from rfl]
    go_enter Tryz.func8, Tryz.ntmps8
    go_upto_region 1 with fail
    have M := hid ((((((Bag.nil w).push [.slice so d.secs.length scap, .slice po d.pend.length pcap, .bool d.off, .int .i64 d.fuse] 25 w.heap.size rfl).push [.int .i64 (F : Nat), .int .i64 (S : Nat)] 27 (w.heap.size + 1) (by simp)).push [.int .i64 (G : Nat), .int .i64 (T : Nat)] 27 (w.heap.size + 2) (by simp)).push [.int .u64 m.epoch, .string m.pay] 30 (w.heap.size + 3) (by simp)).push [.slice none 0 0, .slice none 0 0, .bool false, .int .i64 0] 25 (w.heap.size + 4) (by simp))
    generalize ((((w.alloc (.cells #[.slice so d.secs.length scap, .slice po d.pend.length pcap, .bool d.off, .int .i64 d.fuse] 25)).alloc (.cells #[.int .i64 (F : Nat), .int .i64 (S : Nat)] 27)).alloc (.cells #[.int .i64 (G : Nat), .int .i64 (T : Nat)] 27)).alloc (.cells #[.int .u64 m.epoch, .string m.pay] 30)).alloc (.cells #[.slice none 0 0, .slice none 0 0, .bool false, .int .i64 0] 25) = X0 at M ⊢
    obtain ⟨d0, d1, d2, d3, df⟩ := (M.out.get 0 rfl).four
    obtain ⟨a0, a1, af⟩ := (M.out.get 1 rfl).two
    obtain ⟨b0, b1, bf⟩ := (M.out.get 2 rfl).two
    go_wp2_with fail
    (with_reducible refine (hld.out _ _ (hv.out.below M.out.bel)).mono ?_)
    rintro e w1 ⟨rfl, bw⟩
    replace M := hid (M.out.below bw)
    clear bw hld d0 d1 d2 d3 df a0 a1 af b0 b1 bf
    unfold imV
    try dsimp only [zeroIm]
    go_upto_region 2 with fail
    replace M := hid (M.out.push [.int .u64 0, .string ⟨#[]⟩] 30 w1.heap.size rfl)
    generalize w1.alloc (.cells #[.int .u64 0, .string ⟨#[]⟩] 30) = X1 at M ⊢
    generalize w1.heap.size = n1 at M ⊢
    obtain ⟨a0, a1, af⟩ := (M.out.get 1 rfl).two
    go_upto_region 7 with fail
    clear a0 a1 af
    replace M := hid (M.out.push [.int .i64 (F : Nat), .int .i64 (S : Nat)] 27 X1.heap.size rfl)
    generalize X1.alloc (.cells #[.int .i64 (F : Nat), .int .i64 (S : Nat)] 27) = X2 at M ⊢
    generalize X1.heap.size = n2 at M ⊢
    obtain ⟨m0, m1, mf⟩ := (M.out.get 3 rfl).two
    go_wp2_with fail
    refine (hse.out _).mono ?_
    rintro e w3 ⟨lo, n, lcap, hn, rfl, hown, b2⟩
    have hsv := hid (SecTold.strs hown hn)
    replace M := hid (M.out.below b2)
    clear b2 hown hse m0 m1 mf
    by_cases hk : fchk 2 m.pay.size = 0
    · replace hS := hid (hS.out.2 hk)
      have hsE := hid (show sectorsE (imFr m) = (hd :: t, 0) by unfold sectorsE; rw [if_pos (show fchk (imFr m).kind (imFr m).pay.size = 0 from hk), hL.out])
      rw [hsE.out] at hsv hn ⊢
      dsimp only at hn hsv
      have hnl : n = t.length + 1 := by rw [hn, List.length_cons]
      have htl2 : (t.length : Int) ≤ 269 := by have := (fchk_zero hk).2; have := hT.out; unfold pcs at this; omega
      clear hn hk hsE
      subst hnl
      by_cases h3 : (S : Int) < (t.length : Int) + 1
      · have hfin := hid (show saveE d ⟨F, S⟩ ⟨G, T⟩ m = (d, 17) by rw [hS.out, if_pos h3])
        clear hS
        obtain ⟨s0, s1, sf⟩ := (M.out.get 6 rfl).two
        obtain ⟨d0, d1, d2, d3, df⟩ := (M.out.get 0 rfl).four
        go_wp2_with fail
        (with_reducible refine (hcopy.out _ _ (hv.out.below M.out.bel)).mono ?_)
        rintro e5 w5 ⟨sv5, pv5, rfl, o5, b5⟩
        obtain ⟨so5, sc5, rfl, _⟩ := ownsRow_form o5.secs
        obtain ⟨po5, pc5, rfl, _⟩ := ownsRow_form o5.pend
        replace M := hid (M.out.res o5 b5)
        clear o5 b5 hcopy d0 d1 d2 d3 df s0 s1 sf
        obtain ⟨z0, z1, z2, z3, zf⟩ := (M.out.get 4 rfl).four
        have M9 := hid ((((M.out.put 4 rfl (by decide) (by decide) 0 (.slice so5 d.secs.length sc5)).put 4 rfl (by decide) (by decide) 1 (.slice po5 d.pend.length pc5)).put 4 rfl (by decide) (by decide) 2 (.bool d.off)).put 4 rfl (by decide) (by decide) 3 (.int .i64 d.fuse))
        go_wp2_with fail
        clear z0 z1 z2 z3 zf
        obtain ⟨q0, q1, q2, q3, qf⟩ := (M9.out.get 4 rfl).four
        have hown9 := M9.out.own ⟨.slice so5 d.secs.length sc5, .slice po5 d.pend.length pc5, d⟩ (by simp)
        exact bodyPost_ret (v := .tuple #[.agg #[.slice so5 d.secs.length sc5, .slice po5 d.pend.length pc5, .bool d.off, .int .i64 d.fuse], .int .i64 17]) (by simp [results, Tryz.results8, go_sem, q0, q1, q2, q3]) rfl ⟨.slice so5 d.secs.length sc5, .slice po5 d.pend.length pc5, by rw [hfin.out], by rw [hfin.out]; exact hown9, M9.out.bel⟩
      · have hlay := hid (fun v W lv (h : DiskV W v d) (g : StrsV W lv (hd :: t)) => rlay_any d v F hd t lv W h g hfu'.out (by omega) (by omega))
        have hfin := hid (show saveE d ⟨F, S⟩ ⟨G, T⟩ m = runE d (layE (F : Nat) hd t) by rw [hS.out, if_neg h3])
        generalize runE d (layE (F : Nat) hd t) = x at hlay hfin
        clear hS
        obtain ⟨x, c⟩ := x
        obtain ⟨s0, s1, sf⟩ := (M.out.get 6 rfl).two
        obtain ⟨d0, d1, d2, d3, df⟩ := (M.out.get 0 rfl).four
        go_wp2_with fail
        (with_reducible refine (hlay.out _ _ _ (hv.out.below M.out.bel) hsv.out).mono ?_)
        rintro e5 w5 hr5
        obtain ⟨so5, sc5, po5, pc5, rfl, o5, b5⟩ := hr5.open
        dsimp only at o5
        replace M := hid (M.out.res o5 b5)
        clear hr5 o5 b5 hlay d0 d1 d2 d3 df s0 s1 sf
        try dsimp only
        obtain ⟨z0, z1, z2, z3, zf⟩ := (M.out.get 4 rfl).four
        have M9 := hid ((((M.out.put 4 rfl (by decide) (by decide) 0 (.slice so5 x.secs.length sc5)).put 4 rfl (by decide) (by decide) 1 (.slice po5 x.pend.length pc5)).put 4 rfl (by decide) (by decide) 2 (.bool x.off)).put 4 rfl (by decide) (by decide) 3 (.int .i64 x.fuse))
        go_wp2_with fail
        clear z0 z1 z2 z3 zf
        obtain ⟨q0, q1, q2, q3, qf⟩ := (M9.out.get 4 rfl).four
        have hown9 := M9.out.own ⟨.slice so5 x.secs.length sc5, .slice po5 x.pend.length pc5, x⟩ (by simp)
        exact bodyPost_ret (v := .tuple #[.agg #[.slice so5 x.secs.length sc5, .slice po5 x.pend.length pc5, .bool x.off, .int .i64 x.fuse], .int .i64 c]) (by simp [results, Tryz.results8, go_sem, q0, q1, q2, q3]) rfl ⟨.slice so5 x.secs.length sc5, .slice po5 x.pend.length pc5, by rw [hfin.out], by rw [hfin.out]; exact hown9, M9.out.bel⟩
    · have hfin := hid (show saveE d ⟨F, S⟩ ⟨G, T⟩ m = (d, fchk 2 m.pay.size) from hS.out.1 hk)
      have hsE : sectorsE (imFr m) = ([], fchk 2 m.pay.size) := by unfold sectorsE; rw [if_neg (show ¬ fchk (imFr m).kind (imFr m).pay.size = 0 from hk)]; rfl
      rw [hsE] at hsv hn ⊢
      obtain rfl : n = 0 := by rw [hn]; rfl
      have e1 : (fchk 2 m.pay.size != 0) = true := by simpa using hk
      generalize fchk 2 m.pay.size = c at e1 hfin ⊢
      clear hS hk hsE hn hsv
      obtain ⟨d0, d1, d2, d3, df⟩ := (M.out.get 0 rfl).four
      go_wp2_with fail
      (with_reducible refine (hcopy.out _ _ (hv.out.below M.out.bel)).mono ?_)
      rintro e5 w5 ⟨sv5, pv5, rfl, o5, b5⟩
      obtain ⟨so5, sc5, rfl, _⟩ := ownsRow_form o5.secs
      obtain ⟨po5, pc5, rfl, _⟩ := ownsRow_form o5.pend
      replace M := hid (M.out.res o5 b5)
      clear o5 b5 hcopy d0 d1 d2 d3 df
      obtain ⟨z0, z1, z2, z3, zf⟩ := (M.out.get 4 rfl).four
      have M9 := hid ((((M.out.put 4 rfl (by decide) (by decide) 0 (.slice so5 d.secs.length sc5)).put 4 rfl (by decide) (by decide) 1 (.slice po5 d.pend.length pc5)).put 4 rfl (by decide) (by decide) 2 (.bool d.off)).put 4 rfl (by decide) (by decide) 3 (.int .i64 d.fuse))
      go_wp2_with fail
      clear z0 z1 z2 z3 zf
      obtain ⟨q0, q1, q2, q3, qf⟩ := (M9.out.get 4 rfl).four
      have hown9 := M9.out.own ⟨.slice so5 d.secs.length sc5, .slice po5 d.pend.length pc5, d⟩ (by simp)
      exact bodyPost_ret (v := .tuple #[.agg #[.slice so5 d.secs.length sc5, .slice po5 d.pend.length pc5, .bool d.off, .int .i64 d.fuse], .int .i64 c]) (by simp [results, Tryz.results8, go_sem, q0, q1, q2, q3]) rfl ⟨.slice so5 d.secs.length sc5, .slice po5 d.pend.length pc5, by rw [hfin.out], by rw [hfin.out]; exact hown9, M9.out.bel⟩
  · clear ho
    rw [hl] at hld
    have hS := hid (save_0 hc hl (t := t) hL.out)
    clear hc ha hb hl
    rw [show rgV ⟨F, S⟩ = .agg #[.int .i64 (F : Nat), .int .i64 (S : Nat)] from rfl] at hld ⊢
    rw [show rgV ⟨G, T⟩ = .agg #[.int .i64 (G : Nat), .int .i64 (T : Nat)] from rfl] at hld ⊢
    rw [show imV m = .agg #[.int .u64 m.epoch, .string m.pay] from rfl]
    go_enter Tryz.func8, Tryz.ntmps8
    go_upto_region 1 with fail
    have M := hid ((((((Bag.nil w).push [.slice so d.secs.length scap, .slice po d.pend.length pcap, .bool d.off, .int .i64 d.fuse] 25 w.heap.size rfl).push [.int .i64 (F : Nat), .int .i64 (S : Nat)] 27 (w.heap.size + 1) (by simp)).push [.int .i64 (G : Nat), .int .i64 (T : Nat)] 27 (w.heap.size + 2) (by simp)).push [.int .u64 m.epoch, .string m.pay] 30 (w.heap.size + 3) (by simp)).push [.slice none 0 0, .slice none 0 0, .bool false, .int .i64 0] 25 (w.heap.size + 4) (by simp))
    generalize ((((w.alloc (.cells #[.slice so d.secs.length scap, .slice po d.pend.length pcap, .bool d.off, .int .i64 d.fuse] 25)).alloc (.cells #[.int .i64 (F : Nat), .int .i64 (S : Nat)] 27)).alloc (.cells #[.int .i64 (G : Nat), .int .i64 (T : Nat)] 27)).alloc (.cells #[.int .u64 m.epoch, .string m.pay] 30)).alloc (.cells #[.slice none 0 0, .slice none 0 0, .bool false, .int .i64 0] 25) = X0 at M ⊢
    obtain ⟨d0, d1, d2, d3, df⟩ := (M.out.get 0 rfl).four
    obtain ⟨a0, a1, af⟩ := (M.out.get 1 rfl).two
    obtain ⟨b0, b1, bf⟩ := (M.out.get 2 rfl).two
    go_wp2_with fail
    (with_reducible refine (hld.out _ _ (hv.out.below M.out.bel)).mono ?_)
    rintro e w1 ⟨rfl, bw⟩
    replace M := hid (M.out.below bw)
    clear bw hld d0 d1 d2 d3 df a0 a1 af b0 b1 bf
    unfold imV
    try dsimp only [zeroIm]
    go_upto_region 2 with fail
    replace M := hid (M.out.push [.int .u64 im.epoch, .string im.pay] 30 w1.heap.size rfl)
    generalize w1.alloc (.cells #[.int .u64 im.epoch, .string im.pay] 30) = X1 at M ⊢
    generalize w1.heap.size = n1 at M ⊢
    obtain ⟨a0, a1, af⟩ := (M.out.get 1 rfl).two
    go_upto_region 7 with fail
    clear a0 a1 af
    replace M := hid (M.out.push [.int .i64 (F : Nat), .int .i64 (S : Nat)] 27 X1.heap.size rfl)
    generalize X1.alloc (.cells #[.int .i64 (F : Nat), .int .i64 (S : Nat)] 27) = X2 at M ⊢
    generalize X1.heap.size = n2 at M ⊢
    obtain ⟨b0, b1, bf⟩ := (M.out.get 2 rfl).two
    obtain ⟨s0, s1, sf⟩ := (M.out.get 6 rfl).two
    go_upto_region 9 with fail
    clear b0 b1 bf s0 s1 sf
    replace M := hid ((M.out.put 6 rfl (by decide) (by decide) 0 (.int .i64 (G : Nat))).put 6 rfl (by decide) (by decide) 1 (.int .i64 (T : Nat)))
    generalize (X2.setCell ⟨n2, 0, none⟩ (.int .i64 (G : Nat))).setCell ⟨n2, 1, none⟩ (.int .i64 (T : Nat)) = X3 at M ⊢
    obtain ⟨m0, m1, mf⟩ := (M.out.get 3 rfl).two
    go_wp2_with fail
    refine (hse.out _).mono ?_
    rintro e w3 ⟨lo, n, lcap, hn, rfl, hown, b2⟩
    have hsv := hid (SecTold.strs hown hn)
    replace M := hid (M.out.below b2)
    clear b2 hown hse m0 m1 mf
    by_cases hk : fchk 2 m.pay.size = 0
    · replace hS := hid (hS.out.2 hk)
      have hsE := hid (show sectorsE (imFr m) = (hd :: t, 0) by unfold sectorsE; rw [if_pos (show fchk (imFr m).kind (imFr m).pay.size = 0 from hk), hL.out])
      rw [hsE.out] at hsv hn ⊢
      dsimp only at hn hsv
      have hnl : n = t.length + 1 := by rw [hn, List.length_cons]
      have htl2 : (t.length : Int) ≤ 269 := by have := (fchk_zero hk).2; have := hT.out; unfold pcs at this; omega
      clear hn hk hsE
      subst hnl
      by_cases h2 : m.epoch ≤ im.epoch
      · have hfin := hid (show saveE d ⟨F, S⟩ ⟨G, T⟩ m = (d, 1) from hS.out.1 h2)
        have h2i : (m.epoch : Int) ≤ (im.epoch : Int) := by omega
        clear hS h2
        obtain ⟨m0, m1, mf⟩ := (M.out.get 3 rfl).two
        obtain ⟨o0, o1, of⟩ := (M.out.get 5 rfl).two
        obtain ⟨d0, d1, d2, d3, df⟩ := (M.out.get 0 rfl).four
        go_wp2_with fail
        (with_reducible refine (hcopy.out _ _ (hv.out.below M.out.bel)).mono ?_)
        rintro e5 w5 ⟨sv5, pv5, rfl, o5, b5⟩
        obtain ⟨so5, sc5, rfl, _⟩ := ownsRow_form o5.secs
        obtain ⟨po5, pc5, rfl, _⟩ := ownsRow_form o5.pend
        replace M := hid (M.out.res o5 b5)
        clear o5 b5 hcopy d0 d1 d2 d3 df m0 m1 mf o0 o1 of
        obtain ⟨z0, z1, z2, z3, zf⟩ := (M.out.get 4 rfl).four
        have M9 := hid ((((M.out.put 4 rfl (by decide) (by decide) 0 (.slice so5 d.secs.length sc5)).put 4 rfl (by decide) (by decide) 1 (.slice po5 d.pend.length pc5)).put 4 rfl (by decide) (by decide) 2 (.bool d.off)).put 4 rfl (by decide) (by decide) 3 (.int .i64 d.fuse))
        go_wp2_with fail
        clear z0 z1 z2 z3 zf
        obtain ⟨q0, q1, q2, q3, qf⟩ := (M9.out.get 4 rfl).four
        have hown9 := M9.out.own ⟨.slice so5 d.secs.length sc5, .slice po5 d.pend.length pc5, d⟩ (by simp)
        exact bodyPost_ret (v := .tuple #[.agg #[.slice so5 d.secs.length sc5, .slice po5 d.pend.length pc5, .bool d.off, .int .i64 d.fuse], .int .i64 1]) (by simp [results, Tryz.results8, go_sem, q0, q1, q2, q3]) rfl ⟨.slice so5 d.secs.length sc5, .slice po5 d.pend.length pc5, by rw [hfin.out], by rw [hfin.out]; exact hown9, M9.out.bel⟩
      · replace hS := hid (hS.out.2 h2)
        have h2i : ¬ (m.epoch : Int) ≤ (im.epoch : Int) := by omega
        clear h2
        by_cases h3 : (T : Int) < (t.length : Int) + 1
        · have hfin := hid (show saveE d ⟨F, S⟩ ⟨G, T⟩ m = (d, 17) by rw [hS.out, if_pos h3])
          clear hS
          obtain ⟨s0, s1, sf⟩ := (M.out.get 6 rfl).two
          obtain ⟨m0, m1, mf⟩ := (M.out.get 3 rfl).two
          obtain ⟨o0, o1, of⟩ := (M.out.get 5 rfl).two
          obtain ⟨d0, d1, d2, d3, df⟩ := (M.out.get 0 rfl).four
          go_wp2_with fail
          (with_reducible refine (hcopy.out _ _ (hv.out.below M.out.bel)).mono ?_)
          rintro e5 w5 ⟨sv5, pv5, rfl, o5, b5⟩
          obtain ⟨so5, sc5, rfl, _⟩ := ownsRow_form o5.secs
          obtain ⟨po5, pc5, rfl, _⟩ := ownsRow_form o5.pend
          replace M := hid (M.out.res o5 b5)
          clear o5 b5 hcopy d0 d1 d2 d3 df s0 s1 sf m0 m1 mf o0 o1 of
          obtain ⟨z0, z1, z2, z3, zf⟩ := (M.out.get 4 rfl).four
          have M9 := hid ((((M.out.put 4 rfl (by decide) (by decide) 0 (.slice so5 d.secs.length sc5)).put 4 rfl (by decide) (by decide) 1 (.slice po5 d.pend.length pc5)).put 4 rfl (by decide) (by decide) 2 (.bool d.off)).put 4 rfl (by decide) (by decide) 3 (.int .i64 d.fuse))
          go_wp2_with fail
          clear z0 z1 z2 z3 zf
          obtain ⟨q0, q1, q2, q3, qf⟩ := (M9.out.get 4 rfl).four
          have hown9 := M9.out.own ⟨.slice so5 d.secs.length sc5, .slice po5 d.pend.length pc5, d⟩ (by simp)
          exact bodyPost_ret (v := .tuple #[.agg #[.slice so5 d.secs.length sc5, .slice po5 d.pend.length pc5, .bool d.off, .int .i64 d.fuse], .int .i64 17]) (by simp [results, Tryz.results8, go_sem, q0, q1, q2, q3]) rfl ⟨.slice so5 d.secs.length sc5, .slice po5 d.pend.length pc5, by rw [hfin.out], by rw [hfin.out]; exact hown9, M9.out.bel⟩
        · have hlay := hid (fun v W lv (h : DiskV W v d) (g : StrsV W lv (hd :: t)) => rlay_any d v G hd t lv W h g hfu'.out (by omega) (by omega))
          have hfin := hid (show saveE d ⟨F, S⟩ ⟨G, T⟩ m = runE d (layE (G : Nat) hd t) by rw [hS.out, if_neg h3])
          generalize runE d (layE (G : Nat) hd t) = x at hlay hfin
          clear hS
          obtain ⟨x, c⟩ := x
          obtain ⟨s0, s1, sf⟩ := (M.out.get 6 rfl).two
          obtain ⟨m0, m1, mf⟩ := (M.out.get 3 rfl).two
          obtain ⟨o0, o1, of⟩ := (M.out.get 5 rfl).two
          obtain ⟨d0, d1, d2, d3, df⟩ := (M.out.get 0 rfl).four
          go_wp2_with fail
          (with_reducible refine (hlay.out _ _ _ (hv.out.below M.out.bel) hsv.out).mono ?_)
          rintro e5 w5 hr5
          obtain ⟨so5, sc5, po5, pc5, rfl, o5, b5⟩ := hr5.open
          dsimp only at o5
          replace M := hid (M.out.res o5 b5)
          clear hr5 o5 b5 hlay d0 d1 d2 d3 df s0 s1 sf m0 m1 mf o0 o1 of
          try dsimp only
          obtain ⟨z0, z1, z2, z3, zf⟩ := (M.out.get 4 rfl).four
          have M9 := hid ((((M.out.put 4 rfl (by decide) (by decide) 0 (.slice so5 x.secs.length sc5)).put 4 rfl (by decide) (by decide) 1 (.slice po5 x.pend.length pc5)).put 4 rfl (by decide) (by decide) 2 (.bool x.off)).put 4 rfl (by decide) (by decide) 3 (.int .i64 x.fuse))
          go_wp2_with fail
          clear z0 z1 z2 z3 zf
          obtain ⟨q0, q1, q2, q3, qf⟩ := (M9.out.get 4 rfl).four
          have hown9 := M9.out.own ⟨.slice so5 x.secs.length sc5, .slice po5 x.pend.length pc5, x⟩ (by simp)
          exact bodyPost_ret (v := .tuple #[.agg #[.slice so5 x.secs.length sc5, .slice po5 x.pend.length pc5, .bool x.off, .int .i64 x.fuse], .int .i64 c]) (by simp [results, Tryz.results8, go_sem, q0, q1, q2, q3]) rfl ⟨.slice so5 x.secs.length sc5, .slice po5 x.pend.length pc5, by rw [hfin.out], by rw [hfin.out]; exact hown9, M9.out.bel⟩
    · have hfin := hid (show saveE d ⟨F, S⟩ ⟨G, T⟩ m = (d, fchk 2 m.pay.size) from hS.out.1 hk)
      have hsE : sectorsE (imFr m) = ([], fchk 2 m.pay.size) := by unfold sectorsE; rw [if_neg (show ¬ fchk (imFr m).kind (imFr m).pay.size = 0 from hk)]; rfl
      rw [hsE] at hsv hn ⊢
      obtain rfl : n = 0 := by rw [hn]; rfl
      have e1 : (fchk 2 m.pay.size != 0) = true := by simpa using hk
      generalize fchk 2 m.pay.size = c at e1 hfin ⊢
      clear hS hk hsE hn hsv
      obtain ⟨d0, d1, d2, d3, df⟩ := (M.out.get 0 rfl).four
      go_wp2_with fail
      (with_reducible refine (hcopy.out _ _ (hv.out.below M.out.bel)).mono ?_)
      rintro e5 w5 ⟨sv5, pv5, rfl, o5, b5⟩
      obtain ⟨so5, sc5, rfl, _⟩ := ownsRow_form o5.secs
      obtain ⟨po5, pc5, rfl, _⟩ := ownsRow_form o5.pend
      replace M := hid (M.out.res o5 b5)
      clear o5 b5 hcopy d0 d1 d2 d3 df
      obtain ⟨z0, z1, z2, z3, zf⟩ := (M.out.get 4 rfl).four
      have M9 := hid ((((M.out.put 4 rfl (by decide) (by decide) 0 (.slice so5 d.secs.length sc5)).put 4 rfl (by decide) (by decide) 1 (.slice po5 d.pend.length pc5)).put 4 rfl (by decide) (by decide) 2 (.bool d.off)).put 4 rfl (by decide) (by decide) 3 (.int .i64 d.fuse))
      go_wp2_with fail
      clear z0 z1 z2 z3 zf
      obtain ⟨q0, q1, q2, q3, qf⟩ := (M9.out.get 4 rfl).four
      have hown9 := M9.out.own ⟨.slice so5 d.secs.length sc5, .slice po5 d.pend.length pc5, d⟩ (by simp)
      exact bodyPost_ret (v := .tuple #[.agg #[.slice so5 d.secs.length sc5, .slice po5 d.pend.length pc5, .bool d.off, .int .i64 d.fuse], .int .i64 c]) (by simp [results, Tryz.results8, go_sem, q0, q1, q2, q3]) rfl ⟨.slice so5 d.secs.length sc5, .slice po5 d.pend.length pc5, by rw [hfin.out], by rw [hfin.out]; exact hown9, M9.out.bel⟩
  · clear ho
    rw [hl] at hld
    have hS := hid (save_1 hc hl (t := t) hL.out)
    clear hc ha hb hl
    rw [show rgV ⟨F, S⟩ = .agg #[.int .i64 (F : Nat), .int .i64 (S : Nat)] from rfl] at hld ⊢
    rw [show rgV ⟨G, T⟩ = .agg #[.int .i64 (G : Nat), .int .i64 (T : Nat)] from rfl] at hld ⊢
    rw [show imV m = .agg #[.int .u64 m.epoch, .string m.pay] from rfl]
    go_enter Tryz.func8, Tryz.ntmps8
    go_upto_region 1 with fail
    have M := hid ((((((Bag.nil w).push [.slice so d.secs.length scap, .slice po d.pend.length pcap, .bool d.off, .int .i64 d.fuse] 25 w.heap.size rfl).push [.int .i64 (F : Nat), .int .i64 (S : Nat)] 27 (w.heap.size + 1) (by simp)).push [.int .i64 (G : Nat), .int .i64 (T : Nat)] 27 (w.heap.size + 2) (by simp)).push [.int .u64 m.epoch, .string m.pay] 30 (w.heap.size + 3) (by simp)).push [.slice none 0 0, .slice none 0 0, .bool false, .int .i64 0] 25 (w.heap.size + 4) (by simp))
    generalize ((((w.alloc (.cells #[.slice so d.secs.length scap, .slice po d.pend.length pcap, .bool d.off, .int .i64 d.fuse] 25)).alloc (.cells #[.int .i64 (F : Nat), .int .i64 (S : Nat)] 27)).alloc (.cells #[.int .i64 (G : Nat), .int .i64 (T : Nat)] 27)).alloc (.cells #[.int .u64 m.epoch, .string m.pay] 30)).alloc (.cells #[.slice none 0 0, .slice none 0 0, .bool false, .int .i64 0] 25) = X0 at M ⊢
    obtain ⟨d0, d1, d2, d3, df⟩ := (M.out.get 0 rfl).four
    obtain ⟨a0, a1, af⟩ := (M.out.get 1 rfl).two
    obtain ⟨b0, b1, bf⟩ := (M.out.get 2 rfl).two
    go_wp2_with fail
    (with_reducible refine (hld.out _ _ (hv.out.below M.out.bel)).mono ?_)
    rintro e w1 ⟨rfl, bw⟩
    replace M := hid (M.out.below bw)
    clear bw hld d0 d1 d2 d3 df a0 a1 af b0 b1 bf
    unfold imV
    try dsimp only [zeroIm]
    go_upto_region 2 with fail
    replace M := hid (M.out.push [.int .u64 im.epoch, .string im.pay] 30 w1.heap.size rfl)
    generalize w1.alloc (.cells #[.int .u64 im.epoch, .string im.pay] 30) = X1 at M ⊢
    generalize w1.heap.size = n1 at M ⊢
    obtain ⟨a0, a1, af⟩ := (M.out.get 1 rfl).two
    go_upto_region 7 with fail
    clear a0 a1 af
    replace M := hid (M.out.push [.int .i64 (F : Nat), .int .i64 (S : Nat)] 27 X1.heap.size rfl)
    generalize X1.alloc (.cells #[.int .i64 (F : Nat), .int .i64 (S : Nat)] 27) = X2 at M ⊢
    generalize X1.heap.size = n2 at M ⊢
    obtain ⟨m0, m1, mf⟩ := (M.out.get 3 rfl).two
    go_wp2_with fail
    refine (hse.out _).mono ?_
    rintro e w3 ⟨lo, n, lcap, hn, rfl, hown, b2⟩
    have hsv := hid (SecTold.strs hown hn)
    replace M := hid (M.out.below b2)
    clear b2 hown hse m0 m1 mf
    by_cases hk : fchk 2 m.pay.size = 0
    · replace hS := hid (hS.out.2 hk)
      have hsE := hid (show sectorsE (imFr m) = (hd :: t, 0) by unfold sectorsE; rw [if_pos (show fchk (imFr m).kind (imFr m).pay.size = 0 from hk), hL.out])
      rw [hsE.out] at hsv hn ⊢
      dsimp only at hn hsv
      have hnl : n = t.length + 1 := by rw [hn, List.length_cons]
      have htl2 : (t.length : Int) ≤ 269 := by have := (fchk_zero hk).2; have := hT.out; unfold pcs at this; omega
      clear hn hk hsE
      subst hnl
      by_cases h2 : m.epoch ≤ im.epoch
      · have hfin := hid (show saveE d ⟨F, S⟩ ⟨G, T⟩ m = (d, 1) from hS.out.1 h2)
        have h2i : (m.epoch : Int) ≤ (im.epoch : Int) := by omega
        clear hS h2
        obtain ⟨m0, m1, mf⟩ := (M.out.get 3 rfl).two
        obtain ⟨o0, o1, of⟩ := (M.out.get 5 rfl).two
        obtain ⟨d0, d1, d2, d3, df⟩ := (M.out.get 0 rfl).four
        go_wp2_with fail
        (with_reducible refine (hcopy.out _ _ (hv.out.below M.out.bel)).mono ?_)
        rintro e5 w5 ⟨sv5, pv5, rfl, o5, b5⟩
        obtain ⟨so5, sc5, rfl, _⟩ := ownsRow_form o5.secs
        obtain ⟨po5, pc5, rfl, _⟩ := ownsRow_form o5.pend
        replace M := hid (M.out.res o5 b5)
        clear o5 b5 hcopy d0 d1 d2 d3 df m0 m1 mf o0 o1 of
        obtain ⟨z0, z1, z2, z3, zf⟩ := (M.out.get 4 rfl).four
        have M9 := hid ((((M.out.put 4 rfl (by decide) (by decide) 0 (.slice so5 d.secs.length sc5)).put 4 rfl (by decide) (by decide) 1 (.slice po5 d.pend.length pc5)).put 4 rfl (by decide) (by decide) 2 (.bool d.off)).put 4 rfl (by decide) (by decide) 3 (.int .i64 d.fuse))
        go_wp2_with fail
        clear z0 z1 z2 z3 zf
        obtain ⟨q0, q1, q2, q3, qf⟩ := (M9.out.get 4 rfl).four
        have hown9 := M9.out.own ⟨.slice so5 d.secs.length sc5, .slice po5 d.pend.length pc5, d⟩ (by simp)
        exact bodyPost_ret (v := .tuple #[.agg #[.slice so5 d.secs.length sc5, .slice po5 d.pend.length pc5, .bool d.off, .int .i64 d.fuse], .int .i64 1]) (by simp [results, Tryz.results8, go_sem, q0, q1, q2, q3]) rfl ⟨.slice so5 d.secs.length sc5, .slice po5 d.pend.length pc5, by rw [hfin.out], by rw [hfin.out]; exact hown9, M9.out.bel⟩
      · replace hS := hid (hS.out.2 h2)
        have h2i : ¬ (m.epoch : Int) ≤ (im.epoch : Int) := by omega
        clear h2
        by_cases h3 : (S : Int) < (t.length : Int) + 1
        · have hfin := hid (show saveE d ⟨F, S⟩ ⟨G, T⟩ m = (d, 17) by rw [hS.out, if_pos h3])
          clear hS
          obtain ⟨s0, s1, sf⟩ := (M.out.get 6 rfl).two
          obtain ⟨m0, m1, mf⟩ := (M.out.get 3 rfl).two
          obtain ⟨o0, o1, of⟩ := (M.out.get 5 rfl).two
          obtain ⟨d0, d1, d2, d3, df⟩ := (M.out.get 0 rfl).four
          go_wp2_with fail
          (with_reducible refine (hcopy.out _ _ (hv.out.below M.out.bel)).mono ?_)
          rintro e5 w5 ⟨sv5, pv5, rfl, o5, b5⟩
          obtain ⟨so5, sc5, rfl, _⟩ := ownsRow_form o5.secs
          obtain ⟨po5, pc5, rfl, _⟩ := ownsRow_form o5.pend
          replace M := hid (M.out.res o5 b5)
          clear o5 b5 hcopy d0 d1 d2 d3 df s0 s1 sf m0 m1 mf o0 o1 of
          obtain ⟨z0, z1, z2, z3, zf⟩ := (M.out.get 4 rfl).four
          have M9 := hid ((((M.out.put 4 rfl (by decide) (by decide) 0 (.slice so5 d.secs.length sc5)).put 4 rfl (by decide) (by decide) 1 (.slice po5 d.pend.length pc5)).put 4 rfl (by decide) (by decide) 2 (.bool d.off)).put 4 rfl (by decide) (by decide) 3 (.int .i64 d.fuse))
          go_wp2_with fail
          clear z0 z1 z2 z3 zf
          obtain ⟨q0, q1, q2, q3, qf⟩ := (M9.out.get 4 rfl).four
          have hown9 := M9.out.own ⟨.slice so5 d.secs.length sc5, .slice po5 d.pend.length pc5, d⟩ (by simp)
          exact bodyPost_ret (v := .tuple #[.agg #[.slice so5 d.secs.length sc5, .slice po5 d.pend.length pc5, .bool d.off, .int .i64 d.fuse], .int .i64 17]) (by simp [results, Tryz.results8, go_sem, q0, q1, q2, q3]) rfl ⟨.slice so5 d.secs.length sc5, .slice po5 d.pend.length pc5, by rw [hfin.out], by rw [hfin.out]; exact hown9, M9.out.bel⟩
        · have hlay := hid (fun v W lv (h : DiskV W v d) (g : StrsV W lv (hd :: t)) => rlay_any d v F hd t lv W h g hfu'.out (by omega) (by omega))
          have hfin := hid (show saveE d ⟨F, S⟩ ⟨G, T⟩ m = runE d (layE (F : Nat) hd t) by rw [hS.out, if_neg h3])
          generalize runE d (layE (F : Nat) hd t) = x at hlay hfin
          clear hS
          obtain ⟨x, c⟩ := x
          obtain ⟨s0, s1, sf⟩ := (M.out.get 6 rfl).two
          obtain ⟨m0, m1, mf⟩ := (M.out.get 3 rfl).two
          obtain ⟨o0, o1, of⟩ := (M.out.get 5 rfl).two
          obtain ⟨d0, d1, d2, d3, df⟩ := (M.out.get 0 rfl).four
          go_wp2_with fail
          (with_reducible refine (hlay.out _ _ _ (hv.out.below M.out.bel) hsv.out).mono ?_)
          rintro e5 w5 hr5
          obtain ⟨so5, sc5, po5, pc5, rfl, o5, b5⟩ := hr5.open
          dsimp only at o5
          replace M := hid (M.out.res o5 b5)
          clear hr5 o5 b5 hlay d0 d1 d2 d3 df s0 s1 sf m0 m1 mf o0 o1 of
          try dsimp only
          obtain ⟨z0, z1, z2, z3, zf⟩ := (M.out.get 4 rfl).four
          have M9 := hid ((((M.out.put 4 rfl (by decide) (by decide) 0 (.slice so5 x.secs.length sc5)).put 4 rfl (by decide) (by decide) 1 (.slice po5 x.pend.length pc5)).put 4 rfl (by decide) (by decide) 2 (.bool x.off)).put 4 rfl (by decide) (by decide) 3 (.int .i64 x.fuse))
          go_wp2_with fail
          clear z0 z1 z2 z3 zf
          obtain ⟨q0, q1, q2, q3, qf⟩ := (M9.out.get 4 rfl).four
          have hown9 := M9.out.own ⟨.slice so5 x.secs.length sc5, .slice po5 x.pend.length pc5, x⟩ (by simp)
          exact bodyPost_ret (v := .tuple #[.agg #[.slice so5 x.secs.length sc5, .slice po5 x.pend.length pc5, .bool x.off, .int .i64 x.fuse], .int .i64 c]) (by simp [results, Tryz.results8, go_sem, q0, q1, q2, q3]) rfl ⟨.slice so5 x.secs.length sc5, .slice po5 x.pend.length pc5, by rw [hfin.out], by rw [hfin.out]; exact hown9, M9.out.bel⟩
    · have hfin := hid (show saveE d ⟨F, S⟩ ⟨G, T⟩ m = (d, fchk 2 m.pay.size) from hS.out.1 hk)
      have hsE : sectorsE (imFr m) = ([], fchk 2 m.pay.size) := by unfold sectorsE; rw [if_neg (show ¬ fchk (imFr m).kind (imFr m).pay.size = 0 from hk)]; rfl
      rw [hsE] at hsv hn ⊢
      obtain rfl : n = 0 := by rw [hn]; rfl
      have e1 : (fchk 2 m.pay.size != 0) = true := by simpa using hk
      generalize fchk 2 m.pay.size = c at e1 hfin ⊢
      clear hS hk hsE hn hsv
      obtain ⟨d0, d1, d2, d3, df⟩ := (M.out.get 0 rfl).four
      go_wp2_with fail
      (with_reducible refine (hcopy.out _ _ (hv.out.below M.out.bel)).mono ?_)
      rintro e5 w5 ⟨sv5, pv5, rfl, o5, b5⟩
      obtain ⟨so5, sc5, rfl, _⟩ := ownsRow_form o5.secs
      obtain ⟨po5, pc5, rfl, _⟩ := ownsRow_form o5.pend
      replace M := hid (M.out.res o5 b5)
      clear o5 b5 hcopy d0 d1 d2 d3 df
      obtain ⟨z0, z1, z2, z3, zf⟩ := (M.out.get 4 rfl).four
      have M9 := hid ((((M.out.put 4 rfl (by decide) (by decide) 0 (.slice so5 d.secs.length sc5)).put 4 rfl (by decide) (by decide) 1 (.slice po5 d.pend.length pc5)).put 4 rfl (by decide) (by decide) 2 (.bool d.off)).put 4 rfl (by decide) (by decide) 3 (.int .i64 d.fuse))
      go_wp2_with fail
      clear z0 z1 z2 z3 zf
      obtain ⟨q0, q1, q2, q3, qf⟩ := (M9.out.get 4 rfl).four
      have hown9 := M9.out.own ⟨.slice so5 d.secs.length sc5, .slice po5 d.pend.length pc5, d⟩ (by simp)
      exact bodyPost_ret (v := .tuple #[.agg #[.slice so5 d.secs.length sc5, .slice po5 d.pend.length pc5, .bool d.off, .int .i64 d.fuse], .int .i64 c]) (by simp [results, Tryz.results8, go_sem, q0, q1, q2, q3]) rfl ⟨.slice so5 d.secs.length sc5, .slice po5 d.pend.length pc5, by rw [hfin.out], by rw [hfin.out]; exact hown9, M9.out.bel⟩
theorem rsave_any (d : Disk) (v : Value) (a b : Rg) (m : Im) (w : World) (h : DiskV w v d) (hfu : (Lit.int .i64 d.fuse).wf = true) (ha : a.has) (hb : b.has) (hm : m.has) :
    Calls Tryz.prog 8 #[v, rgV a, rgV b, imV m] w (Svd w (saveE d a b m)) := by
  by_cases hc : slChk d a b = 0
  · cases ho : d.off with
    | true => exact rsave_off d v a b m w h ha hb hc ho
    | false =>
      obtain ⟨c1, c2, c3⟩ := slChk_zero hc
      obtain ⟨x1, x2, x3, x4, x5⟩ := walChk_zero c1
      obtain ⟨y1, y2, y3, y4, y5⟩ := walChk_zero c2
      obtain ⟨af, az⟩ := a
      obtain ⟨bf, bz⟩ := b
      dsimp only at x2 x3 y2 y3
      obtain ⟨F, rfl⟩ : ∃ F : Nat, af = F := ⟨af.toNat, by omega⟩
      obtain ⟨S, rfl⟩ : ∃ F : Nat, az = F := ⟨az.toNat, by omega⟩
      obtain ⟨G, rfl⟩ : ∃ F : Nat, bf = F := ⟨bf.toNat, by omega⟩
      obtain ⟨T, rfl⟩ : ∃ F : Nat, bz = F := ⟨bz.toNat, by omega⟩
      exact rsave_go d v F S G T m w h hfu ha hb hm hc ho
  · exact rsave_bad d v a b m w h ha hb hc
end Go.Proofs.YtiegocbdgimimaaGreat.Slot
namespace Go.Proofs.YtiegocbdgimimaaGreat.slotsDo
open Go.ChangeShapes Go.WideShapes Go.ChangeAt Go.RowKit
open Go.Proofs.YtiegocbdgimimaaGreat.Mem Go.Proofs.YtiegocbdgimimaaGreat.Rec Go.Proofs.YtiegocbdgimimaaGreat.Sector Go.Proofs.YtiegocbdgimimaaGreat.Wal Go.Proofs.YtiegocbdgimimaaGreat.Slot
set_option linter.unusedVariables false
set_option linter.unusedSimpArgs false
set_option maxRecDepth 100000
set_option maxHeartbeats 8000000 in
theorem walk (v0 : Value) (d : Disk) (a b : Rg) (m : Im) (w : World) (h0 : DiskV w v0 d) (f0 : (Lit.int .i64 d.fuse).wf = true) (b0 : d.secs.length * 16 ≤ 140737488355328 ∧ d.pend.length * 24 ≤ 140737488355328) (w1 : a.has) (w2 : b.has) (w3 : m.has) :
    Calls Tryz.prog 3 #[v0, rgV a, rgV b, imV m] w fun e w' => e = .returned (.bool true) ∧ Below w.heap.size w w' := by
  have hcopy := hid (fun v W (h : DiskV W v d) => rcopy_any d v W h b0.1 b0.2)
  obtain ⟨X, hX⟩ : ∃ X, loadE d a b = X := ⟨_, rfl⟩
  have hl1 := hid (fun v W (h : DiskV W v d) => hX ▸ load_any d v a b W h w1 w2)
  have hl2 := hid (fun v W (h : DiskV W v d) => hX ▸ rload_any d v a b W h w1 w2)
  clear hX
  obtain ⟨im, at9, c⟩ := X
  obtain ⟨X, hX⟩ : ∃ X, saveE d a b m = X := ⟨_, rfl⟩
  have hs1 := hid (fun v W (h : DiskV W v d) => hX ▸ save_any d v a b m W h f0 w1 w2 w3)
  have hs2 := hid (fun v W (h : DiskV W v d) => hX ▸ rsave_any d v a b m W h f0 w1 w2 w3)
  clear hX
  obtain ⟨x, cs⟩ := X
  obtain ⟨k, hX⟩ : ∃ X, slChk d a b = X := ⟨_, rfl⟩
  have hc1 := hid (fun v W (h : DiskV W v d) => hX ▸ scheck_any d v a b W h w1 w2)
  have hc2 := hid (fun v W (h : DiskV W v d) => hX ▸ rslchk_any d v a b W h w1 w2)
  clear hX
  have hv := hid h0
  obtain ⟨af, az⟩ := a
  obtain ⟨bf, bz⟩ := b
  obtain ⟨sv, pv, rfl, hs, hp⟩ := h0
  obtain ⟨so, scap, rfl, _⟩ := hs.form
  obtain ⟨po, pcap, rfl, _⟩ := hp.form
  clear hs hp f0 w1 w2 w3 b0
  rw [show rgV ⟨af, az⟩ = .agg #[.int .i64 af, .int .i64 az] from rfl] at hl1 hl2 hs1 hs2 hc1 hc2 ⊢
  rw [show rgV ⟨bf, bz⟩ = .agg #[.int .i64 bf, .int .i64 bz] from rfl] at hl1 hl2 hs1 hs2 hc1 hc2 ⊢
  rw [show imV m = .agg #[.int .u64 m.epoch, .string m.pay] from rfl] at hs1 hs2 ⊢
  have hpp : (im.pay.toList == im.pay.toList) = true := by simp
  go_enter Tryz.func3, Tryz.ntmps3
  go_upto_region 1 with fail
  have M := hid (((((Bag.nil w).push [.slice so d.secs.length scap, .slice po d.pend.length pcap, .bool d.off, .int .i64 d.fuse] 25 w.heap.size rfl).push [.int .i64 af, .int .i64 az] 27 (w.heap.size + 1) (by simp)).push [.int .i64 bf, .int .i64 bz] 27 (w.heap.size + 2) (by simp)).push [.int .u64 m.epoch, .string m.pay] 30 (w.heap.size + 3) (by simp))
  generalize (((w.alloc (.cells #[.slice so d.secs.length scap, .slice po d.pend.length pcap, .bool d.off, .int .i64 d.fuse] 25)).alloc (.cells #[.int .i64 af, .int .i64 az] 27)).alloc (.cells #[.int .i64 bf, .int .i64 bz] 27)).alloc (.cells #[.int .u64 m.epoch, .string m.pay] 30) = X0 at M ⊢
  obtain ⟨d0, d1, d2, d3, df⟩ := (M.out.get 0 rfl).four
  go_wp2_with fail
  (with_reducible refine (hcopy.out _ _ (hv.out.below M.out.bel)).mono ?_)
  rintro e4 w4 ⟨sv4, pv4, rfl, o, b⟩
  obtain ⟨so4, sc4, rfl, _⟩ := ownsRow_form o.secs
  obtain ⟨po4, pc4, rfl, _⟩ := ownsRow_form o.pend
  replace M := hid (M.out.res o b)
  clear o b hcopy d0 d1 d2 d3 df
  go_upto_region 2 with fail
  replace M := hid (M.out.push [.slice so4 d.secs.length sc4, .slice po4 d.pend.length pc4, .bool d.off, .int .i64 d.fuse] 25 w4.heap.size rfl)
  generalize w4.alloc (.cells #[.slice so4 d.secs.length sc4, .slice po4 d.pend.length pc4, .bool d.off, .int .i64 d.fuse] 25) = X4 at M ⊢
  generalize w4.heap.size = n4 at M ⊢
  obtain ⟨g0, g1, g2, g3, gf⟩ := (M.out.get 4 rfl).four
  obtain ⟨p0, p1, pf⟩ := (M.out.get 1 rfl).two
  obtain ⟨q0, q1, qf⟩ := (M.out.get 2 rfl).two
  go_wp2_with fail
  (with_reducible refine (hl1.out _ _ (M.out.view 0 rfl)).mono ?_)
  rintro e w5 ⟨rfl, b⟩
  replace M := hid (M.out.below b)
  clear b
  clear hl1 g0 g1 g2 g3 gf p0 p1 pf q0 q1 qf
  dsimp only [imV]
  go_upto_region 3 with fail
  replace M := hid (M.out.push [.int .u64 im.epoch, .string im.pay] 30 w5.heap.size rfl)
  generalize w5.alloc (.cells #[.int .u64 im.epoch, .string im.pay] 30) = X5 at M ⊢
  generalize w5.heap.size = n5 at M ⊢
  obtain ⟨d0, d1, d2, d3, df⟩ := (M.out.get 0 rfl).four
  obtain ⟨p0, p1, pf⟩ := (M.out.get 1 rfl).two
  obtain ⟨q0, q1, qf⟩ := (M.out.get 2 rfl).two
  go_wp2_with fail
  (with_reducible refine (hl2.out _ _ (hv.out.below M.out.bel)).mono ?_)
  rintro e w6 ⟨rfl, b⟩
  replace M := hid (M.out.below b)
  clear b
  clear hl2 d0 d1 d2 d3 df p0 p1 pf q0 q1 qf
  dsimp only [imV]
  go_upto_region 4 with fail
  replace M := hid (M.out.push [.int .u64 im.epoch, .string im.pay] 30 w6.heap.size rfl)
  generalize w6.alloc (.cells #[.int .u64 im.epoch, .string im.pay] 30) = X6 at M ⊢
  generalize w6.heap.size = n6 at M ⊢
  obtain ⟨g0, g1, g2, g3, gf⟩ := (M.out.get 4 rfl).four
  obtain ⟨p0, p1, pf⟩ := (M.out.get 1 rfl).two
  obtain ⟨q0, q1, qf⟩ := (M.out.get 2 rfl).two
  obtain ⟨m0, m1, mf⟩ := (M.out.get 3 rfl).two
  go_wp2_with fail
  (with_reducible refine (hs1.out _ _ (M.out.view 0 rfl)).mono ?_)
  rintro e w7 hr
  obtain ⟨so7, sc7, po7, pc7, rfl, o, b⟩ := hr.open
  replace M := hid (M.out.res o b)
  clear hr o b
  clear hs1 g0 g1 g2 g3 gf p0 p1 pf q0 q1 qf m0 m1 mf
  dsimp only [imV]
  go_upto_region 5 with fail
  replace M := hid (M.out.push [.slice so7 x.secs.length sc7, .slice po7 x.pend.length pc7, .bool x.off, .int .i64 x.fuse] 25 w7.heap.size rfl)
  generalize w7.alloc (.cells #[.slice so7 x.secs.length sc7, .slice po7 x.pend.length pc7, .bool x.off, .int .i64 x.fuse] 25) = X7 at M ⊢
  generalize w7.heap.size = n7 at M ⊢
  obtain ⟨d0, d1, d2, d3, df⟩ := (M.out.get 0 rfl).four
  obtain ⟨p0, p1, pf⟩ := (M.out.get 1 rfl).two
  obtain ⟨q0, q1, qf⟩ := (M.out.get 2 rfl).two
  obtain ⟨m0, m1, mf⟩ := (M.out.get 3 rfl).two
  go_wp2_with fail
  (with_reducible refine (hs2.out _ _ (hv.out.below M.out.bel)).mono ?_)
  rintro e w8 hr
  obtain ⟨so8, sc8, po8, pc8, rfl, o, b⟩ := hr.open
  replace M := hid (M.out.res o b)
  clear hr o b
  clear hs2 d0 d1 d2 d3 df p0 p1 pf q0 q1 qf m0 m1 mf
  dsimp only [imV]
  go_upto_region 6 with fail
  replace M := hid (M.out.push [.slice so8 x.secs.length sc8, .slice po8 x.pend.length pc8, .bool x.off, .int .i64 x.fuse] 25 w8.heap.size rfl)
  generalize w8.alloc (.cells #[.slice so8 x.secs.length sc8, .slice po8 x.pend.length pc8, .bool x.off, .int .i64 x.fuse] 25) = X8 at M ⊢
  generalize w8.heap.size = n8 at M ⊢
  obtain ⟨d0, d1, d2, d3, df⟩ := (M.out.get 0 rfl).four
  obtain ⟨p0, p1, pf⟩ := (M.out.get 1 rfl).two
  obtain ⟨q0, q1, qf⟩ := (M.out.get 2 rfl).two
  obtain ⟨g0, g1, g2, g3, gf⟩ := (M.out.get 4 rfl).four
  obtain ⟨x0, x1, xf⟩ := (M.out.get 5 rfl).two
  obtain ⟨y0, y1, yf⟩ := (M.out.get 6 rfl).two
  obtain ⟨e0, e1, e2, e3, ef⟩ := (M.out.get 7 rfl).four
  obtain ⟨k0, k1, k2, k3, kf⟩ := (M.out.get 8 rfl).four
  have Mw := hid M.out.drew
  go_region_held3 (fun W => W.cell? ⟨w.heap.size, 0, none⟩ = some (.slice so d.secs.length scap) ∧ W.cell? ⟨w.heap.size, 1, none⟩ = some (.slice po d.pend.length pcap) ∧ W.cell? ⟨w.heap.size, 2, none⟩ = some (.bool d.off) ∧ W.cell? ⟨w.heap.size, 3, none⟩ = some (.int .i64 d.fuse) ∧ W.cell? ⟨w.heap.size + 1, 0, none⟩ = some (.int .i64 af) ∧ W.cell? ⟨w.heap.size + 1, 1, none⟩ = some (.int .i64 az) ∧ W.cell? ⟨w.heap.size + 2, 0, none⟩ = some (.int .i64 bf) ∧ W.cell? ⟨w.heap.size + 2, 1, none⟩ = some (.int .i64 bz) ∧ W.cell? ⟨n4, 0, none⟩ = some (.slice so4 d.secs.length sc4) ∧ W.cell? ⟨n4, 1, none⟩ = some (.slice po4 d.pend.length pc4) ∧ W.cell? ⟨n4, 2, none⟩ = some (.bool d.off) ∧ W.cell? ⟨n4, 3, none⟩ = some (.int .i64 d.fuse) ∧ W.cell? ⟨n5, 0, none⟩ = some (.int .u64 im.epoch) ∧ W.cell? ⟨n5, 1, none⟩ = some (.string im.pay) ∧ W.cell? ⟨n6, 0, none⟩ = some (.int .u64 im.epoch) ∧ W.cell? ⟨n6, 1, none⟩ = some (.string im.pay) ∧ W.cell? ⟨n7, 0, none⟩ = some (.slice so7 x.secs.length sc7) ∧ W.cell? ⟨n7, 1, none⟩ = some (.slice po7 x.pend.length pc7) ∧ W.cell? ⟨n7, 2, none⟩ = some (.bool x.off) ∧ W.cell? ⟨n7, 3, none⟩ = some (.int .i64 x.fuse) ∧ W.cell? ⟨n8, 0, none⟩ = some (.slice so8 x.secs.length sc8) ∧ W.cell? ⟨n8, 1, none⟩ = some (.slice po8 x.pend.length pc8) ∧ W.cell? ⟨n8, 2, none⟩ = some (.bool x.off) ∧ W.cell? ⟨n8, 3, none⟩ = some (.int .i64 x.fuse)) (exact ⟨d0, d1, d2, d3, p0, p1, q0, q1, g0, g1, g2, g3, x0, x1, y0, y1, e0, e1, e2, e3, k0, k1, k2, k3⟩) (first
    | (go_at_call 9; with_reducible refine (Slot.lives_any _).mono ?_; rintro e w9 ⟨rfl, b9⟩; have M9 := hid (Mw.out.below b9); obtain ⟨d0, d1, d2, d3, df⟩ := (M9.out.get 0 rfl).four; obtain ⟨p0, p1, pf⟩ := (M9.out.get 1 rfl).two; obtain ⟨q0, q1, qf⟩ := (M9.out.get 2 rfl).two; obtain ⟨g0, g1, g2, g3, gf⟩ := (M9.out.get 4 rfl).four; obtain ⟨x0, x1, xf⟩ := (M9.out.get 5 rfl).two; obtain ⟨y0, y1, yf⟩ := (M9.out.get 6 rfl).two; obtain ⟨e0, e1, e2, e3, ef⟩ := (M9.out.get 7 rfl).four; obtain ⟨k0, k1, k2, k3, kf⟩ := (M9.out.get 8 rfl).four)
    | (go_at_call 10; with_reducible refine (same_self x _ _ _ (M9.out.view 1 rfl) (M9.out.view 2 rfl)).mono ?_; rintro e w10 ⟨rfl, b10⟩; have M10 := hid (M9.out.below b10); obtain ⟨d0, d1, d2, d3, df⟩ := (M10.out.get 0 rfl).four; obtain ⟨p0, p1, pf⟩ := (M10.out.get 1 rfl).two; obtain ⟨q0, q1, qf⟩ := (M10.out.get 2 rfl).two; obtain ⟨g0, g1, g2, g3, gf⟩ := (M10.out.get 4 rfl).four; obtain ⟨x0, x1, xf⟩ := (M10.out.get 5 rfl).two; obtain ⟨y0, y1, yf⟩ := (M10.out.get 6 rfl).two; obtain ⟨e0, e1, e2, e3, ef⟩ := (M10.out.get 7 rfl).four; obtain ⟨k0, k1, k2, k3, kf⟩ := (M10.out.get 8 rfl).four)
    | (go_at_call 11; with_reducible refine (hc1.out _ _ (M10.out.view 0 rfl)).mono ?_; rintro e w11 ⟨rfl, b11⟩; have M11 := hid (M10.out.below b11); obtain ⟨d0, d1, d2, d3, df⟩ := (M11.out.get 0 rfl).four; obtain ⟨p0, p1, pf⟩ := (M11.out.get 1 rfl).two; obtain ⟨q0, q1, qf⟩ := (M11.out.get 2 rfl).two; obtain ⟨g0, g1, g2, g3, gf⟩ := (M11.out.get 4 rfl).four; obtain ⟨x0, x1, xf⟩ := (M11.out.get 5 rfl).two; obtain ⟨y0, y1, yf⟩ := (M11.out.get 6 rfl).two; obtain ⟨e0, e1, e2, e3, ef⟩ := (M11.out.get 7 rfl).four; obtain ⟨k0, k1, k2, k3, kf⟩ := (M11.out.get 8 rfl).four)
    | (go_at_call 12; with_reducible refine (hc2.out _ _ (hv.out.below M11.out.bel)).mono ?_; rintro e w12 ⟨rfl, b12⟩; have M12 := hid (M11.out.below b12); obtain ⟨d0, d1, d2, d3, df⟩ := (M12.out.get 0 rfl).four; obtain ⟨p0, p1, pf⟩ := (M12.out.get 1 rfl).two; obtain ⟨q0, q1, qf⟩ := (M12.out.get 2 rfl).two; obtain ⟨g0, g1, g2, g3, gf⟩ := (M12.out.get 4 rfl).four; obtain ⟨x0, x1, xf⟩ := (M12.out.get 5 rfl).two; obtain ⟨y0, y1, yf⟩ := (M12.out.get 6 rfl).two; obtain ⟨e0, e1, e2, e3, ef⟩ := (M12.out.get 7 rfl).four; obtain ⟨k0, k1, k2, k3, kf⟩ := (M12.out.get 8 rfl).four)
    | (go_at_call 10; with_reducible refine (same_self d _ _ _ (M12.out.view 0 rfl) (hv.out.below M12.out.bel)).mono ?_; rintro e w13 ⟨rfl, b13⟩; have M13 := hid (M12.out.below b13); obtain ⟨d0, d1, d2, d3, df⟩ := (M13.out.get 0 rfl).four; obtain ⟨p0, p1, pf⟩ := (M13.out.get 1 rfl).two; obtain ⟨q0, q1, qf⟩ := (M13.out.get 2 rfl).two; obtain ⟨g0, g1, g2, g3, gf⟩ := (M13.out.get 4 rfl).four; obtain ⟨x0, x1, xf⟩ := (M13.out.get 5 rfl).two; obtain ⟨y0, y1, yf⟩ := (M13.out.get 6 rfl).two; obtain ⟨e0, e1, e2, e3, ef⟩ := (M13.out.get 7 rfl).four; obtain ⟨k0, k1, k2, k3, kf⟩ := (M13.out.get 8 rfl).four))
  all_goals
    go_wp2_with fail
    go_ret
    exact ⟨by simp, M13.out.bel⟩
end Go.Proofs.YtiegocbdgimimaaGreat.slotsDo
namespace Go.Proofs.YtiegocbdgimimaaGreat.Sector
open Go.Joins Go.ChangeShapes Go.WideShapes Go.ChangeAt Go.RowKit Go.Deep
open Go.Proofs.YtiegocbdgimimaaGreat.Mem
set_option linter.unusedVariables false
section
variable {H : Type} {enc : TypeId × Value → H} {P : Program} {w : World} {base : Nat} {spare : Nat → Bool} {held : Bool}
theorem slice_room {t e : TypeId} {fuel : Nat} {v : Value} {x : DataW H × List MemPlace} (ht : P.underlying t = some (.slice e)) (h : DataW.trod enc P w base spare held fuel t [v] = some x) (hw : ∀ m ∈ x.1.weights P t, m ≤ reachBytes) :
    ∃ ao len cap, v = .slice ao len cap ∧ len * P.bytesOf e ≤ reachBytes := by
  rcases open_slice ht h with ⟨h0, _⟩ | ⟨a, len, cap, m, n, D, Pl, hcs, hb, hl, hm, hmm, hx, hi⟩
  · exact ⟨none, 0, 0, by simpa using h0, by simp⟩
  · refine ⟨some a, len, cap, by simpa using hcs, ?_⟩
    have := hw ((((List.range len).map D).length + ((List.range (m - len)).map fun j => D (len + j)).length) * P.bytesOf e) (by rw [hx]; simp [DataW.weights, ht])
    have h2 : len * P.bytesOf e ≤ (((List.range len).map D).length + ((List.range (m - len)).map fun j => D (len + j)).length) * P.bytesOf e := Nat.mul_le_mul_right _ (by simp)
    omega
end
theorem bytes_str : Tryz.prog.bytesOf 9 = 16 := by kernel_rfl
theorem bytes_wr : Tryz.prog.bytesOf 55 = 24 := by kernel_rfl
set_option maxRecDepth 100000 in
theorem disk_room {H : Type} {enc : TypeId × Value → H} {W : World} {r : Reach} {b0 : Nat} {v : Value} {d : DataW H} {p : List MemPlace} (hv : Value.okWide Tryz.prog W r b0 25 v) (h : DataW.Trod enc Tryz.prog W 0 (fun _ => true) true 25 v d p)
    (hw : ∀ m ∈ d.weights Tryz.prog 25, m ≤ reachBytes) (D : Disk) (hD : DiskV W v D) : D.secs.length * 16 ≤ 140737488355328 ∧ D.pend.length * 24 ≤ 140737488355328 := by
  obtain ⟨v0, v1, v2, v3, y0, y1, y2, y3, n, rfl, rfl, _, t0, t1, t2, t3⟩ := open_agg4 Tryz.underlying25 (by kernel_rfl) (by kernel_rfl) hv h
  obtain ⟨sv, pv, he, hs, hp⟩ := hD
  simp only [Value.agg.injEq, Array.mk.injEq, List.cons.injEq, and_true] at he
  obtain ⟨rfl, rfl, -, -⟩ := he
  obtain ⟨so, sc, rfl, _⟩ := hs.form
  obtain ⟨po, pc, rfl, _⟩ := hp.form
  obtain ⟨ao, ln, cp, e0, r0⟩ := slice_room Tryz.underlying22 t0 (fun m hm => hw m (by simp [DataW.weights, DataW.weightsEach, Tryz.underlying25]; left; exact hm))
  obtain ⟨ao1, ln1, cp1, e1, r1⟩ := slice_room Tryz.underlying23 t1 (fun m hm => hw m (by simp [DataW.weights, DataW.weightsEach, Tryz.underlying25]; right; left; exact hm))
  simp only [Value.slice.injEq] at e0 e1
  rw [bytes_str] at r0
  rw [bytes_wr] at r1
  have hr : reachBytes ≤ 140737488355328 := by decide
  obtain ⟨-, h0, -⟩ := e0
  obtain ⟨-, h1, -⟩ := e1
  omega
end Go.Proofs.YtiegocbdgimimaaGreat.Sector
namespace Go.Proofs.YtiegocbdgimimaaGreat.slotsDo
open Go.ChangeShapes Go.WideShapes Go.ChangeAt Go.RowKit
open Go.ChangeMaps (open_string shut_string)
set_option linter.unusedVariables false
theorem own : ownKnob Tryz.prog.godebug = none := by kernel_rfl
theorem laidOut : laidOutB Tryz.prog = true := by kernel_rfl
set_option maxRecDepth 100000 in
theorem lifted (os : Os) (started : os.Started) (H : Type) (enc : TypeId × Value → H) :
    ReturnsInHanded {} Tryz.checked os 3 .any (Rows.slotsDoSpec.pre6 enc Tryz.prog Tryz.f3 Rows.slotsDoRow.domain false) (Rows.slotsDoSpec.post enc Tryz.prog Tryz.f3 false true false false) := by
  refine returnsInHanded_of_change_sized (C := Tryz.checked) own started (by kernel_rfl) Tryz.func3
    (ChangeSpec.witness6 (enc := enc) (C := Tryz.checked) false ⟨#[], #[.agg #[.slice none 0 0, .slice none 0 0, .bool false, .int .i64 0], .agg #[.int .i64 0, .int .i64 0], .agg #[.int .i64 0, .int .i64 0], .agg #[.int .u64 0, .string ByteArray.empty]], []⟩ 8 (by kernel_rfl) (by kernel_rfl) (by kernel_rfl) (by kernel_rfl)) ?_
  intro W base args ds gs before hval0 hW hcnd hsz0 _
  have hsz : (DataW.weightsEach Tryz.prog (Tryz.f3.params.toList ++ Rows.slotsDoSpec.plain.varTypes Tryz.prog) (ds ++ gs)).all (· ≤ reachBytes) = true := hsz0
  have hval : ∀ (j : Nat) t v, Tryz.f3.params[j]? = some t → args[j]? = some v → Value.okWide Tryz.prog W .any base t v := hval0
  have hW' := hW
  obtain ⟨p, q, hA0, hV, rfl, hfz, hnd⟩ := hW
  have hA : DataW.TrodAll enc Tryz.prog W 0 (fun _ => true) true Tryz.f3.params.toList args.toList ds p := hA0
  rw [Tryz.params3] at hA hval
  obtain ⟨v0, vs0, d0, ds0, p0, q0, hargs, rfl, rfl, h0, r0⟩ := trodAll_cons hA
  obtain ⟨v1, vs1, d1, ds1, p1, q1, rfl, rfl, rfl, h1, r1⟩ := trodAll_cons r0
  obtain ⟨v2, vs2, d2, ds2, p2, q2, rfl, rfl, rfl, h2, r2⟩ := trodAll_cons r1
  obtain ⟨v3, vs3, d3, ds3, p3, q3, rfl, rfl, rfl, h3, r3⟩ := trodAll_cons r2
  obtain ⟨rfl, rfl, rfl⟩ := trodAll_nil r3
  obtain rfl : args = #[v0, v1, v2, v3] := by cases args; simp_all
  obtain ⟨rfl, rfl⟩ := trodVars_none hV
  have lt0 : ∀ x ∈ p0, x.block < W.heap.size := by obtain ⟨m, hm⟩ := h0; exact DataW.trod_lt m _ _ _ hm
  obtain ⟨a0, w0, f0⟩ := Sector.open_disk (hval 0 25 v0 rfl rfl) h0
  have b0 := Sector.disk_room (hval 0 25 v0 rfl rfl) h0 (fun m hm => by have := List.all_eq_true.1 hsz _ (DataW.weights_mem_each (j := 0) (t := 25) rfl rfl m hm); simpa using this) a0 w0
  have lt1 : ∀ x ∈ p1, x.block < W.heap.size := by obtain ⟨m, hm⟩ := h1; exact DataW.trod_lt m _ _ _ hm
  obtain ⟨a1, rfl, w1⟩ := Wal.open_region (hval 1 27 v1 rfl rfl) h1
  have lt2 : ∀ x ∈ p2, x.block < W.heap.size := by obtain ⟨m, hm⟩ := h2; exact DataW.trod_lt m _ _ _ hm
  obtain ⟨a2, rfl, w2⟩ := Wal.open_region (hval 2 27 v2 rfl rfl) h2
  have lt3 : ∀ x ∈ p3, x.block < W.heap.size := by obtain ⟨m, hm⟩ := h3; exact DataW.trod_lt m _ _ _ hm
  obtain ⟨a3, rfl, w3⟩ := Slot.open_image (hval 3 30 v3 rfl rfl) h3
  clear hA0 hval0
  refine (walk v0 a0 a1 a2 a3 W w0 f0 b0 w1 w2 w3).mono fun e W' ⟨he, bel⟩ => ?_
  subst he
  exact ⟨_, rfl, _, _, _, [], _, [], hW', trodAll_mk1 (shut_bool Tryz.underlying4 _), (trodAll_cons_mk (Below.trod laidOut (by kernel_rfl) (of_decide_eq_true (by kernel_rfl)) h0 bel lt0) (trodAll_cons_mk (Below.trod laidOut (by kernel_rfl) (of_decide_eq_true (by kernel_rfl)) h1 bel lt1) (trodAll_cons_mk (Below.trod laidOut (by kernel_rfl) (of_decide_eq_true (by kernel_rfl)) h2 bel lt2) (trodAll_cons_mk (Below.trod laidOut (by kernel_rfl) (of_decide_eq_true (by kernel_rfl)) h3 bel lt3) trodAll_mk0)))), rfl, bel.frame _, fun h => by cases h⟩
theorem over : Rows.slotsDoRow.holds Tryz.pinned (OpenSpec.ofChange Rows.slotsDoSpec) :=
  OpenClaim.holds_of_wide 3 Tryz.f3 rfl rfl rfl rfl rfl rfl rfl ⟨rfl, rfl, rfl, rfl, rfl⟩ rfl rfl rfl rfl rfl (by kernel_rfl) Tryz.func3 (by kernel_rfl)
    (of_decide_eq_true (by kernel_rfl)) (by unfold Func.isWrapper; first | (rw [if_pos (by decide +kernel)]; kernel_rfl) | (rw [if_neg (by decide +kernel)]; exact ⟨rfl, rfl⟩))
    (fun os started H enc _ => lifted os started H enc)
theorem proved : Rows.SlotsDoSaid := over
end Go.Proofs.YtiegocbdgimimaaGreat.slotsDo
