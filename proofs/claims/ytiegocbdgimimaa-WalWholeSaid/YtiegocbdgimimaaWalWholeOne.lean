/-
  lictorlaw04.WalWhole: for every input that can be read the function returns true, and its arguments read as before. No condition.
-/
import Derived.Test.YtiegocbdgimimaaRefAll
import Derived.Test.YtiegocbdgimimaaSlotTwo
import Derived.BigQuiet
import Derived.Deep.QuietTactic
import Derived.Test.YtiegocbdgimimaaRows
import Derived.Test.YtiegocbdgimimaaSectorOpen
import Derived.Test.YtiegocbdgimimaaRecArgs
import Derived.Test.YtiegocbdgimimaaSlotAll
import Derived.WalkKit
import Derived.ProofKit
import Derived.OpenShut
import Derived.ShutString
import Derived.ChangeOld
import Derived.Below
import Derived.SizedLaws
namespace Go.Proofs.Ytiegocbdgimimaa.Wal
open Go.ChangeShapes Go.WideShapes Go.ChangeAt Go.RowKit
open Go.Proofs.Ytiegocbdgimimaa.Mem Go.Proofs.Ytiegocbdgimimaa.Rec Go.Proofs.Ytiegocbdgimimaa.Sector
set_option linter.unusedVariables false
set_option linter.unusedSimpArgs false
set_option maxRecDepth 100000
set_option maxHeartbeats 4000000 in
theorem elder_any (d : Disk) (v : Value) (F S a : Nat) (f : Fr) (w : World) (h : DiskV w v d) (hc : walChk d ⟨F, S⟩ = 0) (ho : d.off = false)
    (hj : ∃ j, a ≤ j ∧ j < S ∧ (frAt (cont d ⟨F, S⟩) S j).2 ≠ 0 ∧ (frAt (cont d ⟨F, S⟩) S j).1.epoch = f.epoch ∧ f.seq < (frAt (cont d ⟨F, S⟩) S j).1.seq) :
    Calls Try.prog 15 #[v, rgV ⟨F, S⟩, frV f, .int .i64 (a : Nat)] w fun e w' => e = .returned (.bool true) ∧ Below w.heap.size w w' := by
  have hv := hid h
  obtain ⟨k1, k2, k3, k4, k5⟩ := walChk_zero hc
  dsimp only at k2 k3 k4
  have hfr := hid (fun v W a (h : DiskV W v d) (ha : a ≤ 2000) => rframe_any d v F S a W h hc ho ha)
  have hSn := hid (show S ≤ 1024 by omega)
  have hSi : (S : Int) ≤ 1024 := by omega
  obtain ⟨sv, pv, rfl, hs, hp⟩ := h
  obtain ⟨so, scap, rfl, _⟩ := hs.form
  obtain ⟨po, pcap, rfl, _⟩ := hp.form
  obtain ⟨j, hj1, hj2, hj3, hj4, hj5⟩ := hj
  have hj3' := hid hj3
  have hj4' := hid hj4
  have hj5' := hid hj5
  clear hs hp hc ho k1 k2 k3 k4 k5 hj3 hj4 hj5
  generalize cont d ⟨F, S⟩ = HH at hfr hj3' hj4' hj5'
  rw [show rgV ⟨F, S⟩ = .agg #[.int .i64 (F : Nat), .int .i64 (S : Nat)] from rfl] at hfr ⊢
  rw [show frV f = .agg #[.int .u8 f.kind, .int .u64 f.epoch, .int .u64 f.seq, .string f.pay] from rfl]
  go_enter Try.func15, Try.ntmps15
  go_upto_region 1 with fail
  have M := hid ((((Bag.nil w).push [.slice so d.secs.length scap, .slice po d.pend.length pcap, .bool d.off, .int .i64 d.fuse] 25 w.heap.size rfl).push [.int .i64 (F : Nat), .int .i64 (S : Nat)] 27 (w.heap.size + 1) (by simp)).push [.int .u8 f.kind, .int .u64 f.epoch, .int .u64 f.seq, .string f.pay] 30 (w.heap.size + 2) (by simp))
  generalize ((w.alloc (.cells #[.slice so d.secs.length scap, .slice po d.pend.length pcap, .bool d.off, .int .i64 d.fuse] 25)).alloc (.cells #[.int .i64 (F : Nat), .int .i64 (S : Nat)] 27)).alloc (.cells #[.int .u8 f.kind, .int .u64 f.epoch, .int .u64 f.seq, .string f.pay] 30) = X0 at M ⊢
  go_wp2_with fail
  go_loopw [9] (fun i wr => ∃ k : Nat, a ≤ k ∧ k ≤ j ∧ i = .int .i64 (k : Nat) ∧ Hid (Bag w wr [⟨w.heap.size, [.slice so d.secs.length scap, .slice po d.pend.length pcap, .bool d.off, .int .i64 d.fuse], 25⟩, ⟨w.heap.size + 1, [.int .i64 (F : Nat), .int .i64 (S : Nat)], 27⟩, ⟨w.heap.size + 2, [.int .u8 f.kind, .int .u64 f.epoch, .int .u64 f.seq, .string f.pay], 30⟩] [])) (fun i _ => j + 1 - (intOf i).toNat)
  case atStart => exact ⟨a, by omega, by omega, rfl, M⟩
  case round =>
    clear M
    obtain ⟨k, hk1, hk2, rfl, M⟩ := hrel
    have hki : (k : Int) < (S : Int) := by omega
    have hk0 : (0 : Int) ≤ (k : Int) := by omega
    have hkm : (k : Int) ≤ 2000 := by omega
    have hfk := hid (fun v W h => hfr.out v W k h (by have := hSn.out; omega))
    obtain ⟨d0, d1, d2, d3, df⟩ := (M.out.get 0 rfl).four
    obtain ⟨q0, q1, qf⟩ := (M.out.get 1 rfl).two
    go_wp2_with fail
    (with_reducible refine (hfk.out _ _ (hv.out.below M.out.bel)).mono ?_)
    rintro e w2 ⟨rfl, bw⟩
    replace M := hid (M.out.below bw)
    clear bw hfk d0 d1 d2 d3 df q0 q1 qf
    unfold frV
    dsimp only
    by_cases hkj : k = j
    · subst hkj
      obtain ⟨x, hx⟩ : ∃ x, frAt HH S k = x := ⟨_, rfl⟩
      rw [hx] at hj3' hj4' hj5' ⊢
      clear hx
      obtain ⟨g, m⟩ := x
      dsimp only at hj3' hj4' hj5' ⊢
      go_upto_region 5 with fail
      replace M := hid (M.out.push [.int .u8 g.kind, .int .u64 g.epoch, .int .u64 g.seq, .string g.pay] 30 w2.heap.size rfl)
      generalize w2.alloc (.cells #[.int .u8 g.kind, .int .u64 g.epoch, .int .u64 g.seq, .string g.pay] 30) = X1 at M ⊢
      generalize w2.heap.size = n1 at M ⊢
      obtain ⟨f0, f1, f2, f3, ff⟩ := (M.out.get 2 rfl).four
      obtain ⟨g0, g1, g2, g3, gf⟩ := (M.out.get 3 rfl).four
      have e1 : decide (0 < m) = true := by rw [decide_eq_true_iff]; have := hj3'.out; omega
      have e2 : ((g.epoch : Int) == (f.epoch : Int)) = true := by rw [hj4'.out]; simp
      have e3 : decide (f.seq < g.seq) = true := by rw [decide_eq_true_iff]; exact hj5'.out
      go_wp2_with fail
      go_ret
      exact ⟨rfl, M.out.bel⟩
    · have hkj' : k < j := by omega
      generalize frAt HH S k = x
      obtain ⟨g, m⟩ := x
      dsimp only
      go_upto_region 5 with fail
      replace M := hid (M.out.push [.int .u8 g.kind, .int .u64 g.epoch, .int .u64 g.seq, .string g.pay] 30 w2.heap.size rfl)
      generalize w2.alloc (.cells #[.int .u8 g.kind, .int .u64 g.epoch, .int .u64 g.seq, .string g.pay] 30) = X1 at M ⊢
      generalize w2.heap.size = n1 at M ⊢
      obtain ⟨f0, f1, f2, f3, ff⟩ := (M.out.get 2 rfl).four
      obtain ⟨g0, g1, g2, g3, gf⟩ := (M.out.get 3 rfl).four
      by_cases e1 : 0 < m
      · have e1' : decide (0 < m) = true := by simpa using e1
        by_cases e2 : g.epoch = f.epoch
        · have e2' : ((g.epoch : Int) == (f.epoch : Int)) = true := by rw [e2]; simp
          by_cases e3 : f.seq < g.seq
          · have e3' : decide (f.seq < g.seq) = true := by simpa using e3
            clear e1 e2 e3
            go_wp2_with fail
            go_ret
            exact ⟨rfl, M.out.bel⟩
          · have e3' : decide (f.seq < g.seq) = false := by simpa using e3
            clear e1 e2 e3
            go_wp2_with fail
            go_roundw
            case rel => exact ⟨k + 1, by omega, by omega, by go_num, hid (M.out.cut 3 0 0)⟩
            case measure => simp [intOf]; omega
        · have e2' : ((g.epoch : Int) == (f.epoch : Int)) = false := by rw [beq_eq_false_iff_ne]; omega
          clear e1 e2
          go_wp2_with fail
          go_roundw
          case rel => exact ⟨k + 1, by omega, by omega, by go_num, hid (M.out.cut 3 0 0)⟩
          case measure => simp [intOf]; omega
      · have e1' : decide (0 < m) = false := by simpa using e1
        clear e1
        go_wp2_with fail
        go_roundw
        case rel => exact ⟨k + 1, by omega, by omega, by go_num, hid (M.out.cut 3 0 0)⟩
        case measure => simp [intOf]; omega
end Go.Proofs.Ytiegocbdgimimaa.Wal
namespace Go.Proofs.Ytiegocbdgimimaa.Wal
open Go.Proofs.Ytiegocbdgimimaa.Mem Go.Proofs.Ytiegocbdgimimaa.Rec Go.Proofs.Ytiegocbdgimimaa.Sector
set_option linter.unusedVariables false
set_option maxRecDepth 10000
theorem whole {d : Disk} {F S ep : Nat} {f : Fr} (h0 : walChk d ⟨F, S⟩ = 0) (off : d.off = false) (hp : d.pend = []) (hep : f.epoch = ep) (hsq : f.seq = cnt (cont d ⟨F, S⟩) S ep) (hc : cnt (cont d ⟨F, S⟩) S ep < 1024) (hf : fchk f.kind f.pay.size = 0 → f.okn)
    (hg : endF (cont d ⟨F, S⟩) S ep < S → (headE (cont d ⟨F, S⟩ (endF (cont d ⟨F, S⟩) S ep)).data.toList).2 = 0 → ¬ ((headE (cont d ⟨F, S⟩ (endF (cont d ⟨F, S⟩) S ep)).data.toList).1.epoch = ep ∧ (headE (cont d ⟨F, S⟩ (endF (cont d ⟨F, S⟩) S ep)).data.toList).1.seq = f.seq)) (keep : List Bool) :
    ((appE d ⟨F, S⟩ (endF (cont d ⟨F, S⟩) S ep) f).d = d ∧ (appE d ⟨F, S⟩ (endF (cont d ⟨F, S⟩) S ep) f).at' = 0 ∧ (appE d ⟨F, S⟩ (endF (cont d ⟨F, S⟩) S ep) f).c ≠ 0 ∧ (appE d ⟨F, S⟩ (endF (cont d ⟨F, S⟩) S ep) f).c ≠ 15) ∨
    (okB (appE d ⟨F, S⟩ (endF (cont d ⟨F, S⟩) S ep) f).d = true ∧ ∃ m to', scanE (crashD (appE d ⟨F, S⟩ (endF (cont d ⟨F, S⟩) S ep) f).d keep) ⟨F, S⟩ ep = (m, to', 0) ∧
      (((appE d ⟨F, S⟩ (endF (cont d ⟨F, S⟩) S ep) f).c = 15 ∧ m = logF (cont d ⟨F, S⟩) S ep ∧ to' = endF (cont d ⟨F, S⟩) S ep) ∨
       (((appE d ⟨F, S⟩ (endF (cont d ⟨F, S⟩) S ep) f).c = 0 ∧ (appE d ⟨F, S⟩ (endF (cont d ⟨F, S⟩) S ep) f).at' = ((endF (cont d ⟨F, S⟩) S ep + (pcs f.pay.size + 1) : Nat) : Int) ∨ (appE d ⟨F, S⟩ (endF (cont d ⟨F, S⟩) S ep) f).c = 15) ∧
        ∃ t, m = logF (cont d ⟨F, S⟩) S ep ++ f :: t ∧ (t = [] → to' = endF (cont d ⟨F, S⟩) S ep + (pcs f.pay.size + 1)) ∧
          (t ≠ [] → ∃ j, endF (cont d ⟨F, S⟩) S ep ≤ j ∧ j < S ∧ (frAt (cont d ⟨F, S⟩) S j).2 ≠ 0 ∧ (frAt (cont d ⟨F, S⟩) S j).1.epoch = ep ∧ f.seq < (frAt (cont d ⟨F, S⟩) S j).1.seq)))) := by
  have hle : endF (cont d ⟨F, S⟩) S ep ≤ S := pos_le _ _ _
  obtain ⟨A, hA⟩ : ∃ A, endF (cont d ⟨F, S⟩) S ep = A := ⟨_, rfl⟩
  rw [hA] at hg hle ⊢
  rcases app_crash (r := ⟨F, S⟩) (a := A) (f := f) h0 off hp hf keep with ⟨h1, h2, h3⟩ | ⟨h1, h2, x⟩
  · refine .inl ⟨h1, h2, ?_⟩
    rcases h3 with ⟨h, _⟩ | ⟨h, _⟩ | ⟨h, _⟩ <;> rw [h] <;> exact ⟨by decide, by decide⟩
  · refine .inr ⟨h2, ?_⟩
    generalize (appE d ⟨F, S⟩ A f).c = C at x h1 ⊢
    generalize (appE d ⟨F, S⟩ A f).at' = E' at h1 ⊢
    generalize crashD (appE d ⟨F, S⟩ A f).d keep = e at x ⊢
    have hr := x.room
    dsimp only at hr
    have hscan : scanE e ⟨F, S⟩ ep = (logF (cont e ⟨F, S⟩) S ep, endF (cont e ⟨F, S⟩) S ep, 0) := by
      unfold scanE
      rw [if_neg (by simpa using x.chk), if_neg (by rw [x.off]; simp)]
      rfl
    refine ⟨_, _, hscan, ?_⟩
    have hout : ∀ i, i < A → cont e ⟨F, S⟩ i = cont d ⟨F, S⟩ i := fun i hi => x.out' h0 off (by dsimp only; omega) (.inl hi)
    rw [← hA] at hout
    rcases x.head h0 off with ⟨h15, hh⟩ | li
    · have hgd : ∀ j, j < cnt (cont d ⟨F, S⟩) S ep → good (cont d ⟨F, S⟩) S ep j = true := fun j hj => cnt_good _ S ep hj
      have p := pos_ext hgd hout
      have hpe : pos (cont e ⟨F, S⟩) S (cnt (cont d ⟨F, S⟩) S ep) = A := by rw [(p _ (Nat.le_refl _)).1]; exact hA
      have hng : good (cont e ⟨F, S⟩) S ep (cnt (cont d ⟨F, S⟩) S ep) = false := by
        rw [Bool.eq_false_iff]
        intro hgo
        obtain ⟨li, e1, e2⟩ := good_lies hgo
        rw [hpe] at li e1 e2
        have hroom := li.room
        have hnum := li.num
        have hd := li.headE
        rw [hh] at hd
        refine hg (by omega) (by rw [hd]) ?_
        rw [hd]
        exact ⟨e1, by rw [hsq]; exact e2⟩
      obtain ⟨s1, s2, s3⟩ := log_same hout (fun _ => hng)
      exact .inl ⟨h15, s2, s3.trans hA⟩
    · refine .inr ⟨h1.imp (fun h => ⟨h.1, by rw [h.2]; push_cast; rfl⟩) And.left, ?_⟩
      dsimp only at li
      rw [Int.toNat_natCast, ← hA] at li
      obtain ⟨m1, m2, m3, m4, m5⟩ := log_more hout hc li hep hsq
      rw [hA] at m4 m5
      have hmap : (List.range (cnt (cont d ⟨F, S⟩) S ep)).map (fun k => (frAt (cont e ⟨F, S⟩) S (pos (cont e ⟨F, S⟩) S k)).1) = logF (cont d ⟨F, S⟩) S ep := List.map_congr_left (fun k hk => m2 k (List.mem_range.1 hk))
      have htake : (logF (cont e ⟨F, S⟩) S ep).take (cnt (cont d ⟨F, S⟩) S ep + 1) = logF (cont d ⟨F, S⟩) S ep ++ [f] := by
        unfold logF at hmap ⊢
        rw [← List.map_take, List.take_range, Nat.min_eq_left m1, List.range_succ, List.map_append, hmap, List.map_singleton, m3]
      refine ⟨(logF (cont e ⟨F, S⟩) S ep).drop (cnt (cont d ⟨F, S⟩) S ep + 1), ?_, fun ht => ?_, fun ht => ?_⟩
      · have := List.take_append_drop (cnt (cont d ⟨F, S⟩) S ep + 1) (logF (cont e ⟨F, S⟩) S ep)
        rw [htake] at this
        exact this.symm.trans (by simp)
      · have hl := List.length_eq_zero_iff.2 ht
        rw [List.length_drop, logF_len] at hl
        have : cnt (cont e ⟨F, S⟩) S ep = cnt (cont d ⟨F, S⟩) S ep + 1 := by omega
        unfold endF
        rw [this, m5]
      · have hl : 0 < ((logF (cont e ⟨F, S⟩) S ep).drop (cnt (cont d ⟨F, S⟩) S ep + 1)).length := List.length_pos_iff.2 ht
        rw [List.length_drop, logF_len] at hl
        obtain ⟨lj, e1, e2⟩ := good_lies (cnt_good (cont e ⟨F, S⟩) S ep (j := cnt (cont d ⟨F, S⟩) S ep + 1) (by omega))
        rw [m5] at lj e1 e2
        have hroom := lj.room
        have hnum := lj.num
        have lj' := lj.ext (h' := cont d ⟨F, S⟩) (fun i hi hi2 => (x.out' h0 off (by dsimp only; omega) (.inr (by omega))).symm)
        have := frAt_of lj'
        refine ⟨A + (pcs f.pay.size + 1), by omega, by omega, ?_⟩
        rw [this]
        exact ⟨by rw [hnum]; simp, e1, by rw [e2, hsq]; omega⟩
end Go.Proofs.Ytiegocbdgimimaa.Wal
namespace Go.Proofs.Ytiegocbdgimimaa.walWhole
open Go.ChangeShapes Go.WideShapes Go.ChangeAt Go.RowKit
open Go.Proofs.Ytiegocbdgimimaa.Mem Go.Proofs.Ytiegocbdgimimaa.Rec Go.Proofs.Ytiegocbdgimimaa.Sector Go.Proofs.Ytiegocbdgimimaa.Wal
set_option linter.unusedVariables false
set_option linter.unusedSimpArgs false
set_option maxRecDepth 100000
theorem _root_.Go.Proofs.Ytiegocbdgimimaa.Wal.FrsV.take {w : World} {ao : Option Addr} {n cap : Nat} {l t m : List Fr} {f : Fr} (h : FrsV w (.slice ao n cap) m) (hm : m = l ++ f :: t) : FrsV w (.slice ao l.length cap) l := by
  obtain ⟨ao', cap', hq, h2, h3, h4, h5, h6⟩ := h
  simp only [Value.slice.injEq] at hq
  obtain ⟨rfl, -, rfl⟩ := hq
  have hl : l.length ≤ m.length := by rw [hm]; simp
  refine ⟨ao, cap, rfl, by omega, h3, h4, fun h => ?_, fun a ha j hj => ?_⟩
  · rw [List.eq_nil_of_length_eq_zero h]; rfl
  · have hj2 : j < (frC m).length := by rw [hm, frC_app, List.length_append]; omega
    rw [h6 a ha j hj2]
    congr 1
    simp only [hm, frC_app]
    rw [List.getElem_append_left hj]
set_option maxHeartbeats 16000000 in
theorem walk (v0 : Value) (d : Disk) (r : Rg) (f : Fr) (a3 : Int) (v4 : Value) (kp : List Bool) (w : World) (h0 : DiskV w v0 d) (f0 : (Lit.int .i64 d.fuse).wf = true) (w1 : r.has) (w2 : f.has) (w3 : (Lit.int .i64 a3).wf = true) (w4 : BoolsV w v4 kp) :
    Calls Try.prog 4 #[v0, rgV r, frV f, .int .i64 a3, v4] w fun e w' => e = .returned (.bool true) ∧ Below w.heap.size w w' := by
  have hv := hid h0
  obtain ⟨rf, rs⟩ := r
  have hr := hid w1
  have hfh := hid w2
  have hfw := hid w3
  obtain ⟨ko, kcap, rfl, _⟩ := SlV.form w4
  have hkp := hid w4
  obtain ⟨sv, pv, rfl, hs, hp⟩ := h0
  obtain ⟨so, scap, rfl, _⟩ := hs.form
  obtain ⟨po, pcap, rfl, _⟩ := hp.form
  clear hs hp f0 w1 w2 w3 w4
  rw [show rgV ⟨rf, rs⟩ = .agg #[.int .i64 rf, .int .i64 rs] from rfl, show frV f = .agg #[.int .u8 f.kind, .int .u64 f.epoch, .int .u64 f.seq, .string f.pay] from rfl]
  go_enter Try.func4, Try.ntmps4
  go_upto_region 1 with fail
  have M := hid ((((Bag.nil w).push [.slice so d.secs.length scap, .slice po d.pend.length pcap, .bool d.off, .int .i64 d.fuse] 25 w.heap.size rfl).push [.int .i64 rf, .int .i64 rs] 27 (w.heap.size + 1) (by simp)).push [.int .u8 f.kind, .int .u64 f.epoch, .int .u64 f.seq, .string f.pay] 30 (w.heap.size + 2) (by simp))
  generalize ((w.alloc (.cells #[.slice so d.secs.length scap, .slice po d.pend.length pcap, .bool d.off, .int .i64 d.fuse] 25)).alloc (.cells #[.int .i64 rf, .int .i64 rs] 27)).alloc (.cells #[.int .u8 f.kind, .int .u64 f.epoch, .int .u64 f.seq, .string f.pay] 30) = X0 at M ⊢
  go_wp2_with fail
  refine (Wal.lives_any _).mono ?_
  rintro e w1 ⟨rfl, bw⟩
  replace M := hid (M.out.below bw)
  clear bw
  obtain ⟨d0, d1, d2, d3, df⟩ := (M.out.get 0 rfl).four
  go_wp2_with fail
  refine (crash_any d _ (.slice none 0 0) [] _ (hv.out.below M.out.bel) (SlV.nil _)).mono ?_
  unfold crashE
  cases hok : okB d with
  | false =>
    rw [if_neg (by simp)]
    rintro e2 w2 hr2
    obtain ⟨so1, sc1, po1, pc1, rfl, o2, b2⟩ := hr2.open
    replace M := hid (M.out.below b2)
    clear hr2 o2 b2 d0 d1 d2 d3 df
    obtain ⟨d0, d1, d2, d3, df⟩ := (M.out.get 0 rfl).four
    dsimp only
    go_upto_region 4 with fail
    clear d0 d1 d2 d3 df
    replace M := hid ((((M.out.put 0 rfl (by decide) (by decide) 0 (.slice so1 zeroDisk.secs.length sc1)).put 0 rfl (by decide) (by decide) 1 (.slice po1 zeroDisk.pend.length pc1)).put 0 rfl (by decide) (by decide) 2 (.bool zeroDisk.off)).put 0 rfl (by decide) (by decide) 3 (.int .i64 zeroDisk.fuse))
    go_wp2_with fail
    go_ret
    exact ⟨rfl, M.out.bel⟩
  | true =>
    rw [if_pos rfl]
    have hyo := hid (crash_okB hok [])
    have hyf := hid (show (crashD d []).off = false from rfl)
    have hyp := hid (show (crashD d []).pend = [] from rfl)
    generalize crashD d [] = y at hyo hyf hyp ⊢
    rintro e2 w2 hr2
    obtain ⟨so1, sc1, po1, pc1, rfl, o2, b2⟩ := hr2.open
    dsimp only at o2
    replace M := hid (M.out.res o2 b2)
    clear hr2 o2 b2 hok d0 d1 d2 d3 df
    obtain ⟨d0, d1, d2, d3, df⟩ := (M.out.get 0 rfl).four
    dsimp only
    go_upto_region 4 with fail
    clear d0 d1 d2 d3 df
    replace M := hid ((((M.out.put 0 rfl (by decide) (by decide) 0 (.slice so1 y.secs.length sc1)).put 0 rfl (by decide) (by decide) 1 (.slice po1 y.pend.length pc1)).put 0 rfl (by decide) (by decide) 2 (.bool y.off)).put 0 rfl (by decide) (by decide) 3 (.int .i64 y.fuse))
    generalize (((w2.setCell ⟨w.heap.size, 0, none⟩ (.slice so1 y.secs.length sc1)).setCell ⟨w.heap.size, 1, none⟩ (.slice po1 y.pend.length pc1)).setCell ⟨w.heap.size, 2, none⟩ (.bool y.off)).setCell ⟨w.heap.size, 3, none⟩ (.int .i64 y.fuse) = X2 at M ⊢
    have hsy := hid (fun v W (h : DiskV W v y) => scan_any y v ⟨rf, rs⟩ f.epoch W h hr.out)
    rw [show rgV ⟨rf, rs⟩ = .agg #[.int .i64 rf, .int .i64 rs] from rfl] at hsy
    obtain ⟨d0, d1, d2, d3, df⟩ := (M.out.get 0 rfl).four
    obtain ⟨q0, q1, qf⟩ := (M.out.get 1 rfl).two
    obtain ⟨f0, f1, f2, f3, ff⟩ := (M.out.get 2 rfl).four
    go_wp2_with fail
    have hl2 := hid (show w.heap.size + 2 < X2.heap.size from M.out.lt 2 rfl)
    have hb2 := hid M.out.bel.size
    (with_reducible refine (hsy.out _ _ (M.out.view 0 rfl)).mono ?_)
    rintro e3 w3 ⟨lo, lc, rfl, o3, b3⟩
    clear d0 d1 d2 d3 df q0 q1 qf f0 f1 f2 f3 ff
    by_cases hwc : walChk y ⟨rf, rs⟩ = 0
    · obtain ⟨F, hF⟩ : ∃ F : Nat, rf = F := ⟨rf.toNat, by have := (walChk_zero hwc).2.1; dsimp only at this; omega⟩
      obtain ⟨S, hS⟩ : ∃ S : Nat, rs = S := ⟨rs.toNat, by have := (walChk_zero hwc).2.2.1; dsimp only at this; omega⟩
      subst hF hS
      obtain ⟨k1, k2, k3, k4, k5⟩ := walChk_zero hwc
      dsimp only at k2 k3 k4
      have hsc0 : scanE y ⟨F, S⟩ f.epoch = (logF (cont y ⟨F, S⟩) S f.epoch, endF (cont y ⟨F, S⟩) S f.epoch, 0) := by
        unfold scanE
        rw [if_neg (by simpa using hwc), if_neg (by rw [hyf.out]; simp)]
        rfl
      rw [hsc0] at o3 ⊢
      have hFi : (F : Int) ≤ 1024 := by omega
      have hSi : (S : Int) ≤ 1024 := by omega
      have hS1 := hid (show 1 ≤ S by omega)
      have hFS := hid (show F + S ≤ y.secs.length by omega)
      obtain ⟨secs, pend, off, fu⟩ := y
      have hcont : cont ⟨secs, pend, off, fu⟩ ⟨F, S⟩ = cont ⟨secs, pend, off, a3⟩ ⟨F, S⟩ := rfl
      have hwc2 := hid (show walChk ⟨secs, pend, off, a3⟩ ⟨F, S⟩ = 0 from hwc)
      rw [hcont] at o3 ⊢
      have hlen0 := logF_len (cont ⟨secs, pend, off, a3⟩ ⟨F, S⟩) S f.epoch
      have hatl : endF (cont ⟨secs, pend, off, a3⟩ ⟨F, S⟩) S f.epoch ≤ S := pos_le _ _ _
      have hwh := hid (fun (hc : (logF (cont ⟨secs, pend, off, a3⟩ ⟨F, S⟩) S f.epoch).length < 1024) => whole (f := ⟨f.kind, f.epoch, (logF (cont ⟨secs, pend, off, a3⟩ ⟨F, S⟩) S f.epoch).length, f.pay⟩) hwc2.out hyf.out hyp.out rfl hlen0 (by rw [← hlen0]; exact hc) (fun hq => ⟨hfh.out.1, hfh.out.2.1, by dsimp only; omega, by have := (fchk_zero hq).2; dsimp only at this ⊢; omega⟩))
      have hhold := hid (fun (v : Value) (W : World) (i : Nat) (hi : i < S) (h : DiskV W v ⟨secs, pend, off, fu⟩) => (show heldS secs pend ((F + i : Nat) : Int) = cont ⟨secs, pend, off, a3⟩ ⟨F, S⟩ i from by
        rw [cont_now hwc2.out hyf.out (by dsimp only; omega)]; unfold now; dsimp only; rw [show (F : Int) + (i : Int) = ((F + i : Nat) : Int) by push_cast; rfl]) ▸ rholds_any ⟨secs, pend, off, fu⟩ v (F + i) W h (by have := hFS.out; dsimp only at this ⊢; omega))
      have helder := hid (fun (v : Value) (W : World) (a : Nat) (g : Fr) (h : DiskV W v ⟨secs, pend, off, a3⟩) hj => elder_any ⟨secs, pend, off, a3⟩ v F S a g W h hwc2.out hyf.out hj)
      clear hsc0 hwc hcont k1 k2 k3 k4 k5 hlen0
      generalize cont ⟨secs, pend, off, a3⟩ ⟨F, S⟩ = HH at o3 hatl hwh hhold helder ⊢
      generalize logF HH S f.epoch = l at o3 hwh ⊢
      generalize endF HH S f.epoch = at1 at hatl hwh ⊢
      dsimp only at o3 ⊢
      have hati : (at1 : Int) ≤ 1024 := by omega
      replace M := hid (M.out.below b3)
      have ho3 := hid o3
      clear b3 hsy o3
      by_cases hl : l.length < 1024
      · have hli : ¬ (l.length : Int) ≥ 1024 := by omega
        have hli2 : (l.length : Int) < 1024 := by omega
        replace hwh := hid (hwh.out hl)
        have hfn := hid (show Fr.has ⟨f.kind, f.epoch, l.length, f.pay⟩ from ⟨hfh.out.1, hfh.out.2.1, by dsimp only; omega, hfh.out.2.2.2⟩)
        obtain ⟨f0, f1, f2, f3, ff⟩ := (M.out.get 2 rfl).four
        go_upto_region 10 with fail
        clear f0 f1 f2 f3 ff
        replace ho3 := hid (ownsRow_setCell_below ho3.out (a := ⟨w.heap.size + 2, 2, none⟩) hl2.out (.int .u64 (l.length : Nat)))
        replace M := hid (M.out.put 2 rfl (by decide) (by decide) 2 (.int .u64 (l.length : Nat)))
        generalize w3.setCell ⟨w.heap.size + 2, 2, none⟩ (.int .u64 (l.length : Nat)) = Y0 at M ho3 ⊢
        replace M := hid (show BagR w Y0 _ _ (.slice lo l.length lc) l from ⟨M.out, ownsRow_mono ho3.out hb2.out⟩)
        clear ho3 hb2 hl2
        by_cases hat : at1 < S
        · have hai : (at1 : Int) < (S : Int) := by omega
          have hhd := hid (fun v W h => hhold.out v W at1 hat h)
          obtain ⟨d0, d1, d2, d3, df⟩ := (M.out.get 0 rfl).four
          obtain ⟨q0, q1, qf⟩ := (M.out.get 1 rfl).two
          go_wp2_with fail
          rw [show (F : Int) + (at1 : Int) = ((F + at1 : Nat) : Int) by push_cast; rfl]
          refine (hhd.out _ _ (M.out.view 0 rfl)).mono ?_
          rintro e4 w4 ⟨rfl, bw⟩
          replace M := hid (M.out.below bw)
          clear bw hhd d0 d1 d2 d3 df q0 q1 qf
          go_wp2_with fail
          refine (hd_any (HH at1) _).mono ?_
          rintro e5 w5 ⟨rfl, bw⟩
          replace M := hid (M.out.below bw)
          clear bw hhold
          have hgd0 := hid (fun (h : ¬ ((headE (HH at1).data.toList).1.epoch = f.epoch ∧ (headE (HH at1).data.toList).1.seq = l.length)) => (fun (_ : at1 < S) (_ : (headE (HH at1).data.toList).2 = 0) => h))
          have hgd1 := hid (fun (h : (headE (HH at1).data.toList).2 ≠ 0) => (fun (_ : at1 < S) (h2 : (headE (HH at1).data.toList).2 = 0) (_ : (headE (HH at1).data.toList).1.epoch = f.epoch ∧ (headE (HH at1).data.toList).1.seq = l.length) => h h2))
          generalize headE (HH at1).data.toList = xx at hwh hgd0 hgd1 ⊢
          obtain ⟨hx, hcd⟩ := xx
          unfold hdV
          dsimp only at hwh hgd0 hgd1 ⊢
          go_upto_region 12 with fail
          replace M := hid (M.out.push [.int .u8 hx.kind, .int .u64 hx.epoch, .int .u64 hx.seq, .int .i64 hx.len, .int .u32 hx.sum] 46 w5.heap.size rfl)
          generalize w5.alloc (.cells #[.int .u8 hx.kind, .int .u64 hx.epoch, .int .u64 hx.seq, .int .i64 hx.len, .int .u32 hx.sum] 46) = X6 at M ⊢
          generalize w5.heap.size = n6 at M ⊢
          obtain ⟨h0, h1, h2, h3, h4, hf⟩ := five (M.out.get 3 rfl)
          obtain ⟨f0, f1, f2, f3, ff⟩ := (M.out.get 2 rfl).four
          by_cases e1 : hcd = 0
          · have e1' : (hcd == 0) = true := by rw [e1]; rfl
            by_cases e2 : hx.epoch = f.epoch
            · have e2' : ((hx.epoch : Int) == (f.epoch : Int)) = true := by rw [e2]; simp
              by_cases e3 : hx.seq = l.length
              · have e3' : ((hx.seq : Int) == (l.length : Int)) = true := by rw [e3]; simp
                clear e1 e2 e3
                go_wp2_with fail
                go_ret
                exact ⟨rfl, M.out.bel⟩
              · have e3' : ((hx.seq : Int) == (l.length : Int)) = false := by rw [beq_eq_false_iff_ne]; omega
                have hgd := hid (hgd0.out (fun h => e3 h.2))
                clear e1 e2 e3 hgd0 hgd1
                go_upto_region 14 with fail
                replace M := hid (M.out.cut 3 0 1)
                obtain ⟨d0, d1, d2, d3, df⟩ := (M.out.get 0 rfl).four
                go_upto_region 15 with fail
                clear d0 d1 d2 d3 df
                replace M := hid (M.out.put 0 rfl (by decide) (by decide) (by decide) 3 (.int .i64 a3))
                generalize X6.setCell ⟨w.heap.size, 3, none⟩ (.int .i64 a3) = Y1 at M ⊢
                replace M := hid (M.out.refuse2 0 rfl a3)
                dsimp only at M
                have hap := hid (fun v W (h : DiskV W v ⟨secs, pend, off, a3⟩) => append_any ⟨secs, pend, off, a3⟩ v ⟨F, S⟩ at1 ⟨f.kind, f.epoch, l.length, f.pay⟩ W h hfw.out hr.out (WalkArith.wf_i64 ⟨by omega, by omega⟩) hfn.out)
                rw [show rgV ⟨F, S⟩ = .agg #[.int .i64 (F : Nat), .int .i64 (S : Nat)] from rfl] at hap
                rw [show frV ⟨f.kind, f.epoch, l.length, f.pay⟩ = .agg #[.int .u8 f.kind, .int .u64 f.epoch, .int .u64 (l.length : Nat), .string f.pay] from rfl] at hap
                have hcase := hid (hwh.out hgd.out kp)
                obtain ⟨Y, hY⟩ : ∃ Y, appE ⟨secs, pend, off, a3⟩ ⟨F, S⟩ at1 ⟨f.kind, f.epoch, l.length, f.pay⟩ = Y := ⟨_, rfl⟩
                rw [hY] at hap hcase
                clear hY hgd hwh
                obtain ⟨x, te, c⟩ := Y
                dsimp only at hcase
                obtain ⟨d0, d1, d2, d3, df⟩ := (M.out.get 0 rfl).four
                obtain ⟨q0, q1, qf⟩ := (M.out.get 1 rfl).two
                obtain ⟨f0, f1, f2, f3, ff⟩ := (M.out.get 2 rfl).four
                go_wp2_with fail
                clear d0 d1 d2 d3 df q0 q1 qf f0 f1 f2 f3 ff
                (with_reducible refine (hap.out _ _ (M.out.view 0 rfl)).mono ?_)
                rintro e3 w3 hr3
                obtain ⟨so4, sc4, po4, pc4, rfl, o4, b4⟩ := hr3.open
                dsimp only at o4
                replace M := hid (M.out.res o4 b4)
                clear hr3 hap o4 b4
                dsimp only
                go_upto_region 16 with fail
                replace M := hid (M.out.push [.slice so4 x.secs.length sc4, .slice po4 x.pend.length pc4, .bool x.off, .int .i64 x.fuse] 25 w3.heap.size rfl)
                generalize w3.alloc (.cells #[.slice so4 x.secs.length sc4, .slice po4 x.pend.length pc4, .bool x.off, .int .i64 x.fuse] 25) = X4 at M ⊢
                generalize w3.heap.size = n5 at M ⊢
                rcases hcase.out with ⟨h1, h2, h3, h4⟩ | ⟨hok, m, to', hsc, hres⟩
                · have e0 : (c != 0) = true := by simpa using h3
                  have e15 : (c != 15) = true := by simpa using h4
                  have hte : (te == 0) = true := by rw [h2]; rfl
                  obtain rfl : x = ⟨secs, pend, off, a3⟩ := h1
                  clear hcase h2 h3 h4
                  dsimp only at *
                  obtain ⟨d0, d1, d2, d3, df⟩ := (M.out.get 0 rfl).four
                  obtain ⟨e0, e1, e2, e3, ef⟩ := (M.out.get 3 rfl).four
                  go_wp2_with fail
                  refine (same_self ⟨secs, pend, off, a3⟩ _ _ _ (M.out.view 0 rfl) (M.out.view 1 rfl)).mono ?_
                  rintro e w5 ⟨rfl, b9⟩
                  replace M := hid (M.out.below b9)
                  clear b9
                  clear d0 d1 d2 d3 df e0 e1 e2 e3 ef
                  go_wp2_with fail
                  go_ret
                  exact ⟨rfl, M.out.bel⟩
                · have hcr := hid (fun v u W (h : DiskV W v x) (g : BoolsV W u kp) => (show crashE x kp = (crashD x kp, 0) by unfold crashE; rw [if_pos hok]) ▸ crash_any x v u kp W h g)
                  generalize crashD x kp = y at hcr hsc
                  have hs2 := hid (fun v W (h : DiskV W v y) => hsc ▸ scan_any y v ⟨F, S⟩ f.epoch W h hr.out)
                  rw [show rgV ⟨F, S⟩ = .agg #[.int .i64 (F : Nat), .int .i64 (S : Nat)] from rfl] at hs2
                  clear hcase hok hsc
                  rcases hres with ⟨h15, hm, hto⟩ | ⟨⟨h0, hte⟩ | h15, t, hm, hto, hold⟩
                  · obtain rfl : c = 15 := h15
                    have hm' := hm.symm
                    have hto' := hto.symm
                    clear hm hto
                    subst hm' hto'
                    obtain ⟨e0, e1, e2, e3, ef⟩ := (M.out.get 3 rfl).four
                    go_wp2_with fail
                    (with_reducible refine (hcr.out _ _ _ (M.out.view 1 rfl) (hkp.out.below M.out.bel)).mono ?_)
                    rintro e5 w5 hr5
                    obtain ⟨so5, sc5, po5, pc5, rfl, o5, b5⟩ := hr5.open
                    dsimp only at o5
                    replace M := hid (M.out.res o5 b5)
                    clear hr5 hcr o5 b5
                    clear e0 e1 e2 e3 ef
                    obtain ⟨e0, e1, e2, e3, ef⟩ := (M.out.get 3 rfl).four
                    dsimp only
                    go_upto_region 19 with fail
                    clear e0 e1 e2 e3 ef
                    replace M := hid ((((M.out.put 3 rfl (by decide) (by decide) (by decide) 0 (.slice so5 y.secs.length sc5)).put 3 rfl (by decide) (by decide) (by decide) 1 (.slice po5 y.pend.length pc5)).put 3 rfl (by decide) (by decide) (by decide) 2 (.bool y.off)).put 3 rfl (by decide) (by decide) (by decide) 3 (.int .i64 y.fuse))
                    generalize (((w5.setCell ⟨n5, 0, none⟩ (.slice so5 y.secs.length sc5)).setCell ⟨n5, 1, none⟩ (.slice po5 y.pend.length pc5)).setCell ⟨n5, 2, none⟩ (.bool y.off)).setCell ⟨n5, 3, none⟩ (.int .i64 y.fuse) = X5 at M ⊢
                    obtain ⟨e0, e1, e2, e3, ef⟩ := (M.out.get 3 rfl).four
                    obtain ⟨q0, q1, qf⟩ := (M.out.get 1 rfl).two
                    obtain ⟨f0, f1, f2, f3, ff⟩ := (M.out.get 2 rfl).four
                    go_wp2_with fail
                    (with_reducible refine (hs2.out _ _ (M.out.view 2 rfl)).mono ?_)
                    rintro e6 w6 ⟨ao6, cap6, rfl, o6, b6⟩
                    replace M := hid (M.out.below b6)
                    have g2 := hid (FrsV.own (l := l) o6 rfl)
                    clear e0 e1 e2 e3 ef q0 q1 qf f0 f1 f2 f3 ff
                    clear b6 hs2 o6
                    dsimp only
                    obtain ⟨hcap6, _⟩ : l.length ≤ cap6 ∧ cap6 ≤ maxLen := by
                      obtain ⟨ao', cap', hq, h1, h2⟩ := SlV.form g2.out
                      simp only [Value.slice.injEq] at hq
                      obtain ⟨-, -, rfl⟩ := hq
                      exact ⟨h1, h2⟩
                    have g1 := hid (FrsV.own (l := l) M.out.row rfl)
                    have hlc : (l.length : Int) ≤ (cap6 : Int) := by omega
                    go_wp2_with fail
                    refine (fsame_any l _ _ _ g2.out g1.out).mono ?_
                    rintro e7 w7 ⟨rfl, bw⟩
                    replace M := hid (M.out.below bw)
                    clear bw hlc hcap6 g1 g2
                    go_wp2_with fail
                    go_ret
                    exact ⟨rfl, M.out.bel⟩
                  · obtain rfl : c = 0 := h0
                    subst hte
                    replace hold := hid hold
                    obtain ⟨e0, e1, e2, e3, ef⟩ := (M.out.get 3 rfl).four
                    go_wp2_with fail
                    (with_reducible refine (hcr.out _ _ _ (M.out.view 1 rfl) (hkp.out.below M.out.bel)).mono ?_)
                    rintro e5 w5 hr5
                    obtain ⟨so5, sc5, po5, pc5, rfl, o5, b5⟩ := hr5.open
                    dsimp only at o5
                    replace M := hid (M.out.res o5 b5)
                    clear hr5 hcr o5 b5
                    clear e0 e1 e2 e3 ef
                    obtain ⟨e0, e1, e2, e3, ef⟩ := (M.out.get 3 rfl).four
                    dsimp only
                    go_upto_region 19 with fail
                    clear e0 e1 e2 e3 ef
                    replace M := hid ((((M.out.put 3 rfl (by decide) (by decide) (by decide) 0 (.slice so5 y.secs.length sc5)).put 3 rfl (by decide) (by decide) (by decide) 1 (.slice po5 y.pend.length pc5)).put 3 rfl (by decide) (by decide) (by decide) 2 (.bool y.off)).put 3 rfl (by decide) (by decide) (by decide) 3 (.int .i64 y.fuse))
                    generalize (((w5.setCell ⟨n5, 0, none⟩ (.slice so5 y.secs.length sc5)).setCell ⟨n5, 1, none⟩ (.slice po5 y.pend.length pc5)).setCell ⟨n5, 2, none⟩ (.bool y.off)).setCell ⟨n5, 3, none⟩ (.int .i64 y.fuse) = X5 at M ⊢
                    obtain ⟨e0, e1, e2, e3, ef⟩ := (M.out.get 3 rfl).four
                    obtain ⟨q0, q1, qf⟩ := (M.out.get 1 rfl).two
                    obtain ⟨f0, f1, f2, f3, ff⟩ := (M.out.get 2 rfl).four
                    go_wp2_with fail
                    (with_reducible refine (hs2.out _ _ (M.out.view 2 rfl)).mono ?_)
                    rintro e6 w6 ⟨ao6, cap6, rfl, o6, b6⟩
                    replace M := hid (M.out.below b6)
                    have g2 := hid (FrsV.own (l := m) o6 rfl)
                    clear e0 e1 e2 e3 ef q0 q1 qf f0 f1 f2 f3 ff
                    clear b6 hs2 o6
                    dsimp only
                    obtain ⟨hcap6, _⟩ : m.length ≤ cap6 ∧ cap6 ≤ maxLen := by
                      obtain ⟨ao', cap', hq, h1, h2⟩ := SlV.form g2.out
                      simp only [Value.slice.injEq] at hq
                      obtain ⟨-, -, rfl⟩ := hq
                      exact ⟨h1, h2⟩
                    have g1 := hid (FrsV.own (l := l) M.out.row rfl)
                    have hml : m.length = l.length + 1 + t.length := by rw [hm]; simp; omega
                    have hlc : (l.length : Int) ≤ (cap6 : Int) := by omega
                    have gp := hid (FrsV.take g2.out hm)
                    have hmf := hid (show ∃ h : l.length < m.length, m[l.length] = ⟨f.kind, f.epoch, l.length, f.pay⟩ from ⟨by omega, by simp [hm]⟩)
                    have i1 : decide (m.length < l.length) = false := by rw [decide_eq_false_iff_not]; omega
                    have i2 : ((m.length : Int) == (l.length : Int)) = false := by rw [beq_eq_false_iff_ne]; omega
                    have i3 : (l.length : Int) < (m.length : Int) := by omega
                    have i4 : (0 : Int) ≤ (l.length : Int) := by omega
                    have hml' := hid hml
                    clear hm hml
                    go_wp2_with fail
                    refine (fsame_any l _ _ _ gp.out g1.out).mono ?_
                    rintro e7 w7 ⟨rfl, bw⟩
                    replace M := hid (M.out.below bw)
                    replace g2 := hid (g2.out.below bw)
                    clear bw hlc hcap6 g1 gp
                    obtain ⟨gb, goff, gcap, hq, hgb, hgc⟩ := g2.out.open (by have := hml'.out; omega)
                    simp only [Value.slice.injEq] at hq
                    obtain ⟨rfl, _, rfl⟩ := hq
                    obtain ⟨hlt9, hmf9⟩ := hmf.out
                    obtain ⟨x0, x1, x2, x3⟩ := hgc l.length hlt9
                    rw [hmf9] at x0 x1 x2 x3
                    dsimp only at x0 x1 x2 x3
                    clear hgc hmf hmf9 g2
                    obtain ⟨f0, f1, f2, f3, ff⟩ := (M.out.get 2 rfl).four
                    have hpp : (f.pay.toList == f.pay.toList) = true := by simp
                    go_wp2_with fail
                    go_quiet (fail)
                    rename_i nq
                    replace M := hid (M.out.below (below_drewN (Below.refl w7.heap.size w7) nq))
                    generalize w7.drewN nq = w8 at M ⊢
                    clear x0 x1 x2 x3 hgb f0 f1 f2 f3 ff
                    have wl : IntKind.i64.wrap ((l.length : Int) + 1) = (l.length : Int) + 1 := by rw [IntWalk.i64_in _ (by omega)]
                    cases t with
                    | nil =>
                      have i5 : ((m.length : Int) == (l.length : Int) + 1) = true := by rw [beq_iff_eq]; have := hml'.out; simp at this; omega
                      obtain rfl : to' = _ := hto rfl
                      clear hold
                      go_wp2_with fail
                      go_ret
                      exact ⟨by simp, M.out.bel⟩
                    | cons t0 t1 =>
                      have i5 : ((m.length : Int) == (l.length : Int) + 1) = false := by rw [beq_eq_false_iff_ne]; have := hml'.out; simp at this; omega
                      have i6 : decide ((l.length : Int) + 1 < (m.length : Int)) = true := by rw [decide_eq_true_iff]; have := hml'.out; simp at this; omega
                      have hel := hid (helder.out _ _ at1 ⟨f.kind, f.epoch, l.length, f.pay⟩ (M.out.view 0 rfl) (hold.out (by simp)))
                      rw [show rgV ⟨F, S⟩ = .agg #[.int .i64 (F : Nat), .int .i64 (S : Nat)] from rfl] at hel
                      rw [show frV ⟨f.kind, f.epoch, l.length, f.pay⟩ = .agg #[.int .u8 f.kind, .int .u64 f.epoch, .int .u64 (l.length : Nat), .string f.pay] from rfl] at hel
                      clear hold hto
                      obtain ⟨d0, d1, d2, d3, df⟩ := (M.out.get 0 rfl).four
                      obtain ⟨q0, q1, qf⟩ := (M.out.get 1 rfl).two
                      obtain ⟨f0, f1, f2, f3, ff⟩ := (M.out.get 2 rfl).four
                      go_wp2_with fail
                      refine hel.out.mono ?_
                      rintro e9 w9 ⟨rfl, bw⟩
                      replace M := hid (M.out.below bw)
                      clear bw d0 d1 d2 d3 df q0 q1 qf f0 f1 f2 f3 ff
                      go_wp2_with fail
                      go_ret
                      exact ⟨by simp, M.out.bel⟩
                  · obtain rfl : c = 15 := h15
                    replace hold := hid hold
                    obtain ⟨e0, e1, e2, e3, ef⟩ := (M.out.get 3 rfl).four
                    go_wp2_with fail
                    (with_reducible refine (hcr.out _ _ _ (M.out.view 1 rfl) (hkp.out.below M.out.bel)).mono ?_)
                    rintro e5 w5 hr5
                    obtain ⟨so5, sc5, po5, pc5, rfl, o5, b5⟩ := hr5.open
                    dsimp only at o5
                    replace M := hid (M.out.res o5 b5)
                    clear hr5 hcr o5 b5
                    clear e0 e1 e2 e3 ef
                    obtain ⟨e0, e1, e2, e3, ef⟩ := (M.out.get 3 rfl).four
                    dsimp only
                    go_upto_region 19 with fail
                    clear e0 e1 e2 e3 ef
                    replace M := hid ((((M.out.put 3 rfl (by decide) (by decide) (by decide) 0 (.slice so5 y.secs.length sc5)).put 3 rfl (by decide) (by decide) (by decide) 1 (.slice po5 y.pend.length pc5)).put 3 rfl (by decide) (by decide) (by decide) 2 (.bool y.off)).put 3 rfl (by decide) (by decide) (by decide) 3 (.int .i64 y.fuse))
                    generalize (((w5.setCell ⟨n5, 0, none⟩ (.slice so5 y.secs.length sc5)).setCell ⟨n5, 1, none⟩ (.slice po5 y.pend.length pc5)).setCell ⟨n5, 2, none⟩ (.bool y.off)).setCell ⟨n5, 3, none⟩ (.int .i64 y.fuse) = X5 at M ⊢
                    obtain ⟨e0, e1, e2, e3, ef⟩ := (M.out.get 3 rfl).four
                    obtain ⟨q0, q1, qf⟩ := (M.out.get 1 rfl).two
                    obtain ⟨f0, f1, f2, f3, ff⟩ := (M.out.get 2 rfl).four
                    go_wp2_with fail
                    (with_reducible refine (hs2.out _ _ (M.out.view 2 rfl)).mono ?_)
                    rintro e6 w6 ⟨ao6, cap6, rfl, o6, b6⟩
                    replace M := hid (M.out.below b6)
                    have g2 := hid (FrsV.own (l := m) o6 rfl)
                    clear e0 e1 e2 e3 ef q0 q1 qf f0 f1 f2 f3 ff
                    clear b6 hs2 o6
                    dsimp only
                    obtain ⟨hcap6, _⟩ : m.length ≤ cap6 ∧ cap6 ≤ maxLen := by
                      obtain ⟨ao', cap', hq, h1, h2⟩ := SlV.form g2.out
                      simp only [Value.slice.injEq] at hq
                      obtain ⟨-, -, rfl⟩ := hq
                      exact ⟨h1, h2⟩
                    have g1 := hid (FrsV.own (l := l) M.out.row rfl)
                    have hml : m.length = l.length + 1 + t.length := by rw [hm]; simp; omega
                    have hlc : (l.length : Int) ≤ (cap6 : Int) := by omega
                    have gp := hid (FrsV.take g2.out hm)
                    have hmf := hid (show ∃ h : l.length < m.length, m[l.length] = ⟨f.kind, f.epoch, l.length, f.pay⟩ from ⟨by omega, by simp [hm]⟩)
                    have i1 : decide (m.length < l.length) = false := by rw [decide_eq_false_iff_not]; omega
                    have i2 : ((m.length : Int) == (l.length : Int)) = false := by rw [beq_eq_false_iff_ne]; omega
                    have i3 : (l.length : Int) < (m.length : Int) := by omega
                    have i4 : (0 : Int) ≤ (l.length : Int) := by omega
                    have hml' := hid hml
                    clear hm hml
                    go_wp2_with fail
                    refine (fsame_any l _ _ _ gp.out g1.out).mono ?_
                    rintro e7 w7 ⟨rfl, bw⟩
                    replace M := hid (M.out.below bw)
                    replace g2 := hid (g2.out.below bw)
                    clear bw hlc hcap6 g1 gp
                    obtain ⟨gb, goff, gcap, hq, hgb, hgc⟩ := g2.out.open (by have := hml'.out; omega)
                    simp only [Value.slice.injEq] at hq
                    obtain ⟨rfl, _, rfl⟩ := hq
                    obtain ⟨hlt9, hmf9⟩ := hmf.out
                    obtain ⟨x0, x1, x2, x3⟩ := hgc l.length hlt9
                    rw [hmf9] at x0 x1 x2 x3
                    dsimp only at x0 x1 x2 x3
                    clear hgc hmf hmf9 g2
                    obtain ⟨f0, f1, f2, f3, ff⟩ := (M.out.get 2 rfl).four
                    have hpp : (f.pay.toList == f.pay.toList) = true := by simp
                    go_wp2_with fail
                    go_quiet (fail)
                    rename_i nq
                    replace M := hid (M.out.below (below_drewN (Below.refl w7.heap.size w7) nq))
                    generalize w7.drewN nq = w8 at M ⊢
                    clear x0 x1 x2 x3 hgb f0 f1 f2 f3 ff
                    have wl : IntKind.i64.wrap ((l.length : Int) + 1) = (l.length : Int) + 1 := by rw [IntWalk.i64_in _ (by omega)]
                    cases t with
                    | nil =>
                      have i5 : ((m.length : Int) == (l.length : Int) + 1) = true := by rw [beq_iff_eq]; have := hml'.out; simp at this; omega
                      obtain rfl : to' = _ := hto rfl
                      clear hold
                      go_wp2_with fail
                      go_ret
                      exact ⟨by simp, M.out.bel⟩
                    | cons t0 t1 =>
                      have i5 : ((m.length : Int) == (l.length : Int) + 1) = false := by rw [beq_eq_false_iff_ne]; have := hml'.out; simp at this; omega
                      have i6 : decide ((l.length : Int) + 1 < (m.length : Int)) = true := by rw [decide_eq_true_iff]; have := hml'.out; simp at this; omega
                      have hel := hid (helder.out _ _ at1 ⟨f.kind, f.epoch, l.length, f.pay⟩ (M.out.view 0 rfl) (hold.out (by simp)))
                      rw [show rgV ⟨F, S⟩ = .agg #[.int .i64 (F : Nat), .int .i64 (S : Nat)] from rfl] at hel
                      rw [show frV ⟨f.kind, f.epoch, l.length, f.pay⟩ = .agg #[.int .u8 f.kind, .int .u64 f.epoch, .int .u64 (l.length : Nat), .string f.pay] from rfl] at hel
                      clear hold hto
                      obtain ⟨d0, d1, d2, d3, df⟩ := (M.out.get 0 rfl).four
                      obtain ⟨q0, q1, qf⟩ := (M.out.get 1 rfl).two
                      obtain ⟨f0, f1, f2, f3, ff⟩ := (M.out.get 2 rfl).four
                      go_wp2_with fail
                      refine hel.out.mono ?_
                      rintro e9 w9 ⟨rfl, bw⟩
                      replace M := hid (M.out.below bw)
                      clear bw d0 d1 d2 d3 df q0 q1 qf f0 f1 f2 f3 ff
                      go_wp2_with fail
                      go_ret
                      exact ⟨by simp, M.out.bel⟩
            · have e2' : ((hx.epoch : Int) == (f.epoch : Int)) = false := by rw [beq_eq_false_iff_ne]; omega
              have hgd := hid (hgd0.out (fun h => e2 h.1))
              clear e1 e2 hgd0 hgd1
              go_upto_region 14 with fail
              replace M := hid (M.out.cut 3 0 1)
              obtain ⟨d0, d1, d2, d3, df⟩ := (M.out.get 0 rfl).four
              go_upto_region 15 with fail
              clear d0 d1 d2 d3 df
              replace M := hid (M.out.put 0 rfl (by decide) (by decide) (by decide) 3 (.int .i64 a3))
              generalize X6.setCell ⟨w.heap.size, 3, none⟩ (.int .i64 a3) = Y1 at M ⊢
              replace M := hid (M.out.refuse2 0 rfl a3)
              dsimp only at M
              have hap := hid (fun v W (h : DiskV W v ⟨secs, pend, off, a3⟩) => append_any ⟨secs, pend, off, a3⟩ v ⟨F, S⟩ at1 ⟨f.kind, f.epoch, l.length, f.pay⟩ W h hfw.out hr.out (WalkArith.wf_i64 ⟨by omega, by omega⟩) hfn.out)
              rw [show rgV ⟨F, S⟩ = .agg #[.int .i64 (F : Nat), .int .i64 (S : Nat)] from rfl] at hap
              rw [show frV ⟨f.kind, f.epoch, l.length, f.pay⟩ = .agg #[.int .u8 f.kind, .int .u64 f.epoch, .int .u64 (l.length : Nat), .string f.pay] from rfl] at hap
              have hcase := hid (hwh.out hgd.out kp)
              obtain ⟨Y, hY⟩ : ∃ Y, appE ⟨secs, pend, off, a3⟩ ⟨F, S⟩ at1 ⟨f.kind, f.epoch, l.length, f.pay⟩ = Y := ⟨_, rfl⟩
              rw [hY] at hap hcase
              clear hY hgd hwh
              obtain ⟨x, te, c⟩ := Y
              dsimp only at hcase
              obtain ⟨d0, d1, d2, d3, df⟩ := (M.out.get 0 rfl).four
              obtain ⟨q0, q1, qf⟩ := (M.out.get 1 rfl).two
              obtain ⟨f0, f1, f2, f3, ff⟩ := (M.out.get 2 rfl).four
              go_wp2_with fail
              clear d0 d1 d2 d3 df q0 q1 qf f0 f1 f2 f3 ff
              (with_reducible refine (hap.out _ _ (M.out.view 0 rfl)).mono ?_)
              rintro e3 w3 hr3
              obtain ⟨so4, sc4, po4, pc4, rfl, o4, b4⟩ := hr3.open
              dsimp only at o4
              replace M := hid (M.out.res o4 b4)
              clear hr3 hap o4 b4
              dsimp only
              go_upto_region 16 with fail
              replace M := hid (M.out.push [.slice so4 x.secs.length sc4, .slice po4 x.pend.length pc4, .bool x.off, .int .i64 x.fuse] 25 w3.heap.size rfl)
              generalize w3.alloc (.cells #[.slice so4 x.secs.length sc4, .slice po4 x.pend.length pc4, .bool x.off, .int .i64 x.fuse] 25) = X4 at M ⊢
              generalize w3.heap.size = n5 at M ⊢
              rcases hcase.out with ⟨h1, h2, h3, h4⟩ | ⟨hok, m, to', hsc, hres⟩
              · have e0 : (c != 0) = true := by simpa using h3
                have e15 : (c != 15) = true := by simpa using h4
                have hte : (te == 0) = true := by rw [h2]; rfl
                obtain rfl : x = ⟨secs, pend, off, a3⟩ := h1
                clear hcase h2 h3 h4
                dsimp only at *
                obtain ⟨d0, d1, d2, d3, df⟩ := (M.out.get 0 rfl).four
                obtain ⟨e0, e1, e2, e3, ef⟩ := (M.out.get 3 rfl).four
                go_wp2_with fail
                refine (same_self ⟨secs, pend, off, a3⟩ _ _ _ (M.out.view 0 rfl) (M.out.view 1 rfl)).mono ?_
                rintro e w5 ⟨rfl, b9⟩
                replace M := hid (M.out.below b9)
                clear b9
                clear d0 d1 d2 d3 df e0 e1 e2 e3 ef
                go_wp2_with fail
                go_ret
                exact ⟨rfl, M.out.bel⟩
              · have hcr := hid (fun v u W (h : DiskV W v x) (g : BoolsV W u kp) => (show crashE x kp = (crashD x kp, 0) by unfold crashE; rw [if_pos hok]) ▸ crash_any x v u kp W h g)
                generalize crashD x kp = y at hcr hsc
                have hs2 := hid (fun v W (h : DiskV W v y) => hsc ▸ scan_any y v ⟨F, S⟩ f.epoch W h hr.out)
                rw [show rgV ⟨F, S⟩ = .agg #[.int .i64 (F : Nat), .int .i64 (S : Nat)] from rfl] at hs2
                clear hcase hok hsc
                rcases hres with ⟨h15, hm, hto⟩ | ⟨⟨h0, hte⟩ | h15, t, hm, hto, hold⟩
                · obtain rfl : c = 15 := h15
                  have hm' := hm.symm
                  have hto' := hto.symm
                  clear hm hto
                  subst hm' hto'
                  obtain ⟨e0, e1, e2, e3, ef⟩ := (M.out.get 3 rfl).four
                  go_wp2_with fail
                  (with_reducible refine (hcr.out _ _ _ (M.out.view 1 rfl) (hkp.out.below M.out.bel)).mono ?_)
                  rintro e5 w5 hr5
                  obtain ⟨so5, sc5, po5, pc5, rfl, o5, b5⟩ := hr5.open
                  dsimp only at o5
                  replace M := hid (M.out.res o5 b5)
                  clear hr5 hcr o5 b5
                  clear e0 e1 e2 e3 ef
                  obtain ⟨e0, e1, e2, e3, ef⟩ := (M.out.get 3 rfl).four
                  dsimp only
                  go_upto_region 19 with fail
                  clear e0 e1 e2 e3 ef
                  replace M := hid ((((M.out.put 3 rfl (by decide) (by decide) (by decide) 0 (.slice so5 y.secs.length sc5)).put 3 rfl (by decide) (by decide) (by decide) 1 (.slice po5 y.pend.length pc5)).put 3 rfl (by decide) (by decide) (by decide) 2 (.bool y.off)).put 3 rfl (by decide) (by decide) (by decide) 3 (.int .i64 y.fuse))
                  generalize (((w5.setCell ⟨n5, 0, none⟩ (.slice so5 y.secs.length sc5)).setCell ⟨n5, 1, none⟩ (.slice po5 y.pend.length pc5)).setCell ⟨n5, 2, none⟩ (.bool y.off)).setCell ⟨n5, 3, none⟩ (.int .i64 y.fuse) = X5 at M ⊢
                  obtain ⟨e0, e1, e2, e3, ef⟩ := (M.out.get 3 rfl).four
                  obtain ⟨q0, q1, qf⟩ := (M.out.get 1 rfl).two
                  obtain ⟨f0, f1, f2, f3, ff⟩ := (M.out.get 2 rfl).four
                  go_wp2_with fail
                  (with_reducible refine (hs2.out _ _ (M.out.view 2 rfl)).mono ?_)
                  rintro e6 w6 ⟨ao6, cap6, rfl, o6, b6⟩
                  replace M := hid (M.out.below b6)
                  have g2 := hid (FrsV.own (l := l) o6 rfl)
                  clear e0 e1 e2 e3 ef q0 q1 qf f0 f1 f2 f3 ff
                  clear b6 hs2 o6
                  dsimp only
                  obtain ⟨hcap6, _⟩ : l.length ≤ cap6 ∧ cap6 ≤ maxLen := by
                    obtain ⟨ao', cap', hq, h1, h2⟩ := SlV.form g2.out
                    simp only [Value.slice.injEq] at hq
                    obtain ⟨-, -, rfl⟩ := hq
                    exact ⟨h1, h2⟩
                  have g1 := hid (FrsV.own (l := l) M.out.row rfl)
                  have hlc : (l.length : Int) ≤ (cap6 : Int) := by omega
                  go_wp2_with fail
                  refine (fsame_any l _ _ _ g2.out g1.out).mono ?_
                  rintro e7 w7 ⟨rfl, bw⟩
                  replace M := hid (M.out.below bw)
                  clear bw hlc hcap6 g1 g2
                  go_wp2_with fail
                  go_ret
                  exact ⟨rfl, M.out.bel⟩
                · obtain rfl : c = 0 := h0
                  subst hte
                  replace hold := hid hold
                  obtain ⟨e0, e1, e2, e3, ef⟩ := (M.out.get 3 rfl).four
                  go_wp2_with fail
                  (with_reducible refine (hcr.out _ _ _ (M.out.view 1 rfl) (hkp.out.below M.out.bel)).mono ?_)
                  rintro e5 w5 hr5
                  obtain ⟨so5, sc5, po5, pc5, rfl, o5, b5⟩ := hr5.open
                  dsimp only at o5
                  replace M := hid (M.out.res o5 b5)
                  clear hr5 hcr o5 b5
                  clear e0 e1 e2 e3 ef
                  obtain ⟨e0, e1, e2, e3, ef⟩ := (M.out.get 3 rfl).four
                  dsimp only
                  go_upto_region 19 with fail
                  clear e0 e1 e2 e3 ef
                  replace M := hid ((((M.out.put 3 rfl (by decide) (by decide) (by decide) 0 (.slice so5 y.secs.length sc5)).put 3 rfl (by decide) (by decide) (by decide) 1 (.slice po5 y.pend.length pc5)).put 3 rfl (by decide) (by decide) (by decide) 2 (.bool y.off)).put 3 rfl (by decide) (by decide) (by decide) 3 (.int .i64 y.fuse))
                  generalize (((w5.setCell ⟨n5, 0, none⟩ (.slice so5 y.secs.length sc5)).setCell ⟨n5, 1, none⟩ (.slice po5 y.pend.length pc5)).setCell ⟨n5, 2, none⟩ (.bool y.off)).setCell ⟨n5, 3, none⟩ (.int .i64 y.fuse) = X5 at M ⊢
                  obtain ⟨e0, e1, e2, e3, ef⟩ := (M.out.get 3 rfl).four
                  obtain ⟨q0, q1, qf⟩ := (M.out.get 1 rfl).two
                  obtain ⟨f0, f1, f2, f3, ff⟩ := (M.out.get 2 rfl).four
                  go_wp2_with fail
                  (with_reducible refine (hs2.out _ _ (M.out.view 2 rfl)).mono ?_)
                  rintro e6 w6 ⟨ao6, cap6, rfl, o6, b6⟩
                  replace M := hid (M.out.below b6)
                  have g2 := hid (FrsV.own (l := m) o6 rfl)
                  clear e0 e1 e2 e3 ef q0 q1 qf f0 f1 f2 f3 ff
                  clear b6 hs2 o6
                  dsimp only
                  obtain ⟨hcap6, _⟩ : m.length ≤ cap6 ∧ cap6 ≤ maxLen := by
                    obtain ⟨ao', cap', hq, h1, h2⟩ := SlV.form g2.out
                    simp only [Value.slice.injEq] at hq
                    obtain ⟨-, -, rfl⟩ := hq
                    exact ⟨h1, h2⟩
                  have g1 := hid (FrsV.own (l := l) M.out.row rfl)
                  have hml : m.length = l.length + 1 + t.length := by rw [hm]; simp; omega
                  have hlc : (l.length : Int) ≤ (cap6 : Int) := by omega
                  have gp := hid (FrsV.take g2.out hm)
                  have hmf := hid (show ∃ h : l.length < m.length, m[l.length] = ⟨f.kind, f.epoch, l.length, f.pay⟩ from ⟨by omega, by simp [hm]⟩)
                  have i1 : decide (m.length < l.length) = false := by rw [decide_eq_false_iff_not]; omega
                  have i2 : ((m.length : Int) == (l.length : Int)) = false := by rw [beq_eq_false_iff_ne]; omega
                  have i3 : (l.length : Int) < (m.length : Int) := by omega
                  have i4 : (0 : Int) ≤ (l.length : Int) := by omega
                  have hml' := hid hml
                  clear hm hml
                  go_wp2_with fail
                  refine (fsame_any l _ _ _ gp.out g1.out).mono ?_
                  rintro e7 w7 ⟨rfl, bw⟩
                  replace M := hid (M.out.below bw)
                  replace g2 := hid (g2.out.below bw)
                  clear bw hlc hcap6 g1 gp
                  obtain ⟨gb, goff, gcap, hq, hgb, hgc⟩ := g2.out.open (by have := hml'.out; omega)
                  simp only [Value.slice.injEq] at hq
                  obtain ⟨rfl, _, rfl⟩ := hq
                  obtain ⟨hlt9, hmf9⟩ := hmf.out
                  obtain ⟨x0, x1, x2, x3⟩ := hgc l.length hlt9
                  rw [hmf9] at x0 x1 x2 x3
                  dsimp only at x0 x1 x2 x3
                  clear hgc hmf hmf9 g2
                  obtain ⟨f0, f1, f2, f3, ff⟩ := (M.out.get 2 rfl).four
                  have hpp : (f.pay.toList == f.pay.toList) = true := by simp
                  go_wp2_with fail
                  go_quiet (fail)
                  rename_i nq
                  replace M := hid (M.out.below (below_drewN (Below.refl w7.heap.size w7) nq))
                  generalize w7.drewN nq = w8 at M ⊢
                  clear x0 x1 x2 x3 hgb f0 f1 f2 f3 ff
                  have wl : IntKind.i64.wrap ((l.length : Int) + 1) = (l.length : Int) + 1 := by rw [IntWalk.i64_in _ (by omega)]
                  cases t with
                  | nil =>
                    have i5 : ((m.length : Int) == (l.length : Int) + 1) = true := by rw [beq_iff_eq]; have := hml'.out; simp at this; omega
                    obtain rfl : to' = _ := hto rfl
                    clear hold
                    go_wp2_with fail
                    go_ret
                    exact ⟨by simp, M.out.bel⟩
                  | cons t0 t1 =>
                    have i5 : ((m.length : Int) == (l.length : Int) + 1) = false := by rw [beq_eq_false_iff_ne]; have := hml'.out; simp at this; omega
                    have i6 : decide ((l.length : Int) + 1 < (m.length : Int)) = true := by rw [decide_eq_true_iff]; have := hml'.out; simp at this; omega
                    have hel := hid (helder.out _ _ at1 ⟨f.kind, f.epoch, l.length, f.pay⟩ (M.out.view 0 rfl) (hold.out (by simp)))
                    rw [show rgV ⟨F, S⟩ = .agg #[.int .i64 (F : Nat), .int .i64 (S : Nat)] from rfl] at hel
                    rw [show frV ⟨f.kind, f.epoch, l.length, f.pay⟩ = .agg #[.int .u8 f.kind, .int .u64 f.epoch, .int .u64 (l.length : Nat), .string f.pay] from rfl] at hel
                    clear hold hto
                    obtain ⟨d0, d1, d2, d3, df⟩ := (M.out.get 0 rfl).four
                    obtain ⟨q0, q1, qf⟩ := (M.out.get 1 rfl).two
                    obtain ⟨f0, f1, f2, f3, ff⟩ := (M.out.get 2 rfl).four
                    go_wp2_with fail
                    refine hel.out.mono ?_
                    rintro e9 w9 ⟨rfl, bw⟩
                    replace M := hid (M.out.below bw)
                    clear bw d0 d1 d2 d3 df q0 q1 qf f0 f1 f2 f3 ff
                    go_wp2_with fail
                    go_ret
                    exact ⟨by simp, M.out.bel⟩
                · obtain rfl : c = 15 := h15
                  replace hold := hid hold
                  obtain ⟨e0, e1, e2, e3, ef⟩ := (M.out.get 3 rfl).four
                  go_wp2_with fail
                  (with_reducible refine (hcr.out _ _ _ (M.out.view 1 rfl) (hkp.out.below M.out.bel)).mono ?_)
                  rintro e5 w5 hr5
                  obtain ⟨so5, sc5, po5, pc5, rfl, o5, b5⟩ := hr5.open
                  dsimp only at o5
                  replace M := hid (M.out.res o5 b5)
                  clear hr5 hcr o5 b5
                  clear e0 e1 e2 e3 ef
                  obtain ⟨e0, e1, e2, e3, ef⟩ := (M.out.get 3 rfl).four
                  dsimp only
                  go_upto_region 19 with fail
                  clear e0 e1 e2 e3 ef
                  replace M := hid ((((M.out.put 3 rfl (by decide) (by decide) (by decide) 0 (.slice so5 y.secs.length sc5)).put 3 rfl (by decide) (by decide) (by decide) 1 (.slice po5 y.pend.length pc5)).put 3 rfl (by decide) (by decide) (by decide) 2 (.bool y.off)).put 3 rfl (by decide) (by decide) (by decide) 3 (.int .i64 y.fuse))
                  generalize (((w5.setCell ⟨n5, 0, none⟩ (.slice so5 y.secs.length sc5)).setCell ⟨n5, 1, none⟩ (.slice po5 y.pend.length pc5)).setCell ⟨n5, 2, none⟩ (.bool y.off)).setCell ⟨n5, 3, none⟩ (.int .i64 y.fuse) = X5 at M ⊢
                  obtain ⟨e0, e1, e2, e3, ef⟩ := (M.out.get 3 rfl).four
                  obtain ⟨q0, q1, qf⟩ := (M.out.get 1 rfl).two
                  obtain ⟨f0, f1, f2, f3, ff⟩ := (M.out.get 2 rfl).four
                  go_wp2_with fail
                  (with_reducible refine (hs2.out _ _ (M.out.view 2 rfl)).mono ?_)
                  rintro e6 w6 ⟨ao6, cap6, rfl, o6, b6⟩
                  replace M := hid (M.out.below b6)
                  have g2 := hid (FrsV.own (l := m) o6 rfl)
                  clear e0 e1 e2 e3 ef q0 q1 qf f0 f1 f2 f3 ff
                  clear b6 hs2 o6
                  dsimp only
                  obtain ⟨hcap6, _⟩ : m.length ≤ cap6 ∧ cap6 ≤ maxLen := by
                    obtain ⟨ao', cap', hq, h1, h2⟩ := SlV.form g2.out
                    simp only [Value.slice.injEq] at hq
                    obtain ⟨-, -, rfl⟩ := hq
                    exact ⟨h1, h2⟩
                  have g1 := hid (FrsV.own (l := l) M.out.row rfl)
                  have hml : m.length = l.length + 1 + t.length := by rw [hm]; simp; omega
                  have hlc : (l.length : Int) ≤ (cap6 : Int) := by omega
                  have gp := hid (FrsV.take g2.out hm)
                  have hmf := hid (show ∃ h : l.length < m.length, m[l.length] = ⟨f.kind, f.epoch, l.length, f.pay⟩ from ⟨by omega, by simp [hm]⟩)
                  have i1 : decide (m.length < l.length) = false := by rw [decide_eq_false_iff_not]; omega
                  have i2 : ((m.length : Int) == (l.length : Int)) = false := by rw [beq_eq_false_iff_ne]; omega
                  have i3 : (l.length : Int) < (m.length : Int) := by omega
                  have i4 : (0 : Int) ≤ (l.length : Int) := by omega
                  have hml' := hid hml
                  clear hm hml
                  go_wp2_with fail
                  refine (fsame_any l _ _ _ gp.out g1.out).mono ?_
                  rintro e7 w7 ⟨rfl, bw⟩
                  replace M := hid (M.out.below bw)
                  replace g2 := hid (g2.out.below bw)
                  clear bw hlc hcap6 g1 gp
                  obtain ⟨gb, goff, gcap, hq, hgb, hgc⟩ := g2.out.open (by have := hml'.out; omega)
                  simp only [Value.slice.injEq] at hq
                  obtain ⟨rfl, _, rfl⟩ := hq
                  obtain ⟨hlt9, hmf9⟩ := hmf.out
                  obtain ⟨x0, x1, x2, x3⟩ := hgc l.length hlt9
                  rw [hmf9] at x0 x1 x2 x3
                  dsimp only at x0 x1 x2 x3
                  clear hgc hmf hmf9 g2
                  obtain ⟨f0, f1, f2, f3, ff⟩ := (M.out.get 2 rfl).four
                  have hpp : (f.pay.toList == f.pay.toList) = true := by simp
                  go_wp2_with fail
                  go_quiet (fail)
                  rename_i nq
                  replace M := hid (M.out.below (below_drewN (Below.refl w7.heap.size w7) nq))
                  generalize w7.drewN nq = w8 at M ⊢
                  clear x0 x1 x2 x3 hgb f0 f1 f2 f3 ff
                  have wl : IntKind.i64.wrap ((l.length : Int) + 1) = (l.length : Int) + 1 := by rw [IntWalk.i64_in _ (by omega)]
                  cases t with
                  | nil =>
                    have i5 : ((m.length : Int) == (l.length : Int) + 1) = true := by rw [beq_iff_eq]; have := hml'.out; simp at this; omega
                    obtain rfl : to' = _ := hto rfl
                    clear hold
                    go_wp2_with fail
                    go_ret
                    exact ⟨by simp, M.out.bel⟩
                  | cons t0 t1 =>
                    have i5 : ((m.length : Int) == (l.length : Int) + 1) = false := by rw [beq_eq_false_iff_ne]; have := hml'.out; simp at this; omega
                    have i6 : decide ((l.length : Int) + 1 < (m.length : Int)) = true := by rw [decide_eq_true_iff]; have := hml'.out; simp at this; omega
                    have hel := hid (helder.out _ _ at1 ⟨f.kind, f.epoch, l.length, f.pay⟩ (M.out.view 0 rfl) (hold.out (by simp)))
                    rw [show rgV ⟨F, S⟩ = .agg #[.int .i64 (F : Nat), .int .i64 (S : Nat)] from rfl] at hel
                    rw [show frV ⟨f.kind, f.epoch, l.length, f.pay⟩ = .agg #[.int .u8 f.kind, .int .u64 f.epoch, .int .u64 (l.length : Nat), .string f.pay] from rfl] at hel
                    clear hold hto
                    obtain ⟨d0, d1, d2, d3, df⟩ := (M.out.get 0 rfl).four
                    obtain ⟨q0, q1, qf⟩ := (M.out.get 1 rfl).two
                    obtain ⟨f0, f1, f2, f3, ff⟩ := (M.out.get 2 rfl).four
                    go_wp2_with fail
                    refine hel.out.mono ?_
                    rintro e9 w9 ⟨rfl, bw⟩
                    replace M := hid (M.out.below bw)
                    clear bw d0 d1 d2 d3 df q0 q1 qf f0 f1 f2 f3 ff
                    go_wp2_with fail
                    go_ret
                    exact ⟨by simp, M.out.bel⟩
          · have e1' : (hcd == 0) = false := by simpa using e1
            have hgd := hid (hgd1.out e1)
            clear e1 hgd0 hgd1
            go_upto_region 14 with fail
            replace M := hid (M.out.cut 3 0 1)
            obtain ⟨d0, d1, d2, d3, df⟩ := (M.out.get 0 rfl).four
            go_upto_region 15 with fail
            clear d0 d1 d2 d3 df
            replace M := hid (M.out.put 0 rfl (by decide) (by decide) (by decide) 3 (.int .i64 a3))
            generalize X6.setCell ⟨w.heap.size, 3, none⟩ (.int .i64 a3) = Y1 at M ⊢
            replace M := hid (M.out.refuse2 0 rfl a3)
            dsimp only at M
            have hap := hid (fun v W (h : DiskV W v ⟨secs, pend, off, a3⟩) => append_any ⟨secs, pend, off, a3⟩ v ⟨F, S⟩ at1 ⟨f.kind, f.epoch, l.length, f.pay⟩ W h hfw.out hr.out (WalkArith.wf_i64 ⟨by omega, by omega⟩) hfn.out)
            rw [show rgV ⟨F, S⟩ = .agg #[.int .i64 (F : Nat), .int .i64 (S : Nat)] from rfl] at hap
            rw [show frV ⟨f.kind, f.epoch, l.length, f.pay⟩ = .agg #[.int .u8 f.kind, .int .u64 f.epoch, .int .u64 (l.length : Nat), .string f.pay] from rfl] at hap
            have hcase := hid (hwh.out hgd.out kp)
            obtain ⟨Y, hY⟩ : ∃ Y, appE ⟨secs, pend, off, a3⟩ ⟨F, S⟩ at1 ⟨f.kind, f.epoch, l.length, f.pay⟩ = Y := ⟨_, rfl⟩
            rw [hY] at hap hcase
            clear hY hgd hwh
            obtain ⟨x, te, c⟩ := Y
            dsimp only at hcase
            obtain ⟨d0, d1, d2, d3, df⟩ := (M.out.get 0 rfl).four
            obtain ⟨q0, q1, qf⟩ := (M.out.get 1 rfl).two
            obtain ⟨f0, f1, f2, f3, ff⟩ := (M.out.get 2 rfl).four
            go_wp2_with fail
            clear d0 d1 d2 d3 df q0 q1 qf f0 f1 f2 f3 ff
            (with_reducible refine (hap.out _ _ (M.out.view 0 rfl)).mono ?_)
            rintro e3 w3 hr3
            obtain ⟨so4, sc4, po4, pc4, rfl, o4, b4⟩ := hr3.open
            dsimp only at o4
            replace M := hid (M.out.res o4 b4)
            clear hr3 hap o4 b4
            dsimp only
            go_upto_region 16 with fail
            replace M := hid (M.out.push [.slice so4 x.secs.length sc4, .slice po4 x.pend.length pc4, .bool x.off, .int .i64 x.fuse] 25 w3.heap.size rfl)
            generalize w3.alloc (.cells #[.slice so4 x.secs.length sc4, .slice po4 x.pend.length pc4, .bool x.off, .int .i64 x.fuse] 25) = X4 at M ⊢
            generalize w3.heap.size = n5 at M ⊢
            rcases hcase.out with ⟨h1, h2, h3, h4⟩ | ⟨hok, m, to', hsc, hres⟩
            · have e0 : (c != 0) = true := by simpa using h3
              have e15 : (c != 15) = true := by simpa using h4
              have hte : (te == 0) = true := by rw [h2]; rfl
              obtain rfl : x = ⟨secs, pend, off, a3⟩ := h1
              clear hcase h2 h3 h4
              dsimp only at *
              obtain ⟨d0, d1, d2, d3, df⟩ := (M.out.get 0 rfl).four
              obtain ⟨e0, e1, e2, e3, ef⟩ := (M.out.get 3 rfl).four
              go_wp2_with fail
              refine (same_self ⟨secs, pend, off, a3⟩ _ _ _ (M.out.view 0 rfl) (M.out.view 1 rfl)).mono ?_
              rintro e w5 ⟨rfl, b9⟩
              replace M := hid (M.out.below b9)
              clear b9
              clear d0 d1 d2 d3 df e0 e1 e2 e3 ef
              go_wp2_with fail
              go_ret
              exact ⟨rfl, M.out.bel⟩
            · have hcr := hid (fun v u W (h : DiskV W v x) (g : BoolsV W u kp) => (show crashE x kp = (crashD x kp, 0) by unfold crashE; rw [if_pos hok]) ▸ crash_any x v u kp W h g)
              generalize crashD x kp = y at hcr hsc
              have hs2 := hid (fun v W (h : DiskV W v y) => hsc ▸ scan_any y v ⟨F, S⟩ f.epoch W h hr.out)
              rw [show rgV ⟨F, S⟩ = .agg #[.int .i64 (F : Nat), .int .i64 (S : Nat)] from rfl] at hs2
              clear hcase hok hsc
              rcases hres with ⟨h15, hm, hto⟩ | ⟨⟨h0, hte⟩ | h15, t, hm, hto, hold⟩
              · obtain rfl : c = 15 := h15
                have hm' := hm.symm
                have hto' := hto.symm
                clear hm hto
                subst hm' hto'
                obtain ⟨e0, e1, e2, e3, ef⟩ := (M.out.get 3 rfl).four
                go_wp2_with fail
                (with_reducible refine (hcr.out _ _ _ (M.out.view 1 rfl) (hkp.out.below M.out.bel)).mono ?_)
                rintro e5 w5 hr5
                obtain ⟨so5, sc5, po5, pc5, rfl, o5, b5⟩ := hr5.open
                dsimp only at o5
                replace M := hid (M.out.res o5 b5)
                clear hr5 hcr o5 b5
                clear e0 e1 e2 e3 ef
                obtain ⟨e0, e1, e2, e3, ef⟩ := (M.out.get 3 rfl).four
                dsimp only
                go_upto_region 19 with fail
                clear e0 e1 e2 e3 ef
                replace M := hid ((((M.out.put 3 rfl (by decide) (by decide) (by decide) 0 (.slice so5 y.secs.length sc5)).put 3 rfl (by decide) (by decide) (by decide) 1 (.slice po5 y.pend.length pc5)).put 3 rfl (by decide) (by decide) (by decide) 2 (.bool y.off)).put 3 rfl (by decide) (by decide) (by decide) 3 (.int .i64 y.fuse))
                generalize (((w5.setCell ⟨n5, 0, none⟩ (.slice so5 y.secs.length sc5)).setCell ⟨n5, 1, none⟩ (.slice po5 y.pend.length pc5)).setCell ⟨n5, 2, none⟩ (.bool y.off)).setCell ⟨n5, 3, none⟩ (.int .i64 y.fuse) = X5 at M ⊢
                obtain ⟨e0, e1, e2, e3, ef⟩ := (M.out.get 3 rfl).four
                obtain ⟨q0, q1, qf⟩ := (M.out.get 1 rfl).two
                obtain ⟨f0, f1, f2, f3, ff⟩ := (M.out.get 2 rfl).four
                go_wp2_with fail
                (with_reducible refine (hs2.out _ _ (M.out.view 2 rfl)).mono ?_)
                rintro e6 w6 ⟨ao6, cap6, rfl, o6, b6⟩
                replace M := hid (M.out.below b6)
                have g2 := hid (FrsV.own (l := l) o6 rfl)
                clear e0 e1 e2 e3 ef q0 q1 qf f0 f1 f2 f3 ff
                clear b6 hs2 o6
                dsimp only
                obtain ⟨hcap6, _⟩ : l.length ≤ cap6 ∧ cap6 ≤ maxLen := by
                  obtain ⟨ao', cap', hq, h1, h2⟩ := SlV.form g2.out
                  simp only [Value.slice.injEq] at hq
                  obtain ⟨-, -, rfl⟩ := hq
                  exact ⟨h1, h2⟩
                have g1 := hid (FrsV.own (l := l) M.out.row rfl)
                have hlc : (l.length : Int) ≤ (cap6 : Int) := by omega
                go_wp2_with fail
                refine (fsame_any l _ _ _ g2.out g1.out).mono ?_
                rintro e7 w7 ⟨rfl, bw⟩
                replace M := hid (M.out.below bw)
                clear bw hlc hcap6 g1 g2
                go_wp2_with fail
                go_ret
                exact ⟨rfl, M.out.bel⟩
              · obtain rfl : c = 0 := h0
                subst hte
                replace hold := hid hold
                obtain ⟨e0, e1, e2, e3, ef⟩ := (M.out.get 3 rfl).four
                go_wp2_with fail
                (with_reducible refine (hcr.out _ _ _ (M.out.view 1 rfl) (hkp.out.below M.out.bel)).mono ?_)
                rintro e5 w5 hr5
                obtain ⟨so5, sc5, po5, pc5, rfl, o5, b5⟩ := hr5.open
                dsimp only at o5
                replace M := hid (M.out.res o5 b5)
                clear hr5 hcr o5 b5
                clear e0 e1 e2 e3 ef
                obtain ⟨e0, e1, e2, e3, ef⟩ := (M.out.get 3 rfl).four
                dsimp only
                go_upto_region 19 with fail
                clear e0 e1 e2 e3 ef
                replace M := hid ((((M.out.put 3 rfl (by decide) (by decide) (by decide) 0 (.slice so5 y.secs.length sc5)).put 3 rfl (by decide) (by decide) (by decide) 1 (.slice po5 y.pend.length pc5)).put 3 rfl (by decide) (by decide) (by decide) 2 (.bool y.off)).put 3 rfl (by decide) (by decide) (by decide) 3 (.int .i64 y.fuse))
                generalize (((w5.setCell ⟨n5, 0, none⟩ (.slice so5 y.secs.length sc5)).setCell ⟨n5, 1, none⟩ (.slice po5 y.pend.length pc5)).setCell ⟨n5, 2, none⟩ (.bool y.off)).setCell ⟨n5, 3, none⟩ (.int .i64 y.fuse) = X5 at M ⊢
                obtain ⟨e0, e1, e2, e3, ef⟩ := (M.out.get 3 rfl).four
                obtain ⟨q0, q1, qf⟩ := (M.out.get 1 rfl).two
                obtain ⟨f0, f1, f2, f3, ff⟩ := (M.out.get 2 rfl).four
                go_wp2_with fail
                (with_reducible refine (hs2.out _ _ (M.out.view 2 rfl)).mono ?_)
                rintro e6 w6 ⟨ao6, cap6, rfl, o6, b6⟩
                replace M := hid (M.out.below b6)
                have g2 := hid (FrsV.own (l := m) o6 rfl)
                clear e0 e1 e2 e3 ef q0 q1 qf f0 f1 f2 f3 ff
                clear b6 hs2 o6
                dsimp only
                obtain ⟨hcap6, _⟩ : m.length ≤ cap6 ∧ cap6 ≤ maxLen := by
                  obtain ⟨ao', cap', hq, h1, h2⟩ := SlV.form g2.out
                  simp only [Value.slice.injEq] at hq
                  obtain ⟨-, -, rfl⟩ := hq
                  exact ⟨h1, h2⟩
                have g1 := hid (FrsV.own (l := l) M.out.row rfl)
                have hml : m.length = l.length + 1 + t.length := by rw [hm]; simp; omega
                have hlc : (l.length : Int) ≤ (cap6 : Int) := by omega
                have gp := hid (FrsV.take g2.out hm)
                have hmf := hid (show ∃ h : l.length < m.length, m[l.length] = ⟨f.kind, f.epoch, l.length, f.pay⟩ from ⟨by omega, by simp [hm]⟩)
                have i1 : decide (m.length < l.length) = false := by rw [decide_eq_false_iff_not]; omega
                have i2 : ((m.length : Int) == (l.length : Int)) = false := by rw [beq_eq_false_iff_ne]; omega
                have i3 : (l.length : Int) < (m.length : Int) := by omega
                have i4 : (0 : Int) ≤ (l.length : Int) := by omega
                have hml' := hid hml
                clear hm hml
                go_wp2_with fail
                refine (fsame_any l _ _ _ gp.out g1.out).mono ?_
                rintro e7 w7 ⟨rfl, bw⟩
                replace M := hid (M.out.below bw)
                replace g2 := hid (g2.out.below bw)
                clear bw hlc hcap6 g1 gp
                obtain ⟨gb, goff, gcap, hq, hgb, hgc⟩ := g2.out.open (by have := hml'.out; omega)
                simp only [Value.slice.injEq] at hq
                obtain ⟨rfl, _, rfl⟩ := hq
                obtain ⟨hlt9, hmf9⟩ := hmf.out
                obtain ⟨x0, x1, x2, x3⟩ := hgc l.length hlt9
                rw [hmf9] at x0 x1 x2 x3
                dsimp only at x0 x1 x2 x3
                clear hgc hmf hmf9 g2
                obtain ⟨f0, f1, f2, f3, ff⟩ := (M.out.get 2 rfl).four
                have hpp : (f.pay.toList == f.pay.toList) = true := by simp
                go_wp2_with fail
                go_quiet (fail)
                rename_i nq
                replace M := hid (M.out.below (below_drewN (Below.refl w7.heap.size w7) nq))
                generalize w7.drewN nq = w8 at M ⊢
                clear x0 x1 x2 x3 hgb f0 f1 f2 f3 ff
                have wl : IntKind.i64.wrap ((l.length : Int) + 1) = (l.length : Int) + 1 := by rw [IntWalk.i64_in _ (by omega)]
                cases t with
                | nil =>
                  have i5 : ((m.length : Int) == (l.length : Int) + 1) = true := by rw [beq_iff_eq]; have := hml'.out; simp at this; omega
                  obtain rfl : to' = _ := hto rfl
                  clear hold
                  go_wp2_with fail
                  go_ret
                  exact ⟨by simp, M.out.bel⟩
                | cons t0 t1 =>
                  have i5 : ((m.length : Int) == (l.length : Int) + 1) = false := by rw [beq_eq_false_iff_ne]; have := hml'.out; simp at this; omega
                  have i6 : decide ((l.length : Int) + 1 < (m.length : Int)) = true := by rw [decide_eq_true_iff]; have := hml'.out; simp at this; omega
                  have hel := hid (helder.out _ _ at1 ⟨f.kind, f.epoch, l.length, f.pay⟩ (M.out.view 0 rfl) (hold.out (by simp)))
                  rw [show rgV ⟨F, S⟩ = .agg #[.int .i64 (F : Nat), .int .i64 (S : Nat)] from rfl] at hel
                  rw [show frV ⟨f.kind, f.epoch, l.length, f.pay⟩ = .agg #[.int .u8 f.kind, .int .u64 f.epoch, .int .u64 (l.length : Nat), .string f.pay] from rfl] at hel
                  clear hold hto
                  obtain ⟨d0, d1, d2, d3, df⟩ := (M.out.get 0 rfl).four
                  obtain ⟨q0, q1, qf⟩ := (M.out.get 1 rfl).two
                  obtain ⟨f0, f1, f2, f3, ff⟩ := (M.out.get 2 rfl).four
                  go_wp2_with fail
                  refine hel.out.mono ?_
                  rintro e9 w9 ⟨rfl, bw⟩
                  replace M := hid (M.out.below bw)
                  clear bw d0 d1 d2 d3 df q0 q1 qf f0 f1 f2 f3 ff
                  go_wp2_with fail
                  go_ret
                  exact ⟨by simp, M.out.bel⟩
              · obtain rfl : c = 15 := h15
                replace hold := hid hold
                obtain ⟨e0, e1, e2, e3, ef⟩ := (M.out.get 3 rfl).four
                go_wp2_with fail
                (with_reducible refine (hcr.out _ _ _ (M.out.view 1 rfl) (hkp.out.below M.out.bel)).mono ?_)
                rintro e5 w5 hr5
                obtain ⟨so5, sc5, po5, pc5, rfl, o5, b5⟩ := hr5.open
                dsimp only at o5
                replace M := hid (M.out.res o5 b5)
                clear hr5 hcr o5 b5
                clear e0 e1 e2 e3 ef
                obtain ⟨e0, e1, e2, e3, ef⟩ := (M.out.get 3 rfl).four
                dsimp only
                go_upto_region 19 with fail
                clear e0 e1 e2 e3 ef
                replace M := hid ((((M.out.put 3 rfl (by decide) (by decide) (by decide) 0 (.slice so5 y.secs.length sc5)).put 3 rfl (by decide) (by decide) (by decide) 1 (.slice po5 y.pend.length pc5)).put 3 rfl (by decide) (by decide) (by decide) 2 (.bool y.off)).put 3 rfl (by decide) (by decide) (by decide) 3 (.int .i64 y.fuse))
                generalize (((w5.setCell ⟨n5, 0, none⟩ (.slice so5 y.secs.length sc5)).setCell ⟨n5, 1, none⟩ (.slice po5 y.pend.length pc5)).setCell ⟨n5, 2, none⟩ (.bool y.off)).setCell ⟨n5, 3, none⟩ (.int .i64 y.fuse) = X5 at M ⊢
                obtain ⟨e0, e1, e2, e3, ef⟩ := (M.out.get 3 rfl).four
                obtain ⟨q0, q1, qf⟩ := (M.out.get 1 rfl).two
                obtain ⟨f0, f1, f2, f3, ff⟩ := (M.out.get 2 rfl).four
                go_wp2_with fail
                (with_reducible refine (hs2.out _ _ (M.out.view 2 rfl)).mono ?_)
                rintro e6 w6 ⟨ao6, cap6, rfl, o6, b6⟩
                replace M := hid (M.out.below b6)
                have g2 := hid (FrsV.own (l := m) o6 rfl)
                clear e0 e1 e2 e3 ef q0 q1 qf f0 f1 f2 f3 ff
                clear b6 hs2 o6
                dsimp only
                obtain ⟨hcap6, _⟩ : m.length ≤ cap6 ∧ cap6 ≤ maxLen := by
                  obtain ⟨ao', cap', hq, h1, h2⟩ := SlV.form g2.out
                  simp only [Value.slice.injEq] at hq
                  obtain ⟨-, -, rfl⟩ := hq
                  exact ⟨h1, h2⟩
                have g1 := hid (FrsV.own (l := l) M.out.row rfl)
                have hml : m.length = l.length + 1 + t.length := by rw [hm]; simp; omega
                have hlc : (l.length : Int) ≤ (cap6 : Int) := by omega
                have gp := hid (FrsV.take g2.out hm)
                have hmf := hid (show ∃ h : l.length < m.length, m[l.length] = ⟨f.kind, f.epoch, l.length, f.pay⟩ from ⟨by omega, by simp [hm]⟩)
                have i1 : decide (m.length < l.length) = false := by rw [decide_eq_false_iff_not]; omega
                have i2 : ((m.length : Int) == (l.length : Int)) = false := by rw [beq_eq_false_iff_ne]; omega
                have i3 : (l.length : Int) < (m.length : Int) := by omega
                have i4 : (0 : Int) ≤ (l.length : Int) := by omega
                have hml' := hid hml
                clear hm hml
                go_wp2_with fail
                refine (fsame_any l _ _ _ gp.out g1.out).mono ?_
                rintro e7 w7 ⟨rfl, bw⟩
                replace M := hid (M.out.below bw)
                replace g2 := hid (g2.out.below bw)
                clear bw hlc hcap6 g1 gp
                obtain ⟨gb, goff, gcap, hq, hgb, hgc⟩ := g2.out.open (by have := hml'.out; omega)
                simp only [Value.slice.injEq] at hq
                obtain ⟨rfl, _, rfl⟩ := hq
                obtain ⟨hlt9, hmf9⟩ := hmf.out
                obtain ⟨x0, x1, x2, x3⟩ := hgc l.length hlt9
                rw [hmf9] at x0 x1 x2 x3
                dsimp only at x0 x1 x2 x3
                clear hgc hmf hmf9 g2
                obtain ⟨f0, f1, f2, f3, ff⟩ := (M.out.get 2 rfl).four
                have hpp : (f.pay.toList == f.pay.toList) = true := by simp
                go_wp2_with fail
                go_quiet (fail)
                rename_i nq
                replace M := hid (M.out.below (below_drewN (Below.refl w7.heap.size w7) nq))
                generalize w7.drewN nq = w8 at M ⊢
                clear x0 x1 x2 x3 hgb f0 f1 f2 f3 ff
                have wl : IntKind.i64.wrap ((l.length : Int) + 1) = (l.length : Int) + 1 := by rw [IntWalk.i64_in _ (by omega)]
                cases t with
                | nil =>
                  have i5 : ((m.length : Int) == (l.length : Int) + 1) = true := by rw [beq_iff_eq]; have := hml'.out; simp at this; omega
                  obtain rfl : to' = _ := hto rfl
                  clear hold
                  go_wp2_with fail
                  go_ret
                  exact ⟨by simp, M.out.bel⟩
                | cons t0 t1 =>
                  have i5 : ((m.length : Int) == (l.length : Int) + 1) = false := by rw [beq_eq_false_iff_ne]; have := hml'.out; simp at this; omega
                  have i6 : decide ((l.length : Int) + 1 < (m.length : Int)) = true := by rw [decide_eq_true_iff]; have := hml'.out; simp at this; omega
                  have hel := hid (helder.out _ _ at1 ⟨f.kind, f.epoch, l.length, f.pay⟩ (M.out.view 0 rfl) (hold.out (by simp)))
                  rw [show rgV ⟨F, S⟩ = .agg #[.int .i64 (F : Nat), .int .i64 (S : Nat)] from rfl] at hel
                  rw [show frV ⟨f.kind, f.epoch, l.length, f.pay⟩ = .agg #[.int .u8 f.kind, .int .u64 f.epoch, .int .u64 (l.length : Nat), .string f.pay] from rfl] at hel
                  clear hold hto
                  obtain ⟨d0, d1, d2, d3, df⟩ := (M.out.get 0 rfl).four
                  obtain ⟨q0, q1, qf⟩ := (M.out.get 1 rfl).two
                  obtain ⟨f0, f1, f2, f3, ff⟩ := (M.out.get 2 rfl).four
                  go_wp2_with fail
                  refine hel.out.mono ?_
                  rintro e9 w9 ⟨rfl, bw⟩
                  replace M := hid (M.out.below bw)
                  clear bw d0 d1 d2 d3 df q0 q1 qf f0 f1 f2 f3 ff
                  go_wp2_with fail
                  go_ret
                  exact ⟨by simp, M.out.bel⟩
        · have hai : ¬ (at1 : Int) < (S : Int) := by omega
          have hgd := hid (show at1 < S → (headE (HH at1).data.toList).2 = 0 → ¬ ((headE (HH at1).data.toList).1.epoch = f.epoch ∧ (headE (HH at1).data.toList).1.seq = l.length) from fun h => absurd h hat)
          clear hat
          obtain ⟨q0, q1, qf⟩ := (M.out.get 1 rfl).two
          go_upto_region 14 with fail
          replace M := hid (M.out.cut 3 0 1)
          obtain ⟨d0, d1, d2, d3, df⟩ := (M.out.get 0 rfl).four
          go_upto_region 15 with fail
          clear d0 d1 d2 d3 df
          replace M := hid (M.out.put 0 rfl (by decide) (by decide) (by decide) 3 (.int .i64 a3))
          generalize Y0.setCell ⟨w.heap.size, 3, none⟩ (.int .i64 a3) = Y1 at M ⊢
          replace M := hid (M.out.refuse2 0 rfl a3)
          dsimp only at M
          have hap := hid (fun v W (h : DiskV W v ⟨secs, pend, off, a3⟩) => append_any ⟨secs, pend, off, a3⟩ v ⟨F, S⟩ at1 ⟨f.kind, f.epoch, l.length, f.pay⟩ W h hfw.out hr.out (WalkArith.wf_i64 ⟨by omega, by omega⟩) hfn.out)
          rw [show rgV ⟨F, S⟩ = .agg #[.int .i64 (F : Nat), .int .i64 (S : Nat)] from rfl] at hap
          rw [show frV ⟨f.kind, f.epoch, l.length, f.pay⟩ = .agg #[.int .u8 f.kind, .int .u64 f.epoch, .int .u64 (l.length : Nat), .string f.pay] from rfl] at hap
          have hcase := hid (hwh.out hgd.out kp)
          obtain ⟨Y, hY⟩ : ∃ Y, appE ⟨secs, pend, off, a3⟩ ⟨F, S⟩ at1 ⟨f.kind, f.epoch, l.length, f.pay⟩ = Y := ⟨_, rfl⟩
          rw [hY] at hap hcase
          clear hY hgd hwh
          obtain ⟨x, te, c⟩ := Y
          dsimp only at hcase
          obtain ⟨d0, d1, d2, d3, df⟩ := (M.out.get 0 rfl).four
          obtain ⟨q0, q1, qf⟩ := (M.out.get 1 rfl).two
          obtain ⟨f0, f1, f2, f3, ff⟩ := (M.out.get 2 rfl).four
          go_wp2_with fail
          clear d0 d1 d2 d3 df q0 q1 qf f0 f1 f2 f3 ff
          (with_reducible refine (hap.out _ _ (M.out.view 0 rfl)).mono ?_)
          rintro e3 w3 hr3
          obtain ⟨so4, sc4, po4, pc4, rfl, o4, b4⟩ := hr3.open
          dsimp only at o4
          replace M := hid (M.out.res o4 b4)
          clear hr3 hap o4 b4
          dsimp only
          go_upto_region 16 with fail
          replace M := hid (M.out.push [.slice so4 x.secs.length sc4, .slice po4 x.pend.length pc4, .bool x.off, .int .i64 x.fuse] 25 w3.heap.size rfl)
          generalize w3.alloc (.cells #[.slice so4 x.secs.length sc4, .slice po4 x.pend.length pc4, .bool x.off, .int .i64 x.fuse] 25) = X4 at M ⊢
          generalize w3.heap.size = n5 at M ⊢
          rcases hcase.out with ⟨h1, h2, h3, h4⟩ | ⟨hok, m, to', hsc, hres⟩
          · have e0 : (c != 0) = true := by simpa using h3
            have e15 : (c != 15) = true := by simpa using h4
            have hte : (te == 0) = true := by rw [h2]; rfl
            obtain rfl : x = ⟨secs, pend, off, a3⟩ := h1
            clear hcase h2 h3 h4
            dsimp only at *
            obtain ⟨d0, d1, d2, d3, df⟩ := (M.out.get 0 rfl).four
            obtain ⟨e0, e1, e2, e3, ef⟩ := (M.out.get 3 rfl).four
            go_wp2_with fail
            refine (same_self ⟨secs, pend, off, a3⟩ _ _ _ (M.out.view 0 rfl) (M.out.view 1 rfl)).mono ?_
            rintro e w5 ⟨rfl, b9⟩
            replace M := hid (M.out.below b9)
            clear b9
            clear d0 d1 d2 d3 df e0 e1 e2 e3 ef
            go_wp2_with fail
            go_ret
            exact ⟨rfl, M.out.bel⟩
          · have hcr := hid (fun v u W (h : DiskV W v x) (g : BoolsV W u kp) => (show crashE x kp = (crashD x kp, 0) by unfold crashE; rw [if_pos hok]) ▸ crash_any x v u kp W h g)
            generalize crashD x kp = y at hcr hsc
            have hs2 := hid (fun v W (h : DiskV W v y) => hsc ▸ scan_any y v ⟨F, S⟩ f.epoch W h hr.out)
            rw [show rgV ⟨F, S⟩ = .agg #[.int .i64 (F : Nat), .int .i64 (S : Nat)] from rfl] at hs2
            clear hcase hok hsc
            rcases hres with ⟨h15, hm, hto⟩ | ⟨⟨h0, hte⟩ | h15, t, hm, hto, hold⟩
            · obtain rfl : c = 15 := h15
              have hm' := hm.symm
              have hto' := hto.symm
              clear hm hto
              subst hm' hto'
              obtain ⟨e0, e1, e2, e3, ef⟩ := (M.out.get 3 rfl).four
              go_wp2_with fail
              (with_reducible refine (hcr.out _ _ _ (M.out.view 1 rfl) (hkp.out.below M.out.bel)).mono ?_)
              rintro e5 w5 hr5
              obtain ⟨so5, sc5, po5, pc5, rfl, o5, b5⟩ := hr5.open
              dsimp only at o5
              replace M := hid (M.out.res o5 b5)
              clear hr5 hcr o5 b5
              clear e0 e1 e2 e3 ef
              obtain ⟨e0, e1, e2, e3, ef⟩ := (M.out.get 3 rfl).four
              dsimp only
              go_upto_region 19 with fail
              clear e0 e1 e2 e3 ef
              replace M := hid ((((M.out.put 3 rfl (by decide) (by decide) (by decide) 0 (.slice so5 y.secs.length sc5)).put 3 rfl (by decide) (by decide) (by decide) 1 (.slice po5 y.pend.length pc5)).put 3 rfl (by decide) (by decide) (by decide) 2 (.bool y.off)).put 3 rfl (by decide) (by decide) (by decide) 3 (.int .i64 y.fuse))
              generalize (((w5.setCell ⟨n5, 0, none⟩ (.slice so5 y.secs.length sc5)).setCell ⟨n5, 1, none⟩ (.slice po5 y.pend.length pc5)).setCell ⟨n5, 2, none⟩ (.bool y.off)).setCell ⟨n5, 3, none⟩ (.int .i64 y.fuse) = X5 at M ⊢
              obtain ⟨e0, e1, e2, e3, ef⟩ := (M.out.get 3 rfl).four
              obtain ⟨q0, q1, qf⟩ := (M.out.get 1 rfl).two
              obtain ⟨f0, f1, f2, f3, ff⟩ := (M.out.get 2 rfl).four
              go_wp2_with fail
              (with_reducible refine (hs2.out _ _ (M.out.view 2 rfl)).mono ?_)
              rintro e6 w6 ⟨ao6, cap6, rfl, o6, b6⟩
              replace M := hid (M.out.below b6)
              have g2 := hid (FrsV.own (l := l) o6 rfl)
              clear e0 e1 e2 e3 ef q0 q1 qf f0 f1 f2 f3 ff
              clear b6 hs2 o6
              dsimp only
              obtain ⟨hcap6, _⟩ : l.length ≤ cap6 ∧ cap6 ≤ maxLen := by
                obtain ⟨ao', cap', hq, h1, h2⟩ := SlV.form g2.out
                simp only [Value.slice.injEq] at hq
                obtain ⟨-, -, rfl⟩ := hq
                exact ⟨h1, h2⟩
              have g1 := hid (FrsV.own (l := l) M.out.row rfl)
              have hlc : (l.length : Int) ≤ (cap6 : Int) := by omega
              go_wp2_with fail
              refine (fsame_any l _ _ _ g2.out g1.out).mono ?_
              rintro e7 w7 ⟨rfl, bw⟩
              replace M := hid (M.out.below bw)
              clear bw hlc hcap6 g1 g2
              go_wp2_with fail
              go_ret
              exact ⟨rfl, M.out.bel⟩
            · obtain rfl : c = 0 := h0
              subst hte
              replace hold := hid hold
              obtain ⟨e0, e1, e2, e3, ef⟩ := (M.out.get 3 rfl).four
              go_wp2_with fail
              (with_reducible refine (hcr.out _ _ _ (M.out.view 1 rfl) (hkp.out.below M.out.bel)).mono ?_)
              rintro e5 w5 hr5
              obtain ⟨so5, sc5, po5, pc5, rfl, o5, b5⟩ := hr5.open
              dsimp only at o5
              replace M := hid (M.out.res o5 b5)
              clear hr5 hcr o5 b5
              clear e0 e1 e2 e3 ef
              obtain ⟨e0, e1, e2, e3, ef⟩ := (M.out.get 3 rfl).four
              dsimp only
              go_upto_region 19 with fail
              clear e0 e1 e2 e3 ef
              replace M := hid ((((M.out.put 3 rfl (by decide) (by decide) (by decide) 0 (.slice so5 y.secs.length sc5)).put 3 rfl (by decide) (by decide) (by decide) 1 (.slice po5 y.pend.length pc5)).put 3 rfl (by decide) (by decide) (by decide) 2 (.bool y.off)).put 3 rfl (by decide) (by decide) (by decide) 3 (.int .i64 y.fuse))
              generalize (((w5.setCell ⟨n5, 0, none⟩ (.slice so5 y.secs.length sc5)).setCell ⟨n5, 1, none⟩ (.slice po5 y.pend.length pc5)).setCell ⟨n5, 2, none⟩ (.bool y.off)).setCell ⟨n5, 3, none⟩ (.int .i64 y.fuse) = X5 at M ⊢
              obtain ⟨e0, e1, e2, e3, ef⟩ := (M.out.get 3 rfl).four
              obtain ⟨q0, q1, qf⟩ := (M.out.get 1 rfl).two
              obtain ⟨f0, f1, f2, f3, ff⟩ := (M.out.get 2 rfl).four
              go_wp2_with fail
              (with_reducible refine (hs2.out _ _ (M.out.view 2 rfl)).mono ?_)
              rintro e6 w6 ⟨ao6, cap6, rfl, o6, b6⟩
              replace M := hid (M.out.below b6)
              have g2 := hid (FrsV.own (l := m) o6 rfl)
              clear e0 e1 e2 e3 ef q0 q1 qf f0 f1 f2 f3 ff
              clear b6 hs2 o6
              dsimp only
              obtain ⟨hcap6, _⟩ : m.length ≤ cap6 ∧ cap6 ≤ maxLen := by
                obtain ⟨ao', cap', hq, h1, h2⟩ := SlV.form g2.out
                simp only [Value.slice.injEq] at hq
                obtain ⟨-, -, rfl⟩ := hq
                exact ⟨h1, h2⟩
              have g1 := hid (FrsV.own (l := l) M.out.row rfl)
              have hml : m.length = l.length + 1 + t.length := by rw [hm]; simp; omega
              have hlc : (l.length : Int) ≤ (cap6 : Int) := by omega
              have gp := hid (FrsV.take g2.out hm)
              have hmf := hid (show ∃ h : l.length < m.length, m[l.length] = ⟨f.kind, f.epoch, l.length, f.pay⟩ from ⟨by omega, by simp [hm]⟩)
              have i1 : decide (m.length < l.length) = false := by rw [decide_eq_false_iff_not]; omega
              have i2 : ((m.length : Int) == (l.length : Int)) = false := by rw [beq_eq_false_iff_ne]; omega
              have i3 : (l.length : Int) < (m.length : Int) := by omega
              have i4 : (0 : Int) ≤ (l.length : Int) := by omega
              have hml' := hid hml
              clear hm hml
              go_wp2_with fail
              refine (fsame_any l _ _ _ gp.out g1.out).mono ?_
              rintro e7 w7 ⟨rfl, bw⟩
              replace M := hid (M.out.below bw)
              replace g2 := hid (g2.out.below bw)
              clear bw hlc hcap6 g1 gp
              obtain ⟨gb, goff, gcap, hq, hgb, hgc⟩ := g2.out.open (by have := hml'.out; omega)
              simp only [Value.slice.injEq] at hq
              obtain ⟨rfl, _, rfl⟩ := hq
              obtain ⟨hlt9, hmf9⟩ := hmf.out
              obtain ⟨x0, x1, x2, x3⟩ := hgc l.length hlt9
              rw [hmf9] at x0 x1 x2 x3
              dsimp only at x0 x1 x2 x3
              clear hgc hmf hmf9 g2
              obtain ⟨f0, f1, f2, f3, ff⟩ := (M.out.get 2 rfl).four
              have hpp : (f.pay.toList == f.pay.toList) = true := by simp
              go_wp2_with fail
              go_quiet (fail)
              rename_i nq
              replace M := hid (M.out.below (below_drewN (Below.refl w7.heap.size w7) nq))
              generalize w7.drewN nq = w8 at M ⊢
              clear x0 x1 x2 x3 hgb f0 f1 f2 f3 ff
              have wl : IntKind.i64.wrap ((l.length : Int) + 1) = (l.length : Int) + 1 := by rw [IntWalk.i64_in _ (by omega)]
              cases t with
              | nil =>
                have i5 : ((m.length : Int) == (l.length : Int) + 1) = true := by rw [beq_iff_eq]; have := hml'.out; simp at this; omega
                obtain rfl : to' = _ := hto rfl
                clear hold
                go_wp2_with fail
                go_ret
                exact ⟨by simp, M.out.bel⟩
              | cons t0 t1 =>
                have i5 : ((m.length : Int) == (l.length : Int) + 1) = false := by rw [beq_eq_false_iff_ne]; have := hml'.out; simp at this; omega
                have i6 : decide ((l.length : Int) + 1 < (m.length : Int)) = true := by rw [decide_eq_true_iff]; have := hml'.out; simp at this; omega
                have hel := hid (helder.out _ _ at1 ⟨f.kind, f.epoch, l.length, f.pay⟩ (M.out.view 0 rfl) (hold.out (by simp)))
                rw [show rgV ⟨F, S⟩ = .agg #[.int .i64 (F : Nat), .int .i64 (S : Nat)] from rfl] at hel
                rw [show frV ⟨f.kind, f.epoch, l.length, f.pay⟩ = .agg #[.int .u8 f.kind, .int .u64 f.epoch, .int .u64 (l.length : Nat), .string f.pay] from rfl] at hel
                clear hold hto
                obtain ⟨d0, d1, d2, d3, df⟩ := (M.out.get 0 rfl).four
                obtain ⟨q0, q1, qf⟩ := (M.out.get 1 rfl).two
                obtain ⟨f0, f1, f2, f3, ff⟩ := (M.out.get 2 rfl).four
                go_wp2_with fail
                refine hel.out.mono ?_
                rintro e9 w9 ⟨rfl, bw⟩
                replace M := hid (M.out.below bw)
                clear bw d0 d1 d2 d3 df q0 q1 qf f0 f1 f2 f3 ff
                go_wp2_with fail
                go_ret
                exact ⟨by simp, M.out.bel⟩
            · obtain rfl : c = 15 := h15
              replace hold := hid hold
              obtain ⟨e0, e1, e2, e3, ef⟩ := (M.out.get 3 rfl).four
              go_wp2_with fail
              (with_reducible refine (hcr.out _ _ _ (M.out.view 1 rfl) (hkp.out.below M.out.bel)).mono ?_)
              rintro e5 w5 hr5
              obtain ⟨so5, sc5, po5, pc5, rfl, o5, b5⟩ := hr5.open
              dsimp only at o5
              replace M := hid (M.out.res o5 b5)
              clear hr5 hcr o5 b5
              clear e0 e1 e2 e3 ef
              obtain ⟨e0, e1, e2, e3, ef⟩ := (M.out.get 3 rfl).four
              dsimp only
              go_upto_region 19 with fail
              clear e0 e1 e2 e3 ef
              replace M := hid ((((M.out.put 3 rfl (by decide) (by decide) (by decide) 0 (.slice so5 y.secs.length sc5)).put 3 rfl (by decide) (by decide) (by decide) 1 (.slice po5 y.pend.length pc5)).put 3 rfl (by decide) (by decide) (by decide) 2 (.bool y.off)).put 3 rfl (by decide) (by decide) (by decide) 3 (.int .i64 y.fuse))
              generalize (((w5.setCell ⟨n5, 0, none⟩ (.slice so5 y.secs.length sc5)).setCell ⟨n5, 1, none⟩ (.slice po5 y.pend.length pc5)).setCell ⟨n5, 2, none⟩ (.bool y.off)).setCell ⟨n5, 3, none⟩ (.int .i64 y.fuse) = X5 at M ⊢
              obtain ⟨e0, e1, e2, e3, ef⟩ := (M.out.get 3 rfl).four
              obtain ⟨q0, q1, qf⟩ := (M.out.get 1 rfl).two
              obtain ⟨f0, f1, f2, f3, ff⟩ := (M.out.get 2 rfl).four
              go_wp2_with fail
              (with_reducible refine (hs2.out _ _ (M.out.view 2 rfl)).mono ?_)
              rintro e6 w6 ⟨ao6, cap6, rfl, o6, b6⟩
              replace M := hid (M.out.below b6)
              have g2 := hid (FrsV.own (l := m) o6 rfl)
              clear e0 e1 e2 e3 ef q0 q1 qf f0 f1 f2 f3 ff
              clear b6 hs2 o6
              dsimp only
              obtain ⟨hcap6, _⟩ : m.length ≤ cap6 ∧ cap6 ≤ maxLen := by
                obtain ⟨ao', cap', hq, h1, h2⟩ := SlV.form g2.out
                simp only [Value.slice.injEq] at hq
                obtain ⟨-, -, rfl⟩ := hq
                exact ⟨h1, h2⟩
              have g1 := hid (FrsV.own (l := l) M.out.row rfl)
              have hml : m.length = l.length + 1 + t.length := by rw [hm]; simp; omega
              have hlc : (l.length : Int) ≤ (cap6 : Int) := by omega
              have gp := hid (FrsV.take g2.out hm)
              have hmf := hid (show ∃ h : l.length < m.length, m[l.length] = ⟨f.kind, f.epoch, l.length, f.pay⟩ from ⟨by omega, by simp [hm]⟩)
              have i1 : decide (m.length < l.length) = false := by rw [decide_eq_false_iff_not]; omega
              have i2 : ((m.length : Int) == (l.length : Int)) = false := by rw [beq_eq_false_iff_ne]; omega
              have i3 : (l.length : Int) < (m.length : Int) := by omega
              have i4 : (0 : Int) ≤ (l.length : Int) := by omega
              have hml' := hid hml
              clear hm hml
              go_wp2_with fail
              refine (fsame_any l _ _ _ gp.out g1.out).mono ?_
              rintro e7 w7 ⟨rfl, bw⟩
              replace M := hid (M.out.below bw)
              replace g2 := hid (g2.out.below bw)
              clear bw hlc hcap6 g1 gp
              obtain ⟨gb, goff, gcap, hq, hgb, hgc⟩ := g2.out.open (by have := hml'.out; omega)
              simp only [Value.slice.injEq] at hq
              obtain ⟨rfl, _, rfl⟩ := hq
              obtain ⟨hlt9, hmf9⟩ := hmf.out
              obtain ⟨x0, x1, x2, x3⟩ := hgc l.length hlt9
              rw [hmf9] at x0 x1 x2 x3
              dsimp only at x0 x1 x2 x3
              clear hgc hmf hmf9 g2
              obtain ⟨f0, f1, f2, f3, ff⟩ := (M.out.get 2 rfl).four
              have hpp : (f.pay.toList == f.pay.toList) = true := by simp
              go_wp2_with fail
              go_quiet (fail)
              rename_i nq
              replace M := hid (M.out.below (below_drewN (Below.refl w7.heap.size w7) nq))
              generalize w7.drewN nq = w8 at M ⊢
              clear x0 x1 x2 x3 hgb f0 f1 f2 f3 ff
              have wl : IntKind.i64.wrap ((l.length : Int) + 1) = (l.length : Int) + 1 := by rw [IntWalk.i64_in _ (by omega)]
              cases t with
              | nil =>
                have i5 : ((m.length : Int) == (l.length : Int) + 1) = true := by rw [beq_iff_eq]; have := hml'.out; simp at this; omega
                obtain rfl : to' = _ := hto rfl
                clear hold
                go_wp2_with fail
                go_ret
                exact ⟨by simp, M.out.bel⟩
              | cons t0 t1 =>
                have i5 : ((m.length : Int) == (l.length : Int) + 1) = false := by rw [beq_eq_false_iff_ne]; have := hml'.out; simp at this; omega
                have i6 : decide ((l.length : Int) + 1 < (m.length : Int)) = true := by rw [decide_eq_true_iff]; have := hml'.out; simp at this; omega
                have hel := hid (helder.out _ _ at1 ⟨f.kind, f.epoch, l.length, f.pay⟩ (M.out.view 0 rfl) (hold.out (by simp)))
                rw [show rgV ⟨F, S⟩ = .agg #[.int .i64 (F : Nat), .int .i64 (S : Nat)] from rfl] at hel
                rw [show frV ⟨f.kind, f.epoch, l.length, f.pay⟩ = .agg #[.int .u8 f.kind, .int .u64 f.epoch, .int .u64 (l.length : Nat), .string f.pay] from rfl] at hel
                clear hold hto
                obtain ⟨d0, d1, d2, d3, df⟩ := (M.out.get 0 rfl).four
                obtain ⟨q0, q1, qf⟩ := (M.out.get 1 rfl).two
                obtain ⟨f0, f1, f2, f3, ff⟩ := (M.out.get 2 rfl).four
                go_wp2_with fail
                refine hel.out.mono ?_
                rintro e9 w9 ⟨rfl, bw⟩
                replace M := hid (M.out.below bw)
                clear bw d0 d1 d2 d3 df q0 q1 qf f0 f1 f2 f3 ff
                go_wp2_with fail
                go_ret
                exact ⟨by simp, M.out.bel⟩
      · have hli : (l.length : Int) ≥ 1024 := by omega
        go_wp2_with fail
        go_ret
        exact ⟨rfl, M.out.bel⟩
    · have hsc0 : scanE y ⟨rf, rs⟩ f.epoch = ([], 0, walChk y ⟨rf, rs⟩) := by
        unfold scanE
        rw [if_pos hwc]
      rw [hsc0]
      replace M := hid (M.out.below b3)
      have e1 : (walChk y ⟨rf, rs⟩ != 0) = true := by simpa using hwc
      clear o3 b3 hsc0 hwc
      generalize walChk y ⟨rf, rs⟩ = c at e1 ⊢
      dsimp only
      go_wp2_with fail
      go_ret
      exact ⟨rfl, M.out.bel⟩
end Go.Proofs.Ytiegocbdgimimaa.walWhole
namespace Go.Proofs.Ytiegocbdgimimaa.walWhole
open Go.ChangeShapes Go.WideShapes Go.ChangeAt Go.RowKit
open Go.ChangeMaps (open_string shut_string)
set_option linter.unusedVariables false
theorem own : ownKnob Try.prog.godebug = none := by kernel_rfl
theorem laidOut : laidOutB Try.prog = true := by kernel_rfl
set_option maxRecDepth 100000 in
theorem lifted (os : Os) (started : os.Started) (H : Type) (enc : TypeId × Value → H) :
    ReturnsInHanded {} Try.checked os 4 .any (Rows.walWholeSpec.pre6 enc Try.prog Try.f4 Rows.walWholeRow.domain false) (Rows.walWholeSpec.post enc Try.prog Try.f4 false true false false) := by
  refine returnsInHanded_of_change_sized (C := Try.checked) own started (by kernel_rfl) Try.func4
    (ChangeSpec.witness6 (enc := enc) (C := Try.checked) false ⟨#[], #[.agg #[.slice none 0 0, .slice none 0 0, .bool false, .int .i64 0], .agg #[.int .i64 0, .int .i64 0], .agg #[.int .u8 0, .int .u64 0, .int .u64 0, .string ByteArray.empty], .int .i64 0, .slice none 0 0], []⟩ 8 (by kernel_rfl) (by kernel_rfl) (by kernel_rfl) (by kernel_rfl)) ?_
  intro W base args ds gs before hval0 hW hcnd hsz0 _
  have hsz : (DataW.weightsEach Try.prog (Try.f4.params.toList ++ Rows.walWholeSpec.plain.varTypes Try.prog) (ds ++ gs)).all (· ≤ reachBytes) = true := hsz0
  have hval : ∀ (j : Nat) t v, Try.f4.params[j]? = some t → args[j]? = some v → Value.okWide Try.prog W .any base t v := hval0
  have hW' := hW
  obtain ⟨p, q, hA0, hV, rfl, hfz, hnd⟩ := hW
  have hA : DataW.TrodAll enc Try.prog W 0 (fun _ => true) true Try.f4.params.toList args.toList ds p := hA0
  rw [Try.params4] at hA hval
  obtain ⟨v0, vs0, d0, ds0, p0, q0, hargs, rfl, rfl, h0, r0⟩ := trodAll_cons hA
  obtain ⟨v1, vs1, d1, ds1, p1, q1, rfl, rfl, rfl, h1, r1⟩ := trodAll_cons r0
  obtain ⟨v2, vs2, d2, ds2, p2, q2, rfl, rfl, rfl, h2, r2⟩ := trodAll_cons r1
  obtain ⟨v3, vs3, d3, ds3, p3, q3, rfl, rfl, rfl, h3, r3⟩ := trodAll_cons r2
  obtain ⟨v4, vs4, d4, ds4, p4, q4, rfl, rfl, rfl, h4, r4⟩ := trodAll_cons r3
  obtain ⟨rfl, rfl, rfl⟩ := trodAll_nil r4
  obtain rfl : args = #[v0, v1, v2, v3, v4] := by cases args; simp_all
  obtain ⟨rfl, rfl⟩ := trodVars_none hV
  have lt0 : ∀ x ∈ p0, x.block < W.heap.size := by obtain ⟨m, hm⟩ := h0; exact DataW.trod_lt m _ _ _ hm
  obtain ⟨a0, w0, f0⟩ := Sector.open_disk (hval 0 25 v0 rfl rfl) h0
  have lt1 : ∀ x ∈ p1, x.block < W.heap.size := by obtain ⟨m, hm⟩ := h1; exact DataW.trod_lt m _ _ _ hm
  obtain ⟨a1, rfl, w1⟩ := Wal.open_region (hval 1 27 v1 rfl rfl) h1
  have lt2 : ∀ x ∈ p2, x.block < W.heap.size := by obtain ⟨m, hm⟩ := h2; exact DataW.trod_lt m _ _ _ hm
  obtain ⟨a2, rfl, w2⟩ := Rec.open_frame (hval 2 30 v2 rfl rfl) h2
  obtain ⟨a3, rfl, rfl, rfl, w3⟩ := open_int Try.underlying3 (hval 3 3 v3 rfl rfl) h3
  have lt4 : ∀ x ∈ p4, x.block < W.heap.size := by obtain ⟨m, hm⟩ := h4; exact DataW.trod_lt m _ _ _ hm
  obtain ⟨a4, w4⟩ : ∃ l, Sector.BoolsV W v4 l := by
    obtain ⟨ao, ln, cp, rfl⟩ := okWide_slice Try.underlying38 (hval 4 38 v4 rfl rfl)
    obtain ⟨m, hm⟩ := h4
    exact Sector.open_bools' hm
  clear hA0 hval0
  refine (walk v0 a0 a1 a2 a3 v4 a4 W w0 f0 w1 w2 w3 w4).mono fun e W' ⟨he, bel⟩ => ?_
  subst he
  exact ⟨_, rfl, _, _, _, [], _, [], hW', trodAll_mk1 (shut_bool Try.underlying4 _), (trodAll_cons_mk (Below.trod laidOut (by kernel_rfl) (of_decide_eq_true (by kernel_rfl)) h0 bel lt0) (trodAll_cons_mk (Below.trod laidOut (by kernel_rfl) (of_decide_eq_true (by kernel_rfl)) h1 bel lt1) (trodAll_cons_mk (Below.trod laidOut (by kernel_rfl) (of_decide_eq_true (by kernel_rfl)) h2 bel lt2) (trodAll_cons_mk (shut_int Try.underlying3 w3) (trodAll_cons_mk (Below.trod laidOut (by kernel_rfl) (of_decide_eq_true (by kernel_rfl)) h4 bel lt4) trodAll_mk0))))), rfl, bel.frame _, fun h => by cases h⟩
theorem over : Rows.walWholeRow.holds Try.pinned (OpenSpec.ofChange Rows.walWholeSpec) :=
  OpenClaim.holds_of_wide 4 Try.f4 rfl rfl rfl rfl rfl rfl rfl ⟨rfl, rfl, rfl, rfl, rfl⟩ rfl rfl rfl rfl rfl (by kernel_rfl) Try.func4 (by kernel_rfl)
    (of_decide_eq_true (by kernel_rfl)) (by unfold Func.isWrapper; first | (rw [if_pos (by decide +kernel)]; kernel_rfl) | (rw [if_neg (by decide +kernel)]; exact ⟨rfl, rfl⟩))
    (fun os started H enc _ => lifted os started H enc)
theorem proved : Rows.WalWholeSaid := over
end Go.Proofs.Ytiegocbdgimimaa.walWhole
