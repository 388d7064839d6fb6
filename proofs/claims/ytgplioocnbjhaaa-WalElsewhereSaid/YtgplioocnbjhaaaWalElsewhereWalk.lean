/-
  WalElsewhere: the walk.
-/
import Derived.Test.YtgplioocnbjhaaaWalLives
import Derived.Test.YtgplioocnbjhaaaWalArgs
namespace Go.Proofs.Ytgplioocnbjhaaa.walElsewhere
open Go.ChangeShapes Go.WideShapes Go.ChangeAt Go.RowKit
open Go.Proofs.Ytgplioocnbjhaaa.Mem Go.Proofs.Ytgplioocnbjhaaa.Rec Go.Proofs.Ytgplioocnbjhaaa.Sector Go.Proofs.Ytgplioocnbjhaaa.Wal
set_option linter.unusedVariables false
set_option maxRecDepth 100000
theorem app_bad {d : Disk} {r : Rg} {a : Int} {f : Fr} (h : (appE d r a f).c ≠ 0) : (appE d r a f).at' = 0 := by
  unfold appE at h ⊢
  by_cases h0 : walChk d r = 0
  · rw [if_neg (by simpa using h0)] at h ⊢
    by_cases h1 : (sectorsE f).2 = 0
    · rw [if_neg (by simpa using h1)] at h ⊢
      by_cases h2 : a < 0 ∨ r.s < a
      · rw [if_pos h2]
      · rw [if_neg h2] at h ⊢
        by_cases h3 : r.s - a < ((sectorsE f).1.length : Int)
        · rw [if_pos h3]
        · rw [if_neg h3] at h ⊢
          generalize runE d (layE (r.f + a) ((sectorsE f).1.headD ⟨#[]⟩) (sectorsE f).1.tail) = x at h ⊢
          dsimp only at h ⊢
          by_cases h4 : x.2 = 0
          · rw [if_neg (by simpa using h4)] at h; simp at h
          · rw [if_pos h4]
    · rw [if_pos h1]
  · rw [if_pos h0]
theorem read_of {d : Disk} (ok : okB d = true) (off : d.off = false) {i : Nat} (hi : i < d.secs.length) : readE d i = (now d i, 0) := by
  unfold readE now
  rw [ok, if_neg (by simp), off, if_neg (by simp), if_neg (by simp [missB]; omega)]
set_option maxHeartbeats 4000000 in
theorem walk (v0 : Value) (a0 : Disk) (r : Rg) (a : Int) (f : Fr) (w : World) (h0 : DiskV w v0 a0) (f0 : (Lit.int .i64 a0.fuse).wf = true) (w1 : r.has) (wa : (Lit.int .i64 a).wf = true) (w2 : f.has) :
    Calls Try.prog 10 #[v0, rgV r, .int .i64 a, frV f] w fun e w' => e = .returned (.bool true) ∧ Below w.heap.size w w' := by
  have hv := hid h0
  obtain ⟨sv, pv, rfl, hs, hp⟩ := h0
  obtain ⟨so, scap, rfl, _⟩ := hs.form
  obtain ⟨po, pcap, rfl, _⟩ := hp.form
  have hap := hid (fun v W (h : DiskV W v a0) => append_any a0 v r a f W h f0 w1 wa w2)
  clear hs hp f0 w1 w2 wa
  rw [show rgV r = .agg #[.int .i64 r.f, .int .i64 r.s] from rfl] at hap ⊢
  rw [show frV f = .agg #[.int .u8 f.kind, .int .u64 f.epoch, .int .u64 f.seq, .string f.pay] from rfl] at hap ⊢
  have hbad := hid (app_bad (d := a0) (r := r) (a := a) (f := f))
  have hok := hid (fun e te h => app_ok (d := a0) (r := r) (a := a) (f := f) (e := e) (te := te) h)
  obtain ⟨X, hX⟩ : ∃ X, appE a0 r a f = X := ⟨_, rfl⟩
  rw [hX] at hbad hok hap
  clear hX
  obtain ⟨x, te, c⟩ := X
  dsimp only at hbad
  go_enter Try.func10, Try.ntmps10
  go_wp2_with fail
  have D0 := ((Blk.new w [.slice so a0.secs.length scap, .slice po a0.pend.length pcap, .bool a0.off, .int .i64 a0.fuse] 25).alloc (.cells #[.int .i64 r.f, .int .i64 r.s] 54)).alloc (.cells #[.int .u8 f.kind, .int .u64 f.epoch, .int .u64 f.seq, .string f.pay] 40)
  have R0 := (Blk.new' (w.alloc (.cells #[.slice so a0.secs.length scap, .slice po a0.pend.length pcap, .bool a0.off, .int .i64 a0.fuse] 25)) [.int .i64 r.f, .int .i64 r.s] 54 (w.heap.size + 1) (by simp)).alloc (.cells #[.int .u8 f.kind, .int .u64 f.epoch, .int .u64 f.seq, .string f.pay] 40)
  have F0 := Blk.new' ((w.alloc (.cells #[.slice so a0.secs.length scap, .slice po a0.pend.length pcap, .bool a0.off, .int .i64 a0.fuse] 25)).alloc (.cells #[.int .i64 r.f, .int .i64 r.s] 54)) [.int .u8 f.kind, .int .u64 f.epoch, .int .u64 f.seq, .string f.pay] 40 (w.heap.size + 2) (by simp)
  have b0 : Below w.heap.size w (((w.alloc (.cells #[.slice so a0.secs.length scap, .slice po a0.pend.length pcap, .bool a0.off, .int .i64 a0.fuse] 25)).alloc (.cells #[.int .i64 r.f, .int .i64 r.s] 54)).alloc (.cells #[.int .u8 f.kind, .int .u64 f.epoch, .int .u64 f.seq, .string f.pay] 40)) := by go_grown
  generalize ((w.alloc (.cells #[.slice so a0.secs.length scap, .slice po a0.pend.length pcap, .bool a0.off, .int .i64 a0.fuse] 25)).alloc (.cells #[.int .i64 r.f, .int .i64 r.s] 54)).alloc (.cells #[.int .u8 f.kind, .int .u64 f.epoch, .int .u64 f.seq, .string f.pay] 40) = X0 at D0 R0 F0 b0 ⊢
  refine (Wal.lives_any _).mono ?_
  rintro e w1 ⟨rfl, b1⟩
  have D1 := hid (D0.below b1 D0.lt)
  have R1 := hid (R0.below b1 R0.lt)
  have F1 := hid (F0.below b1 F0.lt)
  have hb1 := hid (bt b0 b1)
  clear D0 R0 F0 b0 b1
  obtain ⟨d0, d1, d2, d3, df⟩ := D1.out.four
  obtain ⟨r0, r1, rf⟩ := R1.out.two
  obtain ⟨f0, f1, f2, f3, ff⟩ := F1.out.four
  go_wp2_with fail
  refine (hap.out _ _ (hv.out.below hb1.out)).mono ?_
  rintro e w3 hr
  obtain ⟨so3, sc3, po3, pc3, rfl, o3, b3⟩ := hr.open
  dsimp only at o3
  clear hr hap
  clear d0 d1 d2 d3 df r0 r1 rf f0 f1 f2 f3 ff
  have hal : Below w3.heap.size w3 (w3.alloc (.cells #[.slice so3 x.secs.length sc3, .slice po3 x.pend.length pc3, .bool x.off, .int .i64 x.fuse] 25)) := (Below.refl _ w3).alloc (Nat.le_refl _) _
  have D3 := hid ((D1.out.below b3 D1.out.lt).below hal (Nat.lt_of_lt_of_le D1.out.lt b3.size))
  have R3 := hid ((R1.out.below b3 R1.out.lt).below hal (Nat.lt_of_lt_of_le R1.out.lt b3.size))
  have E3 := hid (Blk.new w3 [.slice so3 x.secs.length sc3, .slice po3 x.pend.length pc3, .bool x.off, .int .i64 x.fuse] 25)
  have u3 := hid (o3.v.below hal)
  have hb3 := hid (bt (bt hb1.out b3) hal)
  clear D1 R1 F1 hb1 b3 o3
  dsimp only
  go_upto_region 4 with fail
  generalize w3.heap.size = e3 at E3 ⊢
  generalize w3.alloc (.cells #[.slice so3 x.secs.length sc3, .slice po3 x.pend.length pc3, .bool x.off, .int .i64 x.fuse] 25) = X3 at hal D3 R3 E3 u3 hb3 ⊢
  clear hal
  obtain ⟨d0, d1, d2, d3, df⟩ := D3.out.four
  obtain ⟨r0, r1, rf⟩ := R3.out.two
  by_cases hc : c = 0
  · subst hc
    have x1 := hok.out x te rfl
    obtain ⟨k1, k2, k3, k4, k5⟩ := walChk_zero x1.ok0
    have hL : a0.secs.length = x.secs.length := x1.len.symm
    have hroom := x1.room
    have htill := x1.till
    have ha0 := x1.a0
    have hpl : x.pend.length = 0 := by rw [x1.pend]; rfl
    have hrd := hid (fun (i : Nat) (hi : i < a0.secs.length) (ho : ¬ (r.f + a ≤ (i : Int) ∧ (i : Int) < r.f + te)) => show ∃ s, readE a0 i = (s, 0) ∧ readE x i = (s, 0) from
      ⟨now a0 i, read_of k1 x1.off0 hi, by rw [read_of x1.ok x1.off (by omega), x1.now' i (by omega) (by omega), if_neg ho]⟩)
    have h1 : a < te := by omega
    have h2 : te ≤ r.s := by omega
    have hL2 : a0.secs.length ≤ 1024 := k5
    have hf2 : r.f ≤ 1024 := by omega
    have ht2 : te ≤ 1024 := by omega
    have ht0 : 0 ≤ te := by omega
    have hpl' := hid hpl
    clear x1 k1 k3 k4 k5 hL hroom htill hbad hok hpl
    generalize hn : a0.secs.length = n at hrd hL2 d0 D3 hv ⊢
    clear hn
    have hn2 : (n : Int) ≤ 1024 := by omega
    go_wp2_with fail
    go_loopw [35] (fun i wr => ∃ k : Nat, k ≤ n ∧ i = .int .i64 k ∧ Hid (Below X3.heap.size X3 wr)) (fun i _ => n - (intOf i).toNat)
    case atStart => exact ⟨0, by omega, rfl, hid (Below.refl _ _)⟩
    case round =>
      clear d0 d1 d2 d3 df r0 r1 rf
      obtain ⟨k, hk, rfl, hbr⟩ := hrel
      have R4 := hid (R3.out.below hbr.out R3.out.lt)
      have E4 := hid (E3.out.below hbr.out E3.out.lt)
      have D4 := hid (D3.out.below hbr.out D3.out.lt)
      obtain ⟨r0, r1, rf⟩ := R4.out.two
      by_cases hlt : k < n
      · have hltI : (k : Int) < (n : Int) := by omega
        have hk0 : (0 : Int) ≤ (k : Int) := by omega
        by_cases hin : r.f + a ≤ (k : Int) ∧ (k : Int) < r.f + te
        · obtain ⟨i1, i2⟩ := hin
          go_wp2_with fail
          go_roundw
          case rel => exact ⟨k + 1, by omega, by go_num, hbr⟩
          case measure => simp [intOf]; omega
        · obtain ⟨s, hs1, hs2⟩ := hrd.out k hlt hin
          have hs1' := hid hs1
          have hs2' := hid hs2
          clear hs1 hs2
          obtain ⟨d0, d1, d2, d3, df⟩ := D4.out.four
          rcases (by omega : (¬ r.f + a ≤ (k : Int)) ∨ (r.f + a ≤ (k : Int) ∧ ¬ (k : Int) < r.f + te)) with i1 | ⟨i1, i2⟩
          all_goals
            clear hin
            go_wp2_with fail
            refine (read_any a0 _ k _ (hv.out.below (bt hb3.out hbr.out))).mono ?_
            rw [hs1'.out]
            rintro e w5 ⟨rfl, b5⟩
            have hb5 := hid (bt hbr.out b5)
            have E5 := hid (E4.out.below b5 E4.out.lt)
            clear b5 r0 r1 rf d0 d1 d2 d3 df
            obtain ⟨e0, e1, e2, e3, ef⟩ := E5.out.four
            dsimp only
            go_wp2_with fail
            refine (read_any x _ k _ (u3.out.below hb5.out)).mono ?_
            rw [hs2'.out]
            rintro e w6 ⟨rfl, b6⟩
            have hb6 := hid (bt hb5.out b6)
            have hss : (s.toList == s.toList) = true := by simp
            clear b6 e0 e1 e2 e3 ef
            dsimp only
            go_wp2_with fail
            go_roundw
            case rel => exact ⟨k + 1, by omega, by go_num, hb6⟩
            case measure => simp [intOf]; omega
      · obtain rfl : k = n := by omega
        obtain ⟨e0, e1, e2, e3, ef⟩ := E4.out.four
        rw [hpl'.out] at e1
        go_wp2_with fail
        go_ret
        exact ⟨rfl, bt hb3.out hbr.out⟩
  · have hz : (c != 0) = true := by simpa using hc
    obtain rfl : te = 0 := hbad.out hc
    clear hc hbad hok
    go_wp2_with fail
    go_ret
    exact ⟨rfl, hb3.out⟩
end Go.Proofs.Ytgplioocnbjhaaa.walElsewhere
