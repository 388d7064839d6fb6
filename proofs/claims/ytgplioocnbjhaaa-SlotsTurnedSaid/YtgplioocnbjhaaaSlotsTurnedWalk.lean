/-
  SlotsTurned: the walk.
-/
import Derived.Test.YtgplioocnbjhaaaSlotAll
namespace Go.Proofs.Ytgplioocnbjhaaa.slotsTurned
open Go.ChangeShapes Go.WideShapes Go.ChangeAt Go.RowKit
open Go.Proofs.Ytgplioocnbjhaaa.Mem Go.Proofs.Ytgplioocnbjhaaa.Rec Go.Proofs.Ytgplioocnbjhaaa.Sector Go.Proofs.Ytgplioocnbjhaaa.Wal Go.Proofs.Ytgplioocnbjhaaa.Slot
set_option linter.unusedVariables false
set_option maxRecDepth 100000
theorem twice_swap (a b : Rg) : twiceB b a = twiceB a b := by unfold twiceB; exact Bool.and_comm _ _
theorem chk_swap {d : Disk} {a b : Rg} (h : slChk d a b = 0) : slChk d b a = 0 := by
  obtain ⟨h1, h2, h3⟩ := slChk_zero h
  unfold slChk
  rw [h1, h2, twice_swap, h3]; simp
theorem pick_swap (x y : Option Im) : ((pickE x y).c = 0 ↔ (pickE y x).c = 0) ∧ ((pickE x y).c = 0 → (pickE x y).im.epoch = (pickE y x).im.epoch ∧ (((pickE x y).at' = 0 ∧ (pickE y x).at' = 0) ∨ ((pickE x y).at' ≠ (pickE y x).at' ∧ (pickE x y).im = (pickE y x).im))) := by
  cases x with
  | none => cases y with
    | none => exact ⟨Iff.rfl, fun h => absurd h (by decide)⟩
    | some y => exact ⟨Iff.rfl, fun _ => ⟨rfl, .inr ⟨by show (1 : Nat) ≠ 0; decide, rfl⟩⟩⟩
  | some x => cases y with
    | none => exact ⟨Iff.rfl, fun _ => ⟨rfl, .inr ⟨by show (0 : Nat) ≠ 1; decide, rfl⟩⟩⟩
    | some y =>
      by_cases h1 : x.epoch < y.epoch
      · rw [pick_lt h1, pick_ge (x := y) (y := x) (by omega)]
        exact ⟨Iff.rfl, fun _ => ⟨rfl, .inr ⟨by show (1 : Nat) ≠ 0; decide, rfl⟩⟩⟩
      · by_cases h2 : y.epoch < x.epoch
        · rw [pick_ge h1, pick_lt h2]
          exact ⟨Iff.rfl, fun _ => ⟨rfl, .inr ⟨by show (0 : Nat) ≠ 1; decide, rfl⟩⟩⟩
        · rw [pick_ge h1, pick_ge h2]
          exact ⟨Iff.rfl, fun _ => ⟨by dsimp only; omega, .inl ⟨rfl, rfl⟩⟩⟩
theorem turned (d : Disk) (a b : Rg) : ((loadE d a b).c = 0 ↔ (loadE d b a).c = 0) ∧ ((loadE d a b).c = 0 → (loadE d a b).im.epoch = (loadE d b a).im.epoch ∧ (((loadE d a b).at' = 0 ∧ (loadE d b a).at' = 0) ∨ ((loadE d a b).at' ≠ (loadE d b a).at' ∧ (loadE d a b).im = (loadE d b a).im))) := by
  by_cases h0 : slChk d a b = 0
  · have h1 := chk_swap h0
    have e1 : loadE d a b = (if d.off = true then ⟨zeroIm, 0, 15⟩ else pickE (imIn (cont d a) a.s.toNat) (imIn (cont d b) b.s.toNat)) := by unfold loadE; rw [if_neg (by simpa using h0)]
    have e2 : loadE d b a = (if d.off = true then ⟨zeroIm, 0, 15⟩ else pickE (imIn (cont d b) b.s.toNat) (imIn (cont d a) a.s.toNat)) := by unfold loadE; rw [if_neg (by simpa using h1)]
    rw [e1, e2]
    by_cases ho : d.off = true
    · rw [if_pos ho, if_pos ho]
      exact ⟨Iff.rfl, fun h => absurd h (by decide)⟩
    · rw [if_neg ho, if_neg ho]
      exact pick_swap _ _
  · have h1 : slChk d b a ≠ 0 := fun h => h0 (chk_swap h)
    unfold loadE
    rw [if_pos h0, if_pos h1]
    exact ⟨⟨fun h => absurd h h0, fun h => absurd h h1⟩, fun h => absurd h h0⟩
set_option maxHeartbeats 4000000 in
theorem walk (v0 : Value) (d : Disk) (a b : Rg) (w : World) (h0 : DiskV w v0 d) (f0 : (Lit.int .i64 d.fuse).wf = true) (w1 : a.has) (w2 : b.has) :
    Calls Try.prog 15 #[v0, rgV a, rgV b] w fun e w' => e = .returned (.bool true) ∧ Below w.heap.size w w' := by
  have hv := hid h0
  have hl1 := hid (fun v W (h : DiskV W v d) => load_any d v a b W h w1 w2)
  have hl2 := hid (fun v W (h : DiskV W v d) => load_any d v b a W h w2 w1)
  have hT := hid (turned d a b)
  generalize loadE d a b = X at hl1 hT
  generalize loadE d b a = Y at hl2 hT
  obtain ⟨sv, pv, rfl, hs, hp⟩ := h0
  obtain ⟨so, scap, rfl, _⟩ := hs.form
  obtain ⟨po, pcap, rfl, _⟩ := hp.form
  clear hs hp f0 w1 w2
  rw [show rgV a = .agg #[.int .i64 a.f, .int .i64 a.s] from rfl, show rgV b = .agg #[.int .i64 b.f, .int .i64 b.s] from rfl] at hl1 hl2 ⊢
  go_enter Try.func15, Try.ntmps15
  go_wp2_with fail
  have D0 := hid (((Blk.new w [.slice so d.secs.length scap, .slice po d.pend.length pcap, .bool d.off, .int .i64 d.fuse] 25).alloc (.cells #[.int .i64 a.f, .int .i64 a.s] 54)).alloc (.cells #[.int .i64 b.f, .int .i64 b.s] 54))
  have A0 := hid ((Blk.new' (w.alloc (.cells #[.slice so d.secs.length scap, .slice po d.pend.length pcap, .bool d.off, .int .i64 d.fuse] 25)) [.int .i64 a.f, .int .i64 a.s] 54 (w.heap.size + 1) (by simp)).alloc (.cells #[.int .i64 b.f, .int .i64 b.s] 54))
  have B0 := hid (Blk.new' ((w.alloc (.cells #[.slice so d.secs.length scap, .slice po d.pend.length pcap, .bool d.off, .int .i64 d.fuse] 25)).alloc (.cells #[.int .i64 a.f, .int .i64 a.s] 54)) [.int .i64 b.f, .int .i64 b.s] 54 (w.heap.size + 2) (by simp))
  have hb0 : Below w.heap.size w (((w.alloc (.cells #[.slice so d.secs.length scap, .slice po d.pend.length pcap, .bool d.off, .int .i64 d.fuse] 25)).alloc (.cells #[.int .i64 a.f, .int .i64 a.s] 54)).alloc (.cells #[.int .i64 b.f, .int .i64 b.s] 54)) := by go_grown
  generalize ((w.alloc (.cells #[.slice so d.secs.length scap, .slice po d.pend.length pcap, .bool d.off, .int .i64 d.fuse] 25)).alloc (.cells #[.int .i64 a.f, .int .i64 a.s] 54)).alloc (.cells #[.int .i64 b.f, .int .i64 b.s] 54) = X0 at D0 A0 B0 hb0 ⊢
  have hbw := hid hb0
  clear hb0
  refine (Slot.lives_any _).mono ?_
  rintro e w1 ⟨rfl, b9⟩
  replace D0 := hid (D0.out.below b9 D0.out.lt)
  replace A0 := hid (A0.out.below b9 A0.out.lt)
  replace B0 := hid (B0.out.below b9 B0.out.lt)
  replace hbw := hid (bt hbw.out b9)
  clear b9
  obtain ⟨d0, d1, d2, d3, df⟩ := D0.out.four
  obtain ⟨a0, a1, af⟩ := A0.out.two
  obtain ⟨b0, b1, bf⟩ := B0.out.two
  go_wp2_with fail
  (with_reducible refine (hl1.out _ _ (hv.out.below hbw.out)).mono ?_)
  rintro e w3 ⟨rfl, b9⟩
  clear d0 d1 d2 d3 df a0 a1 af b0 b1 bf
  replace D0 := hid (D0.out.below b9 D0.out.lt)
  replace A0 := hid (A0.out.below b9 A0.out.lt)
  replace B0 := hid (B0.out.below b9 B0.out.lt)
  replace hbw := hid (bt hbw.out b9)
  clear b9 hl1
  unfold imV
  try dsimp only
  go_upto_region 4 with fail
  have hal : Below w3.heap.size w3 (w3.alloc (.cells #[.int .u64 (X.im.epoch : Nat), .string X.im.pay] 72)) := (Below.refl _ w3).alloc (Nat.le_refl _) _
  have M0 := hid (Blk.new w3 [.int .u64 (X.im.epoch : Nat), .string X.im.pay] 72)
  replace D0 := hid (D0.out.below hal D0.out.lt)
  replace A0 := hid (A0.out.below hal A0.out.lt)
  replace B0 := hid (B0.out.below hal B0.out.lt)
  replace hbw := hid (bt hbw.out hal)
  generalize w3.heap.size = nM at M0 ⊢
  generalize w3.alloc (.cells #[.int .u64 (X.im.epoch : Nat), .string X.im.pay] 72) = XM at hal D0 A0 B0 M0 hbw ⊢
  clear hal
  obtain ⟨d0, d1, d2, d3, df⟩ := D0.out.four
  obtain ⟨a0, a1, af⟩ := A0.out.two
  obtain ⟨b0, b1, bf⟩ := B0.out.two
  go_wp2_with fail
  (with_reducible refine (hl2.out _ _ (hv.out.below hbw.out)).mono ?_)
  rintro e w4 ⟨rfl, b9⟩
  clear d0 d1 d2 d3 df a0 a1 af b0 b1 bf
  replace D0 := hid (D0.out.below b9 D0.out.lt)
  replace A0 := hid (A0.out.below b9 A0.out.lt)
  replace B0 := hid (B0.out.below b9 B0.out.lt)
  replace M0 := hid (M0.out.below b9 M0.out.lt)
  replace hbw := hid (bt hbw.out b9)
  clear b9 hl2
  unfold imV
  try dsimp only
  go_upto_region 5 with fail
  have hal : Below w4.heap.size w4 (w4.alloc (.cells #[.int .u64 (Y.im.epoch : Nat), .string Y.im.pay] 72)) := (Below.refl _ w4).alloc (Nat.le_refl _) _
  have N0 := hid (Blk.new w4 [.int .u64 (Y.im.epoch : Nat), .string Y.im.pay] 72)
  replace D0 := hid (D0.out.below hal D0.out.lt)
  replace A0 := hid (A0.out.below hal A0.out.lt)
  replace B0 := hid (B0.out.below hal B0.out.lt)
  replace M0 := hid (M0.out.below hal M0.out.lt)
  replace hbw := hid (bt hbw.out hal)
  generalize w4.heap.size = nN at N0 ⊢
  generalize w4.alloc (.cells #[.int .u64 (Y.im.epoch : Nat), .string Y.im.pay] 72) = XN at hal D0 A0 B0 M0 N0 hbw ⊢
  clear hal
  obtain ⟨xi, xa, xc⟩ := X
  obtain ⟨yi, ya, yc⟩ := Y
  obtain ⟨t1, t2⟩ := hT.out
  dsimp only at t1 t2 M0 N0 ⊢
  clear hT
  obtain ⟨m0, m1, mf⟩ := M0.out.two
  obtain ⟨n0, n1, nf⟩ := N0.out.two
  by_cases hx : xc = 0
  · have hy := t1.1 hx
    obtain ⟨he, ho⟩ := t2 hx
    subst hx hy
    clear t1 t2
    rcases ho with ⟨rfl, rfl⟩ | ⟨hne, rfl⟩
    · rw [he] at m0
      clear he M0 N0
      go_wp2_with fail
      go_ret
      exact ⟨rfl, hbw.out⟩
    · have h1 : ((xa : Int) == (ya : Int)) = false := beq_eq_false_iff_ne.2 (by omega)
      have h2 : ((xa : Int) != (ya : Int)) = true := by rw [bne, h1]; rfl
      have h3 : (xi.pay.toList == xi.pay.toList) = true := by simp
      clear he M0 N0 hne
      go_wp2_with fail
      go_ret
      exact ⟨rfl, hbw.out⟩
  · have hy : yc ≠ 0 := fun h => hx (t1.2 h)
    have h1 : (xc != 0) = true := by simpa using hx
    have h2 : (xc == 0) = false := beq_eq_false_iff_ne.2 hx
    have h3 : (yc == 0) = false := beq_eq_false_iff_ne.2 hy
    clear t1 t2 M0 N0 hx hy
    go_wp2_with fail
    go_ret
    exact ⟨rfl, hbw.out⟩
end Go.Proofs.Ytgplioocnbjhaaa.slotsTurned
