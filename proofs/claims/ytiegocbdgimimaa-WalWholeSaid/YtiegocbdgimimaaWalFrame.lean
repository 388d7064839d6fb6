/-
  The contract of wal.frameAt.
-/
import Derived.Test.YtiegocbdgimimaaWalCalls
import Derived.Test.YtiegocbdgimimaaRecJoin
import Derived.Laws.AppendOwn
namespace Go.Proofs.Ytiegocbdgimimaa.Wal
open Go.ChangeShapes Go.WideShapes Go.ChangeAt Go.RowKit
open Go.Proofs.Ytiegocbdgimimaa.Mem Go.Proofs.Ytiegocbdgimimaa.Rec Go.Proofs.Ytiegocbdgimimaa.Sector
set_option linter.unusedVariables false
set_option maxRecDepth 100000
theorem frAt_1 {h : Nat → ByteArray} {s a : Nat} (h1 : s ≤ a) : frAt h s a = (zeroFr, 0) := by unfold frAt; rw [if_pos h1]
theorem frAt_2 {h : Nat → ByteArray} {s a : Nat} (h1 : ¬ s ≤ a) (h2 : (headE (h a).data.toList).2 ≠ 0) : frAt h s a = (zeroFr, 0) := by unfold frAt; rw [if_neg h1, if_pos h2]
theorem frAt_3 {h : Nat → ByteArray} {s a : Nat} {x : Hd} (h1 : ¬ s ≤ a) (h2 : headE (h a).data.toList = (x, 0)) (h3 : s - a ≤ pcs x.len) : frAt h s a = (zeroFr, 0) := by unfold frAt; rw [if_neg h1, h2, if_neg (by simp), if_pos h3]
theorem frAt_4 {h : Nat → ByteArray} {s a : Nat} {x : Hd} (h1 : ¬ s ≤ a) (h2 : headE (h a).data.toList = (x, 0)) (h3 : ¬ s - a ≤ pcs x.len) (h4 : (joinE (texts h a (1 + pcs x.len))).2 ≠ 0) : frAt h s a = (zeroFr, 0) := by unfold frAt; rw [if_neg h1, h2, if_neg (by simp), if_neg h3]; dsimp only; rw [if_pos h4]
theorem frAt_5 {h : Nat → ByteArray} {s a : Nat} {x : Hd} {f : Fr} (h1 : ¬ s ≤ a) (h2 : headE (h a).data.toList = (x, 0)) (h3 : ¬ s - a ≤ pcs x.len) (h4 : joinE (texts h a (1 + pcs x.len)) = (f, 0)) : frAt h s a = (f, 1 + pcs x.len) := by unfold frAt; rw [if_neg h1, h2, if_neg (by simp), if_neg h3]; dsimp only; rw [h4, if_neg (by simp)]
def scells (l : List ByteArray) (n : Nat) : List Value := strC l ++ List.replicate n (.string ⟨#[]⟩)
theorem scells_len (l : List ByteArray) (n : Nat) : (scells l n).length = l.length + n := by simp [scells, strC]
theorem scells_set (l : List ByteArray) (n : Nat) (s : ByteArray) : (scells l (n + 1)).set l.length (.string s) = scells (l ++ [s]) n := by
  unfold scells
  rw [List.set_append_right _ _ (by simp [strC]), strC_len, Nat.sub_self, List.replicate_succ, List.set_cons_zero, strC_append, List.append_assoc]
  rfl
theorem scells_strs {W : World} {g n : Nat} {l : List ByteArray} (h : Blk W g (scells l 0) 9) (hn : l.length = n) (hm : n ≤ maxLen) : StrsV W (.slice (some ⟨g, 0, none⟩) n n) l := by
  subst hn
  have e : scells l 0 = strC l := by simp [scells]
  rw [e] at h
  refine ⟨some ⟨g, 0, none⟩, l.length, rfl, Nat.le_refl _, hm, by simp, fun h0 => by rw [List.eq_nil_of_length_eq_zero h0]; rfl, fun a ha j hj => ?_⟩
  cases ha
  rw [Mem.add_plain, Nat.zero_add]
  exact h.cell j hj
theorem made_strs (n : Nat) : (madeCells #[Value.string ⟨#[]⟩] n).toList = List.replicate n (Value.string ⟨#[]⟩) := by
  apply List.ext_getElem
  · simp [madeCells]
  · intro j h1 h2
    simp [madeCells, Nat.mod_one]
def FrTold (w : World) (x : Fr × Nat) (e : Ending) (w' : World) : Prop := e = .returned (.tuple #[frV x.1, .int .i64 x.2]) ∧ Below w.heap.size w w'
set_option maxHeartbeats 8000000 in
theorem frameAt_nat (d : Disk) (v : Value) (F S a : Nat) (w : World) (h : DiskV w v d) (hS : S ≤ 1024) (hF : F ≤ 1024) (ha : a ≤ 2000) :
    Calls Try.prog 58 #[v, .agg #[.int .i64 (F : Nat), .int .i64 (S : Nat)], .int .i64 (a : Nat)] w (FrTold w (frAt (cont d ⟨F, S⟩) S a)) := by
  have hv := hid h
  obtain ⟨H, hH⟩ : ∃ H, cont d ⟨F, S⟩ = H := ⟨_, rfl⟩
  have hH1 : Hid (∀ n : Int, n = (F : Int) + (a : Int) → (readE d n).1 = H a) := hid (fun n hn => by rw [hn, ← hH]; rfl)
  have hH2 : Hid (∀ (n : Int) (i : Nat), n = (F : Int) + (a : Int) + (i : Int) → (readE d n).1 = H (a + i)) := hid (fun n i hn => by rw [hn, ← hH]; show _ = (readE d ((F : Int) + ((a + i : Nat) : Int))).1; rw [Int.add_assoc]; push_cast; rfl)
  rw [hH]
  clear hH
  obtain ⟨sv, pv, rfl, hs, hp⟩ := h
  obtain ⟨so, scap, rfl, _⟩ := hs.form
  obtain ⟨po, pcap, rfl, _⟩ := hp.form
  have hSi : (S : Int) ≤ 1024 := by omega
  have hFi : (F : Int) ≤ 1024 := by omega
  have hai : (a : Int) ≤ 2000 := by omega
  clear hs hp
  go_enter Try.func58, Try.ntmps58
  go_upto_region 1 with fail
  have D0 := hid (((Blk.new w [.slice so d.secs.length scap, .slice po d.pend.length pcap, .bool d.off, .int .i64 d.fuse] 25).alloc (.cells #[.int .i64 (F : Nat), .int .i64 (S : Nat)] 27)).alloc (.cells #[.int .u8 0, .int .u64 0, .int .u64 0, .string ⟨#[]⟩] 30))
  have R0 := hid ((Blk.new' (w.alloc (.cells #[.slice so d.secs.length scap, .slice po d.pend.length pcap, .bool d.off, .int .i64 d.fuse] 25)) [.int .i64 (F : Nat), .int .i64 (S : Nat)] 27 (w.heap.size + 1) (by simp)).alloc (.cells #[.int .u8 0, .int .u64 0, .int .u64 0, .string ⟨#[]⟩] 30))
  have Z0 := hid (Blk.new' ((w.alloc (.cells #[.slice so d.secs.length scap, .slice po d.pend.length pcap, .bool d.off, .int .i64 d.fuse] 25)).alloc (.cells #[.int .i64 (F : Nat), .int .i64 (S : Nat)] 27)) [.int .u8 0, .int .u64 0, .int .u64 0, .string ⟨#[]⟩] 30 (w.heap.size + 2) (by simp))
  have b0 : Below w.heap.size w (((w.alloc (.cells #[.slice so d.secs.length scap, .slice po d.pend.length pcap, .bool d.off, .int .i64 d.fuse] 25)).alloc (.cells #[.int .i64 (F : Nat), .int .i64 (S : Nat)] 27)).alloc (.cells #[.int .u8 0, .int .u64 0, .int .u64 0, .string ⟨#[]⟩] 30)) := by go_grown
  generalize ((w.alloc (.cells #[.slice so d.secs.length scap, .slice po d.pend.length pcap, .bool d.off, .int .i64 d.fuse] 25)).alloc (.cells #[.int .i64 (F : Nat), .int .i64 (S : Nat)] 27)).alloc (.cells #[.int .u8 0, .int .u64 0, .int .u64 0, .string ⟨#[]⟩] 30) = X0 at D0 R0 Z0 b0 ⊢
  have b0' := hid b0
  clear b0
  obtain ⟨g0, g1, gf⟩ := R0.out.two
  by_cases h1 : S ≤ a
  · have hE : Hid (frAt H S a = (zeroFr, 0)) := hid (frAt_1 h1)
    have h1i : (S : Int) ≤ (a : Int) := by omega
    obtain ⟨z0, z1, z2, z3, zf⟩ := Z0.out.four
    go_wp2_with fail
    obtain ⟨q0, q1, q2, q3, qf⟩ := (blk4 Z0.out (b0 := .int .u8 0) (b1 := .int .u64 0) (b2 := .int .u64 0) (b3 := .string ⟨#[]⟩)).four
    refine bodyPost_ret (v := .tuple #[.agg #[.int .u8 0, .int .u64 0, .int .u64 0, .string ⟨#[]⟩], .int .i64 0]) (by simp [results, Try.results58, go_sem, q0, q1, q2, q3]) rfl ?_
    rw [hE.out]
    exact ⟨rfl, below4 b0'.out (by omega)⟩
  have h1i : ¬ (S : Int) ≤ (a : Int) := by omega
  obtain ⟨d0, d1, d2, d3, df⟩ := D0.out.four
  go_wp2_with fail
  refine (held_any d _ _ _ (hv.out.below b0'.out)).mono ?_
  rw [hH1.out _ rfl]
  rintro e w1 ⟨rfl, b1⟩
  have D1 := hid (D0.out.below b1 D0.out.lt)
  have R1 := hid (R0.out.below b1 R0.out.lt)
  have Z1 := hid (Z0.out.below b1 Z0.out.lt)
  have b1w := hid (bt b0'.out b1)
  clear b1 d0 d1 d2 d3 df g0 g1 gf D0 R0 Z0 b0' hH1
  go_wp2_with fail
  refine (hd_any _ _).mono ?_
  have hok := fun (hz : (headE (H a).data.toList).2 = 0) => show (headE (H a).data.toList).1.len ≤ 16384 from by
    unfold headE at hz ⊢
    split
    · rename_i h0; exact (headOk_facts h0).2.2.1
    · rename_i h0; rw [if_neg h0] at hz; simp at hz
  obtain ⟨x, hx⟩ : ∃ x, headE (H a).data.toList = x := ⟨_, rfl⟩
  rw [hx] at hok ⊢
  have hx' := hid hx
  obtain ⟨⟨k, ep, sq, ln, sm⟩, c⟩ := x
  dsimp only at hok ⊢
  clear hx
  rintro e w2 ⟨rfl, b2⟩
  unfold hdV
  dsimp only
  have D2 := hid (D1.out.below b2 D1.out.lt)
  have R2 := hid (R1.out.below b2 R1.out.lt)
  have Z2 := hid (Z1.out.below b2 Z1.out.lt)
  have b2w := hid (bt b1w.out b2)
  clear b2 D1 R1 Z1 b1w
  by_cases hc : c = 0
  · subst hc
    replace hok := hok rfl
    have hln : (ln : Int) ≤ 16384 := by omega
    have hpe := hid (pcsE_nat ln hok)
    have hpl : pcs ln ≤ 269 := by unfold pcs; omega
    obtain ⟨m, hm⟩ : ∃ m, pcs ln = m := ⟨_, rfl⟩
    rw [hm] at hpe hpl
    have hm' := hid hm
    have hE3 := hid (fun h3 => frAt_3 (x := ⟨k, ep, sq, ln, sm⟩) (show ¬ S ≤ a from h1) hx'.out h3)
    have hE4 := hid (fun h3 => frAt_4 (x := ⟨k, ep, sq, ln, sm⟩) (show ¬ S ≤ a from h1) hx'.out h3)
    have hE5 := hid (fun h3 f => frAt_5 (x := ⟨k, ep, sq, ln, sm⟩) (f := f) (show ¬ S ≤ a from h1) hx'.out h3)
    dsimp only at hE3 hE4 hE5
    rw [hm] at hE3 hE4 hE5
    clear hm hok hx'
    have hpm : (m : Int) ≤ 269 := by omega
    have hlt2 : w.heap.size + 2 < w2.heap.size := Z2.out.lt
    go_upto_region 6 with fail
    have hal : Below w2.heap.size w2 (w2.alloc (.cells #[.int .u8 k, .int .u64 ep, .int .u64 sq, .int .i64 ln, .int .u32 sm] 46)) := (Below.refl _ w2).alloc (Nat.le_refl _) _
    have H3 := hid (Blk.new w2 [.int .u8 k, .int .u64 ep, .int .u64 sq, .int .i64 ln, .int .u32 sm] 46)
    have D3 := hid (D2.out.below hal D2.out.lt)
    have R3 := hid (R2.out.below hal R2.out.lt)
    have Z3 := hid (Z2.out.below hal Z2.out.lt)
    have b3w := hid (bt b2w.out hal)
    generalize w2.alloc (.cells #[.int .u8 k, .int .u64 ep, .int .u64 sq, .int .i64 ln, .int .u32 sm] 46) = X3 at H3 D3 R3 Z3 b3w ⊢
    clear hal D2 R2 Z2 b2w
    obtain ⟨c0, c1, c2, c3, c4, cf⟩ := five H3.out
    go_wp2_with fail
    refine (pieces_any (ln : Int) _).mono ?_
    rw [hpe.out]
    rintro e w4 ⟨rfl, rfl⟩
    obtain ⟨g0, g1, gf⟩ := R3.out.two
    by_cases h3 : S - a ≤ m
    · have hE : Hid (frAt H S a = (zeroFr, 0)) := hid (hE3.out h3)
      have h3i : (S : Int) - (a : Int) ≤ (m : Int) := by omega
      obtain ⟨z0, z1, z2, z3, zf⟩ := Z3.out.four
      go_wp2_with fail
      obtain ⟨q0, q1, q2, q3, qf⟩ := (blk4 Z3.out (b0 := .int .u8 0) (b1 := .int .u64 0) (b2 := .int .u64 0) (b3 := .string ⟨#[]⟩)).four
      refine bodyPost_ret (v := .tuple #[.agg #[.int .u8 0, .int .u64 0, .int .u64 0, .string ⟨#[]⟩], .int .i64 0]) (by simp [results, Try.results58, go_sem, q0, q1, q2, q3]) rfl ?_
      rw [hE.out]
      exact ⟨rfl, below4 b3w.out (by omega)⟩
    have h3i : ¬ (S : Int) - (a : Int) ≤ (m : Int) := by omega
    obtain ⟨i0, hi, hz0, hz1, hz2⟩ := info_parts Rec.info_string
    clear c0 c1 c2 c3 c4 cf H3
    go_wp2_with (at_make; refine wpList_make_full _ rfl _ _ 22 rfl X3.heap.size 9 i0 (.string ⟨#[]⟩) 1 Try.underlying22 hi hz0 hz1 _ _ _ _ (1 + m) rfl rfl rfl rfl ?m1 ?m2 (Nat.le_refl _) ?_)
    case m1 => rw [hz2]; omega
    case m2 => unfold maxLen; omega
    intro wm hown hgm
    have hbm : Below X3.heap.size X3 wm := (Below.refl _ _).grown hgm (Nat.le_refl _) (by simp)
    have hg0 := made_blk hown
    rw [made_strs] at hg0
    have B0 := hid (show Blk wm X3.heap.size (scells (texts H a 0) (1 + m)) 9 from ⟨by unfold scells; exact hg0⟩)
    have hbm' := hid hbm
    clear hown hgm hg0 hbm hi hz0 hz1 hz2 g0 g1 gf
    go_wp2_with fail
    go_loopw [54] (fun i wr => ∃ k : Nat, k ≤ 1 + m ∧ i = .int .i64 k ∧ Hid (Blk wr X3.heap.size (scells (texts H a k) (1 + m - k)) 9) ∧ Hid (Below X3.heap.size X3 wr)) (fun i _ => 1 + m - (intOf i).toNat)
    case atStart => exact ⟨0, by omega, rfl, B0, hbm'⟩
    case round =>
      clear B0 hbm'
      obtain ⟨k, hk, rfl, hB, hbr⟩ := hrel
      have D4 := hid (D3.out.below hbr.out D3.out.lt)
      have R4 := hid (R3.out.below hbr.out R3.out.lt)
      by_cases hlt : k < 1 + m
      · have hltz : (k : Int) < 1 + (m : Int) := by omega
        have hk0 : (0 : Int) ≤ (k : Int) := by omega
        have hk9 : (k : Int) ≤ 300 := by omega
        obtain ⟨d0, d1, d2, d3, df⟩ := D4.out.four
        obtain ⟨g0, g1, gf⟩ := R4.out.two
        go_wp2_with fail
        refine (held_any d _ _ _ (hv.out.below (bt b3w.out hbr.out))).mono ?_
        rw [hH2.out _ k rfl]
        rintro e w5 ⟨rfl, b5⟩
        have hB5 := hB.out.below b5 hB.out.lt
        have hbr5 := hid (hbr.out.trans (b5.mono hbr.out.size))
        have hl5 : k < (scells (texts H a k) (1 + m - k)).length := by rw [scells_len, texts_len]; omega
        have hcell := hB5.cell k hl5
        generalize (scells (texts H a k) (1 + m - k))[k]'_ = old at hcell
        have hfree := hB5.free k
        have B2 := hB5.set k (.string (H (a + k)))
        have hset := scells_set (texts H a k) (1 + m - (k + 1)) (H (a + k))
        rw [texts_len, show 1 + m - (k + 1) + 1 = 1 + m - k by omega, ← texts_succ] at hset
        rw [hset] at B2
        have B2' := hid B2
        have hbn := hid (hbr5.out.setCell (p := ⟨X3.heap.size, k, none⟩) (by simp) (.string (H (a + k))))
        generalize H (a + k) = sk at B2' hbn ⊢
        clear B2 hB5 d0 d1 d2 d3 df g0 g1 gf hset hl5
        go_wp2_with fail
        go_roundw
        case rel => exact ⟨k + 1, by omega, by go_num, B2', hbn⟩
        case measure => simp [intOf]; omega
      · obtain rfl : k = 1 + m := by omega
        have hltz : ¬ ((1 + m : Nat) : Int) < 1 + (m : Int) := by omega
        rw [Nat.sub_self] at hB
        have hstr := hid (scells_strs hB.out (texts_len H a (1 + m)) (by unfold maxLen; omega))
        have Z4 := hid (Z3.out.below hbr.out Z3.out.lt)
        have b4w := hid (bt b3w.out hbr.out)
        clear hB D4 R4
        go_wp2_with fail
        refine (join_any _ _ _ hstr.out).mono ?_
        obtain ⟨j, hj⟩ : ∃ j, joinE (texts H a (1 + m)) = j := ⟨_, rfl⟩
        rw [hj]
        have hj' := hid hj
        obtain ⟨⟨jk, je, js, jp⟩, c⟩ := j
        clear hj
        rintro e w5 ⟨rfl, b5⟩
        unfold frV
        dsimp only
        have Z5 := hid (Z4.out.below b5 Z4.out.lt)
        have b5w := hid (bt b4w.out b5)
        have hlt5 : w.heap.size + 2 < w5.heap.size := Z5.out.lt
        clear b5 Z4 b4w hstr hbr
        have hal : Below w5.heap.size w5 (w5.alloc (.cells #[.int .u8 jk, .int .u64 je, .int .u64 js, .string jp] 30)) := (Below.refl _ w5).alloc (Nat.le_refl _) _
        have J6 := hid (Blk.new w5 [.int .u8 jk, .int .u64 je, .int .u64 js, .string jp] 30)
        have Z6 := hid (Z5.out.below hal Z5.out.lt)
        have b6w := hid (bt b5w.out hal)
        clear Z5 b5w
        by_cases hc : c = 0
        · subst hc
          have hE : Hid (frAt H S a = (⟨jk, je, js, jp⟩, 1 + m)) := hid (hE5.out h3 _ hj'.out)
          go_upto_region 18 with fail
          generalize w5.alloc (.cells #[.int .u8 jk, .int .u64 je, .int .u64 js, .string jp] 30) = X6 at J6 Z6 b6w ⊢
          clear hal
          obtain ⟨j0, j1, j2, j3, jf⟩ := J6.out.four
          obtain ⟨z0, z1, z2, z3, zf⟩ := Z6.out.four
          go_wp2_with fail
          obtain ⟨q0, q1, q2, q3, qf⟩ := (blk4 Z6.out (b0 := .int .u8 jk) (b1 := .int .u64 je) (b2 := .int .u64 js) (b3 := .string jp)).four
          refine bodyPost_ret (v := .tuple #[.agg #[.int .u8 jk, .int .u64 je, .int .u64 js, .string jp], .int .i64 ((1 + m : Nat) : Int)]) (by simp [results, Try.results58, go_sem, q0, q1, q2, q3]) rfl ?_
          rw [hE.out]
          exact ⟨rfl, below4 b6w.out (by omega)⟩
        · have hq : (c != 0) = true := by simpa using hc
          have hE : Hid (frAt H S a = (zeroFr, 0)) := hid (hE4.out h3 (by rw [hj'.out]; exact hc))
          clear hc hj'
          go_upto_region 17 with fail
          generalize w5.alloc (.cells #[.int .u8 jk, .int .u64 je, .int .u64 js, .string jp] 30) = X6 at J6 Z6 b6w ⊢
          clear hal
          obtain ⟨z0, z1, z2, z3, zf⟩ := Z6.out.four
          go_wp2_with fail
          obtain ⟨q0, q1, q2, q3, qf⟩ := (blk4 Z6.out (b0 := .int .u8 0) (b1 := .int .u64 0) (b2 := .int .u64 0) (b3 := .string ⟨#[]⟩)).four
          refine bodyPost_ret (v := .tuple #[.agg #[.int .u8 0, .int .u64 0, .int .u64 0, .string ⟨#[]⟩], .int .i64 0]) (by simp [results, Try.results58, go_sem, q0, q1, q2, q3]) rfl ?_
          rw [hE.out]
          exact ⟨rfl, below4 b6w.out (by omega)⟩
  · have hq : (c != 0) = true := by simpa using hc
    have hE : Hid (frAt H S a = (zeroFr, 0)) := hid (frAt_2 h1 (by rw [hx'.out]; exact hc))
    have hlt2 : w.heap.size + 2 < w2.heap.size := Z2.out.lt
    clear hc hx' hok
    go_upto_region 5 with fail
    have hal : Below w2.heap.size w2 (w2.alloc (.cells #[.int .u8 k, .int .u64 ep, .int .u64 sq, .int .i64 ln, .int .u32 sm] 46)) := (Below.refl _ w2).alloc (Nat.le_refl _) _
    have Z3 := hid (Z2.out.below hal Z2.out.lt)
    have b3w := hid (bt b2w.out hal)
    generalize w2.alloc (.cells #[.int .u8 k, .int .u64 ep, .int .u64 sq, .int .i64 ln, .int .u32 sm] 46) = X3 at Z3 b3w ⊢
    clear hal
    obtain ⟨z0, z1, z2, z3, zf⟩ := Z3.out.four
    go_wp2_with fail
    obtain ⟨q0, q1, q2, q3, qf⟩ := (blk4 Z3.out (b0 := .int .u8 0) (b1 := .int .u64 0) (b2 := .int .u64 0) (b3 := .string ⟨#[]⟩)).four
    refine bodyPost_ret (v := .tuple #[.agg #[.int .u8 0, .int .u64 0, .int .u64 0, .string ⟨#[]⟩], .int .i64 0]) (by simp [results, Try.results58, go_sem, q0, q1, q2, q3]) rfl ?_
    rw [hE.out]
    exact ⟨rfl, below4 b3w.out (by omega)⟩
end Go.Proofs.Ytiegocbdgimimaa.Wal
