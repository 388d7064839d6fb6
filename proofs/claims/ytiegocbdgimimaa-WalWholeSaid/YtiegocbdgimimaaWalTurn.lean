/-
  The contracts of wal's steps: in turn, and how a frame is laid.
-/
import Derived.Test.YtiegocbdgimimaaWalCalls
import Derived.Test.YtiegocbdgimimaaRecJoin
import Derived.Test.YtiegocbdgimimaaSectorCopyRef
import Derived.Laws.AppendOwn
namespace Go.Proofs.Ytiegocbdgimimaa.Wal
open Go.ChangeShapes Go.WideShapes Go.ChangeAt Go.RowKit
open Go.Proofs.Ytiegocbdgimimaa.Mem Go.Proofs.Ytiegocbdgimimaa.Rec Go.Proofs.Ytiegocbdgimimaa.Sector
set_option linter.unusedVariables false
set_option maxRecDepth 100000

theorem runE_eq (d : Disk) (x : Stp) (l : List Stp) : runE d (x :: l) = if (stpE d x).2 = 0 then runE (stpE d x).1 l else stpE d x := rfl
set_option maxHeartbeats 4000000 in
theorem inTurn_any (d : Disk) (v : Value) (l : List Stp) (ao : Option Addr) (cap : Nat) (cs : List Value) (w : World) (h : DiskV w v d) (hfu : (Lit.int .i64 d.fuse).wf = true) (hst : StpsV w cs l) (hsl : SlV w (.slice ao l.length cap) l.length cs) (hne : 0 < l.length) (hl5 : l.length ≤ 5000) :
    Calls Try.prog 19 #[v, .slice ao l.length cap] w (Res w (runE d l)) := by
  have hv := hid h
  obtain ⟨sv, pv, rfl, hs, hp⟩ := h
  obtain ⟨so, scap, rfl, _⟩ := hs.form
  obtain ⟨po, pcap, rfl, _⟩ := hp.form
  obtain ⟨b, off, cap', hv', hlc, hcm, hb, hc⟩ := hsl.open (by rw [hst.len]; exact hne)
  simp only [Value.slice.injEq] at hv'
  obtain ⟨rfl, -, rfl⟩ := hv'
  have hc' := hid hc
  have hst' := hid hst
  have hfu' := hid hfu
  have hll' : (l.length : Int) ≤ 5000 := by omega
  clear hs hp hc hst hfu hsl hcm hl5
  go_enter Try.func19, Try.ntmps19
  go_upto_region 1 with fail
  have D0 := (Blk.new w [.slice so d.secs.length scap, .slice po d.pend.length pcap, .bool d.off, .int .i64 d.fuse] 25).alloc (.cells #[.slice none 0 0, .slice none 0 0, .bool false, .int .i64 0] 25)
  have R0 : Blk ((w.alloc (.cells #[.slice so d.secs.length scap, .slice po d.pend.length pcap, .bool d.off, .int .i64 d.fuse] 25)).alloc (.cells #[.slice none 0 0, .slice none 0 0, .bool false, .int .i64 0] 25)) (w.heap.size + 1) [.slice none 0 0, .slice none 0 0, .bool false, .int .i64 0] 25 := Blk.new' _ _ _ _ (by simp)
  have hb0 : Below w.heap.size w ((w.alloc (.cells #[.slice so d.secs.length scap, .slice po d.pend.length pcap, .bool d.off, .int .i64 d.fuse] 25)).alloc (.cells #[.slice none 0 0, .slice none 0 0, .bool false, .int .i64 0] 25)) := by go_grown
  generalize (w.alloc (.cells #[.slice so d.secs.length scap, .slice po d.pend.length pcap, .bool d.off, .int .i64 d.fuse] 25)).alloc (.cells #[.slice none 0 0, .slice none 0 0, .bool false, .int .i64 0] 25) = X0 at D0 R0 hb0 ⊢
  have hv0 := hv.out.below hb0
  have D0' := hid D0
  have R0' := hid R0
  have hb0' := hid hb0
  have hv0' := hid hv0
  clear D0 R0 hb0 hv0 hv
  go_wp2_with fail
  go_loopw [12] (fun i wr => ∃ (k : Nat) (dk : Disk) (so : Option Addr) (sc : Nat) (po : Option Addr) (pc : Nat), k ≤ l.length ∧ i = .int .i64 k ∧ Hid (runE d l = runE dk (l.drop k)) ∧ Hid ((Lit.int .i64 dk.fuse).wf = true) ∧ Blk wr w.heap.size [.slice so dk.secs.length sc, .slice po dk.pend.length pc, .bool dk.off, .int .i64 dk.fuse] 25 ∧ Blk wr (w.heap.size + 1) [.slice none 0 0, .slice none 0 0, .bool false, .int .i64 0] 25 ∧ DiskV wr (.agg #[.slice so dk.secs.length sc, .slice po dk.pend.length pc, .bool dk.off, .int .i64 dk.fuse]) dk ∧ Hid (0 < k → OwnDisk (w.heap.size + 2) wr (.slice so dk.secs.length sc) (.slice po dk.pend.length pc) dk) ∧ Hid (Below w.heap.size w wr)) (fun i _ => l.length - (intOf i).toNat)
  case atStart => exact ⟨0, d, so, scap, po, pcap, by omega, rfl, hid rfl, hid hfu'.out, D0'.out, R0'.out, hv0'.out, hid (fun h => absurd h (by omega)), hid hb0'.out⟩
  case round =>
    obtain ⟨k, dk, so, sc, po, pc, hk, rfl, hrun, hfk, hD, hR, hV, hO, hbr⟩ := hrel
    clear D0' R0' hb0' hv0'
    by_cases hlt : k < l.length
    · have hcell := (hbr.out.cell (p := ⟨b, off + k, none⟩) hb).trans (hc'.out k (by rw [hst'.out.len]; exact hlt))
      have hstep := (hst'.out.each k hlt).below (hbr.out)
      have hki : (k : Int) < (l.length : Int) := by omega
      obtain ⟨c0, c1, c2, c3, cf⟩ := hD.four
      cases hx : l[k] with
      | put n s =>
        rw [hx] at hstep
        obtain ⟨p, q, h1, h2, h3⟩ := hstep
        rw [h1] at hcell
        have h2' := hid h2.one.1
        have h3' := hid h3.one.1
        obtain ⟨r, hr⟩ : ∃ r, stpE dk (.put n s) = r := ⟨_, rfl⟩
        have hr' := hid hr
        have hx' := hid hx
        clear h1 h2 h3 hr hx hO
        go_wp2_with fail
        refine (put1_any dk _ n s ⟨p, 0, none⟩ ⟨q, 0, none⟩ _ hV hfk.out h2'.out h3'.out).mono ?_
        rw [show putE dk n s = r from hr'.out]
        have hx := hx'.out
        rintro e w3 hr3
        clear hx' h2' h3' hcell
        obtain ⟨so1, sc1, po1, pc1, rfl, o1, b1⟩ := hr3.open
        clear hr3
        have hszr := hR.lt
        have D3 := hid (hD.below b1 hD.lt)
        have R3 := hid (hR.below b1 hR.lt)
        have b1w := hid (bt hbr.out b1)
        have o1' := hid (o1.mono (B' := w.heap.size + 2) (by omega))
        have hst3 := hid (b1)
        clear c0 c1 c2 c3 cf hD hV hR o1 b1 hszr
        obtain ⟨c0, c1, c2, c3, cf⟩ := D3.out.four
        obtain ⟨z0, z1, z2, z3, zf⟩ := R3.out.four
        have hlt0 : w.heap.size < w3.heap.size := D3.out.lt
        have hlt1 : w.heap.size + 1 < w3.heap.size := R3.out.lt
        have E4 := hid (Blk.new w3 [.slice so1 r.1.secs.length sc1, .slice po1 r.1.pend.length pc1, .bool r.1.off, .int .i64 r.1.fuse] 25)
        have hal : Below w3.heap.size w3 (w3.alloc (.cells #[.slice so1 r.1.secs.length sc1, .slice po1 r.1.pend.length pc1, .bool r.1.off, .int .i64 r.1.fuse] 25)) := (Below.refl _ w3).alloc (Nat.le_refl _) _
        have D4 := hid (D3.out.below hal D3.out.lt)
        have R4 := hid (R3.out.below hal R3.out.lt)
        have b4w := hid (bt b1w.out hal)
        have o4 := hid (o1'.out.below hal)
        by_cases hz : r.2 = 0
        · have hz1 : (r.2 != 0) = false := by rw [hz]; rfl
          have hrun2 : Hid (runE d l = runE r.1 (l.drop (k + 1))) := hid (by rw [hrun.out, List.drop_eq_getElem_cons hlt, runE_eq, hx, hr'.out, if_pos hz])
          have hwf : Hid ((Lit.int .i64 r.1.fuse).wf = true) := hid (by rw [← hr'.out]; exact stpE_wf _ hfk.out)
          have hz2 := hid hz
          clear hz hrun hr' hfk
          go_upto_region 7 with fail
          clear c0 c1 c2 c3 cf z0 z1 z2 z3 zf hz1
          generalize w3.alloc (.cells #[.slice so1 r.1.secs.length sc1, .slice po1 r.1.pend.length pc1, .bool r.1.off, .int .i64 r.1.fuse] 25) = X4 at hal E4 D4 R4 b4w o4 ⊢
          clear D3 R3 hal o1' b1w
          obtain ⟨c0, c1, c2, c3, cf⟩ := D4.out.four
          obtain ⟨e0, e1, e2, e3, ef⟩ := E4.out.four
          obtain ⟨D5, O5, b5⟩ := box4 D4.out o4.out (by omega : w.heap.size < w.heap.size + 2) b4w.out (Nat.le_refl _) (.slice so1 r.1.secs.length sc1) (.slice po1 r.1.pend.length pc1) (.bool r.1.off) (.int .i64 r.1.fuse)
          have R5 := hid ((((R4.out.other (p := ⟨w.heap.size, 0, none⟩) (by simp) (.slice so1 r.1.secs.length sc1)).other (p := ⟨w.heap.size, 1, none⟩) (by simp) (.slice po1 r.1.pend.length pc1)).other (p := ⟨w.heap.size, 2, none⟩) (by simp) (.bool r.1.off)).other (p := ⟨w.heap.size, 3, none⟩) (by simp) (.int .i64 r.1.fuse))
          have hkp : k + 1 ≤ l.length := hlt
          clear hx hlt
          go_wp2_with fail
          go_roundw
          case rel => exact ⟨k + 1, r.1, so1, sc1, po1, pc1, hkp, by go_num, hrun2, hwf, D5.out, R5.out, O5.out.v, hid (fun _ => O5.out), hid b5.out⟩
          case measure => simp [intOf]; omega
        · have hz1 : (r.2 != 0) = true := by simpa using hz
          have hrun2 : Hid (runE d l = r) := hid (by rw [hrun.out, List.drop_eq_getElem_cons hlt, runE_eq, hx, hr'.out, if_neg hz])
          clear hz hrun hr' hfk
          go_upto_region 6 with fail
          clear c0 c1 c2 c3 cf z0 z1 z2 z3 zf hz1
          generalize w3.alloc (.cells #[.slice so1 r.1.secs.length sc1, .slice po1 r.1.pend.length pc1, .bool r.1.off, .int .i64 r.1.fuse] 25) = X4 at hal E4 D4 R4 b4w o4 ⊢
          clear D3 R3 hal o1' b1w
          obtain ⟨c0, c1, c2, c3, cf⟩ := R4.out.four
          obtain ⟨e0, e1, e2, e3, ef⟩ := E4.out.four
          obtain ⟨R5, O5, b5⟩ := box4 R4.out o4.out (by omega : w.heap.size + 1 < w.heap.size + 2) b4w.out (by omega : w.heap.size ≤ w.heap.size + 1) (.slice so1 r.1.secs.length sc1) (.slice po1 r.1.pend.length pc1) (.bool r.1.off) (.int .i64 r.1.fuse)
          go_wp2_with fail
          obtain ⟨q0, q1, q2, q3, qf⟩ := R5.out.four
          refine bodyPost_ret (v := .tuple #[.agg #[.slice so1 r.1.secs.length sc1, .slice po1 r.1.pend.length pc1, .bool r.1.off, .int .i64 r.1.fuse], .int .i64 r.2]) (by simp [results, Try.results19, go_sem, q0, q1, q2, q3]) rfl ?_
          rw [hrun2.out]
          exact ⟨_, _, rfl, O5.out.mono (by omega), b5.out⟩
      | syn =>
        rw [hx] at hstep
        have hcs : cs[k]'(by rw [hst'.out.len]; exact hlt) = Value.func (Fn.func 41) #[] #[] := hstep
        rw [hcs] at hcell
        clear hcs
        obtain ⟨r, hr⟩ : ∃ r, stpE dk .syn = r := ⟨_, rfl⟩
        have hr' := hid hr
        have hx' := hid hx
        clear hr hx hO hstep
        go_wp2_with fail
        refine (sync_any dk _ _ hV hfk.out).mono ?_
        rw [show syncE dk = r from hr'.out]
        have hx := hx'.out
        rintro e w3 hr3
        clear hx' hcell
        obtain ⟨so1, sc1, po1, pc1, rfl, o1, b1⟩ := hr3.open
        clear hr3
        have hszr := hR.lt
        have D3 := hid (hD.below b1 hD.lt)
        have R3 := hid (hR.below b1 hR.lt)
        have b1w := hid (bt hbr.out b1)
        have o1' := hid (o1.mono (B' := w.heap.size + 2) (by omega))
        have hst3 := hid (b1)
        clear c0 c1 c2 c3 cf hD hV hR o1 b1 hszr
        obtain ⟨c0, c1, c2, c3, cf⟩ := D3.out.four
        obtain ⟨z0, z1, z2, z3, zf⟩ := R3.out.four
        have hlt0 : w.heap.size < w3.heap.size := D3.out.lt
        have hlt1 : w.heap.size + 1 < w3.heap.size := R3.out.lt
        have E4 := hid (Blk.new w3 [.slice so1 r.1.secs.length sc1, .slice po1 r.1.pend.length pc1, .bool r.1.off, .int .i64 r.1.fuse] 25)
        have hal : Below w3.heap.size w3 (w3.alloc (.cells #[.slice so1 r.1.secs.length sc1, .slice po1 r.1.pend.length pc1, .bool r.1.off, .int .i64 r.1.fuse] 25)) := (Below.refl _ w3).alloc (Nat.le_refl _) _
        have D4 := hid (D3.out.below hal D3.out.lt)
        have R4 := hid (R3.out.below hal R3.out.lt)
        have b4w := hid (bt b1w.out hal)
        have o4 := hid (o1'.out.below hal)
        by_cases hz : r.2 = 0
        · have hz1 : (r.2 != 0) = false := by rw [hz]; rfl
          have hrun2 : Hid (runE d l = runE r.1 (l.drop (k + 1))) := hid (by rw [hrun.out, List.drop_eq_getElem_cons hlt, runE_eq, hx, hr'.out, if_pos hz])
          have hwf : Hid ((Lit.int .i64 r.1.fuse).wf = true) := hid (by rw [← hr'.out]; exact stpE_wf _ hfk.out)
          have hz2 := hid hz
          clear hz hrun hr' hfk
          go_upto_region 7 with fail
          clear c0 c1 c2 c3 cf z0 z1 z2 z3 zf hz1
          generalize w3.alloc (.cells #[.slice so1 r.1.secs.length sc1, .slice po1 r.1.pend.length pc1, .bool r.1.off, .int .i64 r.1.fuse] 25) = X4 at hal E4 D4 R4 b4w o4 ⊢
          clear D3 R3 hal o1' b1w
          obtain ⟨c0, c1, c2, c3, cf⟩ := D4.out.four
          obtain ⟨e0, e1, e2, e3, ef⟩ := E4.out.four
          obtain ⟨D5, O5, b5⟩ := box4 D4.out o4.out (by omega : w.heap.size < w.heap.size + 2) b4w.out (Nat.le_refl _) (.slice so1 r.1.secs.length sc1) (.slice po1 r.1.pend.length pc1) (.bool r.1.off) (.int .i64 r.1.fuse)
          have R5 := hid ((((R4.out.other (p := ⟨w.heap.size, 0, none⟩) (by simp) (.slice so1 r.1.secs.length sc1)).other (p := ⟨w.heap.size, 1, none⟩) (by simp) (.slice po1 r.1.pend.length pc1)).other (p := ⟨w.heap.size, 2, none⟩) (by simp) (.bool r.1.off)).other (p := ⟨w.heap.size, 3, none⟩) (by simp) (.int .i64 r.1.fuse))
          have hkp : k + 1 ≤ l.length := hlt
          clear hx hlt
          go_wp2_with fail
          go_roundw
          case rel => exact ⟨k + 1, r.1, so1, sc1, po1, pc1, hkp, by go_num, hrun2, hwf, D5.out, R5.out, O5.out.v, hid (fun _ => O5.out), hid b5.out⟩
          case measure => simp [intOf]; omega
        · have hz1 : (r.2 != 0) = true := by simpa using hz
          have hrun2 : Hid (runE d l = r) := hid (by rw [hrun.out, List.drop_eq_getElem_cons hlt, runE_eq, hx, hr'.out, if_neg hz])
          clear hz hrun hr' hfk
          go_upto_region 6 with fail
          clear c0 c1 c2 c3 cf z0 z1 z2 z3 zf hz1
          generalize w3.alloc (.cells #[.slice so1 r.1.secs.length sc1, .slice po1 r.1.pend.length pc1, .bool r.1.off, .int .i64 r.1.fuse] 25) = X4 at hal E4 D4 R4 b4w o4 ⊢
          clear D3 R3 hal o1' b1w
          obtain ⟨c0, c1, c2, c3, cf⟩ := R4.out.four
          obtain ⟨e0, e1, e2, e3, ef⟩ := E4.out.four
          obtain ⟨R5, O5, b5⟩ := box4 R4.out o4.out (by omega : w.heap.size + 1 < w.heap.size + 2) b4w.out (by omega : w.heap.size ≤ w.heap.size + 1) (.slice so1 r.1.secs.length sc1) (.slice po1 r.1.pend.length pc1) (.bool r.1.off) (.int .i64 r.1.fuse)
          go_wp2_with fail
          obtain ⟨q0, q1, q2, q3, qf⟩ := R5.out.four
          refine bodyPost_ret (v := .tuple #[.agg #[.slice so1 r.1.secs.length sc1, .slice po1 r.1.pend.length pc1, .bool r.1.off, .int .i64 r.1.fuse], .int .i64 r.2]) (by simp [results, Try.results19, go_sem, q0, q1, q2, q3]) rfl ?_
          rw [hrun2.out]
          exact ⟨_, _, rfl, O5.out.mono (by omega), b5.out⟩
    · obtain rfl : k = l.length := by omega
      have hend : Hid (runE d l = (dk, 0)) := hid (by rw [hrun.out, List.drop_length]; rfl)
      have hO' := hid (hO.out hne)
      clear hO hrun hk
      obtain ⟨c0, c1, c2, c3, cf⟩ := hD.four
      obtain ⟨z0, z1, z2, z3, zf⟩ := hR.four
      obtain ⟨R5, O5, b5⟩ := box4 hR hO'.out (by omega : w.heap.size + 1 < w.heap.size + 2) hbr.out (by omega : w.heap.size ≤ w.heap.size + 1) (.slice so dk.secs.length sc) (.slice po dk.pend.length pc) (.bool dk.off) (.int .i64 dk.fuse)
      go_wp2_with fail
      obtain ⟨q0, q1, q2, q3, qf⟩ := R5.out.four
      refine bodyPost_ret (v := .tuple #[.agg #[.slice so dk.secs.length sc, .slice po dk.pend.length pc, .bool dk.off, .int .i64 dk.fuse], .int .i64 0]) (by simp [results, Try.results19, go_sem, q0, q1, q2, q3]) rfl ?_
      rw [hend.out]
      exact ⟨_, _, rfl, O5.out.mono (by omega), b5.out⟩

end Go.Proofs.Ytiegocbdgimimaa.Wal
