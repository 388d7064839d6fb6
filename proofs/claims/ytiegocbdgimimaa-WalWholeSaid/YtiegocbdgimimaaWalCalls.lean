/-
  The contracts of wal's leaves: Check, copied, held, put, a step, the steps in turn.
-/
import Derived.Test.YtiegocbdgimimaaWalLog
import Derived.Test.YtiegocbdgimimaaSectorMain
import Derived.Test.YtiegocbdgimimaaSectorLives
namespace Go.Proofs.Ytiegocbdgimimaa.Wal
open Go.ChangeShapes Go.WideShapes Go.ChangeAt Go.RowKit
open Go.Proofs.Ytiegocbdgimimaa.Mem Go.Proofs.Ytiegocbdgimimaa.Rec Go.Proofs.Ytiegocbdgimimaa.Sector
set_option linter.unusedVariables false
set_option maxRecDepth 100000

theorem copied_any (d : Disk) (v : Value) (w : World) (h : DiskV w v d) (hn : d.secs.length * 16 ≤ 140737488355328) (hm : d.pend.length * 24 ≤ 140737488355328) :
    Calls Try.prog 18 #[v] w (Copied w d) := by
  obtain ⟨sv, pv, rfl, hs, hp⟩ := h
  obtain ⟨so, sc, rfl, _⟩ := hs.form
  obtain ⟨po, pc, rfl, _⟩ := hp.form
  have hs' := hid hs
  have hp' := hid hp
  clear hs hp
  go_enter Try.func18, Try.ntmps18
  go_wp2_with fail
  refine (cloneStrs_any d.secs _ _ (hs'.out.below (by go_grown)) hn).mono ?_
  rintro e w1 ⟨sv', rfl, hown1, hb1⟩
  have hb1w : Below w.heap.size w w1 := ((Below.refl _ w).alloc (Nat.le_refl _) _ |>.alloc (by simp) _).trans (hb1.mono (by simp; omega))
  have B1 : Blk w1 w.heap.size [.slice so d.secs.length sc, .slice po d.pend.length pc, .bool d.off, .int .i64 d.fuse] 25 := ((Blk.new w _ _).alloc _).below hb1 (by simp; omega)
  have R1 : Blk w1 (w.heap.size + 1) [.slice none 0 0, .slice none 0 0, .bool false, .int .i64 0] 25 := (Blk.new' (w.alloc _) _ _ _ (by simp)).below hb1 (by simp)
  obtain ⟨so', sc', rfl, _⟩ := ownsRow_form hown1
  have hown1' := hid (ownsRow_mono (base' := w.heap.size + 2) hown1 (by simp))
  have hp1 := hid (hp'.out.below hb1w)
  have hb1' := hid hb1w
  have B1' := hid B1
  have R1' := hid R1
  obtain ⟨b0, b1, b2, b3, bf⟩ := B1.four
  clear hown1 hb1 hb1w B1 R1
  go_wp2_with fail
  refine (clonePrs_any d.pend _ _ (hp'.out.below (hb1'.out.setCell (p := ⟨w.heap.size, 0, none⟩) (Nat.le_refl _) _)) hm).mono ?_
  rintro e w2 ⟨pv', rfl, hown2, hb2⟩
  have B2 := (B1'.out.set 0 (.slice so' d.secs.length sc')).below hb2 (by simp [B1'.out.lt])
  have R2 := (R1'.out.other (p := ⟨w.heap.size, 0, none⟩) (by simp) (.slice so' d.secs.length sc')).below hb2 (by simp [R1'.out.lt])
  have hb2' := hid (bt (hb1'.out.setCell (p := ⟨w.heap.size, 0, none⟩) (Nat.le_refl _) (.slice so' d.secs.length sc')) hb2)
  have hown1'' := hid (ownsRow_below (ownsRow_setCell_below hown1'.out (a := ⟨w.heap.size, 0, none⟩) (by simp) (.slice so' d.secs.length sc')) hb2)
  have hown2' := hid hown2
  obtain ⟨po', pc', rfl, _⟩ := ownsRow_form hown2
  have B2' := hid B2
  have R2' := hid R2
  simp only [List.set_cons_zero] at B2
  obtain ⟨b0, b1, b2, b3, bf⟩ := B2.four
  obtain ⟨r0, r1, r2, r3, rf⟩ := R2.four
  have hsz3 : w1.heap.size ≤ w2.heap.size := by have := hb2.size; simpa using this
  clear hown2 hb2 B2 R2
  go_wp2_with fail
  have R5 := ((((R2'.out.other (p := ⟨w.heap.size, 1, none⟩) (by simp) (.slice po' d.pend.length pc')).set 0 (.slice so' d.secs.length sc')).set 1 (.slice po' d.pend.length pc')).set 2 (.bool d.off)).set 3 (.int .i64 d.fuse)
  simp only [List.set_cons_zero, List.set_cons_succ] at R5
  obtain ⟨q0, q1, q2, q3, qf⟩ := R5.four
  clear b0 b1 b2 b3 bf r0 r1 r2 r3 rf
  refine bodyPost_ret (v := .agg #[.slice so' d.secs.length sc', .slice po' d.pend.length pc', .bool d.off, .int .i64 d.fuse]) (by simp [results, Try.results18, go_sem, q0, q1, q2, q3]) rfl ?_
  have hsz := R1'.out.lt
  have hsz2 := hb2'.out.size
  refine ⟨_, _, rfl, ⟨?_, w1.heap.size, by omega, ?_, fun k hk => (ownBlock_lt hown1'.out hk).2, ?_⟩, ?_⟩
  · have h := hown1''.out
    exact ownsRow_mono (ownsRow_setCell_below (ownsRow_setCell_below (ownsRow_setCell_below (ownsRow_setCell_below (ownsRow_setCell_below h (by simp) _) (by simp) _) (by simp) _) (by simp) _) (by simp) _) (by omega)
  · simp; exact hsz3
  · have h := hown2'.out
    exact ownsRow_mono (ownsRow_setCell_below (ownsRow_setCell_below (ownsRow_setCell_below (ownsRow_setCell_below (ownsRow_setCell_below h (by simp; omega) _) (by simp; omega) _) (by simp; omega) _) (by simp; omega) _) (by simp; omega) _) (by simp)
  · exact ((((hb2'.out.setCell (by simp) _).setCell (by simp) _).setCell (by simp) _).setCell (by simp) _).setCell (by simp) _

structure Rg.has (r : Rg) : Prop where
  f0 : -9223372036854775808 ≤ r.f
  f1 : r.f ≤ 9223372036854775807
  s0 : -9223372036854775808 ≤ r.s
  s1 : r.s ≤ 9223372036854775807
theorem wcheck_any (d : Disk) (v : Value) (r : Rg) (w : World) (h : DiskV w v d) (hr : r.has) :
    Calls Try.prog 16 #[v, rgV r] w fun e w' => e = .returned (.int .i64 (walChk d r)) ∧ Below w.heap.size w w' := by
  have hv := hid h
  obtain ⟨rf, rs⟩ := r
  obtain ⟨r0, r1, r2, r3⟩ := hr
  dsimp only at r0 r1 r2 r3
  obtain ⟨sv, pv, rfl, hs, hp⟩ := h
  obtain ⟨so, scap, rfl, _⟩ := hs.form
  obtain ⟨po, pcap, rfl, _⟩ := hp.form
  clear hs hp
  unfold rgV
  dsimp only
  go_enter Try.func16, Try.ntmps16
  go_wp2_with fail
  refine (check_any d _ _ (hv.out.below (by go_grown))).mono ?_
  rintro e w1 ⟨rfl, hb1⟩
  have D1 := ((Blk.new w [.slice so d.secs.length scap, .slice po d.pend.length pcap, .bool d.off, .int .i64 d.fuse] 25).alloc (.cells #[.int .i64 rf, .int .i64 rs] 27)).below hb1 (by simp; omega)
  have R1 : Blk w1 (w.heap.size + 1) [.int .i64 rf, .int .i64 rs] 27 := (Blk.new' _ _ _ _ (by simp)).below hb1 (by simp)
  have hb1w := hid ((show Below w.heap.size w _ from by go_grown).trans (hb1.mono (by simp; omega)))
  obtain ⟨d0, d1, d2, d3, df⟩ := D1.four
  obtain ⟨q0, q1, qf⟩ := R1.two
  clear D1 R1 hb1 hv
  cases hok : okB d with
  | false =>
    have hk := hid (chk_bad hok)
    have hw : Hid (walChk d ⟨rf, rs⟩ = 13) := hid (by unfold walChk; rw [if_pos hok])
    clear hok
    rw [hk.out]
    go_wp2_with fail
    go_ret
    exact ⟨by rw [hw.out]; rfl, hb1w.out⟩
  | true =>
    have hk := hid (chk_ok hok)
    have hl := (okp hok).2.1
    have hl2 : (d.secs.length : Int) ≤ 1024 := by omega
    by_cases h1 : rf < 0
    · clear hl
      have hw : Hid (walChk d ⟨rf, rs⟩ = 1) := hid (by unfold walChk; rw [if_neg (by simp [hok]), if_pos (by simp [rgB, h1])])
      clear hok
      rw [hk.out]
      go_wp2_with fail
      go_ret
      exact ⟨by rw [hw.out]; rfl, hb1w.out⟩
    · by_cases h2 : rs < 1
      · clear hl
        have hw : Hid (walChk d ⟨rf, rs⟩ = 1) := hid (by unfold walChk; rw [if_neg (by simp [hok]), if_pos (by simp [rgB, h2])])
        clear hok
        rw [hk.out]
        go_wp2_with fail
        go_ret
        exact ⟨by rw [hw.out]; rfl, hb1w.out⟩
      · by_cases h3 : (d.secs.length : Int) - rf < rs
        · clear hl
          have hw : Hid (walChk d ⟨rf, rs⟩ = 1) := hid (by unfold walChk; rw [if_neg (by simp [hok]), if_pos (by simp [rgB, h3])])
          clear hok
          rw [hk.out]
          go_wp2_with fail
          go_ret
          exact ⟨by rw [hw.out]; rfl, hb1w.out⟩
        · clear hl
          have hw : Hid (walChk d ⟨rf, rs⟩ = 0) := hid (by unfold walChk; rw [if_neg (by simp [hok]), if_neg (by simp [rgB]; omega)])
          clear hok
          rw [hk.out]
          go_wp2_with fail
          go_ret
          exact ⟨by rw [hw.out]; rfl, hb1w.out⟩
theorem held_any (d : Disk) (v : Value) (n : Int) (w : World) (h : DiskV w v d) :
    Calls Try.prog 88 #[v, .int .i64 n] w fun e w' => e = .returned (.string (readE d n).1) ∧ Below w.heap.size w w' := by
  have hv := hid h
  obtain ⟨sv, pv, rfl, hs, hp⟩ := h
  obtain ⟨so, scap, rfl, _⟩ := hs.form
  obtain ⟨po, pcap, rfl, _⟩ := hp.form
  clear hs hp
  go_enter Try.func88, Try.ntmps88
  go_wp2_with fail
  refine (read_any d _ n _ (hv.out.below (by go_grown))).mono ?_
  rintro e w1 ⟨rfl, hb1⟩
  have hb := hid (bt ((Below.refl w.heap.size w).alloc (Nat.le_refl _) (.cells #[.slice so d.secs.length scap, .slice po d.pend.length pcap, .bool d.off, .int .i64 d.fuse] 25)) hb1)
  clear hb1 hv
  go_wp2_with fail
  go_ret
  exact ⟨rfl, hb.out⟩
theorem wput_any (n : Int) (s : ByteArray) (w : World) : Calls Try.prog 40 #[.int .i64 n, .string s] w fun e w' =>
    e = .returned (.func (Fn.func 67) #[] #[.pointer (some ⟨w.heap.size, 0, none⟩), .pointer (some ⟨w.heap.size + 1, 0, none⟩)]) ∧ w' = (w.alloc (.cells #[.int .i64 n] 3)).alloc (.cells #[.string s] 9) := by
  go_enter Try.func40, Try.ntmps40
  go_wp2_with fail
  go_ret
  exact ⟨rfl, rfl⟩
theorem put1_any (d : Disk) (v : Value) (n : Int) (s : ByteArray) (p q : Addr) (w : World) (h : DiskV w v d) (hfu : (Lit.int .i64 d.fuse).wf = true) (hp : w.cell? p = some (.int .i64 n)) (hq : w.cell? q = some (.string s)) :
    Calls Try.prog 67 #[v, .pointer (some p), .pointer (some q)] w (Res w (putE d n s)) := by
  have hv := hid h
  obtain ⟨sv, pv, rfl, hs, hp'⟩ := h
  obtain ⟨so, scap, rfl, _⟩ := hs.form
  obtain ⟨po, pcap, rfl, _⟩ := hp'.form
  have hfu' := hid hfu
  have hal : Below w.heap.size w ((w.alloc (.cells #[.slice so d.secs.length scap, .slice po d.pend.length pcap, .bool d.off, .int .i64 d.fuse] 25)).alloc (.cells #[.slice none 0 0, .slice none 0 0, .bool false, .int .i64 0] 25)) := by go_grown
  have hp2 := cell_below hal _ _ hp
  have hq2 := cell_below hal _ _ hq
  clear hs hp' hfu hp hq hal
  go_enter Try.func67, Try.ntmps67
  go_wp2_with fail
  refine (put_any d _ n s _ (hv.out.below (by go_grown)) hfu'.out).mono ?_
  rintro e w1 ⟨sv1, pv1, rfl, ho1, hb1⟩
  have hb1w : Below w.heap.size w w1 := (show Below w.heap.size w _ from by go_grown).trans (hb1.mono (by simp; omega))
  have R1 : Blk w1 (w.heap.size + 1) [.slice none 0 0, .slice none 0 0, .bool false, .int .i64 0] 25 := (Blk.new' _ _ _ _ (by simp)).below hb1 (by simp)
  obtain ⟨so1, sc1, rfl, _⟩ := ownsRow_form ho1.secs
  obtain ⟨po1, pc1, rfl, _⟩ := ownsRow_form ho1.pend
  have ho1' := hid (ho1.mono (B' := w.heap.size + 2) (by simp))
  have R5 := (((R1.set 0 (.slice so1 (putE d n s).1.secs.length sc1)).set 1 (.slice po1 (putE d n s).1.pend.length pc1)).set 2 (.bool (putE d n s).1.off)).set 3 (.int .i64 (putE d n s).1.fuse)
  simp only [List.set_cons_zero, List.set_cons_succ] at R5
  have R5' := hid R5
  have hb1' := hid hb1w
  obtain ⟨q0, q1, q2, q3, qf⟩ := R1.four
  clear R5 R1 hb1 hb1w hv ho1 hp2 hq2
  generalize hr : putE d n s = r at *
  have hr' := hid hr
  clear hr
  go_wp2_with fail
  clear q0 q1 q2 q3 qf
  obtain ⟨q0, q1, q2, q3, qf⟩ := R5'.out.four
  refine bodyPost_ret (v := .tuple #[.agg #[.slice so1 r.1.secs.length sc1, .slice po1 r.1.pend.length pc1, .bool r.1.off, .int .i64 r.1.fuse], .int .i64 r.2]) (by simp [results, Try.results67, go_sem, q0, q1, q2, q3]) rfl ?_
  have hbf : Below w.heap.size w _ := (((hb1'.out.setCell (p := ⟨w.heap.size + 1, 0, none⟩) (by simp) (.slice so1 r.1.secs.length sc1)).setCell (p := ⟨w.heap.size + 1, 1, none⟩) (by simp) (.slice po1 r.1.pend.length pc1)).setCell (p := ⟨w.heap.size + 1, 2, none⟩) (by simp) (.bool r.1.off)).setCell (p := ⟨w.heap.size + 1, 3, none⟩) (by simp) (.int .i64 r.1.fuse)
  exact ⟨_, _, rfl, ((((own_setCell ho1'.out (by simp) _).setCell' (by simp) _).setCell' (by simp) _).setCell' (by simp) _).mono (by omega), hbf⟩

/-- What a step is, as a value. -/
def StpV (w : World) (v : Value) : Stp → Prop
  | .put n s => ∃ p q, v = .func (Fn.func 67) #[] #[.pointer (some ⟨p, 0, none⟩), .pointer (some ⟨q, 0, none⟩)] ∧ Blk w p [.int .i64 n] 3 ∧ Blk w q [.string s] 9
  | .syn => v = .func (Fn.func 41) #[] #[]
theorem StpV.below {w w' : World} {v : Value} {x : Stp} (h : StpV w v x) (hb : Below w.heap.size w w') : StpV w' v x := by
  cases x with
  | put n s =>
    obtain ⟨p, q, h1, h2, h3⟩ := h
    exact ⟨p, q, h1, h2.below hb h2.lt, h3.below hb h3.lt⟩
  | syn => exact h
theorem StpV.one {w : World} {v : Value} {x : Stp} (h : StpV w v x) : v.oneCell' = true := by
  cases x with
  | put n s => obtain ⟨p, q, rfl, _⟩ := h; rfl
  | syn => rw [show v = _ from h]; rfl
theorem not_row {w : World} {base e size n b : Nat} {v : Value} {xs cs : List Value} {t : TypeId} (hown : w.ownsRow base e size v n xs) (hb : Blk w b cs t) (hne : t ≠ e) : v.ownBlock ≠ some b := by
  rcases hown.2 with ⟨rfl, _⟩ | ⟨g', cap, cur, rfl, _, hg, _⟩
  · simp [Value.ownBlock]
  · intro h
    have : g' = b := by simpa [Value.ownBlock] using h
    subst this
    rw [hb.at'] at hg
    simp at hg
    exact hne hg.2
theorem Blk.grown' {w w' : World} {b : Nat} {cs : List Value} {t : TypeId} {row : Option Nat} (h : Blk w b cs t) (hg : w.grownBy w' row) (hne : row ≠ some b) : Blk w' b cs t := ⟨(hg.block b h.lt (fun e => hne e.symm)).trans h.at'⟩
theorem StpV.grown {w w' : World} {v sv : Value} {x : Stp} {base n : Nat} {xs : List Value} (h : StpV w v x) (hown : w.ownsRow base 87 1 sv n xs) (hg : w.grownBy w' sv.ownBlock) : StpV w' v x := by
  cases x with
  | put n s =>
    obtain ⟨p, q, h1, h2, h3⟩ := h
    exact ⟨p, q, h1, Blk.grown' h2 hg (not_row hown h2 (by decide)), Blk.grown' h3 hg (not_row hown h3 (by decide))⟩
  | syn => exact h
structure StpsV (w : World) (cs : List Value) (l : List Stp) : Prop where
  len : cs.length = l.length
  each : ∀ j (h : j < l.length), StpV w (cs[j]'(by rw [len]; exact h)) l[j]
theorem StpsV.below {w w' : World} {cs : List Value} {l : List Stp} (h : StpsV w cs l) (hb : Below w.heap.size w w') : StpsV w' cs l := ⟨h.len, fun j hj => (h.each j hj).below hb⟩
theorem StpsV.grown {w w' : World} {cs : List Value} {l : List Stp} {sv : Value} {base n : Nat} {xs : List Value} (h : StpsV w cs l) (hown : w.ownsRow base 87 1 sv n xs) (hg : w.grownBy w' sv.ownBlock) : StpsV w' cs l := ⟨h.len, fun j hj => (h.each j hj).grown hown hg⟩
theorem StpsV.snoc {w : World} {cs : List Value} {l : List Stp} (h : StpsV w cs l) {v : Value} {x : Stp} (hx : StpV w v x) : StpsV w (cs ++ [v]) (l ++ [x]) := by
  have hl := h.len
  refine ⟨by simp [hl], fun j hj => ?_⟩
  simp at hj
  by_cases e : j < l.length
  · have := h.each j e
    rw [List.getElem_append_left (by omega), List.getElem_append_left e]; exact this
  · obtain rfl : j = l.length := by omega
    simp [← hl]
    exact hx
theorem fuse_wf {f : Int} (h : (Lit.int .i64 f).wf = true) : (Lit.int .i64 (if 0 < f then f - 1 else f)).wf = true := by
  split
  · have := bounds_i64 h
    exact WalkArith.wf_i64 ⟨by omega, by omega⟩
  · exact h
theorem workE_wf {d : Disk} {r : Int} {dd dc : Disk} (h : (Lit.int .i64 d.fuse).wf = true) (h1 : dd.fuse = d.fuse) (h2 : dc.fuse = d.fuse) : (Lit.int .i64 (workE d r dd dc).1.fuse).wf = true := by
  unfold workE
  split
  · rfl
  · split
    · exact h
    · split
      · exact h
      · split
        · first | exact h | (dsimp only; rw [h2]; exact h)
        · first | exact fuse_wf h | (dsimp only; first | (rw [h1]; exact fuse_wf h) | exact fuse_wf h)
theorem stpE_wf {d : Disk} (x : Stp) (h : (Lit.int .i64 d.fuse).wf = true) : (Lit.int .i64 (stpE d x).1.fuse).wf = true := by
  cases x with
  | put n s => exact workE_wf h rfl rfl
  | syn => exact workE_wf h rfl rfl
end Go.Proofs.Ytiegocbdgimimaa.Wal
