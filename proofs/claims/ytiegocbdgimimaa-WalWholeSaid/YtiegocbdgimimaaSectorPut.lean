/-
  The contracts of Put, Sync.
-/
import Derived.Test.YtiegocbdgimimaaSectorWorkCases
namespace Go.Proofs.Ytiegocbdgimimaa.Sector
open Go.ChangeShapes Go.WideShapes Go.ChangeAt Go.RowKit
open Go.Proofs.Ytiegocbdgimimaa.Mem
set_option linter.unusedVariables false

theorem work_bad (d : Disk) (v j0 j1 j2 : Value) (w : World) (h : DiskV w v d) (hok : Hid (okB d = false)) (h0 : ∃ f a c, j0 = .func f a c) (h1 : ∃ f a c, j1 = .func f a c) (h2 : ∃ f a c, j2 = .func f a c) :
    Calls Try.prog 69 #[v, .agg #[j0, j1, j2]] w (Res w (zeroDisk, 13)) := by
  have hv := hid h
  obtain ⟨sv, pv, rfl, hs, hp⟩ := h
  obtain ⟨so, scap, rfl, _⟩ := hs.form
  obtain ⟨po, pcap, rfl, _⟩ := hp.form
  obtain ⟨f0, a0, c0, rfl⟩ := h0
  obtain ⟨f1, a1, c1, rfl⟩ := h1
  obtain ⟨f2, a2, c2, rfl⟩ := h2
  have hk := hid (chk_bad hok.out)
  clear hs hp
  go_enter Try.func69, Try.ntmps69
  go_wp2_with fail
  refine (check_any d _ _ (hv.out.below (by go_grown))).mono ?_
  rintro e w1 ⟨rfl, hb1⟩
  have hb1w : Below w.heap.size w w1 := (show Below w.heap.size w _ from by go_grown).trans (hb1.mono (by simp; omega))
  have R1 : Blk w1 (w.heap.size + 2) [.slice none 0 0, .slice none 0 0, .bool false, .int .i64 0] 25 := (Blk.new' _ _ _ _ (by simp)).below hb1 (by simp)
  have R5 := (((R1.set 0 (.slice none 0 0)).set 1 (.slice none 0 0)).set 2 (.bool false)).set 3 (.int .i64 0)
  simp only [List.set_cons_zero, List.set_cons_succ] at R5
  have R5' := hid R5
  obtain ⟨q0, q1, q2, q3, qf⟩ := R1.four
  have hb1' := hid hb1w
  clear R5 R1 hb1 hb1w hv
  rw [hk.out]
  go_wp2_with fail
  obtain ⟨q0, q1, q2, q3, qf⟩ := R5'.out.four
  refine bodyPost_ret (v := .tuple #[.agg #[.slice none 0 0, .slice none 0 0, .bool false, .int .i64 0], .int .i64 13]) (by simp [results, Try.results69, go_sem, q0, q1, q2, q3]) rfl ?_
  have hz : w.heap.size ≤ w1.heap.size := hb1'.out.size
  exact ⟨_, _, rfl, zero_own (by simp; omega), (((hb1'.out.setCell (by simp; omega) _).setCell (by simp; omega) _).setCell (by simp; omega) _).setCell (by simp; omega) _⟩

theorem cf_refuse : ∀ args W, (callFunc 95 args).run Try.prog W = .ok (.enter 95 args) W := by
  intro args W
  simp [callFunc, go_sem, Try.func95, Try.f95]
theorem cf_pend : ∀ args W, (callFunc 96 args).run Try.prog W = .ok (.enter 96 args) W := by
  intro args W
  simp [callFunc, go_sem, Try.func96, Try.f96]
theorem cf_sync1 : ∀ args W, (callFunc 70 args).run Try.prog W = .ok (.enter 70 args) W := by
  intro args W
  simp [callFunc, go_sem, Try.func70, Try.f70]
theorem cf_sync2 : ∀ args W, (callFunc 71 args).run Try.prog W = .ok (.enter 71 args) W := by
  intro args W
  simp [callFunc, go_sem, Try.func71, Try.f71]
theorem cf_sync3 : ∀ args W, (callFunc 73 args).run Try.prog W = .ok (.enter 73 args) W := by
  intro args W
  simp [callFunc, go_sem, Try.func73, Try.f73]
theorem cf_all : ∀ args W, (callFunc 72 args).run Try.prog W = .ok (.enter 72 args) W := by
  intro args W
  simp [callFunc, go_sem, Try.func72, Try.f72]

def pendD (d : Disk) (n : Int) (s : ByteArray) : Disk := { d with pend := d.pend ++ [(n, s)] }
def putE (d : Disk) (n : Int) (s : ByteArray) : Disk × Int := workE d (refuseE d n s) (pendD d n s) (pendD d n s)

theorem pend_did (d : Disk) (n : Int) (s : ByteArray) (hl : d.pend.length ≤ 4096) (W : World) (B db : Nat) (sv pv : Value) (hdb : db < B) (hB : B ≤ W.heap.size) (hblk : Blk W db [sv, pv, .bool d.off, .int .i64 d.fuse] 25) (hown : OwnDisk B W sv pv d) :
    Calls Try.prog 96 (#[.agg #[.int .i64 n, .string s]] ++ #[.pointer (some ⟨db, 0, none⟩)]) W (Did W B db (pendD d n s)) := by
  refine (pend_any B db hdb sv pv d n s W hB hblk hown hl).mono ?_
  rintro e w' ⟨W1, pv', rfl, rfl, hb, ho, ao, cap, rfl⟩
  refine ⟨sv, _, rfl, ?_, own_setCell ho hdb _, But.of hb 1 _⟩
  have := (hblk.below hb hdb).set 1 (.slice ao ({ d with pend := d.pend ++ [(n, s)] } : Disk).pend.length cap)
  simp only [List.set_cons_zero, List.set_cons_succ] at this
  exact this

theorem work_put (d : Disk) (v : Value) (n : Int) (s : ByteArray) (w : World) (h : DiskV w v d) (hfu : (Lit.int .i64 d.fuse).wf = true) :
    Calls Try.prog 69 #[v, .agg #[.func (Fn.func 95) #[.agg #[.int .i64 n, .string s]] #[], .func (Fn.func 96) #[.agg #[.int .i64 n, .string s]] #[], .func (Fn.func 96) #[.agg #[.int .i64 n, .string s]] #[]]] w (Res w (putE d n s)) := by
  have hf := bounds_i64 hfu
  have hr : Hid (∀ W v, DiskV W v d → Calls Try.prog 95 (#[.agg #[.int .i64 n, .string s]] ++ #[v]) W fun e W' => e = .returned (.int .i64 (refuseE d n s)) ∧ Below W.heap.size W W') := hid (fun W v h => refuse_any d v n s W h)
  unfold putE workE
  cases hok : okB d with
  | false => rw [if_pos rfl]; exact work_bad d v _ _ _ w h (hid hok) ⟨_, _, _, rfl⟩ ⟨_, _, _, rfl⟩ ⟨_, _, _, rfl⟩
  | true =>
    rw [if_neg (by simp)]
    obtain ⟨secs, pend, off, fuse⟩ := d
    cases off with
    | true => rw [if_pos rfl]; exact work_off secs pend fuse v w h _ _ _ _ _ _ (hid hok)
    | false =>
      rw [if_neg (by simp)]
      by_cases hz : refuseE ⟨secs, pend, false, fuse⟩ n s = 0
      · rw [if_neg (by simp [hz])]
        have hl : pend.length ≤ 4096 := by
          unfold refuseE at hz
          split at hz
          · omega
          · split at hz
            · omega
            · split at hz
              · omega
              · simp at *; omega
        rw [hz] at hr
        by_cases h0 : fuse = 0
        · subst h0
          rw [if_pos rfl]
          exact work_cut secs pend v w h _ _ _ _ _ _ (hid hok) cf_refuse hr secs (pend ++ [(n, s)]) rfl cf_pend (hid fun W B db sv pv a b c e => pend_did ⟨secs, pend, false, 0⟩ n s hl W B db sv pv a b c e)
        · rw [if_neg h0]
          by_cases hp : 0 < fuse
          · rw [if_pos hp]
            exact work_pos secs pend fuse v w h _ _ _ _ _ _ (hid hok) cf_refuse hr secs (pend ++ [(n, s)]) rfl cf_pend (hid fun W B db sv pv a b c e => pend_did ⟨secs, pend, false, fuse⟩ n s hl W B db sv pv a b c e) hp hf.2 (beq_eq_false_iff_ne.2 h0)
          · rw [if_neg hp]
            exact work_neg secs pend fuse v w h _ _ _ _ _ _ (hid hok) cf_refuse hr secs (pend ++ [(n, s)]) rfl cf_pend (hid fun W B db sv pv a b c e => pend_did ⟨secs, pend, false, fuse⟩ n s hl W B db sv pv a b c e) (by have : (⟨secs, pend, false, fuse⟩ : Disk).fuse = fuse := rfl; omega) (beq_eq_false_iff_ne.2 h0)
      · rw [if_pos hz]
        exact work_refused secs pend fuse v w h _ _ _ _ _ _ (hid hok) _ cf_refuse hr (by simpa using hz)

theorem put_any (d : Disk) (v : Value) (n : Int) (s : ByteArray) (w : World) (h : DiskV w v d) (hfu : (Lit.int .i64 d.fuse).wf = true) :
    Calls Try.prog 68 #[v, .int .i64 n, .string s] w (Res w (putE d n s)) := by
  have hv := hid h
  obtain ⟨sv, pv, rfl, hs, hp⟩ := h
  obtain ⟨so, scap, rfl, _⟩ := hs.form
  obtain ⟨po, pcap, rfl, _⟩ := hp.form
  have hfu' := hid hfu
  clear hs hp hfu
  go_enter Try.func68, Try.ntmps68
  go_wp2_with fail
  refine (work_put d _ n s _ (hv.out.below (by go_grown)) hfu'.out).mono ?_
  rintro e w1 ⟨sv1, pv1, rfl, ho1, hb1⟩
  have hb1w : Below w.heap.size w w1 := (show Below w.heap.size w _ from by go_grown).trans (hb1.mono (by simp; omega))
  have R1 : Blk w1 (w.heap.size + 1) [.slice none 0 0, .slice none 0 0, .bool false, .int .i64 0] 25 := ((Blk.new' _ _ _ _ (by simp)).alloc _).below hb1 (by simp)
  obtain ⟨so1, sc1, rfl, _⟩ := ownsRow_form ho1.secs
  obtain ⟨po1, pc1, rfl, _⟩ := ownsRow_form ho1.pend
  have ho1' := hid (ho1.mono (B' := w.heap.size + 2) (by simp))
  have R5 := (((R1.set 0 (.slice so1 (putE d n s).1.secs.length sc1)).set 1 (.slice po1 (putE d n s).1.pend.length pc1)).set 2 (.bool (putE d n s).1.off)).set 3 (.int .i64 (putE d n s).1.fuse)
  simp only [List.set_cons_zero, List.set_cons_succ] at R5
  have R5' := hid R5
  have hb1' := hid hb1w
  obtain ⟨q0, q1, q2, q3, qf⟩ := R1.four
  clear R5 R1 hb1 hb1w hv ho1
  generalize hr : putE d n s = r at *
  have hr' := hid hr
  clear hr
  go_wp2_with fail
  clear q0 q1 q2 q3 qf
  obtain ⟨q0, q1, q2, q3, qf⟩ := R5'.out.four
  refine bodyPost_ret (v := .tuple #[.agg #[.slice so1 r.1.secs.length sc1, .slice po1 r.1.pend.length pc1, .bool r.1.off, .int .i64 r.1.fuse], .int .i64 r.2]) (by simp [results, Try.results68, go_sem, q0, q1, q2, q3]) rfl ?_
  have hbf : Below w.heap.size w _ := (((hb1'.out.setCell (p := ⟨w.heap.size + 1, 0, none⟩) (by simp) (.slice so1 r.1.secs.length sc1)).setCell (p := ⟨w.heap.size + 1, 1, none⟩) (by simp) (.slice po1 r.1.pend.length pc1)).setCell (p := ⟨w.heap.size + 1, 2, none⟩) (by simp) (.bool r.1.off)).setCell (p := ⟨w.heap.size + 1, 3, none⟩) (by simp) (.int .i64 r.1.fuse)
  exact ⟨_, _, rfl, ((((own_setCell ho1'.out (by simp) _).setCell' (by simp) _).setCell' (by simp) _).setCell' (by simp) _).mono (by omega), hbf⟩

def yes : Nat → Bool := fun _ => true
def syncD (d : Disk) : Disk := { d with secs := sett yes d.pend d.secs d.pend.length, pend := [] }
def syncE (d : Disk) : Disk × Int := workE d 0 (syncD d) d

theorem sync1_any (v : Value) (d : Disk) (W : World) (h : DiskV W v d) : Calls Try.prog 70 (#[] ++ #[v]) W fun e W' => e = .returned (.int .i64 0) ∧ Below W.heap.size W W' := by
  obtain ⟨sv, pv, rfl, hs, hp⟩ := h
  obtain ⟨so, scap, rfl, _⟩ := hs.form
  obtain ⟨po, pcap, rfl, _⟩ := hp.form
  clear hs hp
  show Calls Try.prog 70 #[_] W _
  go_enter Try.func70, Try.ntmps70
  go_wp2_with fail
  go_ret
  exact ⟨rfl, by go_grown⟩
theorem all_any (i : Nat) (W : World) : Calls Try.prog 72 (#[.int .i64 i] ++ #[]) W fun e W' => e = .returned (.bool (yes i)) ∧ W = W' := by
  show Calls Try.prog 72 #[_] W _
  go_enter Try.func72, Try.ntmps72
  go_wp2_with fail
  go_ret
  exact ⟨rfl, rfl⟩

theorem settled_did {W w' : World} {B db : Nat} {sv pv : Value} {d : Disk} {secs : List ByteArray} {e : Ending} (hdb : db < B) (hB : B ≤ W.heap.size) (hl : secs.length = d.secs.length) (hblk : Blk W db [sv, pv, .bool d.off, .int .i64 d.fuse] 25)
    (h : Settled W B db sv secs e w') : Did W B db { d with secs := secs, pend := [] } e w' := by
  obtain ⟨W1, rfl, rfl, hb, ho⟩ := h
  have hB1 : B ≤ W1.heap.size := Nat.le_trans hB hb.size
  refine ⟨sv, .slice none 0 0, rfl, ?_, ⟨ownsRow_setCell_below ho hdb _, W1.heap.size, hB1, by simp, fun k hk => (ownBlock_lt ho hk).2, World.ownsRow_nil _ _ _ _⟩, But.of hb 1 _⟩
  have := (hblk.below hb hdb).set 1 (.slice none 0 0)
  simp only [List.set_cons_zero, List.set_cons_succ] at this
  exact this

theorem okB_in {d : Disk} (h : okB d = true) : ∀ p ∈ d.pend, 0 ≤ p.1 ∧ p.1 < d.secs.length := by
  unfold okB at h
  simp only [Bool.and_eq_true, Bool.not_eq_true', List.any_eq_false] at h
  intro p hp
  have := h.2 p hp
  simp [badB, missB] at this
  omega

theorem sync2_did (d : Disk) (hok : okB d = true) (W : World) (B db : Nat) (sv pv : Value) (hdb : db < B) (hB : B ≤ W.heap.size) (hblk : Blk W db [sv, pv, .bool d.off, .int .i64 d.fuse] 25) (hown : OwnDisk B W sv pv d) :
    Calls Try.prog 71 (#[] ++ #[.pointer (some ⟨db, 0, none⟩)]) W (Did W B db (syncD d)) := by
  have hset := hid (settle_any B db hdb sv pv d 72 #[] yes W hB hblk hown (okB_in hok) cf_all (fun i _ W' _ => all_any i W'))
  have hdid := hid (fun e w' => settled_did (e := e) (w' := w') (secs := sett yes d.pend d.secs d.pend.length) hdb hB (sett_len _ _ _ _) hblk)
  clear hblk hown
  show Calls Try.prog 71 #[_] W _
  go_enter Try.func71, Try.ntmps71
  go_wp2_with fail
  refine hset.out.mono ?_
  intro e w' h
  have h2 := hdid.out e w' h
  obtain ⟨W1, he, hrest⟩ := h
  clear hrest
  subst he
  have h3 := hid h2
  clear h2
  go_wp2_with fail
  go_returns
  exact h3.out
theorem sync3_did (d : Disk) (W : World) (B db : Nat) (sv pv : Value) (hdb : db < B) (hB : B ≤ W.heap.size) (hblk : Blk W db [sv, pv, .bool d.off, .int .i64 d.fuse] 25) (hown : OwnDisk B W sv pv d) :
    Calls Try.prog 73 (#[] ++ #[.pointer (some ⟨db, 0, none⟩)]) W (Did W B db d) := by
  have h : Hid (Did W B db d (.returned (.tuple #[])) W) := hid ⟨sv, pv, rfl, hblk, hown, But.refl _ _ _⟩
  clear hblk hown
  show Calls Try.prog 73 #[_] W _
  go_enter Try.func73, Try.ntmps73
  go_wp2_with fail
  go_returns
  exact h.out

theorem work_sync (d : Disk) (v : Value) (w : World) (h : DiskV w v d) (hfu : (Lit.int .i64 d.fuse).wf = true) :
    Calls Try.prog 69 #[v, .agg #[.func (Fn.func 70) #[] #[], .func (Fn.func 71) #[] #[], .func (Fn.func 73) #[] #[]]] w (Res w (syncE d)) := by
  have hf := bounds_i64 hfu
  have hr : Hid (∀ W v, DiskV W v d → Calls Try.prog 70 (#[] ++ #[v]) W fun e W' => e = .returned (.int .i64 0) ∧ Below W.heap.size W W') := hid (fun W v h => sync1_any v d W h)
  unfold syncE workE
  cases hok : okB d with
  | false => rw [if_pos rfl]; exact work_bad d v _ _ _ w h (hid hok) ⟨_, _, _, rfl⟩ ⟨_, _, _, rfl⟩ ⟨_, _, _, rfl⟩
  | true =>
    rw [if_neg (by simp)]
    obtain ⟨secs, pend, off, fuse⟩ := d
    cases off with
    | true => rw [if_pos rfl]; exact work_off secs pend fuse v w h _ _ _ _ _ _ (hid hok)
    | false =>
      rw [if_neg (by simp), if_neg (by simp)]
      have hl : (sett yes pend secs pend.length).length = secs.length := sett_len _ _ _ _
      by_cases h0 : fuse = 0
      · subst h0
        rw [if_pos rfl]
        exact work_cut secs pend v w h _ _ _ _ _ _ (hid hok) cf_sync1 hr secs pend rfl cf_sync3 (hid fun W B db sv pv a b c e => sync3_did ⟨secs, pend, false, 0⟩ W B db sv pv a b c e)
      · rw [if_neg h0]
        by_cases hp : 0 < fuse
        · rw [if_pos hp]
          exact work_pos secs pend fuse v w h _ _ _ _ _ _ (hid hok) cf_sync1 hr (sett yes pend secs pend.length) [] hl cf_sync2 (hid fun W B db sv pv a b c e => sync2_did ⟨secs, pend, false, fuse⟩ hok W B db sv pv a b c e) hp hf.2 (beq_eq_false_iff_ne.2 h0)
        · rw [if_neg hp]
          exact work_neg secs pend fuse v w h _ _ _ _ _ _ (hid hok) cf_sync1 hr (sett yes pend secs pend.length) [] hl cf_sync2 (hid fun W B db sv pv a b c e => sync2_did ⟨secs, pend, false, fuse⟩ hok W B db sv pv a b c e) (by have : (⟨secs, pend, false, fuse⟩ : Disk).fuse = fuse := rfl; omega) (beq_eq_false_iff_ne.2 h0)

theorem sync_any (d : Disk) (v : Value) (w : World) (h : DiskV w v d) (hfu : (Lit.int .i64 d.fuse).wf = true) :
    Calls Try.prog 41 #[v] w (Res w (syncE d)) := by
  have hv := hid h
  obtain ⟨sv, pv, rfl, hs, hp⟩ := h
  obtain ⟨so, scap, rfl, _⟩ := hs.form
  obtain ⟨po, pcap, rfl, _⟩ := hp.form
  have hfu' := hid hfu
  clear hs hp hfu
  go_enter Try.func41, Try.ntmps41
  go_wp2_with fail
  refine (work_sync d _ _ (hv.out.below (by go_grown)) hfu'.out).mono ?_
  rintro e w1 ⟨sv1, pv1, rfl, ho1, hb1⟩
  have hb1w : Below w.heap.size w w1 := (show Below w.heap.size w _ from by go_grown).trans (hb1.mono (by simp; omega))
  have R1 : Blk w1 (w.heap.size + 1) [.slice none 0 0, .slice none 0 0, .bool false, .int .i64 0] 25 := (Blk.new' _ _ _ _ (by simp)).below hb1 (by simp)
  obtain ⟨so1, sc1, rfl, _⟩ := ownsRow_form ho1.secs
  obtain ⟨po1, pc1, rfl, _⟩ := ownsRow_form ho1.pend
  have ho1' := hid (ho1.mono (B' := w.heap.size + 2) (by simp))
  have R5 := (((R1.set 0 (.slice so1 (syncE d).1.secs.length sc1)).set 1 (.slice po1 (syncE d).1.pend.length pc1)).set 2 (.bool (syncE d).1.off)).set 3 (.int .i64 (syncE d).1.fuse)
  simp only [List.set_cons_zero, List.set_cons_succ] at R5
  have R5' := hid R5
  have hb1' := hid hb1w
  obtain ⟨q0, q1, q2, q3, qf⟩ := R1.four
  clear R5 R1 hb1 hb1w hv ho1
  generalize hr : syncE d = r at *
  have hr' := hid hr
  clear hr
  go_wp2_with fail
  clear q0 q1 q2 q3 qf
  obtain ⟨q0, q1, q2, q3, qf⟩ := R5'.out.four
  refine bodyPost_ret (v := .tuple #[.agg #[.slice so1 r.1.secs.length sc1, .slice po1 r.1.pend.length pc1, .bool r.1.off, .int .i64 r.1.fuse], .int .i64 r.2]) (by simp [results, Try.results41, go_sem, q0, q1, q2, q3]) rfl ?_
  have hbf : Below w.heap.size w _ := (((hb1'.out.setCell (p := ⟨w.heap.size + 1, 0, none⟩) (by simp) (.slice so1 r.1.secs.length sc1)).setCell (p := ⟨w.heap.size + 1, 1, none⟩) (by simp) (.slice po1 r.1.pend.length pc1)).setCell (p := ⟨w.heap.size + 1, 2, none⟩) (by simp) (.bool r.1.off)).setCell (p := ⟨w.heap.size + 1, 3, none⟩) (by simp) (.int .i64 r.1.fuse)
  exact ⟨_, _, rfl, ((((own_setCell ho1'.out (by simp) _).setCell' (by simp) _).setCell' (by simp) _).setCell' (by simp) _).mono (by omega), hbf⟩
end Go.Proofs.Ytiegocbdgimimaa.Sector
