/-
  The contract of wal.Scan.
-/
import Derived.Test.YtiegocbdgimimaaWalFrames
namespace Go.Proofs.Ytiegocbdgimimaa.Wal
open Go.ChangeShapes Go.WideShapes Go.ChangeAt Go.RowKit Go.Shelf
open Go.Proofs.Ytiegocbdgimimaa.Mem Go.Proofs.Ytiegocbdgimimaa.Rec Go.Proofs.Ytiegocbdgimimaa.Sector
set_option linter.unusedVariables false
set_option maxRecDepth 100000
attribute [local go_sem] Oper.semAt_some
theorem frames_in (F : Fence) (n : Nat) (hf : F.fn 29) (hro : F.round = none) (v0 v1 v2 v3 u0 u1 : Value) (ep : Nat) (w : World) :
    CallsIn F n Try.prog 29 #[.agg #[v0, v1, v2, v3], .agg #[u0, u1], .int .u64 ep] w fun e w' => e = .returned (.func (.func 57) #[] #[.pointer (some ⟨w.heap.size, 0, none⟩), .pointer (some ⟨w.heap.size + 1, 0, none⟩), .pointer (some ⟨w.heap.size + 2, 0, none⟩)]) ∧
      w' = ((w.alloc (.cells #[v0, v1, v2, v3] 25)).alloc (.cells #[u0, u1] 27)).alloc (.cells #[.int .u64 ep] 28) := by
  refine callsIn_of_wp Try.func29 rfl hf ?_ hro
  simp only [Try.ntmps29, List.size_toArray, List.length_cons, List.length_nil, Nat.reduceAdd, Nat.reduceSub, Array.replicate_succ, Array.replicate_zero, List.push_toArray, List.append_toArray, List.nil_append, List.cons_append]
  gi_wp2
  go_ret
  exact ⟨rfl, rfl⟩
theorem frames_stops (n : Nat) (hn : 1 ≤ n) (Bd Br Be : Nat) (d : Disk) (so po : Option Addr) (scap pcap F S ep : Nat) (A w : World)
    (hV : DiskV A (.agg #[.slice so d.secs.length scap, .slice po d.pend.length pcap, .bool d.off, .int .i64 d.fuse]) d) (hAw : Below A.heap.size A w) (hS : S ≤ 1024) (hF : F ≤ 1024)
    (hD : Blk w Bd [.slice so d.secs.length scap, .slice po d.pend.length pcap, .bool d.off, .int .i64 d.fuse] 25) (hR : Blk w Br [.int .i64 (F : Nat), .int .i64 (S : Nat)] 27) (hE : Blk w Be [.int .u64 ep] 28) :
    SeqStopsK Fence.wide n Try.prog 57 #[.pointer (some ⟨Bd, 0, none⟩), .pointer (some ⟨Br, 0, none⟩), .pointer (some ⟨Be, 0, none⟩)] encF (Kp3 A.heap.size Bd Br Be) (fun ys => ys = firstF (cont d ⟨F, S⟩) S (cnt (cont d ⟨F, S⟩) S ep)) (fun pre => ∃ k, k ≤ cnt (cont d ⟨F, S⟩) S ep ∧ pre = firstF (cont d ⟨F, S⟩) S k) (cnt (cont d ⟨F, S⟩) S ep) w := fun l J Jx W hW hab _ hY h0 => by
  have hsz := hW.size
  exact frames1_in n hn l Bd Br Be d so po scap pcap F S ep A hV hS hF J Jx (fun s A B hs hb => abides_below hab hs hb) hY W (hAw.trans (hW.mono hAw.size)) (hD.below hW hD.lt) (hR.below hW hR.lt) (hE.below hW hE.lt) h0
def frC (l : List Fr) : List Value := l.flatMap fun f => [.int .u8 f.kind, .int .u64 f.epoch, .int .u64 f.seq, .string f.pay]
theorem frC_app (a b : List Fr) : frC (a ++ b) = frC a ++ frC b := by simp [frC]
theorem frC_len (l : List Fr) : (frC l).length = l.length * 4 := by
  induction l with
  | nil => rfl
  | cons f l ih => simp [frC] at ih ⊢; omega
theorem info_frame : (Try.prog.info? 30).map (fun i => (i.zero, i.size, i.bytes)) = some (some (.agg #[.int .u8 0, .int .u64 0, .int .u64 0, .string ⟨#[]⟩]), 4, 40) := by kernel_rfl
def lastEnd (l : List FX) : Nat := (l.getLast?.map (·.1)).getD 0
theorem lastEnd_snoc (l : List FX) (x : FX) : lastEnd (l ++ [x]) = x.1 := by simp [lastEnd]
theorem lastEnd_first (h : Nat → ByteArray) (s k : Nat) : lastEnd (firstF h s k) = pos h s k := by
  cases k with
  | zero => rfl
  | succ k => rw [firstF_succ, lastEnd_snoc]; rfl
def ScTold (w : World) (x : List Fr × Nat × Int) (e : Ending) (w' : World) : Prop :=
  ∃ ao cap, e = .returned (.tuple #[.slice ao x.1.length cap, .int .i64 x.2.1, .int .i64 x.2.2]) ∧ w'.ownsRow w.heap.size 30 4 (.slice ao x.1.length cap) x.1.length (frC x.1) ∧ Below w.heap.size w w'
theorem log_step (W : World) (n0 X n : Nat) (v : Value) (L : List Fr) (f : Fr) (hn0 : n0 ≤ W.heap.size) (hX : n0 ≤ X) (hv : Boxed W X 41 v) (hrow : W.ownsRow n0 30 4 v n (frC L)) (hn : n ≤ 2000) :
    ∃ w8 so' cp', (Builtin.append_ #[41, 41] 41 #[v, .slice (some ⟨W.heap.size, 0, none⟩) 1 1]).run Try.prog (W.alloc (.cells #[.int .u8 f.kind, .int .u64 f.epoch, .int .u64 f.seq, .string f.pay] 30)) = .ok (.slice so' (n + 1) cp') w8 ∧
      Boxed w8 X 41 v ∧ Boxed (w8.setCell ⟨X, 0, none⟩ (.slice so' (n + 1) cp')) X 41 (.slice so' (n + 1) cp') ∧ (w8.setCell ⟨X, 0, none⟩ (.slice so' (n + 1) cp')).ownsRow n0 30 4 (.slice so' (n + 1) cp') (n + 1) (frC (L ++ [f])) ∧
      KeepsOthers W (w8.setCell ⟨X, 0, none⟩ (.slice so' (n + 1) cp')) ∧ Below n0 W (w8.setCell ⟨X, 0, none⟩ (.slice so' (n + 1) cp')) ∧
      (∀ B cs t, Blk W B cs t → B ≠ X → t ≠ 30 → w8.heap[B]? = W.heap[B]? ∧ (w8.setCell ⟨X, 0, none⟩ (.slice so' (n + 1) cp')).heap[B]? = W.heap[B]?) := by
  obtain ⟨i0, hi, hz0, hz1, hz2⟩ := info_parts info_frame
  obtain ⟨v', w8, hr8, ho8, hg8, _⟩ := run_append_own (P := Try.prog) (W.alloc (.cells #[.int .u8 f.kind, .int .u64 f.epoch, .int .u64 f.seq, .string f.pay] 30)) n0 41 41 30 i0 (.agg #[.int .u8 0, .int .u64 0, .int .u64 0, .string ⟨#[]⟩]) 4 40 Try.underlying41 hi hz0 hz1 hz2 rfl (by decide) _ _ _ (hrow.alloc _) ⟨W.heap.size, 0, none⟩ 1 1 [.int .u8 f.kind, .int .u64 f.epoch, .int .u64 f.seq, .string f.pay] rfl
    (by
      intro j u hu
      match j, hu with
      | 0, hu => simp at hu; subst hu; simp [go_sem]
      | 1, hu => simp at hu; subst hu; simp [go_sem, Addr.add]
      | 2, hu => simp at hu; subst hu; simp [go_sem, Addr.add]
      | 3, hu => simp at hu; subst hu; simp [go_sem, Addr.add]) (by simp [Value.oneCell']) (by unfold maxLen; omega) (by omega) (by simp; omega)
  obtain ⟨so', cp', rfl, _, _⟩ := ownsRow_form ho8
  obtain ⟨hv8, hv9, ho9, hk9, hb9⟩ := Boxed.appended hv (by decide) hrow hn0 hX ho8 hg8
  refine ⟨w8, so', cp', hr8, hv8, hv9, ?_, hk9, hb9, fun B cs t hB hne ht => ?_⟩
  · rw [frC_app]; exact ho9
  · have hBa := hB.alloc (.cells #[.int .u8 f.kind, .int .u64 f.epoch, .int .u64 f.seq, .string f.pay] 30)
    have h8 := (Blk.grown' hBa hg8 (not_row (hrow.alloc _) hBa ht)).at'
    refine ⟨h8.trans hB.at'.symm, ?_⟩
    rw [Below.heap_setCell _ _ _ _ (by simpa using hne)]
    exact h8.trans hB.at'.symm
theorem wpListIn_run {F : Fence} {n : Nat} {P : Program} {w : World} {ops : Array Oper} {rest : List Oper} {o : Oper} {a : Act} {Q : Exit → Act → World → Prop}
    (hg : o.guard = none) (s x : Operand) (t : TypeId) (hop : o.op = Op.call { callee := Callee.builtin Builtin.append, args := #[s, x], argTypes := #[t, t] })
    (v1 v2 v' : Value) (w' : World) (hs : a.eval s = v1) (hx : a.eval x = v2) (hrun : (Builtin.append_ #[t, t] o.type #[v1, v2]).run P w = .ok v' w') (hK : wpListIn F n P ops Q rest (a.put o.dst v') w') :
    wpListIn F n P ops Q (o :: rest) a w := by
  refine wpListIn_plain hg fun K hK' => ?_
  unfold Oper.wpIn
  refine ⟨?_, ?_⟩
  · simp [Oper.about, hop, resolve, Target.leads, Sem.run_pure]
  · rw [Oper.semAt_plain F _ _ (by rw [hop]; intro c hc'; cases hc')]
    simp [execOp, hop, resolve, invoke, builtin, hs, hx, hrun, Result.andThen]
    exact hK' _ _ hK
set_option maxHeartbeats 8000000 in
theorem scan_go (secs : List ByteArray) (pend : List (Int × ByteArray)) (fuse : Int) (v : Value) (F S ep : Nat) (w : World) (h : DiskV w v ⟨secs, pend, false, fuse⟩) (hr : Rg.has ⟨F, S⟩) (hc : walChk ⟨secs, pend, false, fuse⟩ ⟨F, S⟩ = 0) :
    Calls Try.prog 11 #[v, .agg #[.int .i64 (F : Nat), .int .i64 (S : Nat)], .int .u64 ep] w (ScTold w (logF (cont ⟨secs, pend, false, fuse⟩ ⟨F, S⟩) S ep, endF (cont ⟨secs, pend, false, fuse⟩ ⟨F, S⟩) S ep, 0)) := by
  have hv := hid h
  obtain ⟨k1, k2, k3, k4, k5⟩ := walChk_zero hc
  have hS : S ≤ 1024 := by dsimp only at k4 k5 k2; omega
  have hF : F ≤ 1024 := by dsimp only at k4 k5 k3; omega
  have hcheck := hid (fun v W (h : DiskV W v ⟨secs, pend, false, fuse⟩) => hc ▸ wcheck_any ⟨secs, pend, false, fuse⟩ v ⟨F, S⟩ W h hr)
  obtain ⟨sv, pv, rfl, hs, hp⟩ := h
  obtain ⟨so, scap, rfl, _⟩ := hs.form
  obtain ⟨po, pcap, rfl, _⟩ := hp.form
  clear hs hp k1 k2 k3 k4 k5 hc hr
  dsimp only at hv hcheck ⊢
  rw [show rgV ⟨F, S⟩ = .agg #[.int .i64 (F : Nat), .int .i64 (S : Nat)] from rfl] at hcheck
  have hst := hid (fun n hn Bd Br Be A W hV hAw hD hR hE => frames_stops n hn Bd Br Be ⟨secs, pend, false, fuse⟩ so po scap pcap F S ep A W hV hAw hS hF hD hR hE)
  dsimp only at hst
  have hlog := hid (show (firstF (cont ⟨secs, pend, false, fuse⟩ ⟨F, S⟩) S (cnt (cont ⟨secs, pend, false, fuse⟩ ⟨F, S⟩) S ep)).map (·.2) = logF (cont ⟨secs, pend, false, fuse⟩ ⟨F, S⟩) S ep from firstF_log _ _ _)
  have hend := hid (show lastEnd (firstF (cont ⟨secs, pend, false, fuse⟩ ⟨F, S⟩) S (cnt (cont ⟨secs, pend, false, fuse⟩ ⟨F, S⟩) S ep)) = endF (cont ⟨secs, pend, false, fuse⟩ ⟨F, S⟩) S ep from lastEnd_first _ _ _)
  have hcl := hid (cnt_le (cont ⟨secs, pend, false, fuse⟩ ⟨F, S⟩) S ep)
  have hlen := hid (show (logF (cont ⟨secs, pend, false, fuse⟩ ⟨F, S⟩) S ep).length = cnt (cont ⟨secs, pend, false, fuse⟩ ⟨F, S⟩) S ep from logF_len _ _ _)
  have hfl := hid (show (firstF (cont ⟨secs, pend, false, fuse⟩ ⟨F, S⟩) S (cnt (cont ⟨secs, pend, false, fuse⟩ ⟨F, S⟩) S ep)).length = cnt (cont ⟨secs, pend, false, fuse⟩ ⟨F, S⟩) S ep from firstF_len _ _ _)
  generalize logF (cont ⟨secs, pend, false, fuse⟩ ⟨F, S⟩) S ep = L at hlog hlen ⊢
  generalize endF (cont ⟨secs, pend, false, fuse⟩ ⟨F, S⟩) S ep = E at hend ⊢
  generalize hfs : firstF (cont ⟨secs, pend, false, fuse⟩ ⟨F, S⟩) S (cnt (cont ⟨secs, pend, false, fuse⟩ ⟨F, S⟩) S ep) = FS at hlog hend hfl hst
  generalize cnt (cont ⟨secs, pend, false, fuse⟩ ⟨F, S⟩) S ep = C at hcl hlen hfl hst
  clear hfs
  refine (callsIn_wide (n := 9)).1 ?_
  refine callsIn_of_wp_marks Try.func11 rfl trivial ?_ rfl
  simp only [Try.ntmps11, List.size_toArray, List.length_cons, List.length_nil, Nat.reduceAdd, Nat.reduceSub, Array.replicate_succ, Array.replicate_zero, List.push_toArray, List.append_toArray, List.nil_append, List.cons_append]
  gi_wp2_with fail
  refine ⟨trivial, ?_⟩
  refine (callsIn_wide.2 (hcheck.out _ _ (hv.out.below (by go_grown)))).mono ?_
  rintro e w1 ⟨rfl, hb1⟩
  have D1 := hid (((Blk.new w [.slice so secs.length scap, .slice po pend.length pcap, .bool false, .int .i64 fuse] 25).alloc (.cells #[.int .i64 (F : Nat), .int .i64 (S : Nat)] 27)).below hb1 (by simp; omega))
  have R1 := hid (Blk.below (Blk.new' (w.alloc (.cells #[.slice so secs.length scap, .slice po pend.length pcap, .bool false, .int .i64 fuse] 25)) [.int .i64 (F : Nat), .int .i64 (S : Nat)] 27 (w.heap.size + 1) (by simp)) hb1 (by simp))
  have b1w := hid ((show Below w.heap.size w _ from by go_grown).trans (hb1.mono (by simp; omega)))
  obtain ⟨d0, d1, d2, d3, df⟩ := D1.out.four
  obtain ⟨r0, r1, rf⟩ := R1.out.two
  have hlt1 : w.heap.size < w1.heap.size := D1.out.lt
  have hlt2 : w.heap.size + 1 < w1.heap.size := R1.out.lt
  clear hb1 hcheck
  gi_wp2_with fail
  refine ⟨trivial, ?_⟩
  refine (frames_in _ _ trivial rfl _ _ _ _ _ _ _ _).mono ?_
  rintro e w2 ⟨rfl, rfl⟩
  clear d0 d1 d2 d3 df r0 r1 rf
  have hz0 : ((w1.alloc (.cells #[.slice none 0 0] 41)).alloc (.cells #[.int .i64 0] 3)).heap.size = w1.heap.size + 2 := by simp
  rw [hz0]
  have bX : Boxed (((((w1.alloc (.cells #[.slice none 0 0] 41)).alloc (.cells #[.int .i64 0] 3)).alloc (.cells #[.slice so secs.length scap, .slice po pend.length pcap, .bool false, .int .i64 fuse] 25)).alloc (.cells #[.int .i64 (F : Nat), .int .i64 (S : Nat)] 27)).alloc (.cells #[.int .u64 ep] 28)) w1.heap.size 41 (.slice none 0 0) := ((((Blk.new w1 [.slice none 0 0] 41).alloc _).alloc _).alloc _).alloc _ |>.at'
  have bN : Boxed (((((w1.alloc (.cells #[.slice none 0 0] 41)).alloc (.cells #[.int .i64 0] 3)).alloc (.cells #[.slice so secs.length scap, .slice po pend.length pcap, .bool false, .int .i64 fuse] 25)).alloc (.cells #[.int .i64 (F : Nat), .int .i64 (S : Nat)] 27)).alloc (.cells #[.int .u64 ep] 28)) (w1.heap.size + 1) 3 (.int .i64 ((0 : Nat) : Int)) := ((((Blk.new' (w1.alloc (.cells #[.slice none 0 0] 41)) [.int .i64 ((0 : Nat) : Int)] 3 (w1.heap.size + 1) (by simp)).alloc _).alloc _).alloc _).at'
  have bD : Blk (((((w1.alloc (.cells #[.slice none 0 0] 41)).alloc (.cells #[.int .i64 0] 3)).alloc (.cells #[.slice so secs.length scap, .slice po pend.length pcap, .bool false, .int .i64 fuse] 25)).alloc (.cells #[.int .i64 (F : Nat), .int .i64 (S : Nat)] 27)).alloc (.cells #[.int .u64 ep] 28)) (w1.heap.size + 2) [.slice so secs.length scap, .slice po pend.length pcap, .bool false, .int .i64 fuse] 25 := ((Blk.new' _ _ _ (w1.heap.size + 2) (by simp)).alloc _).alloc _
  have bR : Blk (((((w1.alloc (.cells #[.slice none 0 0] 41)).alloc (.cells #[.int .i64 0] 3)).alloc (.cells #[.slice so secs.length scap, .slice po pend.length pcap, .bool false, .int .i64 fuse] 25)).alloc (.cells #[.int .i64 (F : Nat), .int .i64 (S : Nat)] 27)).alloc (.cells #[.int .u64 ep] 28)) (w1.heap.size + 3) [.int .i64 (F : Nat), .int .i64 (S : Nat)] 27 := (Blk.new' _ _ _ (w1.heap.size + 3) (by simp)).alloc _
  have bE : Blk (((((w1.alloc (.cells #[.slice none 0 0] 41)).alloc (.cells #[.int .i64 0] 3)).alloc (.cells #[.slice so secs.length scap, .slice po pend.length pcap, .bool false, .int .i64 fuse] 25)).alloc (.cells #[.int .i64 (F : Nat), .int .i64 (S : Nat)] 27)).alloc (.cells #[.int .u64 ep] 28)) (w1.heap.size + 4) [.int .u64 ep] 28 := Blk.new' _ _ _ (w1.heap.size + 4) (by simp)
  have hA1 : Below w1.heap.size w1 (((((w1.alloc (.cells #[.slice none 0 0] 41)).alloc (.cells #[.int .i64 0] 3)).alloc (.cells #[.slice so secs.length scap, .slice po pend.length pcap, .bool false, .int .i64 fuse] 25)).alloc (.cells #[.int .i64 (F : Nat), .int .i64 (S : Nat)] 27)).alloc (.cells #[.int .u64 ep] 28)) := by go_grown
  have hsW : (((((w1.alloc (.cells #[.slice none 0 0] 41)).alloc (.cells #[.int .i64 0] 3)).alloc (.cells #[.slice so secs.length scap, .slice po pend.length pcap, .bool false, .int .i64 fuse] 25)).alloc (.cells #[.int .i64 (F : Nat), .int .i64 (S : Nat)] 27)).alloc (.cells #[.int .u64 ep] 28)).heap.size = w1.heap.size + 5 := by simp
  generalize ((((w1.alloc (.cells #[.slice none 0 0] 41)).alloc (.cells #[.int .i64 0] 3)).alloc (.cells #[.slice so secs.length scap, .slice po pend.length pcap, .bool false, .int .i64 fuse] 25)).alloc (.cells #[.int .i64 (F : Nat), .int .i64 (S : Nat)] 27)).alloc (.cells #[.int .u64 ep] 28) = W0 at bX bN bD bR bE hA1 hsW ⊢
  have hV1 := hid (hv.out.below b1w.out)
  have hw1 := hid b1w.out.size
  have hB0 := bt b1w.out hA1
  generalize hn1 : w1.heap.size = n1 at bX bN bD bR bE hA1 hsW hw1 hB0 ⊢
  have hst2 := hid (hst.out (9 - 1) (by omega) _ _ _ w1 W0 hV1.out (by rw [hn1]; exact hA1) bD bR bE)
  rw [hn1] at hst2
  clear D1 R1 hlt1 hlt2 hv b1w hz0 hst
  gi_wp2_with fail
  clear hV1 hn1 hA1
  refine wpIn_rangeFunc_ownH rfl (by omega) (gf := 57) (lb := #[.pointer (some ⟨n1 + 2, 0, none⟩), .pointer (some ⟨n1 + 3, 0, none⟩), .pointer (some ⟨n1 + 4, 0, none⟩)]) rfl trivial (enters_of Try.func57 (by kernel_rfl) rfl)
    hst2.out Kp3.trans (fun W l o o' hl _ _ _ => Kp3.put (w := W0) (by omega) (by omega) (by omega) (by omega) W l o' hl) (Below.refl _ _) (fun _ => rfl)
    (fun pre W => (∃ v, Boxed W n1 41 v ∧ W.ownsRow n1 30 4 v pre.length (frC (pre.map (·.2))) ∧ True) ∧ Boxed W (n1 + 1) 3 (.int .i64 (lastEnd pre : Nat)) ∧ Blk W (n1 + 2) [.slice so secs.length scap, .slice po pend.length pcap, .bool false, .int .i64 fuse] 25 ∧ Blk W (n1 + 3) [.int .i64 (F : Nat), .int .i64 (S : Nat)] 27 ∧ Blk W (n1 + 4) [.int .u64 ep] 28 ∧ Below w.heap.size W0 W)
    (fun _ _ _ => False)
    (OwnFrom.and (Own.from (holdsRow_own _ _ _ _ _ _ _ _) _) (OwnFrom.and (Own.from (boxed_own _ _ (fun pre => .int .i64 (lastEnd pre : Nat))) _) (OwnFrom.and (Own.from (blk_own _ _ (fun _ => _)) _) (OwnFrom.and (Own.from (blk_own _ _ (fun _ => _)) _) (OwnFrom.and (Own.from (blk_own _ _ (fun _ => _)) _) (ownFrom_below hB0.size hB0.size))))))
    (fun c _ _ _ _ h _ _ => h)
    ⟨⟨_, bX, World.ownsRow_nil _ _ _ _, trivial⟩, bN, bD, bR, bE, Below.refl _ _⟩
    (fun x a' W => ∃ Bx, n1 + 1 < Bx ∧ Blk W Bx [.int .u8 x.2.kind, .int .u64 x.2.epoch, .int .u64 x.2.seq, .string x.2.pay] 30 ∧ a' = { tmps := #[.agg #[.slice so secs.length scap, .slice po pend.length pcap, .bool false, .int .i64 fuse], .agg #[.int .i64 (F : Nat), .int .i64 (S : Nat)], .int .u64 ep, .pointer (some ⟨w.heap.size, 0, none⟩), .pointer (some ⟨w.heap.size + 1, 0, none⟩), undef, .slice none 0 0, .int .i64 0, .int .i64 0, .int .i64 0, .pointer (some ⟨n1, 0, none⟩), .pointer (some ⟨n1 + 1, 0, none⟩), .int .i64 (x.1 : Nat), .pointer (some ⟨Bx, 0, none⟩),
      .agg #[.slice so secs.length scap, .slice po pend.length pcap, .bool false, .int .i64 fuse], .agg #[.int .i64 (F : Nat), .int .i64 (S : Nat)], .int .i64 0, .int .i64 0, .bool false, undef, .pointer (some ⟨w.heap.size, 2, none⟩), .bool false, .agg #[.slice so secs.length scap, .slice po pend.length pcap, .bool false, .int .i64 fuse], .agg #[.int .i64 (F : Nat), .int .i64 (S : Nat)], .int .u64 ep, .func (.func 57) #[] #[.pointer (some ⟨n1 + 2, 0, none⟩), .pointer (some ⟨n1 + 3, 0, none⟩), .pointer (some ⟨n1 + 4, 0, none⟩)], .int .i64 (x.1 : Nat), .agg #[.int .u8 x.2.kind, .int .u64 x.2.epoch, .int .u64 x.2.seq, .string x.2.pay], undef, undef, undef, undef, undef, undef, undef], defers := [] })
    (fun x a' _ X Y row hs hg hr => by obtain ⟨Bx, h1, h2, h3⟩ := hs; exact ⟨Bx, h1, Own.from (blk_own Bx 30 (fun _ : Unit => [.int .u8 x.2.kind, .int .u64 x.2.epoch, .int .u64 x.2.seq, .string x.2.pay])) W0.heap.size () X Y row h2 hg hr, h3⟩)
    ?assign ?body ?done ?stop
  case stop => intro D c pre W hD hS hx; exact hx.elim
  case assign =>
    rintro l pre ⟨xi, xk, xe, xs, xp⟩ W K ⟨⟨v, iX, iO, _⟩, iN, iD, iR, iE, iB⟩ hK
    dsimp only [encF]
    gi_wp2
    have hal := (Below.refl W.heap.size W).alloc (Nat.le_refl _) (.cells #[.int .u8 xk, .int .u64 xe, .int .u64 xs, .string xp] 30)
    have hsz := iB.size
    exact hK _ _ ((KeepsOthers.alloc _ _).from _) (Kp3.of hal (by omega) (by omega) (by omega) (by omega)) ⟨⟨v, iX.alloc _, iO.alloc _, trivial⟩, iN.alloc _, iD.alloc _, iR.alloc _, iE.alloc _, iB.alloc (by have := hB0.size; omega) _⟩ ⟨W.heap.size, by omega, Blk.new W _ _, rfl⟩
  case body =>
    rintro l pre ⟨xi, xk, xe, xs, xp⟩ a' W hl ⟨r, hr⟩ ⟨⟨v, iX, iO, _⟩, iN, iD, iR, iE, iB⟩ ⟨Bx, hBx, bF, rfl⟩ hlt
    dsimp only at bF ⊢
    have hsz := iB.size
    obtain ⟨w8, so', cp', hrun, hv8, hv9, ho9, hk9, hb9, hot⟩ := log_step W n1 n1 pre.length v (pre.map (·.2)) ⟨xk, xe, xs, xp⟩ (by omega) (Nat.le_refl _) iX iO (by have := hcl.out; omega)
    have hN := (⟨iN⟩ : Blk W (n1 + 1) [.int .i64 (lastEnd pre : Nat)] 3)
    obtain ⟨oN8, oN9⟩ := hot _ _ _ hN (by omega) (by decide)
    obtain ⟨oD8, oD9⟩ := hot _ _ _ iD (by omega) (by decide)
    obtain ⟨oR8, oR9⟩ := hot _ _ _ iR (by omega) (by decide)
    obtain ⟨oE8, oE9⟩ := hot _ _ _ iE (by omega) (by decide)
    have N8 : Boxed w8 (n1 + 1) 3 (.int .i64 (lastEnd pre : Nat)) := oN8.trans iN
    have N9 : Boxed (w8.setCell ⟨n1, 0, none⟩ (.slice so' (pre.length + 1) cp')) (n1 + 1) 3 (.int .i64 (lastEnd pre : Nat)) := oN9.trans iN
    have c8 := hv8.cell
    have f8 := hv8.frozen
    have c9 := N8.cell
    have f9 := N8.frozen
    have cX := iX.cell
    obtain ⟨b0, b1, b2, b3, bf⟩ := bF.four
    have hrun' := hid hrun
    obtain ⟨W9, hW9⟩ : ∃ W9, (w8.setCell ⟨n1, 0, none⟩ (.slice so' (pre.length + 1) cp')).setCell ⟨n1 + 1, 0, none⟩ (.int .i64 (xi : Nat)) = W9 := ⟨_, rfl⟩
    have q1 : KeepsFrom W0.heap.size W W9 := by rw [← hW9]; exact (hk9.from _).trans ((KeepsOthers.setCell _ ⟨n1 + 1, 0, none⟩ (.int .i64 (xi : Nat))).from _)
    have q2 : Below n1 W W9 := by rw [← hW9]; exact hb9.setCell (by simp) _
    have hh : ∀ B, B ≠ n1 + 1 → W9.heap[B]? = (w8.setCell ⟨n1, 0, none⟩ (.slice so' (pre.length + 1) cp')).heap[B]? := fun B hB => by rw [← hW9, Below.heap_setCell _ _ _ _ (by simpa using hB)]
    have qD := (hh (n1 + 2) (by omega)).trans oD9
    have qR := (hh (n1 + 3) (by omega)).trans oR9
    have qE := (hh (n1 + 4) (by omega)).trans oE9
    have q3 : Boxed W9 n1 41 (.slice so' (pre.length + 1) cp') := by rw [← hW9]; exact hv9.other (by omega) _
    have q4 : Boxed W9 (n1 + 1) 3 (.int .i64 (xi : Nat)) := by rw [← hW9]; exact N9.set _
    have q5 : W9.ownsRow n1 30 4 (.slice so' (pre.length + 1) cp') (pre.length + 1) (frC (pre.map (·.2) ++ [⟨xk, xe, xs, xp⟩])) := by rw [← hW9]; exact ho9.kept (grownBy_setCell' _ (n1 + 1) _) (.inr (not_row ho9 (⟨N9⟩ : Blk _ (n1 + 1) [.int .i64 (lastEnd pre : Nat)] 3) (by decide)))
    have hfin := hid (show KeepsFrom (n1 + 5) W W9 ∧ Kp3 n1 (n1 + 2) (n1 + 3) (n1 + 4) W W9 ∧ (∃ v, Boxed W9 n1 41 v ∧ W9.ownsRow n1 30 4 v (pre ++ [(xi, (⟨xk, xe, xs, xp⟩ : Fr))]).length (frC ((pre ++ [(xi, (⟨xk, xe, xs, xp⟩ : Fr))]).map (·.2)))) ∧ Boxed W9 (n1 + 1) 3 (.int .i64 (lastEnd (pre ++ [(xi, (⟨xk, xe, xs, xp⟩ : Fr))]) : Nat)) ∧ Blk W9 (n1 + 2) [.slice so secs.length scap, .slice po pend.length pcap, .bool false, .int .i64 fuse] 25 ∧ Blk W9 (n1 + 3) [.int .i64 (F : Nat), .int .i64 (S : Nat)] 27 ∧ Blk W9 (n1 + 4) [.int .u64 ep] 28 ∧ Below w.heap.size W0 W9 from
      ⟨hsW ▸ q1, ⟨q2, qD, qR, qE⟩, ⟨_, q3, by simpa using q5⟩, by rw [lastEnd_snoc]; exact q4, ⟨qD.trans iD.at'⟩, ⟨qR.trans iR.at'⟩, ⟨qE.trans iE.at'⟩, iB.trans (q2.mono hw1)⟩)
    have hW9' := hid hW9
    clear q1 q2 hh qD qR qE q3 q4 q5 hW9
    clear hrun hot oN8 oN9 oD8 oD9 oR8 oR9 oE8 oE9 hN N9 hv9 ho9 hk9 hb9
    gi_wp2_with (gi_at_builtin; refine wpListIn_run rfl (.tmp 28) (.tmp 30) _ rfl _ _ _ _ rfl rfl hrun'.out ?_)
    rw [hW9'.out]
    exact hfin.out
  case done =>
    rintro D zs W hD rfl ⟨⟨v, iX, iO, _⟩, iN, iD, iR, iE, iB⟩ hK
    have cX := iX.cell
    have cN := iN.cell
    gi_wp2
    gi_region
    all_goals
      gi_wp2
      obtain ⟨ao, cap, rfl, _, _⟩ := ownsRow_form iO
      have iO2 := ownsRow_below iO ((Below.refl W.heap.size W).drew)
      have hOw := holdsRow_own n1 n1 41 30 4 (fun _ : Unit => zs.length) (fun _ => frC (zs.map (·.2))) (fun _ u => u = .slice ao zs.length cap) () W.drew _ (some D) ⟨_, iX, iO2, rfl⟩ (grownBy_putObj' _ D (.deferred none)) (fun r e => by cases e; exact ⟨_, hK, rfl⟩)
      obtain ⟨v', _, hO2, rfl⟩ := hOw
      refine ⟨by simp, .inl ⟨_, _, rfl, run_takeDeferred hK, ?_⟩⟩
      refine ⟨.tuple #[.slice ao zs.length cap, .int .i64 (lastEnd zs : Nat), .int .i64 0], by simp [results, Try.results11, go_sem], ?_⟩
      have hln : zs.length = L.length := by rw [hlen.out]; exact hfl.out
      rw [hlog.out] at hO2
      rw [hln] at hO2 ⊢
      rw [hend.out]
      exact ⟨ao, cap, rfl, ownsRow_mono hO2 hw1, ((hB0.trans iB).trans ((Below.refl _ W).drew)).trans (belowK_b (w := w) (Nat.le_refl _) W.drew D _ _ (by have := hB0.size; omega) hK rfl rfl)⟩
theorem nil_told {w w' : World} (n : Nat) (c : Int) (hb : Below w.heap.size w w') : ScTold w ([], n, c) (.returned (.tuple #[.slice none 0 0, .int .i64 n, .int .i64 c])) w' := ⟨none, 0, rfl, World.ownsRow_nil _ _ _ _, hb⟩
set_option maxHeartbeats 2000000 in
theorem scan_bad (d : Disk) (v : Value) (r : Rg) (ep : Nat) (w : World) (h : DiskV w v d) (hr : r.has) (hc : walChk d r ≠ 0) :
    Calls Try.prog 11 #[v, rgV r, .int .u64 ep] w (ScTold w ([], 0, walChk d r)) := by
  have hv := hid h
  have hcheck := hid (fun v W (h : DiskV W v d) => wcheck_any d v r W h hr)
  obtain ⟨sv, pv, rfl, hs, hp⟩ := h
  obtain ⟨so, scap, rfl, _⟩ := hs.form
  obtain ⟨po, pcap, rfl, _⟩ := hp.form
  clear hs hp hr
  rw [show rgV r = .agg #[.int .i64 r.f, .int .i64 r.s] from rfl] at hcheck ⊢
  have hq : (walChk d r != 0) = true := by simpa using hc
  clear hc
  generalize walChk d r = c at hq hcheck ⊢
  go_enter Try.func11, Try.ntmps11
  go_wp2_with fail
  refine (hcheck.out _ _ (hv.out.below (by go_grown))).mono ?_
  rintro e w1 ⟨rfl, hb1⟩
  have D1 := (((Blk.new w [.slice so d.secs.length scap, .slice po d.pend.length pcap, .bool d.off, .int .i64 d.fuse] 25).alloc (.cells #[.int .i64 r.f, .int .i64 r.s] 27)).below hb1 (by simp; omega))
  have b1w := hid ((show Below w.heap.size w _ from by go_grown).trans (hb1.mono (by simp; omega)))
  obtain ⟨d0, d1, d2, d3, df⟩ := D1.four
  clear hb1 hcheck hv D1
  go_wp2_with fail
  go_ret3
  exact nil_told 0 c b1w.out
set_option maxHeartbeats 2000000 in
theorem scan_off (d : Disk) (v : Value) (r : Rg) (ep : Nat) (w : World) (h : DiskV w v d) (hr : r.has) (hc : walChk d r = 0) (ho : d.off = true) :
    Calls Try.prog 11 #[v, rgV r, .int .u64 ep] w (ScTold w ([], 0, 15)) := by
  have hv := hid h
  have hcheck := hid (fun v W (h : DiskV W v d) => wcheck_any d v r W h hr)
  obtain ⟨sv, pv, rfl, hs, hp⟩ := h
  obtain ⟨so, scap, rfl, _⟩ := hs.form
  obtain ⟨po, pcap, rfl, _⟩ := hp.form
  clear hs hp hr
  rw [show rgV r = .agg #[.int .i64 r.f, .int .i64 r.s] from rfl] at hcheck ⊢
  rw [hc] at hcheck
  rw [ho] at hv ⊢
  clear hc
  go_enter Try.func11, Try.ntmps11
  go_wp2_with fail
  refine (hcheck.out _ _ (hv.out.below (by go_grown))).mono ?_
  rintro e w1 ⟨rfl, hb1⟩
  have D1 := (((Blk.new w [.slice so d.secs.length scap, .slice po d.pend.length pcap, .bool true, .int .i64 d.fuse] 25).alloc (.cells #[.int .i64 r.f, .int .i64 r.s] 27)).below hb1 (by simp; omega))
  have b1w := hid ((show Below w.heap.size w _ from by go_grown).trans (hb1.mono (by simp; omega)))
  obtain ⟨d0, d1, d2, d3, df⟩ := D1.four
  clear hb1 hcheck hv D1
  go_wp2_with fail
  go_ret3
  exact nil_told 0 15 b1w.out
theorem scan_any (d : Disk) (v : Value) (r : Rg) (ep : Nat) (w : World) (h : DiskV w v d) (hr : r.has) :
    Calls Try.prog 11 #[v, rgV r, .int .u64 ep] w (ScTold w (scanE d r ep)) := by
  unfold scanE
  by_cases hc : walChk d r = 0
  · rw [if_neg (by simpa using hc)]
    cases ho : d.off with
    | true => rw [if_pos rfl]; exact scan_off d v r ep w h hr hc ho
    | false =>
      rw [if_neg (by simp)]
      obtain ⟨k1, k2, k3, k4, k5⟩ := walChk_zero hc
      obtain ⟨secs, pend, off, fuse⟩ := d
      obtain ⟨rf, rs⟩ := r
      dsimp only at ho k2 k3
      subst ho
      obtain ⟨F, rfl⟩ : ∃ F : Nat, rf = F := ⟨rf.toNat, by omega⟩
      obtain ⟨S, rfl⟩ : ∃ S : Nat, rs = S := ⟨rs.toNat, by omega⟩
      exact scan_go secs pend fuse v F S ep w h hr hc
  · rw [if_pos (by simpa using hc)]
    exact scan_bad d v r ep w h hr hc
end Go.Proofs.Ytiegocbdgimimaa.Wal
