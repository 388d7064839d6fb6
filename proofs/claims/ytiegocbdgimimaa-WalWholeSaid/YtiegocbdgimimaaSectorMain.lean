/-
  The contract of Read: the sector is there.
-/
import Derived.Test.YtiegocbdgimimaaSectorLoop
namespace Go.Proofs.Ytiegocbdgimimaa.Sector
open Go.ChangeShapes Go.WideShapes Go.ChangeAt Go.RowKit Go.Shelf
open Go.Proofs.Ytiegocbdgimimaa.Mem
set_option linter.unusedVariables false
attribute [local go_sem] Oper.semAt_some

theorem blk_own {β : Type} (B : Nat) (t : TypeId) (f : β → List Value) : Own (fun s W => Blk W B (f s) t) := fun s X Y row hs hg hrow =>
  ⟨(grownBy_keeps_cells hg hrow hs.at' rfl).trans hs.at'⟩
/-- The last write of a sector. -/
def lastW (n : Int) (L : List (Int × ByteArray)) : Option ByteArray := (L.reverse.find? (fun p => p.1 == n)).map (·.2)
def heldS (secs : List ByteArray) (pend : List (Int × ByteArray)) (n : Int) : ByteArray := (lastW n pend).getD (secs.getD n.toNat ⟨#[]⟩)
theorem lastW_none (n : Int) (L : List (Int × ByteArray)) (h : ∀ p ∈ upto L L.length, p.2.1 ≠ n) : lastW n L = none := by
  unfold lastW
  rw [Option.map_eq_none_iff, List.find?_eq_none]
  intro p hp
  rw [List.mem_reverse] at hp
  obtain ⟨i, hi, rfl⟩ := List.getElem_of_mem hp
  have := h (back L (L.length - 1 - i)) (List.mem_map.2 ⟨L.length - 1 - i, List.mem_range.2 (by omega), rfl⟩)
  simp only [back, show L.length - 1 - (L.length - 1 - i) = i by omega] at this
  simp [List.getD, hi] at this
  simpa using this
theorem lastW_some (n : Int) (L : List (Int × ByteArray)) (k : Nat) (hk : k < L.length) (h : ∀ p ∈ upto L k, p.2.1 ≠ n) (he : (back L k).2.1 = n) : lastW n L = some (back L k).2.2 := by
  unfold lastW
  rw [Option.map_eq_some_iff]
  refine ⟨(back L k).2, ?_, rfl⟩
  rw [List.find?_eq_some_iff_getElem]
  refine ⟨by simpa using he, k, by simpa using hk, ?_, fun j hj => ?_⟩
  · simp [back, List.getD, show L.length - 1 - k < L.length by omega]
  · have := h (back L j) (List.mem_map.2 ⟨j, List.mem_range.2 hj, rfl⟩)
    simp only [back, List.getD, List.getElem?_eq_getElem (show L.length - 1 - j < L.length by omega), Option.getD_some] at this
    simpa using this

def NoneOf (n : Int) (pre : List WR) : Prop := ∀ p ∈ pre, p.2.1 ≠ n
theorem NoneOf.snoc {n : Int} {pre : List WR} {x : WR} (h : NoneOf n pre) (hx : ¬ x.2.1 = n) : NoneOf n (pre ++ [x]) := fun p hp => (List.mem_append.1 hp).elim (h p) (fun e => by rw [List.mem_singleton] at e; rw [e]; exact hx)
def FoundAt (n : Int) (S E : Nat) (tS tE : TypeId) (pre : List WR) (W : World) : Prop := ∃ ini last, pre = ini ++ [last] ∧ NoneOf n ini ∧ last.2.1 = n ∧ Blk W S [.string last.2.2] tS ∧ Blk W E [.int .i64 0] tE
theorem found_own (n : Int) (S E : Nat) (tS tE : TypeId) : Own (FoundAt n S E tS tE) := fun s A B row ⟨ini, last, e1, e2, e3, e4, e5⟩ hg hr =>
  ⟨ini, last, e1, e2, e3, blk_own S tS (fun _ : Unit => [.string last.2.2]) () A B row e4 hg hr, blk_own E tE (fun _ : Unit => [.int .i64 0]) () A B row e5 hg hr⟩
theorem okB_pos {d : Disk} (h : okB d = true) : 0 < d.secs.length := by
  simp [okB] at h; have := h.1.1.1.1; omega

set_option maxRecDepth 100000 in
set_option maxHeartbeats 4000000 in
theorem read_held (secs : List ByteArray) (pend : List (Int × ByteArray)) (fuse : Int) (v : Value) (n : Int) (w : World) (h : DiskV w v ⟨secs, pend, false, fuse⟩) (hok : Hid (okB ⟨secs, pend, false, fuse⟩ = true)) (hm : Hid (missB secs.length n = false)) :
    Calls Try.prog 103 #[v, .int .i64 n] w (Told w (heldS secs pend n) 0) := by
  have hv := hid h
  obtain ⟨sv, pv, rfl, hs, hp⟩ := h
  have hpos : 0 < secs.length := okB_pos hok.out
  obtain ⟨sb, soff, scap, rfl, _, _, hsb, hsc⟩ := hs.open hpos
  obtain ⟨m, hml, rfl⟩ : ∃ m : Nat, m < secs.length ∧ n = (m : Int) := by
    have := hm.out; simp [missB] at this; exact ⟨n.toNat, by omega, by omega⟩
  obtain ⟨po, pcap, rfl, _⟩ := hp.form
  have hk := hid (chk_ok hok.out)
  have hkm : Hid (secs.length ≤ maxLen) := hid hs.len
  have hsc' := hid hsc
  have hreach : pend.length ≤ 4096 := (okB_pend' hok.out)
  have hp' := hid hp
  clear hs hp hsc
  refine (callsIn_wide (n := 9)).1 ?_
  refine callsIn_of_wp_marks Try.func103 rfl trivial ?_ rfl
  simp only [Try.ntmps103, List.size_toArray, List.length_cons, List.length_nil, Nat.reduceAdd, Nat.reduceSub, Array.replicate_succ, Array.replicate_zero, List.push_toArray, List.append_toArray, List.nil_append, List.cons_append]
  gi_wp2_with fail
  refine ⟨trivial, ?_⟩
  refine (callsIn_wide.2 (check_any _ _ _ (hv.out.below (by go_grown)))).mono ?_
  rintro e w1 ⟨rfl, hb1⟩
  have hb1w : Below w.heap.size w w1 := (show Below w.heap.size w _ from by go_grown).trans (hb1.mono (by simp; omega))
  have D1 : Blk w1 w.heap.size [.slice (some ⟨sb, soff, none⟩) secs.length scap, .slice po pend.length pcap, .bool false, .int .i64 fuse] 25 := ((((Blk.new w _ _).alloc _).alloc _).alloc _).below hb1 (by simp; omega)
  have N1 : Blk w1 (w.heap.size + 1) [.int .i64 (m : Int)] 3 := (((Blk.new' _ _ _ _ (by simp)).alloc _).alloc _).below hb1 (by simp)
  have S1 : Blk w1 (w.heap.size + 2) [.string ⟨#[]⟩] 9 := ((Blk.new' _ _ _ _ (by simp)).alloc _).below hb1 (by simp)
  have E1 : Blk w1 (w.heap.size + 3) [.int .i64 0] 32 := (Blk.new' _ _ _ _ (by simp)).below hb1 (by simp)
  have hal := (Below.refl w1.heap.size w1).alloc (Nat.le_refl _) (.cells #[.slice (some ⟨sb, soff, none⟩) secs.length scap, .slice po pend.length pcap, .bool false, .int .i64 fuse] 25)
  have D2 := D1.below hal D1.lt
  have N2 := N1.below hal N1.lt
  have S2 := S1.below hal S1.lt
  have E2 := E1.below hal E1.lt
  have D2' := hid D2
  have S2' := hid S2
  have E2' := hid E2
  obtain ⟨d0, d1, d2, d3, df'⟩ := D1.four
  have hbA := hid (hb1w.trans (hal.mono hb1w.size))
  have N2' := hid N2
  have hlt1 := E1.lt
  clear S2 E2 S1 E1 N1 N2 D1 D2 hb1 hb1w hv hal
  rw [hk.out]
  gi_wp2_with fail
  refine ⟨trivial, ?_⟩
  refine (callsIn_wide.2 (missing_any _ _ _ _ _)).mono ?_
  rintro e w2 ⟨rfl, rfl⟩
  obtain ⟨n0, nf⟩ := N2'.out.one
  obtain ⟨s0, sf⟩ := S2'.out.one
  obtain ⟨e0, ef⟩ := E2'.out.one
  obtain ⟨q0, q1, q2, q3, qf⟩ := D2'.out.four
  gi_wp2_with fail
  refine ⟨trivial, ?_⟩
  refine (callsIn_wide.2 (missing1_any (m : Int) _ (some ⟨sb, soff, none⟩) secs.length scap _ hkm.out (by simp [go_sem]))).mono ?_
  rintro e w3 ⟨rfl, rfl⟩
  rw [hm.out]
  gi_wp2_with fail
  refine ⟨trivial, ?_⟩
  refine (backward_in _ _ trivial rfl _ _ _ _).mono ?_
  rintro e w4 ⟨rfl, rfl⟩
  have bS := ((S2'.out).alloc (.cells #[.slice po pend.length pcap] 23))
  have bE := ((E2'.out).alloc (.cells #[.slice po pend.length pcap] 23))
  have bN := ((N2'.out).alloc (.cells #[.slice po pend.length pcap] 23))
  have bD := ((D2'.out).alloc (.cells #[.slice po pend.length pcap] 23))
  have bB : Blk ((w1.alloc (.cells #[.slice (some ⟨sb, soff, none⟩) secs.length scap, .slice po pend.length pcap, .bool false, .int .i64 fuse] 25)).alloc (.cells #[.slice po pend.length pcap] 23)) (w1.heap.size + 1) [.slice po pend.length pcap] 23 := Blk.new' _ _ _ _ (by simp)
  have hB0 := hbA.out.alloc hbA.out.size (.cells #[.slice po pend.length pcap] 23)
  have hsW : ((w1.alloc (.cells #[.slice (some ⟨sb, soff, none⟩) secs.length scap, .slice po pend.length pcap, .bool false, .int .i64 fuse] 25)).alloc (.cells #[.slice po pend.length pcap] 23)).heap.size = w1.heap.size + 2 := by simp
  generalize hW0 : (w1.alloc (.cells #[.slice (some ⟨sb, soff, none⟩) secs.length scap, .slice po pend.length pcap, .bool false, .int .i64 fuse] 25)).alloc (.cells #[.slice po pend.length pcap] 23) = W0 at bS bE bN bD bB hB0 hsW ⊢
  gi_wp2_with fail
  clear d0 d1 d2 d3 df' n0 nf s0 sf e0 ef q0 q1 q2 q3 qf D2' S2' E2' N2' hbA hW0
  refine wpIn_rangeFunc_ownH rfl (by omega) (gf := 111) (lb := #[.pointer (some ⟨w1.heap.size + 1, 0, none⟩)]) rfl trivial (enters_of Try.func111 (by kernel_rfl) rfl)
    (back_stops Fence.wide (9 - 1) trivial rfl (by omega) (w1.heap.size + 1) W0.heap.size (.slice po pend.length pcap) pend hreach W0 w (by omega) (Nat.le_refl _) bB.one.1 hB0.size hB0 hp'.out) belowK_t (belowK_b (Nat.le_refl _)) (Below.refl _ _) (fun _ => rfl)
    (fun pre W => NoneOf m pre ∧ Blk W (w.heap.size + 2) [.string ⟨#[]⟩] 9 ∧ Blk W (w.heap.size + 3) [.int .i64 0] 32 ∧ Blk W (w.heap.size + 1) [.int .i64 (m : Int)] 3 ∧ Blk W w.heap.size [.slice (some ⟨sb, soff, none⟩) secs.length scap, .slice po pend.length pcap, .bool false, .int .i64 fuse] 25 ∧ Below w.heap.size W0 W)
    (fun c pre W => c = .ret ∧ FoundAt m (w.heap.size + 2) (w.heap.size + 3) 9 32 pre W ∧ Below w.heap.size W0 W)
    (OwnFrom.and (ownFrom_pure _ _) (OwnFrom.and (Own.from (blk_own _ _ _) _) (OwnFrom.and (Own.from (blk_own _ _ _) _) (OwnFrom.and (Own.from (blk_own _ _ _) _) (OwnFrom.and (Own.from (blk_own _ _ _) _) (ownFrom_below hB0.size hB0.size))))))
    (fun c => OwnFrom.and (ownFrom_pure _ _) (OwnFrom.and (Own.from (found_own _ _ _ _ _) _) (ownFrom_below hB0.size hB0.size)))
    ⟨fun p hp => absurd hp (by simp), bS, bE, bN, bD, Below.refl _ _⟩
    (fun x a' W => ∃ Bx, w.heap.size + 3 < Bx ∧ Blk W Bx [.int .i64 x.2.1, .string x.2.2] 62 ∧ a' = { tmps := #[.agg #[.slice (some ⟨sb, soff, none⟩) secs.length scap, .slice po pend.length pcap, .bool false, .int .i64 fuse], .int .i64 m, .pointer (some ⟨w.heap.size, 0, none⟩), .pointer (some ⟨w.heap.size + 1, 0, none⟩), .pointer (some ⟨w.heap.size + 1 + 1, 0, none⟩), .pointer (some ⟨w.heap.size + 1 + 1 + 1, 0, none⟩), .int .i64 0, .func (.func 85) #[] #[.pointer (some ⟨w1.heap.size, 0, none⟩)], undef, .pointer (some ⟨Bx, 0, none⟩),
      .agg #[.slice (some ⟨sb, soff, none⟩) secs.length scap, .slice po pend.length pcap, .bool false, .int .i64 fuse], .int .i64 0, .int .i64 0, .bool false, undef, .pointer (some ⟨w.heap.size, 2, none⟩), .bool false, .agg #[.slice (some ⟨sb, soff, none⟩) secs.length scap, .slice po pend.length pcap, .bool false, .int .i64 fuse], .func (.func 85) #[] #[.pointer (some ⟨w1.heap.size, 0, none⟩)], .func (.func 85) #[] #[.pointer (some ⟨w1.heap.size, 0, none⟩)],
      .int .i64 m, .bool false, .pointer (some ⟨w.heap.size, 1, none⟩), .slice po pend.length pcap, .func (.func 111) #[] #[.pointer (some ⟨w1.heap.size + 1, 0, none⟩)], .int .i64 x.1, .agg #[.int .i64 x.2.1, .string x.2.2], undef, undef, undef, undef, undef, undef, undef, undef, undef, undef, undef], defers := [] })
    (fun x a' _ X Y row hs hg hr => by obtain ⟨Bx, h1, h2, h3⟩ := hs; exact ⟨Bx, h1, Own.from (blk_own Bx 62 (fun _ : Unit => [.int .i64 x.2.1, .string x.2.2])) W0.heap.size () X Y row h2 hg hr, h3⟩)
    ?assign ?body ?done ?stop
  case assign =>
    rintro l pre ⟨xi, xn, xb⟩ W K ⟨i1, iS, iE, iN, iD, iB⟩ hK
    dsimp only [encs]
    gi_wp2
    exact hK _ _ ((KeepsOthers.alloc _ _).from _) ((Below.refl _ W).alloc (by have := iB.size; omega) _) ⟨i1, iS.alloc _, iE.alloc _, iN.alloc _, iD.alloc _, iB.alloc (by have := iB.size; have := hB0.size; omega) _⟩ ⟨W.heap.size, by have := iB.size; omega, Blk.new W _ _, rfl⟩
  case body =>
    rintro l pre ⟨xi, xn, xb⟩ a' W hl ⟨r, hr⟩ ⟨i1, iS, iE, iN, iD, iB⟩ ⟨Bx, hBx, bX, rfl⟩ hlt
    obtain ⟨x0, x1, xf⟩ := bX.two
    obtain ⟨n0, nf⟩ := iN.one
    obtain ⟨s0, sf⟩ := iS.one
    obtain ⟨e0, ef⟩ := iE.one
    have hne : ¬ Bx = w.heap.size + 2 := by omega
    gi_wp2
    · refine ⟨((KeepsOthers.setCell _ _ _).from _).trans ((KeepsOthers.setCell _ _ _).from _), rfl, ⟨pre, (xi, xn, xb), rfl, i1, by simpa using (by assumption : (xn == (m : Int)) = true), ?_, ?_⟩, (iB.setCell (p := ⟨w.heap.size + 2, 0, none⟩) (by simp) _).setCell (p := ⟨w.heap.size + 3, 0, none⟩) (by simp) _⟩
      · exact (iS.set 0 (.string xb)).other (p := ⟨w.heap.size + 3, 0, none⟩) (by simp) (.int .i64 0)
      · exact (iE.other (p := ⟨w.heap.size + 2, 0, none⟩) (by simp) (.string xb)).set 0 (.int .i64 0)
    · have hx : ¬ xn = (m : Int) := by simpa using (by assumption : (xn == (m : Int)) = false)
      exact ⟨KeepsFrom.refl _ _, Below.refl _ _, i1.snoc hx, iS, iE, iN, iD, iB⟩
  case done =>
    rintro D zs W hD rfl ⟨i1, iS, iE, iN, iD, iB⟩ hK
    obtain ⟨n0, nf⟩ := iN.one
    obtain ⟨s0, sf⟩ := iS.one
    obtain ⟨e0, ef⟩ := iE.one
    obtain ⟨q0, q1, q2, q3, qf⟩ := iD.four
    have hc := ((hB0.trans iB).cell (p := ⟨sb, soff + m, none⟩) hsb).trans (hsc'.out m hml)
    have hlast := hid (lastW_none _ _ i1)
    clear i1
    gi_wp2
    have S4 := (iS.set 0 (.string secs[m])).other (p := ⟨w.heap.size + 3, 0, none⟩) (by simp) (.int .i64 0)
    have E4 := (iE.other (p := ⟨w.heap.size + 2, 0, none⟩) (by simp) (.string secs[m])).set 0 (.int .i64 0)
    have hb4 := ((hB0.trans iB).setCell (p := ⟨w.heap.size + 2, 0, none⟩) (by simp) (.string secs[m])).setCell (p := ⟨w.heap.size + 3, 0, none⟩) (by simp) (.int .i64 0)
    have hK4 := (KeepsOthers.setCell _ ⟨w.heap.size + 3, 0, none⟩ (.int .i64 0)).same D _ ((KeepsOthers.setCell W ⟨w.heap.size + 2, 0, none⟩ (.string secs[m])).same D _ hK rfl) rfl
    simp only [List.set_cons_zero] at S4 E4
    have S5 := blk_own (w.heap.size + 2) 9 (fun _ : Unit => [.string secs[m]]) () _ _ (some D) S4 (grownBy_putObj' _ D (.deferred none)) (fun r e => by cases e; exact ⟨_, hK4, rfl⟩)
    have E5 := blk_own (w.heap.size + 3) 32 (fun _ : Unit => [.int .i64 0]) () _ _ (some D) E4 (grownBy_putObj' _ D (.deferred none)) (fun r e => by cases e; exact ⟨_, hK4, rfl⟩)
    have h1 := S5.one.1
    have h2 := E5.one.1
    refine ⟨by simp, .inl ⟨_, _, rfl, run_takeDeferred hK4, ?_⟩⟩
    refine ⟨.tuple #[.string secs[m], .int .i64 0], by simp [results, Try.results103, go_sem, h1, h2], ?_, hb4.trans (belowK_b (w := w) (Nat.le_refl _) _ D _ _ (by have := hB0.size; omega) hK4 rfl rfl)⟩
    simp [heldS, hlast.out, List.getD, hml]
  case stop =>
    rintro D c pre W hD ⟨k, hk, rfl⟩ ⟨rfl, ⟨ini, last, e1, e2, e3, iS, iE⟩, iB⟩ hK
    have hlast : Hid (heldS secs pend m = last.2.2) := by
      obtain ⟨k', rfl⟩ : ∃ k', k = k' + 1 := by
        cases k with
        | zero => simp [upto] at e1
        | succ k' => exact ⟨k', rfl⟩
      rw [upto_succ] at e1
      obtain ⟨rfl, e5⟩ := List.append_inj' e1 rfl
      obtain rfl : back pend k' = last := by simpa using e5
      show (lastW _ _).getD _ = _
      rw [lastW_some _ pend k' hk e2 e3]
      rfl
    clear e1 e2 e3
    gi_wp2
    have S5 := blk_own (w.heap.size + 2) 9 (fun _ : Unit => [.string last.2.2]) () _ _ (some D) iS (grownBy_putObj' _ D (.deferred none)) (fun r e => by cases e; exact ⟨_, hK, rfl⟩)
    have E5 := blk_own (w.heap.size + 3) 32 (fun _ : Unit => [.int .i64 0]) () _ _ (some D) iE (grownBy_putObj' _ D (.deferred none)) (fun r e => by cases e; exact ⟨_, hK, rfl⟩)
    have h1 := S5.one.1
    have h2 := E5.one.1
    refine ⟨by simp, .inl ⟨_, _, rfl, run_takeDeferred hK, ?_⟩⟩
    refine ⟨.tuple #[.string last.2.2, .int .i64 0], by simp [results, Try.results103, go_sem, h1, h2], ?_, (hB0.trans iB).trans (belowK_b (w := w) (Nat.le_refl _) W D _ _ (by have := hB0.size; omega) hK rfl rfl)⟩
    rw [hlast.out]

def readE (d : Disk) (n : Int) : ByteArray × Int :=
  if okB d = false then (⟨#[]⟩, 13) else if d.off then (⟨#[]⟩, 15) else if missB d.secs.length n then (⟨#[]⟩, 1) else (heldS d.secs d.pend n, 0)
theorem read_any (d : Disk) (v : Value) (n : Int) (w : World) (h : DiskV w v d) :
    Calls Try.prog 103 #[v, .int .i64 n] w (Told w (readE d n).1 (readE d n).2) := by
  obtain ⟨secs, pend, off, fuse⟩ := d
  unfold readE
  cases hok : okB ⟨secs, pend, off, fuse⟩ with
  | false => simpa [hok] using read_bad _ v n w h hok
  | true =>
    cases off with
    | true => simpa [hok] using read_off secs pend fuse v n w h hok
    | false =>
      cases hm : missB secs.length n with
      | true => simpa [hok, hm] using read_miss secs pend fuse v n w h hok hm
      | false => simpa [hok, hm] using read_held secs pend fuse v n w h hok hm
end Go.Proofs.Ytiegocbdgimimaa.Sector
