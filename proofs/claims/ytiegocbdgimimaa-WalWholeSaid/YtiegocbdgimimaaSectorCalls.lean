/-
  The contracts of sector's functions, the leaves: what is odd, what is missing, what is not right.
-/
import Derived.Test.YtiegocbdgimimaaRows
import Derived.Test.YtiegocbdgimimaaMem
import Derived.Laws.EntriesVeiled
namespace Go.Proofs.Ytiegocbdgimimaa.Sector
open Go.ChangeShapes Go.WideShapes Go.ChangeAt Go.RowKit
open Go.Proofs.Ytiegocbdgimimaa.Mem
set_option linter.unusedVariables false

/-- A disk, as data. -/
structure Disk where
  secs : List ByteArray
  pend : List (Int × ByteArray)
  off : Bool
  fuse : Int
def oddB (s : ByteArray) : Bool := s.size != 64
def missB (k : Nat) (n : Int) : Bool := decide (n < 0) || decide ((k : Int) ≤ n)
def badB (k : Nat) (p : Int × ByteArray) : Bool := missB k p.1 || oddB p.2

theorem odd_any (s : ByteArray) (w : World) : Calls Try.prog 54 #[.string s] w fun e w' => e = .returned (.bool (oddB s)) ∧ w = w' := by
  have he : ((s.size : Int) != 64) = oddB s := by
    unfold oddB
    rw [Bool.eq_iff_iff, bne_iff_ne, bne_iff_ne]; omega
  have he2 := hid he
  clear he
  go_enter Try.func54, Try.ntmps54
  go_wp2_with fail
  go_ret
  refine ⟨?_, rfl⟩
  rw [← he2.out]; rfl

theorem missing1_any (n : Int) (p : Addr) (ao : Option Addr) (k cap : Nat) (w : World) (hk : k ≤ maxLen) (hc : w.cell? p = some (.slice ao k cap)) :
    Calls Try.prog 85 #[.int .i64 n, .pointer (some p)] w fun e w' => e = .returned (.bool (missB k n)) ∧ w = w' := by
  unfold maxLen at hk
  by_cases h : n < 0
  · have he : Hid (missB k n = true) := hid (by unfold missB; simp [h])
    go_enter Try.func85, Try.ntmps85
    go_wp2_with fail
    go_ret
    refine ⟨?_, rfl⟩
    rw [he.out]; rfl
  · by_cases h2 : (k : Int) ≤ n
    · have he : Hid (missB k n = true) := hid (by unfold missB; simp [h2])
      go_enter Try.func85, Try.ntmps85
      go_wp2_with fail
      go_ret
      refine ⟨?_, rfl⟩
      rw [he.out]; rfl
    · have he : Hid (missB k n = false) := hid (by unfold missB; simp; omega)
      go_enter Try.func85, Try.ntmps85
      go_wp2_with fail
      go_ret
      refine ⟨?_, rfl⟩
      rw [he.out]; rfl

theorem missing_any (v0 v1 v2 v3 : Value) (w : World) :
    Calls Try.prog 52 #[.agg #[v0, v1, v2, v3]] w fun e w' => e = .returned (.func (Fn.func 85) #[] #[.pointer (some ⟨w.heap.size, 0, none⟩)]) ∧ w' = w.alloc (.cells #[v0, v1, v2, v3] 25) := by
  go_enter Try.func52, Try.ntmps52
  go_wp2_with fail
  go_ret
  exact ⟨rfl, rfl⟩

/-- What stands behind the name 'missing': a box that holds the function; its own box holds the disk. -/
structure Miss (w : World) (p : Addr) (k : Nat) : Prop where
  ex : ∃ q ao cap, w.cell? p = some (.func (Fn.func 85) #[] #[.pointer (some q)]) ∧ w.cell? q = some (.slice ao k cap)

theorem bad1_any (n : Int) (s : ByteArray) (p : Addr) (k : Nat) (w : World) (hk : k ≤ maxLen) (hm : Miss w p k) :
    Calls Try.prog 53 #[.agg #[.int .i64 n, .string s], .pointer (some p)] w fun e w' => e = .returned (.bool (badB k (n, s))) ∧ Below w.heap.size w w' := by
  obtain ⟨q, ao, cap, hp, hq⟩ := hm.ex
  have hp2 := cell_below ((Below.refl _ w).alloc (Nat.le_refl _) (.cells #[.int .i64 n, .string s] 62)) _ _ hp
  have hq2 := cell_below ((Below.refl _ w).alloc (Nat.le_refl _) (.cells #[.int .i64 n, .string s] 62)) _ _ hq
  have hq3 := hid hq2
  clear hp hq hq2 hm
  go_enter Try.func53, Try.ntmps53
  go_wp2_with fail
  refine (missing1_any n q ao k cap _ hk hq3.out).mono ?_
  rintro e w1 ⟨rfl, rfl⟩
  cases hb : missB k n with
  | true =>
    have hb2 := hid hb
    clear hb
    go_wp2_with fail
    go_ret
    refine ⟨?_, by go_grown⟩
    unfold badB; rw [hb2.out]; rfl
  | false =>
    have hb2 := hid hb
    clear hb
    go_wp2_with fail
    refine (odd_any s _).mono ?_
    rintro e w2 ⟨rfl, rfl⟩
    go_wp2_with fail
    go_ret
    refine ⟨?_, by go_grown⟩
    unfold badB; rw [hb2.out]; rfl

theorem indexOdd_any (l : List ByteArray) (v : Value) (w : World) (h : StrsV w v l) :
    Calls Try.prog 86 #[v, .func (Fn.func 54) #[] #[]] w fun e w' => ∃ n : Int, e = .returned (.int .i64 n) ∧ (decide (0 ≤ n) = l.any oddB) ∧ w = w' := by
  obtain ⟨ao, cap, rfl, h2, h3⟩ := h.form
  unfold maxLen at h3
  by_cases h0 : l.length = 0
  · have hl : l = [] := List.eq_nil_of_length_eq_zero h0
    subst hl
    clear h h0
    go_enter Try.func86, Try.ntmps86
    go_wp2_with fail
    go_rounds 1
    go_ret
    exact ⟨-1, rfl, rfl, rfl⟩
  · obtain ⟨b, off, cap', hv, _, _, hb, hc⟩ := h.open (by omega)
    simp only [Value.slice.injEq] at hv
    obtain ⟨rfl, _, rfl⟩ := hv
    have hc2 := hid hc
    clear hc h
    go_enter Try.func86, Try.ntmps86
    go_wp2_with fail
    go_loop [8] (fun i => ∃ k : Nat, k ≤ l.length ∧ i = .int .i64 k ∧ (l.take k).any oddB = false) (fun i => l.length - (intOf i).toNat)
    case atStart => exact ⟨0, by omega, rfl, rfl⟩
    case round =>
      obtain ⟨k, hk, rfl, hno⟩ := hrel
      by_cases hlt : k < l.length
      · have hcell := hc2.out k hlt
        cases ho : oddB l[k] with
        | true =>
          have hfin : Hid (l.any oddB = true) := hid (by rw [List.any_eq_true]; exact ⟨_, List.getElem_mem hlt, ho⟩)
          have ho2 := hid ho
          clear ho hno
          go_wp2_with fail
          refine (odd_any _ _).mono ?_
          rintro e w1 ⟨rfl, rfl⟩
          rw [ho2.out]
          go_wp2_with fail
          go_ret
          exact ⟨k, rfl, by rw [hfin.out]; simp, rfl⟩
        | false =>
          have hno2 : Hid ((l.take (k + 1)).any oddB = false) := hid (by rw [List.take_succ_eq_append_getElem hlt, List.any_append, hno]; simp [ho])
          have ho2 := hid ho
          clear ho hno
          go_wp2_with fail
          refine (odd_any _ _).mono ?_
          rintro e w1 ⟨rfl, rfl⟩
          rw [ho2.out]
          go_wp2_with fail
          go_round
          case rel => exact ⟨k + 1, by omega, by go_num, hno2.out⟩
          case measure => simp [intOf]; omega
      · obtain rfl : k = l.length := by omega
        rw [List.take_length] at hno
        have hno2 := hid hno
        clear hno
        go_wp2_with fail
        go_ret
        exact ⟨-1, rfl, by rw [hno2.out]; rfl, rfl⟩

theorem ge_zero (n : Int) : decide (0 ≤ n) = decide (n ≥ 0) := rfl
theorem containsOdd_any (l : List ByteArray) (v : Value) (w : World) (h : StrsV w v l) :
    Calls Try.prog 55 #[v, .func (Fn.func 54) #[] #[]] w fun e w' => e = .returned (.bool (l.any oddB)) ∧ w = w' := by
  go_enter Try.func55, Try.ntmps55
  go_wp2_with fail
  refine (indexOdd_any l v _ h).mono ?_
  rintro e w1 ⟨n, rfl, hn, rfl⟩
  have hn2 := hid hn
  clear hn
  go_wp2_with fail
  go_ret
  refine ⟨?_, rfl⟩
  rw [← hn2.out]; rfl

theorem Miss.below {w w' : World} {p : Addr} {k : Nat} (h : Miss w p k) (hb : Below w.heap.size w w') : Miss w' p k := by
  obtain ⟨q, ao, cap, h1, h2⟩ := h.ex
  exact ⟨q, ao, cap, cell_below hb _ _ h1, cell_below hb _ _ h2⟩

theorem indexBad_any (l : List (Int × ByteArray)) (v : Value) (p : Addr) (k : Nat) (w : World) (h : PrsV w v l) (hk : k ≤ maxLen) (hm : Miss w p k) :
    Calls Try.prog 87 #[v, .func (Fn.func 53) #[] #[.pointer (some p)]] w fun e w' => ∃ n : Int, e = .returned (.int .i64 n) ∧ (decide (0 ≤ n) = l.any (badB k)) ∧ Below w.heap.size w w' := by
  obtain ⟨ao, cap, rfl, h2, h3⟩ := h.form
  unfold maxLen at h3
  by_cases h0 : l.length = 0
  · have hl : l = [] := List.eq_nil_of_length_eq_zero h0
    subst hl
    clear h h0
    go_enter Try.func87, Try.ntmps87
    go_wp2_with fail
    go_rounds 1
    go_ret
    exact ⟨-1, rfl, rfl, Below.refl _ _⟩
  · obtain ⟨b, off, cap', hv, _, _, hb, hc⟩ := h.open (by omega)
    simp only [Value.slice.injEq] at hv
    obtain ⟨rfl, _, rfl⟩ := hv
    have hc2 := hid hc
    have hm2 := hid hm
    have hk2 := hid hk
    clear hc h hm hk
    go_enter Try.func87, Try.ntmps87
    go_wp2_with fail
    go_loopw [8] (fun i wr => ∃ j : Nat, j ≤ l.length ∧ i = .int .i64 j ∧ (l.take j).any (badB k) = false ∧ Below w.heap.size w wr) (fun i _ => l.length - (intOf i).toNat)
    case atStart => exact ⟨0, by omega, rfl, rfl, Below.refl _ _⟩
    case round =>
      obtain ⟨j, hj, rfl, hno, hbr⟩ := hrel
      by_cases hlt : j < l.length
      · have hcell := (hbr.cell (p := ⟨b, off + j * 2, none⟩) hb).trans (hc2.out j hlt).1
        have hcell2 := (hbr.cell (p := ⟨b, off + j * 2 + 1, none⟩) hb).trans (hc2.out j hlt).2
        have hmr := hid (hm2.out.below hbr)
        cases ho : badB k l[j] with
        | true =>
          have hfin : Hid (l.any (badB k) = true) := hid (by rw [List.any_eq_true]; exact ⟨_, List.getElem_mem hlt, ho⟩)
          have ho2 := hid ho
          clear ho hno
          go_wp2_with fail
          refine (bad1_any _ _ _ k _ hk2.out hmr.out).mono ?_
          rintro e w1 ⟨rfl, hb1⟩
          rw [show badB k (l[j].1, l[j].2) = true from ho2.out]
          go_wp2_with fail
          go_ret
          exact ⟨j, rfl, by rw [hfin.out]; simp, bt hbr hb1⟩
        | false =>
          have hno2 : Hid ((l.take (j + 1)).any (badB k) = false) := hid (by rw [List.take_succ_eq_append_getElem hlt, List.any_append, hno]; simp [ho])
          have ho2 := hid ho
          clear ho hno
          go_wp2_with fail
          refine (bad1_any _ _ _ k _ hk2.out hmr.out).mono ?_
          rintro e w1 ⟨rfl, hb1⟩
          rw [show badB k (l[j].1, l[j].2) = false from ho2.out]
          go_wp2_with fail
          go_roundw
          case rel => exact ⟨j + 1, by omega, by go_num, hno2.out, bt hbr hb1⟩
          case measure => simp [intOf]; omega
      · obtain rfl : j = l.length := by omega
        rw [List.take_length] at hno
        have hno2 := hid hno
        clear hno
        go_wp2_with fail
        go_ret
        exact ⟨-1, rfl, by rw [hno2.out]; rfl, hbr⟩

theorem containsBad_any (l : List (Int × ByteArray)) (v : Value) (p : Addr) (k : Nat) (w : World) (h : PrsV w v l) (hk : k ≤ maxLen) (hm : Miss w p k) :
    Calls Try.prog 56 #[v, .func (Fn.func 53) #[] #[.pointer (some p)]] w fun e w' => e = .returned (.bool (l.any (badB k))) ∧ Below w.heap.size w w' := by
  go_enter Try.func56, Try.ntmps56
  go_wp2_with fail
  refine (indexBad_any l v p k _ h hk hm).mono ?_
  rintro e w1 ⟨n, rfl, hn, hb1⟩
  have hn2 := hid hn
  clear hn
  go_wp2_with fail
  go_ret
  refine ⟨?_, hb1⟩
  rw [← hn2.out]; rfl

/-- The disk is right. -/
def okB (d : Disk) : Bool := decide (1 ≤ d.secs.length) && decide (d.secs.length ≤ 1024) && decide (d.pend.length ≤ 4096) && !d.secs.any oddB && !d.pend.any (badB d.secs.length)
def chk (d : Disk) : Int := if okB d then 0 else 13
/-- A disk, as a value. -/
def DiskV (w : World) (v : Value) (d : Disk) : Prop := ∃ sv pv, v = .agg #[sv, pv, .bool d.off, .int .i64 d.fuse] ∧ StrsV w sv d.secs ∧ PrsV w pv d.pend
theorem DiskV.below {w w' : World} {v : Value} {d : Disk} (h : DiskV w v d) (hb : Below w.heap.size w w') : DiskV w' v d := by
  obtain ⟨sv, pv, h1, h2, h3⟩ := h
  exact ⟨sv, pv, h1, h2.below hb, h3.below hb⟩
theorem chk_bad {d : Disk} (h : okB d = false) : chk d = 13 := by unfold chk; rw [h]; rfl
theorem chk_ok {d : Disk} (h : okB d = true) : chk d = 0 := by unfold chk; rw [h]; rfl

theorem check_any (d : Disk) (v : Value) (w : World) (h : DiskV w v d) :
    Calls Try.prog 25 #[v] w fun e w' => e = .returned (.int .i64 (chk d)) ∧ Below w.heap.size w w' := by
  obtain ⟨sv, pv, rfl, hs, hp⟩ := h
  obtain ⟨so, scap, rfl, hs2, hs3⟩ := hs.form
  obtain ⟨po, pcap, rfl, hp2, hp3⟩ := hp.form
  have hsl := hs.len
  have hpl := hp.len
  have hkm : Hid (d.secs.length ≤ maxLen) := hid hsl
  unfold maxLen at hs3 hp3 hsl hpl
  have hb1 := (Below.refl _ w).alloc (Nat.le_refl _) (.cells #[.slice so d.secs.length scap, .slice po d.pend.length pcap, .bool d.off, .int .i64 d.fuse] 25)
  have hs' := hid hs
  have hp' := hid hp
  clear hs hp
  by_cases h1 : d.secs.length < 1
  · have hf := hid (chk_bad (d := d) (by unfold okB; simp; omega))
    go_enter Try.func25, Try.ntmps25
    go_wp2_with fail
    go_ret
    exact ⟨by rw [hf.out]; rfl, hb1⟩
  by_cases h2 : 1024 < d.secs.length
  · have hf := hid (chk_bad (d := d) (by unfold okB; simp; omega))
    go_enter Try.func25, Try.ntmps25
    go_wp2_with fail
    go_ret
    exact ⟨by rw [hf.out]; rfl, hb1⟩
  by_cases h3 : 4096 < d.pend.length
  · have hf := hid (chk_bad (d := d) (by unfold okB; simp; omega))
    go_enter Try.func25, Try.ntmps25
    go_wp2_with fail
    go_ret
    exact ⟨by rw [hf.out]; rfl, hb1⟩
  cases h4 : d.secs.any oddB with
  | true =>
    have hf := hid (chk_bad (d := d) (by unfold okB; rw [h4]; simp))
    have h4' := hid h4
    clear h4
    go_enter Try.func25, Try.ntmps25
    go_wp2_with fail
    refine (missing_any _ _ _ _ _).mono ?_
    rintro e w1 ⟨rfl, rfl⟩
    go_wp2_with fail
    refine (containsOdd_any d.secs _ _ (hs'.out.below ?_)).mono ?_
    · go_grown
    rintro e w1 ⟨rfl, rfl⟩
    rw [h4'.out]
    go_wp2_with fail
    go_ret
    exact ⟨by rw [hf.out]; rfl, by go_grown⟩
  | false =>
    have h4' := hid h4
    have hf : Hid (chk d = if d.pend.any (badB d.secs.length) then 13 else 0) := hid (by
      have e : okB d = !d.pend.any (badB d.secs.length) := by unfold okB; rw [h4]; simp; omega
      unfold chk; rw [e]; cases d.pend.any (badB d.secs.length) <;> rfl)
    clear h4
    go_enter Try.func25, Try.ntmps25
    go_wp2_with fail
    refine (missing_any _ _ _ _ _).mono ?_
    rintro e w1 ⟨rfl, rfl⟩
    go_wp2_with fail
    refine (containsOdd_any d.secs _ _ (hs'.out.below ?_)).mono ?_
    · go_grown
    rintro e w1 ⟨rfl, rfl⟩
    rw [h4'.out]
    go_wp2_with fail
    refine (containsBad_any d.pend _ _ d.secs.length _ (hp'.out.below ?_) hkm.out ⟨⟨⟨w.heap.size + 1, 0, none⟩, so, scap, ?_, ?_⟩⟩).mono ?_
    · go_grown
    · simp [go_sem]
    · simp [go_sem]
    rintro e w1 ⟨rfl, hb2⟩
    cases h5 : d.pend.any (badB d.secs.length) with
    | true =>
      have h5' := hid h5
      clear h5
      go_wp2_with fail
      go_ret
      exact ⟨by rw [hf.out, h5'.out]; rfl, (show Below _ _ _ from by go_grown).trans (hb2.mono (by simp; omega))⟩
    | false =>
      have h5' := hid h5
      clear h5
      go_wp2_with fail
      go_ret
      exact ⟨by rw [hf.out, h5'.out]; rfl, (show Below _ _ _ from by go_grown).trans (hb2.mono (by simp; omega))⟩
end Go.Proofs.Ytiegocbdgimimaa.Sector
