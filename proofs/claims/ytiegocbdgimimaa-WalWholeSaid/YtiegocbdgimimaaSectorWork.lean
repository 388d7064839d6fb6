/-
  The contracts of refuse and work.
-/
import Derived.Test.YtiegocbdgimimaaSectorPend
namespace Go.Proofs.Ytiegocbdgimimaa.Sector
open Go.ChangeShapes Go.WideShapes Go.ChangeAt Go.RowKit
open Go.Proofs.Ytiegocbdgimimaa.Mem
set_option linter.unusedVariables false

def refuseE (d : Disk) (n : Int) (s : ByteArray) : Int := if missB d.secs.length n then 1 else if oddB s then 3 else if 4096 ≤ d.pend.length then 2 else 0

theorem refuse_1 (d : Disk) (v : Value) (n : Int) (s : ByteArray) (w : World) (h : DiskV w v d) (h1 : Hid (missB d.secs.length n = true)) :
    Calls Try.prog 95 #[.agg #[.int .i64 n, .string s], v] w fun e w' => e = .returned (.int .i64 1) ∧ Below w.heap.size w w' := by
  obtain ⟨sv, pv, rfl, hs, hp⟩ := h
  obtain ⟨so, scap, rfl, hs2, hs3⟩ := hs.form
  obtain ⟨po, pcap, rfl, hp2, hp3⟩ := hp.form
  have hkm : Hid (d.secs.length ≤ maxLen) := hid hs.len
  have hpl : (d.pend.length : Int) ≤ 9223372036854775807 := by have := hp.len; unfold maxLen at this; omega
  clear hs hp hs2 hs3 hp2 hp3
  go_enter Try.func95, Try.ntmps95
  go_wp2_with fail
  refine (missing_any _ _ _ _ _).mono ?_
  rintro e w1 ⟨rfl, rfl⟩
  go_wp2_with fail
  refine (missing1_any n _ so d.secs.length scap _ hkm.out (by simp [go_sem])).mono ?_
  rintro e w1 ⟨rfl, rfl⟩
  rw [h1.out]
  go_wp2_with fail
  go_ret
  exact ⟨rfl, by go_grown⟩
theorem refuse_3 (d : Disk) (v : Value) (n : Int) (s : ByteArray) (w : World) (h : DiskV w v d) (h1 : Hid (missB d.secs.length n = false)) (h2 : Hid (oddB s = true)) :
    Calls Try.prog 95 #[.agg #[.int .i64 n, .string s], v] w fun e w' => e = .returned (.int .i64 3) ∧ Below w.heap.size w w' := by
  obtain ⟨sv, pv, rfl, hs, hp⟩ := h
  obtain ⟨so, scap, rfl, hs2, hs3⟩ := hs.form
  obtain ⟨po, pcap, rfl, hp2, hp3⟩ := hp.form
  have hkm : Hid (d.secs.length ≤ maxLen) := hid hs.len
  have hpl : (d.pend.length : Int) ≤ 9223372036854775807 := by have := hp.len; unfold maxLen at this; omega
  clear hs hp hs2 hs3 hp2 hp3
  go_enter Try.func95, Try.ntmps95
  go_wp2_with fail
  refine (missing_any _ _ _ _ _).mono ?_
  rintro e w1 ⟨rfl, rfl⟩
  go_wp2_with fail
  refine (missing1_any n _ so d.secs.length scap _ hkm.out (by simp [go_sem])).mono ?_
  rintro e w1 ⟨rfl, rfl⟩
  rw [h1.out]
  go_wp2_with fail
  refine (odd_any s _).mono ?_
  rintro e w1 ⟨rfl, rfl⟩
  rw [h2.out]
  go_wp2_with fail
  go_ret
  exact ⟨rfl, by go_grown⟩
theorem refuse_2 (d : Disk) (v : Value) (n : Int) (s : ByteArray) (w : World) (h : DiskV w v d) (h1 : Hid (missB d.secs.length n = false)) (h2 : Hid (oddB s = false)) (h3 : (4096 : Int) ≤ (d.pend.length : Int)) :
    Calls Try.prog 95 #[.agg #[.int .i64 n, .string s], v] w fun e w' => e = .returned (.int .i64 2) ∧ Below w.heap.size w w' := by
  obtain ⟨sv, pv, rfl, hs, hp⟩ := h
  obtain ⟨so, scap, rfl, hs2, hs3⟩ := hs.form
  obtain ⟨po, pcap, rfl, hp2, hp3⟩ := hp.form
  have hkm : Hid (d.secs.length ≤ maxLen) := hid hs.len
  have hpl : (d.pend.length : Int) ≤ 9223372036854775807 := by have := hp.len; unfold maxLen at this; omega
  clear hs hp hs2 hs3 hp2 hp3
  go_enter Try.func95, Try.ntmps95
  go_wp2_with fail
  refine (missing_any _ _ _ _ _).mono ?_
  rintro e w1 ⟨rfl, rfl⟩
  go_wp2_with fail
  refine (missing1_any n _ so d.secs.length scap _ hkm.out (by simp [go_sem])).mono ?_
  rintro e w1 ⟨rfl, rfl⟩
  rw [h1.out]
  go_wp2_with fail
  refine (odd_any s _).mono ?_
  rintro e w1 ⟨rfl, rfl⟩
  rw [h2.out]
  go_wp2_with fail
  go_ret
  exact ⟨rfl, by go_grown⟩
theorem refuse_0 (d : Disk) (v : Value) (n : Int) (s : ByteArray) (w : World) (h : DiskV w v d) (h1 : Hid (missB d.secs.length n = false)) (h2 : Hid (oddB s = false)) (h3 : (d.pend.length : Int) < 4096) :
    Calls Try.prog 95 #[.agg #[.int .i64 n, .string s], v] w fun e w' => e = .returned (.int .i64 0) ∧ Below w.heap.size w w' := by
  obtain ⟨sv, pv, rfl, hs, hp⟩ := h
  obtain ⟨so, scap, rfl, hs2, hs3⟩ := hs.form
  obtain ⟨po, pcap, rfl, hp2, hp3⟩ := hp.form
  have hkm : Hid (d.secs.length ≤ maxLen) := hid hs.len
  have hpl : (d.pend.length : Int) ≤ 9223372036854775807 := by have := hp.len; unfold maxLen at this; omega
  clear hs hp hs2 hs3 hp2 hp3
  go_enter Try.func95, Try.ntmps95
  go_wp2_with fail
  refine (missing_any _ _ _ _ _).mono ?_
  rintro e w1 ⟨rfl, rfl⟩
  go_wp2_with fail
  refine (missing1_any n _ so d.secs.length scap _ hkm.out (by simp [go_sem])).mono ?_
  rintro e w1 ⟨rfl, rfl⟩
  rw [h1.out]
  go_wp2_with fail
  refine (odd_any s _).mono ?_
  rintro e w1 ⟨rfl, rfl⟩
  rw [h2.out]
  clear hkm h1 h2 hpl
  have h4 : decide ((4096 : Int) ≤ (d.pend.length : Int)) = false := by simp; omega
  clear h3
  go_wp2_with fail
  go_ret
  exact ⟨rfl, by go_grown⟩
theorem refuse_any (d : Disk) (v : Value) (n : Int) (s : ByteArray) (w : World) (h : DiskV w v d) :
    Calls Try.prog 95 #[.agg #[.int .i64 n, .string s], v] w fun e w' => e = .returned (.int .i64 (refuseE d n s)) ∧ Below w.heap.size w w' := by
  unfold refuseE
  cases h1 : missB d.secs.length n with
  | true => exact refuse_1 d v n s w h (hid h1)
  | false =>
    cases h2 : oddB s with
    | true => exact refuse_3 d v n s w h (hid h1) (hid h2)
    | false =>
      by_cases h3 : 4096 ≤ d.pend.length
      · rw [if_neg (by simp), if_neg (by simp), if_pos h3]; exact refuse_2 d v n s w h (hid h1) (hid h2) (by omega)
      · rw [if_neg (by simp), if_neg (by simp), if_neg h3]; exact refuse_0 d v n s w h (hid h1) (hid h2) (by omega)

def zeroDisk : Disk := ⟨[], [], false, 0⟩
theorem zero_v (w : World) : DiskV w (.agg #[.slice none 0 0, .slice none 0 0, .bool false, .int .i64 0]) zeroDisk := ⟨_, _, rfl, SlV.nil w, SlV.nil w⟩
theorem OwnDisk.v {B : Nat} {w : World} {sv pv : Value} {d : Disk} (h : OwnDisk B w sv pv d) : DiskV w (.agg #[sv, pv, .bool d.off, .int .i64 d.fuse]) d := ⟨sv, pv, rfl, SlV.own h.secs, SlV.own h.pend⟩

/-- What work comes to. -/
def workE (d : Disk) (r : Int) (dd dc : Disk) : Disk × Int :=
  if okB d = false then (zeroDisk, 13) else if d.off = true then (d, 15) else if r ≠ 0 then (d, r)
  else if d.fuse = 0 then ({ dc with off := true }, 15) else ({ dd with fuse := if 0 < d.fuse then d.fuse - 1 else d.fuse }, 0)

/-- A job done on a disk of the call's own. -/
def Did (W : World) (B db : Nat) (d : Disk) (e0 : Ending) (w' : World) : Prop :=
  ∃ sv pv, e0 = .returned (.tuple #[]) ∧ Blk w' db [sv, pv, .bool d.off, .int .i64 d.fuse] 25 ∧ OwnDisk B w' sv pv d ∧ But B db W w'
def Res (w : World) (r : Disk × Int) (e0 : Ending) (w' : World) : Prop :=
  ∃ sv pv, e0 = .returned (.tuple #[.agg #[sv, pv, .bool r.1.off, .int .i64 r.1.fuse], .int .i64 r.2]) ∧ OwnDisk w.heap.size w' sv pv r.1 ∧ Below w.heap.size w w'
theorem zero_own {B : Nat} {w : World} (h : B ≤ w.heap.size) : OwnDisk B w (.slice none 0 0) (.slice none 0 0) zeroDisk :=
  ⟨World.ownsRow_nil _ _ _ _, w.heap.size, h, Nat.le_refl _, by simp [Value.ownBlock], World.ownsRow_nil _ _ _ _⟩

theorem okB_secs {d : Disk} (h : okB d = true) : d.secs.length * 16 ≤ 140737488355328 := by
  unfold okB at h
  simp at h
  omega
theorem okB_pend {d : Disk} (h : okB d = true) : d.pend.length * 24 ≤ 140737488355328 := by
  unfold okB at h
  simp at h
  omega
theorem okB_pend' {d : Disk} (h : okB d = true) : d.pend.length ≤ 4096 := by
  unfold okB at h
  simp at h
  omega
theorem OwnDisk.mono {B B' : Nat} {w : World} {sv pv : Value} {d : Disk} (h : OwnDisk B w sv pv d) (hb : B' ≤ B) : OwnDisk B' w sv pv d := by
  obtain ⟨h1, M, h2, h3, h4, h5⟩ := h
  exact ⟨ownsRow_mono h1 hb, M, Nat.le_trans hb h2, h3, h4, h5⟩
theorem own_setCell {B : Nat} {w : World} {sv pv : Value} {d : Disk} (h : OwnDisk B w sv pv d) {p : Addr} (hp : p.block < B) (x : Value) : OwnDisk B (w.setCell p x) sv pv d := by
  obtain ⟨h1, M, h2, h3, h4, h5⟩ := h
  exact ⟨ownsRow_setCell_below h1 hp x, M, h2, by simpa using h3, h4, ownsRow_setCell_below h5 (Nat.lt_of_lt_of_le hp h2) x⟩
theorem OwnDisk.setCell' {B : Nat} {w : World} {sv pv : Value} {d : Disk} (h : OwnDisk B w sv pv d) {p : Addr} (hp : p.block < B) (x : Value) : OwnDisk B (w.setCell p x) sv pv d := own_setCell h hp x
theorem OwnDisk.below {B : Nat} {w w' : World} {sv pv : Value} {d : Disk} (h : OwnDisk B w sv pv d) (hb : Below w.heap.size w w') : OwnDisk B w' sv pv d := by
  obtain ⟨h1, M, h2, h3, h4, h5⟩ := h
  exact ⟨ownsRow_below h1 hb, M, h2, Nat.le_trans h3 hb.size, h4, ownsRow_below h5 hb⟩
end Go.Proofs.Ytiegocbdgimimaa.Sector
