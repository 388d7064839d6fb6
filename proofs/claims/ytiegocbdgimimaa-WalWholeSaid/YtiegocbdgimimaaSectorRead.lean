/-
  The contract of Read: the cases that are refused.
-/
import Derived.Test.YtiegocbdgimimaaSectorNew
namespace Go.Proofs.Ytiegocbdgimimaa.Sector
open Go.ChangeShapes Go.WideShapes Go.ChangeAt Go.RowKit
open Go.Proofs.Ytiegocbdgimimaa.Mem
set_option linter.unusedVariables false

def Told (w : World) (s : ByteArray) (c : Int) (e0 : Ending) (w' : World) : Prop := e0 = .returned (.tuple #[.string s, .int .i64 c]) ∧ Below w.heap.size w w'

theorem read_bad (d : Disk) (v : Value) (n : Int) (w : World) (h : DiskV w v d) (hok : Hid (okB d = false)) :
    Calls Try.prog 103 #[v, .int .i64 n] w (Told w ⟨#[]⟩ 13) := by
  have hv := hid h
  obtain ⟨sv, pv, rfl, hs, hp⟩ := h
  obtain ⟨so, scap, rfl, _⟩ := hs.form
  obtain ⟨po, pcap, rfl, _⟩ := hp.form
  have hk := hid (chk_bad hok.out)
  clear hs hp
  go_enter Try.func103, Try.ntmps103
  go_wp2_with fail
  refine (check_any d _ _ (hv.out.below (by go_grown))).mono ?_
  rintro e w1 ⟨rfl, hb1⟩
  have hb1w : Below w.heap.size w w1 := (show Below w.heap.size w _ from by go_grown).trans (hb1.mono (by simp; omega))
  have S1 : Blk w1 (w.heap.size + 2) [.string ⟨#[]⟩] 9 := ((Blk.new' _ _ _ _ (by simp)).alloc _).below hb1 (by simp)
  have E1 : Blk w1 (w.heap.size + 3) [.int .i64 0] 32 := (Blk.new' _ _ _ _ (by simp)).below hb1 (by simp)
  have S2 := (S1.set 0 (.string ⟨#[]⟩)).other (p := ⟨w.heap.size + 3, 0, none⟩) (by simp) (.int .i64 13)
  have E2 := (E1.other (p := ⟨w.heap.size + 2, 0, none⟩) (by simp) (.string ⟨#[]⟩)).set 0 (.int .i64 13)
  simp only [List.set_cons_zero] at S2 E2
  have S2' := hid S2
  have E2' := hid E2
  obtain ⟨s0, sf⟩ := S1.one
  obtain ⟨e0, ef⟩ := E1.one
  have hb1' := hid hb1w
  clear S2 E2 S1 E1 hb1 hb1w hv
  rw [hk.out]
  go_wp2_with fail
  have q0 := S2'.out.one.1
  have q1 := E2'.out.one.1
  refine bodyPost_ret (v := .tuple #[.string ⟨#[]⟩, .int .i64 13]) (by simp [results, Try.results103, go_sem, q0, q1]) rfl ?_
  exact ⟨rfl, (hb1'.out.setCell (p := ⟨w.heap.size + 2, 0, none⟩) (by simp) _).setCell (p := ⟨w.heap.size + 3, 0, none⟩) (by simp) _⟩

theorem read_off (secs : List ByteArray) (pend : List (Int × ByteArray)) (fuse : Int) (v : Value) (n : Int) (w : World) (h : DiskV w v ⟨secs, pend, true, fuse⟩) (hok : Hid (okB ⟨secs, pend, true, fuse⟩ = true)) :
    Calls Try.prog 103 #[v, .int .i64 n] w (Told w ⟨#[]⟩ 15) := by
  have hv := hid h
  obtain ⟨sv, pv, rfl, hs, hp⟩ := h
  obtain ⟨so, scap, rfl, _⟩ := hs.form
  obtain ⟨po, pcap, rfl, _⟩ := hp.form
  have hk := hid (chk_ok hok.out)
  clear hs hp
  go_enter Try.func103, Try.ntmps103
  go_wp2_with fail
  refine (check_any _ _ _ (hv.out.below (by go_grown))).mono ?_
  rintro e w1 ⟨rfl, hb1⟩
  have hb1w : Below w.heap.size w w1 := (show Below w.heap.size w _ from by go_grown).trans (hb1.mono (by simp; omega))
  have D1 : Blk w1 w.heap.size [.slice so secs.length scap, .slice po pend.length pcap, .bool true, .int .i64 fuse] 25 := ((((Blk.new w _ _).alloc _).alloc _).alloc _).below hb1 (by simp; omega)
  have S1 : Blk w1 (w.heap.size + 2) [.string ⟨#[]⟩] 9 := ((Blk.new' _ _ _ _ (by simp)).alloc _).below hb1 (by simp)
  have E1 : Blk w1 (w.heap.size + 3) [.int .i64 0] 32 := (Blk.new' _ _ _ _ (by simp)).below hb1 (by simp)
  have S2 := (S1.set 0 (.string ⟨#[]⟩)).other (p := ⟨w.heap.size + 3, 0, none⟩) (by simp) (.int .i64 15)
  have E2 := (E1.other (p := ⟨w.heap.size + 2, 0, none⟩) (by simp) (.string ⟨#[]⟩)).set 0 (.int .i64 15)
  simp only [List.set_cons_zero] at S2 E2
  have S2' := hid S2
  have E2' := hid E2
  obtain ⟨d0, d1, d2, d3, df'⟩ := D1.four
  obtain ⟨s0, sf⟩ := S1.one
  obtain ⟨e0, ef⟩ := E1.one
  have hb1' := hid hb1w
  clear S2 E2 S1 E1 D1 hb1 hb1w hv
  rw [hk.out]
  go_wp2_with fail
  have q0 := S2'.out.one.1
  have q1 := E2'.out.one.1
  refine bodyPost_ret (v := .tuple #[.string ⟨#[]⟩, .int .i64 15]) (by simp [results, Try.results103, go_sem, q0, q1]) rfl ?_
  exact ⟨rfl, (hb1'.out.setCell (p := ⟨w.heap.size + 2, 0, none⟩) (by simp) _).setCell (p := ⟨w.heap.size + 3, 0, none⟩) (by simp) _⟩

theorem read_miss (secs : List ByteArray) (pend : List (Int × ByteArray)) (fuse : Int) (v : Value) (n : Int) (w : World) (h : DiskV w v ⟨secs, pend, false, fuse⟩) (hok : Hid (okB ⟨secs, pend, false, fuse⟩ = true)) (hm : Hid (missB secs.length n = true)) :
    Calls Try.prog 103 #[v, .int .i64 n] w (Told w ⟨#[]⟩ 1) := by
  have hv := hid h
  obtain ⟨sv, pv, rfl, hs, hp⟩ := h
  obtain ⟨so, scap, rfl, _⟩ := hs.form
  obtain ⟨po, pcap, rfl, _⟩ := hp.form
  have hk := hid (chk_ok hok.out)
  have hkm : Hid (secs.length ≤ maxLen) := hid hs.len
  clear hs hp
  go_enter Try.func103, Try.ntmps103
  go_wp2_with fail
  refine (check_any _ _ _ (hv.out.below (by go_grown))).mono ?_
  rintro e w1 ⟨rfl, hb1⟩
  have hb1w : Below w.heap.size w w1 := (show Below w.heap.size w _ from by go_grown).trans (hb1.mono (by simp; omega))
  have D1 : Blk w1 w.heap.size [.slice so secs.length scap, .slice po pend.length pcap, .bool false, .int .i64 fuse] 25 := ((((Blk.new w _ _).alloc _).alloc _).alloc _).below hb1 (by simp; omega)
  have N1 : Blk w1 (w.heap.size + 1) [.int .i64 n] 3 := (((Blk.new' _ _ _ _ (by simp)).alloc _).alloc _).below hb1 (by simp)
  have S1 : Blk w1 (w.heap.size + 2) [.string ⟨#[]⟩] 9 := ((Blk.new' _ _ _ _ (by simp)).alloc _).below hb1 (by simp)
  have E1 : Blk w1 (w.heap.size + 3) [.int .i64 0] 32 := (Blk.new' _ _ _ _ (by simp)).below hb1 (by simp)
  have hal := (Below.refl w1.heap.size w1).alloc (Nat.le_refl _) (.cells #[.slice so secs.length scap, .slice po pend.length pcap, .bool false, .int .i64 fuse] 25)
  have N2 := N1.below hal N1.lt
  have S2 := S1.below hal S1.lt
  have E2 := E1.below hal E1.lt
  have S3 := (S2.set 0 (.string ⟨#[]⟩)).other (p := ⟨w.heap.size + 3, 0, none⟩) (by simp) (.int .i64 1)
  have E3 := (E2.other (p := ⟨w.heap.size + 2, 0, none⟩) (by simp) (.string ⟨#[]⟩)).set 0 (.int .i64 1)
  simp only [List.set_cons_zero] at S3 E3
  have S3' := hid S3
  have E3' := hid E3
  have S2' := hid S2
  have E2' := hid E2
  obtain ⟨d0, d1, d2, d3, df'⟩ := D1.four
  have hbA := hid (hb1w.trans (hal.mono hb1w.size))
  have N2' := hid N2
  clear S2 E2 S3 E3 S1 E1 N1 N2 D1 hb1 hb1w hv hal
  rw [hk.out]
  go_wp2_with fail
  refine (missing_any _ _ _ _ _).mono ?_
  rintro e w2 ⟨rfl, rfl⟩
  obtain ⟨n0, nf⟩ := N2'.out.one
  obtain ⟨s0, sf⟩ := S2'.out.one
  obtain ⟨e0, ef⟩ := E2'.out.one
  go_wp2_with fail
  refine (missing1_any n _ so secs.length scap _ hkm.out (by simp [go_sem])).mono ?_
  rintro e w3 ⟨rfl, rfl⟩
  rw [hm.out]
  go_wp2_with fail
  have q0 := S3'.out.one.1
  have q1 := E3'.out.one.1
  refine bodyPost_ret (v := .tuple #[.string ⟨#[]⟩, .int .i64 1]) (by simp [results, Try.results103, go_sem, q0, q1]) rfl ?_
  exact ⟨rfl, (hbA.out.setCell (p := ⟨w.heap.size + 2, 0, none⟩) (by simp) _).setCell (p := ⟨w.heap.size + 3, 0, none⟩) (by simp) _⟩
end Go.Proofs.Ytiegocbdgimimaa.Sector
