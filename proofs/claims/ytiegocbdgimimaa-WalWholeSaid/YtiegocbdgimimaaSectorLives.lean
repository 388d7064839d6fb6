/-
  The laws' own functions: full, lives.
-/
import Derived.Test.YtiegocbdgimimaaSectorHolds
import Derived.Test.YtiegocbdgimimaaSectorNew
import Derived.Test.YtiegocbdgimimaaSectorPut
import Derived.Test.YtiegocbdgimimaaSectorCrash
import Derived.Laws.IdiomStrings
import Derived.Deep.RegionWith
import Derived.Deep.Cut
namespace Go.Proofs.Ytiegocbdgimimaa.Sector
open Go.ChangeShapes Go.WideShapes Go.ChangeAt Go.RowKit
open Go.Proofs.Ytiegocbdgimimaa.Mem
set_option linter.unusedVariables false

theorem info_byte : (Try.prog.info? 5).map (fun i => (i.zero, i.size, i.bytes)) = some (some (Value.int .u8 0), 1, 1) := by kernel_rfl
theorem made_bytes (n : Nat) : (madeCells #[Value.int .u8 0] n).toList = List.replicate n (Value.int .u8 0) := by
  apply List.ext_getElem
  · simp [madeCells]
  · intro j h1 h2
    simp [madeCells, Nat.mod_one]
def fcells (b k : Nat) : List Value := List.replicate k (.int .u8 b) ++ List.replicate (64 - k) (.int .u8 0)
theorem fcells_len (b k : Nat) (h : k ≤ 64) : (fcells b k).length = 64 := by simp [fcells]; omega
theorem fcells_set (b k : Nat) (h : k < 64) : (fcells b k).set k (.int .u8 b) = fcells b (k + 1) := by
  unfold fcells
  rw [List.set_append_right _ _ (by simp), List.length_replicate, Nat.sub_self, show 64 - k = (64 - (k + 1)) + 1 by omega, List.replicate_succ, List.set_cons_zero, List.replicate_succ', List.append_assoc]
  rfl
def fullS (b : Nat) : ByteArray := ⟨(List.replicate 64 (UInt8.ofNat b)).toArray⟩

theorem fullS_size (b : Nat) : (fullS b).size = 64 := rfl
/-- What the answers that lives asks for come to. -/
def l1 : Disk := ⟨List.replicate 2 blank, [], false, -1⟩
def l2 : Disk := ⟨List.replicate 2 blank, [(0, fullS 120)], false, -1⟩
def l3 : Disk := ⟨[fullS 120, blank], [], false, -1⟩
def l4 : Disk := ⟨[fullS 120, blank], [(0, fullS 121)], false, -1⟩
theorem l_new : newE 2 = (l1, 0) := by kernel_rfl
theorem l_put : putE l1 0 (fullS 120) = (l2, 0) := by kernel_rfl
theorem l_sync : syncE l2 = (l3, 0) := by kernel_rfl
theorem l_put2 : putE l3 0 (fullS 121) = (l4, 0) := by kernel_rfl
theorem l_read : readE l4 0 = (fullS 121, 0) := by kernel_rfl
theorem l_crash : crashE l4 [] = (l3, 0) := by kernel_rfl
theorem l_read2 : readE l3 0 = (fullS 120, 0) := by kernel_rfl

theorem Res.open {w : World} {r : Disk × Int} {e : Ending} {w' : World} (h : Res w r e w') : ∃ so sc po pc, e = .returned (.tuple #[.agg #[.slice so r.1.secs.length sc, .slice po r.1.pend.length pc, .bool r.1.off, .int .i64 r.1.fuse], .int .i64 r.2]) ∧
    OwnDisk w.heap.size w' (.slice so r.1.secs.length sc) (.slice po r.1.pend.length pc) r.1 ∧ Below w.heap.size w w' := by
  obtain ⟨sv, pv, rfl, ho, hb⟩ := h
  obtain ⟨so, sc, rfl, _⟩ := ownsRow_form ho.secs
  obtain ⟨po, pc, rfl, _⟩ := ownsRow_form ho.pend
  exact ⟨so, sc, po, pc, rfl, ho, hb⟩

theorem box4 {C B b : Nat} {t : TypeId} {a0 a1 a2 a3 sv pv : Value} {d : Disk} {w0 w : World} (hD : Blk w b [a0, a1, a2, a3] t) (ho : OwnDisk B w sv pv d) (hb : b < B) (hw : Below C w0 w) (hC : C ≤ b) (x0 x1 x2 x3 : Value) :
    Hid (Blk ((((w.setCell ⟨b, 0, none⟩ x0).setCell ⟨b, 1, none⟩ x1).setCell ⟨b, 2, none⟩ x2).setCell ⟨b, 3, none⟩ x3) b [x0, x1, x2, x3] t) ∧
    Hid (OwnDisk B ((((w.setCell ⟨b, 0, none⟩ x0).setCell ⟨b, 1, none⟩ x1).setCell ⟨b, 2, none⟩ x2).setCell ⟨b, 3, none⟩ x3) sv pv d) ∧
    Hid (Below C w0 ((((w.setCell ⟨b, 0, none⟩ x0).setCell ⟨b, 1, none⟩ x1).setCell ⟨b, 2, none⟩ x2).setCell ⟨b, 3, none⟩ x3)) :=
  ⟨(((hD.set 0 x0).set 1 x1).set 2 x2).set 3 x3, own_setCell (own_setCell (own_setCell (own_setCell ho (p := ⟨b, 0, none⟩) hb x0) (p := ⟨b, 1, none⟩) hb x1) (p := ⟨b, 2, none⟩) hb x2) (p := ⟨b, 3, none⟩) hb x3,
    (((hw.setCell (p := ⟨b, 0, none⟩) hC x0).setCell (p := ⟨b, 1, none⟩) hC x1).setCell (p := ⟨b, 2, none⟩) hC x2).setCell (p := ⟨b, 3, none⟩) hC x3⟩

end Go.Proofs.Ytiegocbdgimimaa.Sector
