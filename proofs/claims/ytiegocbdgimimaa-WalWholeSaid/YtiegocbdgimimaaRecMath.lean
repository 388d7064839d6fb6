/-
  Frames as bytes: what the head and the pieces of a frame are. No walk.
-/
import Derived.Test.YtiegocbdgimimaaCrcCore
namespace Go.Proofs.Ytiegocbdgimimaa.Rec
open Go.Proofs.Ytiegocbdgimimaa.CrcMath Go.Proofs.Ytiegocbdgimimaa.Crc
set_option linter.unusedVariables false
set_option maxRecDepth 10000

abbrev By := List UInt8
def bs (l : By) : ByteArray := ⟨l.toArray⟩
theorem bs_size (l : By) : (bs l).size = l.length := by simp [bs, ByteArray.size]
theorem bs_list (l : By) : (bs l).data.toList = l := by simp [bs]
theorem bs_inj {a b : By} (h : bs a = bs b) : a = b := by
  have := congrArg (fun x : ByteArray => x.data.toList) h
  simpa [bs] using this
theorem bs_of (s : ByteArray) : bs s.data.toList = s := by simp [bs]
theorem bs_app (a b : By) : bs a ++ bs b = bs (a ++ b) := by
  apply ByteArray.ext
  simp [bs, ByteArray.data_append]
theorem size_len (s : ByteArray) : s.size = s.data.toList.length := rfl

structure Fr where
  kind : Nat
  epoch : Nat
  seq : Nat
  pay : ByteArray
structure Hd where
  kind : Nat
  epoch : Nat
  seq : Nat
  len : Nat
  sum : Nat
def Fr.okn (f : Fr) : Prop := f.kind < 256 ∧ f.epoch < 18446744073709551616 ∧ f.seq < 18446744073709551616 ∧ f.pay.size ≤ 140737488355328
def Hd.okn (h : Hd) : Prop := h.kind < 256 ∧ h.epoch < 18446744073709551616 ∧ h.seq < 18446744073709551616 ∧ h.len < 4294967296 ∧ h.sum < 4294967296
/-- Why a frame is not right. -/
def fchk (k n : Nat) : Int := if k = 0 then 1 else if 16384 < n then 3 else 0
def pcs (n : Nat) : Nat := (n + 60) / 61
def pcsE (n : Int) : Int × Int := if n < 0 ∨ 16384 < n then (0, 1) else ((n + 60) / 61, 0)
def fill (l : By) : By := l ++ List.replicate (64 - l.length) 0
def said (h : Hd) : By := [72, UInt8.ofNat h.kind] ++ leb 8 h.epoch ++ leb 8 h.seq ++ leb 4 h.len ++ leb 4 h.sum
def headL (h : Hd) : By := fill (said h ++ leb 4 (more 0 (said h)))
def pieceL (i : Nat) (part : By) : By := fill ([66, UInt8.ofNat i, UInt8.ofNat (i / 256)] ++ part)
def part (p : By) (i : Nat) : By := (p.drop (i * 61)).take 61
def hdOf (f : Fr) : Hd := ⟨f.kind, f.epoch, f.seq, f.pay.size, more 0 f.pay.data.toList⟩
def partsUpto (p : By) (k : Nat) : List By := (List.range k).map (part p)
def secsL (f : Fr) : List ByteArray := bs (headL (hdOf f)) :: (List.range (pcs f.pay.size)).map fun i => bs (pieceL i (part f.pay.data.toList i))
def sectorsE (f : Fr) : List ByteArray × Int := if fchk f.kind f.pay.size = 0 then (secsL f, 0) else ([], fchk f.kind f.pay.size)

theorem said_len (h : Hd) : (said h).length = 26 := by simp [said, leb_len]
theorem fill_len (l : By) (h : l.length ≤ 64) : (fill l).length = 64 := by simp [fill]; omega
theorem headL_len (h : Hd) : (headL h).length = 64 := fill_len _ (by simp [said_len, leb_len])
theorem part_len (p : By) (i : Nat) : (part p i).length = min 61 (p.length - i * 61) := by simp [part]
theorem pieceL_len (i : Nat) (p : By) (h : p.length ≤ 61) : (pieceL i p).length = 64 := fill_len _ (by simp; omega)
theorem fchk_zero {k n : Nat} (h : fchk k n = 0) : k ≠ 0 ∧ n ≤ 16384 := by
  unfold fchk at h
  split at h
  · exact absurd h (by decide)
  · split at h
    · exact absurd h (by decide)
    · exact ⟨‹_›, by omega⟩
theorem secsL_len (f : Fr) : (secsL f).length = pcs f.pay.size + 1 := by simp [secsL]
theorem more_lt' (l : By) : more 0 l < 4294967296 := CrcMath.more_lt 0 l
theorem hdOf_okn {f : Fr} (h : f.okn) (h2 : f.pay.size ≤ 16384) : (hdOf f).okn := ⟨h.1, h.2.1, h.2.2.1, by simp [hdOf]; omega, more_lt' _⟩
end Go.Proofs.Ytiegocbdgimimaa.Rec
