/-
  The contracts of crc's functions, and of those of the document's answer.
-/
import Derived.Test.YtldlkoiekdlmhaaRows
import Derived.Test.YtldlkoiekdlmhaaCrcMath
import Derived.WalkKit
import Derived.ProofKit
import Derived.OpenShut
import Derived.ShutString
import Derived.Handy
import Derived.Outline
import Derived.Laws.BitsAllLaws
import Derived.Laws.BytesArg
namespace Go.Proofs.Ytldlkoiekdlmhaa.Crc
open Go.ChangeShapes Go.WideShapes Go.ChangeAt Go.RowKit
open Go.Proofs.Ytldlkoiekdlmhaa.CrcMath
set_option linter.unusedVariables false
set_option maxRecDepth 100000

theorem hid {p : Prop} (h : p) : Hid p := h
theorem bt {w a b : World} (h : Below w.heap.size w a) (g : Below a.heap.size a b) : Below w.heap.size w b := h.trans (g.mono h.size)
theorem bits_xor32 (a b : Nat) (ha : a < 4294967296) (hb : b < 4294967296) : bits .xor .u32 (a : Int) (b : Int) = ((a ^^^ b : Nat) : Int) := u32_xor_nat a b ha hb
theorem bits_and1 (a : Nat) (ha : a < 4294967296) : bits .and .u32 (a : Int) 1 = ((a % 2 : Nat) : Int) := by
  have h := u32_and_nat a 1 ha (by omega)
  rw [Nat.and_one_is_mod] at h; exact h
theorem bits_poly (a : Nat) (ha : a < 4294967296) : bits .xor .u32 ((a : Int) / 2) 3988292384 = ((a / 2 ^^^ 3988292384 : Nat) : Int) :=
  u32_xor_nat (a / 2) 3988292384 (by omega) (by omega)
theorem xor_ones (c : Nat) (h : c < 4294967296) : 4294967295 ^^^ c = 4294967295 - c := by
  apply Nat.eq_of_testBit_eq
  intro i
  have h1 := Nat.testBit_two_pow_sub_succ (n := 32) (x := c) h i
  rw [show (4294967295 : Nat) - c = 2 ^ 32 - (c + 1) by omega, h1, Nat.testBit_xor]
  have h2 := Nat.testBit_two_pow_sub_one 32 i
  rw [show (4294967295 : Nat) = 2 ^ 32 - 1 by omega, h2]
  by_cases hi : i < 32
  · simp [hi]
  · simp [hi]
    exact Nat.testBit_lt_two_pow (Nat.lt_of_lt_of_le h (Nat.pow_le_pow_right (n := 2) (by omega) (show 32 ≤ i by omega)))
theorem bits_not (c : Nat) (h : c < 4294967296) : bits .xor .u32 IntKind.u32.max (c : Int) = ((inv c : Nat) : Int) := by
  have := u32_xor_nat 4294967295 c (by omega) h
  rw [xor_ones c h] at this
  exact this
theorem setCell_setCell (w : World) (r : Addr) (x y : Value) : (w.setCell r x).setCell r y = w.setCell r y := by
  simp only [World.setCell]
  congr 1
  apply Array.ext_getElem?
  intro i
  simp only [Array.getElem?_modify]
  by_cases h : r.block = i
  · simp only [if_pos h, Option.map_map]
    cases w.heap[i]? with
    | none => rfl
    | some o =>
      cases o <;> try rfl
      simp only [Option.map_some, Function.comp]
      split
      · rfl
      · rw [Array.setIfInBounds_setIfInBounds]
  · simp only [if_neg h]

theorem take_snoc (s : ByteArray) (k : Nat) (h : k < s.size) : s.data.toList.take (k + 1) = s.data.toList.take k ++ [s[k]] := by
  rw [List.take_succ_eq_append_getElem (by simpa using h)]; rfl

/-! ### the document's answer -/
theorem rem2 (a : Nat) : ((a : Int) % 2 == 1) = decide (a % 2 = 1) := by
  rw [Bool.eq_iff_iff]; simp; omega

theorem bytesOf_any (n : Nat) (w : World) (hn : n < 18446744073709551616) :
    Calls Try.prog 73 #[.int .u64 n] w fun e w' => e = .returned (.agg #[.int .u8 ((n : Int) % 256), .int .u8 ((n : Int) / 256 % 256), .int .u8 ((n : Int) / 65536 % 256), .int .u8 ((n : Int) / 16777216 % 256), .int .u8 ((n : Int) / 4294967296 % 256), .int .u8 ((n : Int) / 1099511627776 % 256), .int .u8 ((n : Int) / 281474976710656 % 256), .int .u8 ((n : Int) / 72057594037927936)]) ∧ Below w.heap.size w w' := by
  go_enter Try.func73, Try.ntmps73
  go_wp2_with fail
  go_rounds 9
  go_returns
  exact ⟨rfl, by go_grown⟩

/-- Numbers' bytes. -/
def leb : Nat → Nat → List UInt8
  | 0, _ => []
  | k + 1, n => UInt8.ofNat n :: leb k (n / 256)
theorem byte_of (n d : Nat) : UInt8.ofNat (((n : Int) / d % 256).toNat) = UInt8.ofNat (n / d) := by
  rw [show ((n : Int) / d % 256).toNat = n / d % 256 by omega]
  apply UInt8.toNat_inj.1
  simp
theorem byte_of0 (n : Nat) : UInt8.ofNat (((n : Int) % 256).toNat) = UInt8.ofNat n := by
  rw [show ((n : Int) % 256).toNat = n % 256 by omega]
  apply UInt8.toNat_inj.1
  simp
theorem leb4 (n : Nat) : strOfNums [(n : Int) % 256, (n : Int) / 256 % 256, (n : Int) / 65536 % 256, (n : Int) / 16777216 % 256] = ⟨(leb 4 n).toArray⟩ := by
  have h1 : UInt8.ofNat (((n : Int) / 256 % 256).toNat) = UInt8.ofNat (n / 256) := byte_of n 256
  have h2 : UInt8.ofNat (((n : Int) / 65536 % 256).toNat) = UInt8.ofNat (n / 65536) := byte_of n 65536
  have h3 : UInt8.ofNat (((n : Int) / 16777216 % 256).toNat) = UInt8.ofNat (n / 16777216) := byte_of n 16777216
  simp [strOfNums, leb, Nat.div_div_eq_div_mul, byte_of0, h1, h2, h3]
theorem leb8 (n : Nat) (hn : n < 18446744073709551616) : strOfNums [(n : Int) % 256, (n : Int) / 256 % 256, (n : Int) / 65536 % 256, (n : Int) / 16777216 % 256, (n : Int) / 4294967296 % 256, (n : Int) / 1099511627776 % 256, (n : Int) / 281474976710656 % 256, (n : Int) / 72057594037927936] = ⟨(leb 8 n).toArray⟩ := by
  have h1 : UInt8.ofNat (((n : Int) / 256 % 256).toNat) = UInt8.ofNat (n / 256) := byte_of n 256
  have h2 : UInt8.ofNat (((n : Int) / 65536 % 256).toNat) = UInt8.ofNat (n / 65536) := byte_of n 65536
  have h3 : UInt8.ofNat (((n : Int) / 16777216 % 256).toNat) = UInt8.ofNat (n / 16777216) := byte_of n 16777216
  have h4 : UInt8.ofNat (((n : Int) / 4294967296 % 256).toNat) = UInt8.ofNat (n / 4294967296) := byte_of n 4294967296
  have h5 : UInt8.ofNat (((n : Int) / 1099511627776 % 256).toNat) = UInt8.ofNat (n / 1099511627776) := byte_of n 1099511627776
  have h6 : UInt8.ofNat (((n : Int) / 281474976710656 % 256).toNat) = UInt8.ofNat (n / 281474976710656) := byte_of n 281474976710656
  have h7 : UInt8.ofNat (((n : Int) / 72057594037927936 % 256).toNat) = UInt8.ofNat (n / 72057594037927936) := byte_of n 72057594037927936
  have h8 : ((n : Int) / 72057594037927936 % 256) = (n : Int) / 72057594037927936 := by omega
  rw [h8] at h7
  simp [strOfNums, leb, Nat.div_div_eq_div_mul, byte_of0, h1, h2, h3, h4, h5, h6, h7]
theorem put32_any (n : Nat) (w : World) (hn : n < 4294967296) :
    Calls Try.prog 69 #[.int .u32 n] w fun e w' => e = .returned (.string ⟨(leb 4 n).toArray⟩) ∧ Below w.heap.size w w' := by
  have hl := hid (leb4 n)
  go_enter Try.func69, Try.ntmps69
  go_wp2_with fail
  refine (bytesOf_any n _ (by omega)).mono ?_
  rintro e w1 ⟨rfl, hb1⟩
  go_wp2_with fail
  rw [run_convert_bytes_arg _ 49 5 Try.underlying49 Try.underlying5 _ 0 4 8 [(n : Int) % 256, (n : Int) / 256 % 256, (n : Int) / 65536 % 256, (n : Int) / 16777216 % 256] rfl ?_ 9 Try.underlying9]
  · go_wp2_with fail
    go_ret
    refine ⟨?_, hb1.alloc hb1.size _⟩
    rw [← hl.out]; rfl
  · exact fun i hi => match i, hi with
    | 0, _ => by simp [go_sem]
    | 1, _ => by simp [go_sem]
    | 2, _ => by simp [go_sem]
    | 3, _ => by simp [go_sem]
theorem put64_any (n : Nat) (w : World) (hn : n < 18446744073709551616) :
    Calls Try.prog 67 #[.int .u64 n] w fun e w' => e = .returned (.string ⟨(leb 8 n).toArray⟩) ∧ Below w.heap.size w w' := by
  have hl := hid (leb8 n hn)
  go_enter Try.func67, Try.ntmps67
  go_wp2_with fail
  refine (bytesOf_any n _ (by omega)).mono ?_
  rintro e w1 ⟨rfl, hb1⟩
  go_wp2_with fail
  rw [run_convert_bytes_arg _ 49 5 Try.underlying49 Try.underlying5 _ 0 8 8 [(n : Int) % 256, (n : Int) / 256 % 256, (n : Int) / 65536 % 256, (n : Int) / 16777216 % 256, (n : Int) / 4294967296 % 256, (n : Int) / 1099511627776 % 256, (n : Int) / 281474976710656 % 256, (n : Int) / 72057594037927936] rfl ?_ 9 Try.underlying9]
  · go_wp2_with fail
    go_ret
    refine ⟨?_, hb1.alloc hb1.size _⟩
    rw [← hl.out]; rfl
  · exact fun i hi => match i, hi with
    | 0, _ => by simp [go_sem]
    | 1, _ => by simp [go_sem]
    | 2, _ => by simp [go_sem]
    | 3, _ => by simp [go_sem]
    | 4, _ => by simp [go_sem]
    | 5, _ => by simp [go_sem]
    | 6, _ => by simp [go_sem]
    | 7, _ => by simp [go_sem]
theorem leb_len (k n : Nat) : (leb k n).length = k := by
  induction k generalizing n with
  | zero => rfl
  | succ k ih => simp [leb, ih]
theorem leb_snoc (k : Nat) : ∀ n, leb (k + 1) n = leb k n ++ [UInt8.ofNat (n / 256 ^ k)] := by
  induction k with
  | zero => intro n; simp [leb]
  | succ k ih =>
    intro n
    show UInt8.ofNat n :: leb (k + 1) (n / 256) = _
    rw [ih, Nat.div_div_eq_div_mul, Nat.pow_succ, Nat.mul_comm]; rfl
/-- Bytes as the cells hold them. -/
def cellsOf (l : List UInt8) : List Value := l.map fun b => Value.int .u8 (b.toNat : Int)
theorem cellsOf_len (l : List UInt8) : (cellsOf l).length = l.length := by simp [cellsOf]
theorem cellsOf_append (a b : List UInt8) : cellsOf (a ++ b) = cellsOf a ++ cellsOf b := by simp [cellsOf]
theorem info_u8 : (Try.prog.info? 5).map (fun i => (i.zero, i.size, i.bytes)) = some (some (.int .u8 0), 1, 1) := by kernel_rfl

/-- A row of the call's own, made a string. -/
theorem run_convert_own {P : Program} {w : World} {base : Nat} {v : Value} {n : Nat} {l : List UInt8} (src e dst : TypeId) (hs : P.underlying src = some (.slice e)) (he : P.underlying e = some (.int .u8)) (hd : P.underlying dst = some .string)
    (h : w.ownsRow base e 1 v n (cellsOf l)) : (convert src dst v).run P w = .ok (.string ⟨l.toArray⟩) w := by
  have hlen : l.length = n := by have := h.1; simpa [cellsOf_len] using this
  have hcell := fun (g : Nat) (hg : v.ownBlock = some g) => h.cells hg
  rcases h.2 with ⟨rfl, hn⟩ | ⟨g, cap, cur, rfl, hb, hg, hnc, hcm, hcs, htake⟩
  · have hl : l = [] := List.eq_nil_of_length_eq_zero (by omega)
    subst hl
    exact run_convert_bytes_nil w src e hs he 0 0 dst hd
  · have e1 : (⟨l.toArray⟩ : ByteArray) = strOfNums (l.map fun b => (b.toNat : Int)) := by
      unfold strOfNums
      rw [List.map_map]
      congr 1
      apply Array.toList_inj.1
      simp only []
      conv => lhs; rw [← List.map_id l]
      apply List.map_congr_left
      intro b _
      simp
    rw [e1]
    refine run_convert_bytes_arg w src e hs he g 0 n cap _ (by simpa using hlen) ?_ dst hd
    intro i hi
    have hil : i < l.length := by omega
    have := hcell g rfl i (.int .u8 (l[i].toNat : Int)) (by simp [cellsOf, hil])
    have hadd : (⟨g, 0, none⟩ : Addr).add i = ⟨g, i, none⟩ := by unfold Addr.add; split <;> simp_all
    rw [hadd] at this
    rw [Nat.zero_add, this]
    simp [List.getD, hil]

theorem put_rel {w wr w1 : World} {v v' : Value} {o : Obj} {k n : Nat} (hB : w.heap.size ≤ wr.heap.size)
    (hown : wr.ownsRow w.heap.size 5 1 v k (cellsOf (leb k n))) (hb : Below w.heap.size w wr)
    (hown' : w1.ownsRow w.heap.size 5 1 v' (k + 1) (cellsOf (leb k n) ++ [.int .u8 ((n / 256 ^ k : Nat) % 256 : Int)])) (hg : (wr.alloc o).grownBy w1 v.ownBlock) :
    w1.ownsRow w.heap.size 5 1 v' (k + 1) (cellsOf (leb (k + 1) n)) ∧ Below w.heap.size w w1 := by
  refine ⟨?_, (hb.alloc hB o).grown hg (by simp; omega) (fun j hj => (hown.lt j hj).1)⟩
  have e : cellsOf (leb (k + 1) n) = cellsOf (leb k n) ++ [.int .u8 ((n / 256 ^ k : Nat) % 256 : Int)] := by
    rw [leb_snoc, cellsOf_append]; simp [cellsOf]
  rw [e]; exact hown'

theorem refput_any (n k : Nat) (w : World) (hn : n < 18446744073709551616) (hk : k ≤ 8) :
    Calls Try.prog 34 #[.int .u64 n, .int .i64 k] w fun e w' => e = .returned (.string ⟨(leb k n).toArray⟩) ∧ Below w.heap.size w w' := by
  obtain ⟨i0, hi, hz0, hz1, hz2⟩ := info_parts info_u8
  go_enter Try.func34, Try.ntmps34
  go_wp2_with fail
  go_loopw [0, 5, 6] (fun x v i wr => ∃ j : Nat, j ≤ k ∧ i = .int .i64 j ∧ x = .int .u64 (n / 256 ^ j : Nat) ∧ wr.ownsRow w.heap.size 5 1 v j (cellsOf (leb j n)) ∧ Below w.heap.size w wr) (fun _ _ i _ => k - (intOf i).toNat)
  case atStart => exact ⟨0, by omega, rfl, by simp, World.ownsRow_nil _ _ _ _, Below.refl _ _⟩
  case round =>
    obtain ⟨j, hj, rfl, rfl, hown, hb⟩ := hrel
    have hm : n / 256 ^ j < 18446744073709551616 := Nat.lt_of_le_of_lt (Nat.div_le_self _ _) hn
    have hms : n / 256 ^ (j + 1) = n / 256 ^ j / 256 := by rw [Nat.pow_succ, Nat.div_div_eq_div_mul]
    have hrl := fun (w1 : World) (v v' : Value) (o : Obj) => put_rel (w := w) (wr := wr) (w1 := w1) (v := v) (v' := v') (o := o) (k := j) (n := n) hb.size
    generalize n / 256 ^ j = m at *
    have hms2 := hid hms
    have hrl2 := hid hrl
    clear hms hrl
    by_cases hlt : j < k
    · go_wp2_with (at_builtin; refine wpList_append_own _ rfl _ _ 49 rfl w.heap.size 5 i0 (.int .u8 0) 1 1 Try.underlying49 hi hz0 hz1 hz2 rfl (by decide) _ _ _ rfl (hown.alloc _) ⟨wr.heap.size, 0, none⟩ 1 1 [.int .u8 ((m : Int) % 256)] rfl rfl ?c1 ?c2 ?c3 ?c4 ?c5 ?_)
      case c1 =>
        intro i u hu
        match i, hu with
        | 0, hu => simp at hu; subst hu; simp [go_sem]
      case c2 => simp [Value.oneCell']
      case c3 => unfold maxLen; omega
      case c4 => omega
      case c5 => simp; exact Nat.le_succ_of_le hb.size
      intro v' w1 hown' hg _
      obtain ⟨h1, h2⟩ := hrl2.out w1 _ v' _ hown hb hown' hg
      clear hown hown' hg hrl2 hb
      go_wp2_with fail
      go_roundw
      case rel => exact ⟨j + 1, by omega, by go_num, by rw [hms2.out]; rfl, h1, h2⟩
      case measure => simp [intOf]; omega
    · obtain rfl : j = k := by omega
      clear hrl2 hms2
      go_wp2_with fail
      rw [run_convert_own 49 5 9 Try.underlying49 Try.underlying5 Try.underlying9 hown]
      go_wp2_with fail
      go_ret
      exact ⟨rfl, hb⟩

theorem refput32_any (n : Nat) (w : World) (hn : n < 4294967296) :
    Calls Try.prog 35 #[.int .u32 n] w fun e w' => e = .returned (.string ⟨(leb 4 n).toArray⟩) ∧ Below w.heap.size w w' := by
  go_enter Try.func35, Try.ntmps35
  go_wp2_with fail
  refine (refput_any n 4 _ (by omega) (by omega)).mono ?_
  rintro e w1 ⟨rfl, hb1⟩
  go_wp2_with fail
  go_ret
  exact ⟨rfl, hb1⟩
theorem refput64_any (n : Nat) (w : World) (hn : n < 18446744073709551616) :
    Calls Try.prog 22 #[.int .u64 n] w fun e w' => e = .returned (.string ⟨(leb 8 n).toArray⟩) ∧ Below w.heap.size w w' := by
  go_enter Try.func22, Try.ntmps22
  go_wp2_with fail
  refine (refput_any n 8 _ (by omega) (by omega)).mono ?_
  rintro e w1 ⟨rfl, hb1⟩
  go_wp2_with fail
  go_ret
  exact ⟨rfl, hb1⟩

/-- Bytes' number. -/
def num : List UInt8 → Nat
  | [] => 0
  | b :: l => b.toNat + 256 * num l
theorem num_lt (l : List UInt8) : num l < 256 ^ l.length := by
  induction l with
  | nil => simp [num]
  | cons b l ih =>
    have := UInt8.toNat_lt b
    simp only [num, List.length_cons, Nat.pow_succ]
    omega
theorem num_snoc (l : List UInt8) (b : UInt8) : num (l ++ [b]) = num l + 256 ^ l.length * b.toNat := by
  induction l with
  | nil => simp [num]
  | cons a l ih =>
    simp only [List.cons_append, num, ih, List.length_cons, Nat.pow_succ]
    rw [Nat.mul_add, Nat.add_assoc, Nat.mul_comm (256 ^ l.length) 256, Nat.mul_assoc]
theorem num_drop (l : List UInt8) (k : Nat) (h : k < l.length) : num (l.drop k) = l[k].toNat + 256 * num (l.drop (k + 1)) := by
  rw [List.drop_eq_getElem_cons h]; rfl
theorem num_or {k : Nat} {a b : Nat} (hk : k < 8) (ha : a < 256 ^ k) (hb : b < 256) : bits .or .u64 (a : Int) (IntKind.u64.wrap ((b : Int) * 2 ^ (8 * k))) = ((a + 256 ^ k * b : Nat) : Int) := by
  have e : (256 : Nat) ^ k = 2 ^ (8 * k) := by rw [Nat.pow_mul]
  have hp : 2 ^ (8 * k) * b < 18446744073709551616 := by
    have h1 : 2 ^ (8 * k) * b ≤ 2 ^ (8 * k) * 255 := Nat.mul_le_mul_left _ (by omega)
    have h2 : 2 ^ (8 * k) ≤ 2 ^ 56 := Nat.pow_le_pow_right (by omega) (by omega)
    omega
  have ha2 : a < 2 ^ (8 * k) := by rw [← e]; exact ha
  have ha3 : a < 18446744073709551616 := Nat.lt_of_lt_of_le ha2 (Nat.pow_le_pow_right (n := 2) (j := 64) (by omega) (by omega))
  have e2 : ((b : Int) * 2 ^ (8 * k)) = ((2 ^ (8 * k) * b : Nat) : Int) := by rw [Nat.mul_comm (2 ^ (8 * k))]; push_cast; rfl
  rw [e2, IntWalk.u64_in _ (by omega), u64_or_nat _ _ ha3 hp, e, Nat.or_comm, Nat.add_comm a, Nat.two_pow_add_eq_or_of_lt ha2]

theorem numberOf_any (s : ByteArray) (w : World) (hs : s.size ≤ 8) :
    Calls Try.prog 86 #[.string s] w fun e w' => e = .returned (.int .u64 (num s.data.toList : Nat)) ∧ w = w' := by
  go_enter Try.func86, Try.ntmps86
  go_wp2_with fail
  go_loop [3, 7] (fun x i => ∃ k : Nat, k ≤ s.size ∧ i = .int .i64 k ∧ x = .int .u64 (num (s.data.toList.take k) : Nat)) (fun _ i => s.size - (intOf i).toNat)
  case atStart => exact ⟨0, by omega, rfl, rfl⟩
  case round =>
    obtain ⟨k, hk, rfl, rfl⟩ := hrel
    by_cases hlt : k < s.size
    · have hb : s[k].toNat < 256 := UInt8.toNat_lt _
      have hkl : (s.data.toList.take k).length = k := by simp; omega
      have hlt2 := num_lt (s.data.toList.take k)
      rw [hkl] at hlt2
      have hor := hid (num_or (k := k) (by omega) hlt2 hb)
      have hts : num (s.data.toList.take (k + 1)) = num (s.data.toList.take k) + 256 ^ k * s[k].toNat := by rw [take_snoc s k hlt, num_snoc, hkl]
      have hts2 := hid hts
      clear hts hkl hlt2
      go_wp2_with fail
      exact ⟨⟨k + 1, by omega, by go_num, by rw [hor.out, hts2.out]⟩, by simp [intOf]; omega⟩
    · obtain rfl : k = s.size := by omega
      have hfin : num s.data.toList = num (s.data.toList.take s.size) := by rw [List.take_of_length_le (by simp)]
      have hfin2 := hid hfin
      clear hfin
      go_wp2_with fail
      go_ret
      refine ⟨?_, rfl⟩
      rw [hfin2.out]; rfl
theorem refget_any (s : ByteArray) (w : World) (hs : s.size ≤ 8) :
    Calls Try.prog 42 #[.string s] w fun e w' => e = .returned (.int .u64 (num s.data.toList : Nat)) ∧ w = w' := by
  go_enter Try.func42, Try.ntmps42
  go_wp2_with fail
  go_loop [3, 4] (fun x i => ∃ k : Nat, k ≤ s.size ∧ i = .int .i64 ((k : Int) - 1) ∧ x = .int .u64 (num (s.data.toList.drop k) : Nat)) (fun _ i => (intOf i + 1).toNat)
  case atStart => exact ⟨s.size, by omega, rfl, by rw [List.drop_of_length_le (by simp)]; rfl⟩
  case round =>
    obtain ⟨k, hk, rfl, rfl⟩ := hrel
    by_cases hlt : 0 < k
    · obtain ⟨j, rfl⟩ : ∃ j, k = j + 1 := ⟨k - 1, by omega⟩
      have hjl : j < s.size := by omega
      have hb : s[j].toNat < 256 := UInt8.toNat_lt _
      have hd := num_drop s.data.toList j (by simpa using hjl)
      have hl := num_lt (s.data.toList.drop (j + 1))
      have hl2 : num (s.data.toList.drop (j + 1)) < 72057594037927936 := by
        refine Nat.lt_of_lt_of_le hl ?_
        rw [List.length_drop]
        have : (256 : Nat) ^ (s.data.toList.length - (j + 1)) ≤ 256 ^ 7 := Nat.pow_le_pow_right (by omega) (by simp; omega)
        exact this
      have hd2 := hid hd
      clear hd hl
      generalize num (s.data.toList.drop (j + 1)) = m at *
      rw [show ((j + 1 : Nat) : Int) - 1 = j by omega]
      go_wp2_with fail
      have he : num (s.data.toList.drop j) = 256 * m + s[j].toNat := by rw [hd2.out, Nat.add_comm]; rfl
      refine ⟨⟨j, by omega, rfl, by rw [he]; go_num⟩, ?_⟩
      simp [intOf]
    · obtain rfl : k = 0 := by omega
      go_wp2_with fail
      go_ret
      exact ⟨rfl, rfl⟩
theorem get32_yes (s : ByteArray) (w : World) (h : s.size = 4) :
    Calls Try.prog 84 #[.string s] w fun e w' => e = .returned (.tuple #[.int .u32 (num s.data.toList : Nat), .int .i64 0]) ∧ w = w' := by
  have h1 : ((s.size : Int) == 4) = true := by rw [h]; rfl
  have h2 : ((s.size : Int) != 4) = false := by rw [h]; rfl
  have hl := num_lt s.data.toList
  have hl2 : s.data.toList.length = 4 := by simpa using h
  rw [hl2] at hl
  have hs : s.size ≤ 8 := by omega
  clear h hl2
  go_enter Try.func84, Try.ntmps84
  go_wp2_with fail
  refine (numberOf_any _ _ ‹_›).mono ?_
  rintro e w1 ⟨rfl, rfl⟩
  go_wp2_with fail
  go_ret2
  exact ⟨rfl, rfl⟩
theorem get32_no (s : ByteArray) (w : World) (h : s.size ≠ 4) :
    Calls Try.prog 84 #[.string s] w fun e w' => e = .returned (.tuple #[.int .u32 0, .int .i64 14]) ∧ w = w' := by
  have h1 : ((s.size : Int) == 4) = false := by simp; omega
  have h2 : ((s.size : Int) != 4) = true := by simp; omega
  clear h
  go_enter Try.func84, Try.ntmps84
  go_wp2_with fail
  go_ret2
  exact ⟨rfl, rfl⟩
theorem get64_yes (s : ByteArray) (w : World) (h : s.size = 8) :
    Calls Try.prog 83 #[.string s] w fun e w' => e = .returned (.tuple #[.int .u64 (num s.data.toList : Nat), .int .i64 0]) ∧ w = w' := by
  have h1 : ((s.size : Int) == 8) = true := by rw [h]; rfl
  have h2 : ((s.size : Int) != 8) = false := by rw [h]; rfl
  have hl := num_lt s.data.toList
  have hl2 : s.data.toList.length = 8 := by simpa using h
  rw [hl2] at hl
  have hs : s.size ≤ 8 := by omega
  clear h hl2
  go_enter Try.func83, Try.ntmps83
  go_wp2_with fail
  refine (numberOf_any _ _ ‹_›).mono ?_
  rintro e w1 ⟨rfl, rfl⟩
  go_wp2_with fail
  go_ret2
  exact ⟨rfl, rfl⟩
theorem get64_no (s : ByteArray) (w : World) (h : s.size ≠ 8) :
    Calls Try.prog 83 #[.string s] w fun e w' => e = .returned (.tuple #[.int .u64 0, .int .i64 14]) ∧ w = w' := by
  have h1 : ((s.size : Int) == 8) = false := by simp; omega
  have h2 : ((s.size : Int) != 8) = true := by simp; omega
  clear h
  go_enter Try.func83, Try.ntmps83
  go_wp2_with fail
  go_ret2
  exact ⟨rfl, rfl⟩
theorem refget32_yes (s : ByteArray) (w : World) (h : s.size = 4) :
    Calls Try.prog 38 #[.string s] w fun e w' => e = .returned (.tuple #[.int .u32 (num s.data.toList : Nat), .int .i64 0]) ∧ w = w' := by
  have h1 : ((s.size : Int) == 4) = true := by rw [h]; rfl
  have h2 : ((s.size : Int) != 4) = false := by rw [h]; rfl
  have hl := num_lt s.data.toList
  have hl2 : s.data.toList.length = 4 := by simpa using h
  rw [hl2] at hl
  have hs : s.size ≤ 8 := by omega
  clear h hl2
  go_enter Try.func38, Try.ntmps38
  go_wp2_with fail
  refine (refget_any _ _ ‹_›).mono ?_
  rintro e w1 ⟨rfl, rfl⟩
  go_wp2_with fail
  go_ret2
  exact ⟨rfl, rfl⟩
theorem refget32_no (s : ByteArray) (w : World) (h : s.size ≠ 4) :
    Calls Try.prog 38 #[.string s] w fun e w' => e = .returned (.tuple #[.int .u32 0, .int .i64 14]) ∧ w = w' := by
  have h1 : ((s.size : Int) == 4) = false := by simp; omega
  have h2 : ((s.size : Int) != 4) = true := by simp; omega
  clear h
  go_enter Try.func38, Try.ntmps38
  go_wp2_with fail
  go_ret2
  exact ⟨rfl, rfl⟩
theorem refget64_yes (s : ByteArray) (w : World) (h : s.size = 8) :
    Calls Try.prog 36 #[.string s] w fun e w' => e = .returned (.tuple #[.int .u64 (num s.data.toList : Nat), .int .i64 0]) ∧ w = w' := by
  have h1 : ((s.size : Int) == 8) = true := by rw [h]; rfl
  have h2 : ((s.size : Int) != 8) = false := by rw [h]; rfl
  have hl := num_lt s.data.toList
  have hl2 : s.data.toList.length = 8 := by simpa using h
  rw [hl2] at hl
  have hs : s.size ≤ 8 := by omega
  clear h hl2
  go_enter Try.func36, Try.ntmps36
  go_wp2_with fail
  refine (refget_any _ _ ‹_›).mono ?_
  rintro e w1 ⟨rfl, rfl⟩
  go_wp2_with fail
  go_ret2
  exact ⟨rfl, rfl⟩
theorem refget64_no (s : ByteArray) (w : World) (h : s.size ≠ 8) :
    Calls Try.prog 36 #[.string s] w fun e w' => e = .returned (.tuple #[.int .u64 0, .int .i64 14]) ∧ w = w' := by
  have h1 : ((s.size : Int) == 8) = false := by simp; omega
  have h2 : ((s.size : Int) != 8) = true := by simp; omega
  clear h
  go_enter Try.func36, Try.ntmps36
  go_wp2_with fail
  go_ret2
  exact ⟨rfl, rfl⟩
theorem nat_u32 {a : Int} (h : (Lit.int .u32 a).wf = true) : ∃ n : Nat, a = n ∧ n < 4294967296 := by
  have := bounds_u32 h
  exact ⟨a.toNat, by omega, by omega⟩
theorem nat_u64 {a : Int} (h : (Lit.int .u64 a).wf = true) : ∃ n : Nat, a = n ∧ n < 18446744073709551616 := by
  have := bounds_u64 h
  exact ⟨a.toNat, by omega, by omega⟩
theorem nat_u8 {a : Int} (h : (Lit.int .u8 a).wf = true) : ∃ n : Nat, a = n ∧ n < 256 := by
  have := bounds_u8 h
  exact ⟨a.toNat, by omega, by omega⟩
theorem leb_size (k n : Nat) : (⟨(leb k n).toArray⟩ : ByteArray).size = k := by
  show (leb k n).toArray.size = k
  simp [leb_len]
theorem num_leb (k : Nat) : ∀ n, num (leb k n) = n % 256 ^ k := by
  induction k with
  | zero => intro n; simp [num, leb, Nat.mod_one]
  | succ k ih =>
    intro n
    simp only [leb, num, ih, UInt8.toNat_ofNat', Nat.reducePow]
    rw [Nat.pow_succ, Nat.mul_comm (256 ^ k), Nat.mod_mul]
theorem num_leb4 (n : Nat) (h : n < 4294967296) : num (leb 4 n) = n := by rw [num_leb]; exact Nat.mod_eq_of_lt h
theorem num_leb8 (n : Nat) (h : n < 18446744073709551616) : num (leb 8 n) = n := by rw [num_leb]; exact Nat.mod_eq_of_lt h
end Go.Proofs.Ytldlkoiekdlmhaa.Crc
