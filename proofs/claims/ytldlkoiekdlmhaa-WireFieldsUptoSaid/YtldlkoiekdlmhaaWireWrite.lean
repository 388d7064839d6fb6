/-
  wire.writer: small, number, flag, text, change: contracts.
-/
import Derived.Test.YtldlkoiekdlmhaaPkWireAskV
import Derived.Deep.RegionHeld3
namespace Go.Proofs.Ytldlkoiekdlmhaa.Wi
open Go.ChangeShapes Go.WideShapes Go.ChangeAt Go.RowKit
open Go.Proofs.Ytldlkoiekdlmhaa.Mem
open Go.Proofs.Ytldlkoiekdlmhaa.Lik (Kept)
open Go.Proofs.Ytldlkoiekdlmhaa.Crc hiding hid bt
set_option linter.unusedVariables false
set_option linter.unusedSimpArgs false
set_option maxRecDepth 100000
/-- what a writer has: some bytes, or it is wrong; at most m of them, at least n -/
def Wr (w : World) (B b : Nat) (o : Option (List UInt8)) (n m : Nat) : Prop := ∃ l wr, Bld.Is 58 [.bool wr] B b l w ∧ n ≤ l.length ∧ l.length ≤ m ∧ o = if wr then none else some l
theorem htW : Bld.HT 58 1 := ⟨by decide, by kernel_rfl⟩
/-- a writer behind a write -/
def WrP (w : World) (B b : Nat) (o : Option (List UInt8)) (n m : Nat) (w' : World) : Prop := Wr w' B b o n m ∧ Below B w w' ∧ Kept b w w'
def w1 (n : Int) (o : Option (List UInt8)) : Option (List UInt8) := if 0 ≤ n ∧ n ≤ 255 then o.map (· ++ [UInt8.ofNat n.toNat]) else none
def wT (s : ByteArray) (o : Option (List UInt8)) : Option (List UInt8) := if s.size ≤ 2048 then o.map (· ++ txt s) else none
def wN (n : Nat) (o : Option (List UInt8)) : Option (List UInt8) := o.map (· ++ leb 8 n)
def wF (b : Bool) (o : Option (List UInt8)) : Option (List UInt8) := o.map (· ++ [fl b])
def wC (c : Ch) (o : Option (List UInt8)) : Option (List UInt8) := if cR c then o.map (· ++ packE [c]) else none
theorem kept_bel {b : Nat} {w w1 w2 : World} (h : Kept b w w1) (g : Below w1.heap.size w1 w2) : Kept b w w2 := by
  intro k o hk h1 h2
  have := h k o hk h1 h2
  exact (g.block k (Array.getElem?_eq_some_iff.1 this).1).trans this
theorem kept_store {b g : Nat} {w w1 : World} (h : Kept b w w1) (hg : w.heap.size ≤ g) (i : Nat) (v : Value) : Kept b w (w1.setCell ⟨g, i, none⟩ v) := by
  intro k o hk h1 h2
  have hlt := (Array.getElem?_eq_some_iff.1 hk).1
  rw [Below.heap_setCell _ _ _ _ (show k ≠ g by omega)]
  exact h k o hk h1 h2
theorem kept_refl (b : Nat) (w : World) : Kept b w w := Lib.OthersKept.refl _ _ w
theorem kept_trans {b : Nat} {u v w : World} (h : Kept b u v) (g : Kept b v w) : Kept b u w := h.trans g
theorem is_wrong {B b : Nat} {wr wr' : Bool} {l : List UInt8} {w : World} (h : Bld.Is 58 [.bool wr] B b l w) : Bld.Is 58 [.bool wr'] B b l (w.setCell ⟨b, 2, none⟩ (.bool wr')) := by
  obtain ⟨p, hp, hB, v, K, ho, hne⟩ := h.at
  exact Bld.Is.of hp ⟨hB, v, K.set 2 _, Bld.ownsRowF_store ho hne 2 _, hne⟩
theorem is_cells {B b : Nat} {wr : Bool} {l : List UInt8} {w : World} (h : Bld.Is 58 [.bool wr] B b l w) : ∃ p v, w.cell? ⟨b, 0, none⟩ = some p ∧ w.cell? ⟨b, 1, none⟩ = some v ∧ w.cell? ⟨b, 2, none⟩ = some (.bool wr) ∧ ∀ o, w.frozen? ⟨b, o, none⟩ = false := by
  obtain ⟨p, hp, hB, v, K, ho, hne⟩ := h.at
  obtain ⟨k0, k1, k2, kf⟩ := K.three
  exact ⟨p, v, k0, k1, k2, kf⟩
theorem is_ge {B b : Nat} {wr : Bool} {l : List UInt8} {w : World} (h : Bld.Is 58 [.bool wr] B b l w) : B ≤ b := by
  obtain ⟨p, hp, hB, _⟩ := h.at
  exact hB
theorem setb {B b : Nat} {w : World} (hB : B ≤ b) (i : Nat) (v : Value) : Below B w (w.setCell ⟨b, i, none⟩ v) ∧ Kept b w (w.setCell ⟨b, i, none⟩ v) :=
  ⟨(Below.refl B w).setCell (p := ⟨b, i, none⟩) hB v, (Lib.OthersKept.refl _ _ w).setCell ⟨b, i, none⟩ rfl v⟩
set_option maxHeartbeats 4000000 in
theorem wsmall_any (B b n m : Nat) (o : Option (List UInt8)) (z : Int) (w : World) (h : Wr w B b o n m) (hm : m ≤ 100000000) (hBw : B ≤ w.heap.size) :
    Calls Try.prog 63 #[.pointer (some ⟨b, 0, none⟩), .int .i64 z] w fun e w' => e = .returned (.int .i64 z) ∧ WrP w B b (w1 z o) (n + 1) (m + 1) w' := by
  obtain ⟨l, wr, I, hn, hl, ho⟩ := h
  replace ho := hid ho
  have hB := is_ge I
  obtain ⟨p, v, k0, k1, k2, kf⟩ := is_cells I
  obtain ⟨c, hc⟩ : ∃ c : UInt8, (c.toNat : Int) = IntKind.u8.wrap z := by
    have h0 : 0 ≤ IntKind.u8.wrap z ∧ IntKind.u8.wrap z < 256 := by rw [show IntKind.u8.wrap z = z % 256 from rfl]; omega
    exact ⟨UInt8.ofNat (IntKind.u8.wrap z).toNat, by rw [UInt8.toNat_ofNat']; omega⟩
  have hcr : 0 ≤ z → z ≤ 255 → c = UInt8.ofNat z.toNat := fun h0 h1 => u8_inj (by
    rw [UInt8.toNat_ofNat']
    rw [show IntKind.u8.wrap z = z % 256 from rfl] at hc
    omega)
  have hcall := hid (fun (wr : Bool) (w : World) (I : Bld.Is 58 [.bool wr] B b l w) (hBw : B ≤ w.heap.size) => Bld.bbyte_any 58 [.bool wr] htW B b l c w I (by omega) hBw)
  have I' := hid I
  by_cases hr : 0 ≤ z ∧ z ≤ 255
  · have hfin := hid (show ∀ w', Bld.Is 58 [.bool wr] B b (l ++ [c]) w' → Below B w w' → Kept b w w' → WrP w B b (w1 z o) (n + 1) (m + 1) w' from fun w' J b1 k1 => by
      refine ⟨⟨_, wr, J, by simp; omega, by simp; omega, ?_⟩, b1, k1⟩
      rw [ho.out]
      unfold w1
      rw [if_pos hr, ← hcr hr.1 hr.2]
      cases wr <;> rfl)
    have h0 : ¬ z < 0 := by omega
    have h1 : ¬ 255 < z := by omega
    have hcz : (c.toNat : Int) = z := by rw [hc, show IntKind.u8.wrap z = z % 256 from rfl]; omega
    rw [hcz] at hcall
    clear hr hcr I hc hcz
    go_enter Try.func63, Try.ntmps63
    go_wp2_with fail
    refine (hcall.out wr w I'.out hBw).mono ?_
    rintro e w2 ⟨rfl, J, b1, k1'⟩
    have hq := hid (hfin.out w2 J b1 k1')
    clear hfin hcall J b1 k1' I' k0 k1 k2 kf
    go_wp2_with fail
    go_ret
    exact ⟨rfl, hq.out⟩
  · have hset := setb (w := w) hB 2 (.bool true)
    have hfin := hid (show ∀ w', Bld.Is 58 [.bool true] B b (l ++ [c]) w' → Below B (w.setCell ⟨b, 2, none⟩ (.bool true)) w' → Kept b (w.setCell ⟨b, 2, none⟩ (.bool true)) w' → WrP w B b (w1 z o) (n + 1) (m + 1) w' from fun w' J b1 k1 => by
      refine ⟨⟨_, true, J, by simp; omega, by simp; omega, ?_⟩, hset.1.trans b1, kept_trans hset.2 k1⟩
      unfold w1
      rw [if_neg hr]
      rfl)
    have hI2 := hid (is_wrong (wr' := true) I)
    have hsz : B ≤ (w.setCell ⟨b, 2, none⟩ (.bool true)).heap.size := by simpa using hBw
    rw [hc] at hcall
    clear hcr I hset hc
    by_cases h0 : z < 0
    · clear hr
      go_enter Try.func63, Try.ntmps63
      go_wp2_with fail
      refine (hcall.out true _ hI2.out hsz).mono ?_
      rintro e w2 ⟨rfl, J, b1, k1'⟩
      have hq := hid (hfin.out w2 J b1 k1')
      clear hfin hcall J b1 k1' I' k0 k1 k2 kf hI2
      go_wp2_with fail
      go_ret
      exact ⟨rfl, hq.out⟩
    · have h1 : 255 < z := by omega
      clear hr
      go_enter Try.func63, Try.ntmps63
      go_wp2_with fail
      refine (hcall.out true _ hI2.out hsz).mono ?_
      rintro e w2 ⟨rfl, J, b1, k1'⟩
      have hq := hid (hfin.out w2 J b1 k1')
      clear hfin hcall J b1 k1' I' k0 k1 k2 kf hI2
      go_wp2_with fail
      go_ret
      exact ⟨rfl, hq.out⟩
set_option maxHeartbeats 4000000 in
theorem wnumber_any (B b n m : Nat) (o : Option (List UInt8)) (z : Nat) (w : World) (h : Wr w B b o n m) (hm : m ≤ 100000000) (hz : z < 18446744073709551616) (hBw : B ≤ w.heap.size) :
    Calls Try.prog 62 #[.pointer (some ⟨b, 0, none⟩), .int .u64 (z : Nat)] w fun e w' => e = .returned (.int .u64 (z : Nat)) ∧ WrP w B b (wN z o) n (m + 8) w' := by
  obtain ⟨l, wr, I, hn, hl, ho⟩ := h
  replace ho := hid ho
  have hB := is_ge I
  have hp := hid (fun W => put64_any z W hz)
  have hcall := hid (fun (w' : World) (hb : Below w.heap.size w w') => Bld.bwrite_any 58 [.bool wr] htW B b l ⟨(leb 8 z).toArray⟩ w' (I.below hb) (by rw [leb_size]; omega) (by have := hb.size; omega))
  have hfin := hid (show ∀ w1 w', Below w.heap.size w w1 → Bld.Is 58 [.bool wr] B b (l ++ (ByteArray.mk (leb 8 z).toArray).data.toList) w' → Below B w1 w' → Kept b w1 w' → WrP w B b (wN z o) n (m + 8) w' from fun w1 w' b0 J b1 k1 => by
    have e : (ByteArray.mk (leb 8 z).toArray).data.toList = leb 8 z := by simp
    rw [e] at J
    refine ⟨⟨_, wr, J, by simp; omega, by simp [leb_len]; omega, ?_⟩, (b0.mono hBw).trans b1, kept_trans (kept_bel (kept_refl b w) b0) k1⟩
    rw [ho.out]
    unfold wN
    cases wr <;> rfl)
  clear I hz
  go_enter Try.func62, Try.ntmps62
  go_wp2_with fail
  go_region_held3 (fun Y => True) (exact trivial) (first
    | (go_at_call 67
       (with_reducible refine (hp.out _).mono ?_)
       rintro e w3 ⟨rfl, b3⟩
       have b03 := hid ((Below.refl w.heap.size w).drew.trans b3)
       have hc2 := hid (hcall.out w3 b03.out)
       clear hp b3)
    | (go_at_call 66
       (with_reducible refine hc2.out.mono ?_)
       rintro e w4 ⟨rfl, J, b4, k4⟩
       have hq := hid (hfin.out w3 w4 b03.out J b4 k4)
       clear hc2 J b4 k4))
  clear hfin hcall b03
  go_wp2_with fail
  go_ret
  exact ⟨rfl, hq.out⟩
set_option maxHeartbeats 4000000 in
theorem wflag_any (B b n m : Nat) (o : Option (List UInt8)) (z : Bool) (w : World) (h : Wr w B b o n m) (hm : m ≤ 100000000) (hBw : B ≤ w.heap.size) :
    Calls Try.prog 61 #[.pointer (some ⟨b, 0, none⟩), .bool z] w fun e w' => e = .returned (.bool z) ∧ WrP w B b (wF z o) n (m + 1) w' := by
  have hc := hid (fun y : Int => wsmall_any B b n m o y w h hm hBw)
  have e1 : w1 (if z then 1 else 0) o = wF z o := by
    cases z
    · show (if (0 : Int) ≤ 0 ∧ (0 : Int) ≤ 255 then _ else _) = _
      rw [if_pos (by decide)]; rfl
    · show (if (0 : Int) ≤ 1 ∧ (1 : Int) ≤ 255 then _ else _) = _
      rw [if_pos (by decide)]; rfl
  have hfin := hid (show ∀ w', WrP w B b (w1 (if z then 1 else 0) o) (n + 1) (m + 1) w' → WrP w B b (wF z o) n (m + 1) w' from fun w' ⟨⟨l, wr, J, h1, h2, h3⟩, b1, k1⟩ => ⟨⟨l, wr, J, by omega, h2, by rw [← e1, h3]⟩, b1, k1⟩)
  clear h e1
  go_enter Try.func61, Try.ntmps61
  cases z
  · go_wp2_with fail
    refine (hc.out 0).mono ?_
    rintro e w2 ⟨rfl, hP⟩
    have hq := hid (hfin.out w2 hP)
    clear hP hfin hc
    go_wp2_with fail
    go_ret
    exact ⟨rfl, hq.out⟩
  · go_wp2_with fail
    refine (hc.out 1).mono ?_
    rintro e w2 ⟨rfl, hP⟩
    have hq := hid (hfin.out w2 hP)
    clear hP hfin hc
    go_wp2_with fail
    go_ret
    exact ⟨rfl, hq.out⟩
set_option maxHeartbeats 4000000 in
theorem wtext_any (B b n m : Nat) (o : Option (List UInt8)) (s : ByteArray) (w : World) (h : Wr w B b o n m) (hm : m + 4 + s.size ≤ 100000000) (hBw : B ≤ w.heap.size) :
    Calls Try.prog 64 #[.pointer (some ⟨b, 0, none⟩), .string s] w fun e w' => e = .returned (.string s) ∧ WrP w B b (wT s o) n (m + 4 + s.size) w' := by
  obtain ⟨l, wr, I, hn, hl, ho⟩ := h
  replace ho := hid ho
  have hB := is_ge I
  have hsi : (s.size : Int) ≤ 100000000 := by omega
  have hw32 : IntKind.u32.wrap (s.size : Int) = s.size := IntWalk.u32_in _ (by omega)
  have hp := hid (fun W => put32_any s.size W (by omega))
  have hcall := hid (fun (wr : Bool) (w0 w' : World) (I : Bld.Is 58 [.bool wr] B b l w0) (hb : Below w0.heap.size w0 w') (h0 : B ≤ w0.heap.size) => Bld.bwrite_any 58 [.bool wr] htW B b l ⟨(leb 4 s.size).toArray⟩ w' (I.below hb) (by rw [leb_size]; omega) (by have := hb.size; omega))
  have hcall2 := hid (fun (wr : Bool) (w' : World) (I : Bld.Is 58 [.bool wr] B b (l ++ (ByteArray.mk (leb 4 s.size).toArray).data.toList) w') (h0 : B ≤ w'.heap.size) => Bld.bwrite_any 58 [.bool wr] htW B b _ s w' I (by rw [List.length_append, len_size, leb_size]; omega) h0)
  have hlen : (l ++ (ByteArray.mk (leb 4 s.size).toArray).data.toList ++ s.data.toList).length = l.length + 4 + s.size := by
    rw [List.length_append, List.length_append, len_size, len_size, leb_size]
  have e : (ByteArray.mk (leb 4 s.size).toArray).data.toList = leb 4 s.size := by simp
  by_cases hlong : 2048 < s.size
  · have hset := setb (w := w) hB 2 (.bool true)
    have hI2 := hid (is_wrong (wr' := true) I)
    have hsz := hid (show B ≤ (w.setCell ⟨b, 2, none⟩ (.bool true)).heap.size by simpa using hBw)
    have hfin := hid (show ∀ w1 w2 w', Below (w.setCell ⟨b, 2, none⟩ (.bool true)).heap.size (w.setCell ⟨b, 2, none⟩ (.bool true)) w1 → Below B w1 w2 → Kept b w1 w2 → Bld.Is 58 [.bool true] B b (l ++ (ByteArray.mk (leb 4 s.size).toArray).data.toList ++ s.data.toList) w' → Below B w2 w' → Kept b w2 w' → WrP w B b (wT s o) n (m + 4 + s.size) w' from fun w1 w2 w' b0 b1 k1 J b2 k2 => by
      refine ⟨⟨_, true, J, by rw [hlen]; omega, by rw [hlen]; omega, ?_⟩, ((hset.1.trans (b0.mono hsz.out)).trans b1).trans b2, kept_trans (kept_trans (kept_bel hset.2 b0) k1) k2⟩
      unfold wT
      rw [if_neg (by omega)]
      rfl)
    have hli : (2048 : Int) < (s.size : Int) := by omega
    obtain ⟨p, v, k0, k1, k2, kf⟩ := is_cells I
    clear hlong hlen e I hset
    go_enter Try.func64, Try.ntmps64
    go_upto_region 3 with fail
    clear k0 k1 k2 kf
    generalize w.setCell ⟨b, 2, none⟩ (.bool true) = X at hI2 hsz hfin ⊢
    go_region_held3 (fun Y => True) (exact trivial) (first
      | (go_at_call 69
         (with_reducible refine (hp.out _).mono ?_)
         rintro e w3 ⟨rfl, b3⟩
         have b03 := hid ((Below.refl X.heap.size X).drew.trans b3)
         have hc2 := hid (hcall.out true X w3 hI2.out b03.out hsz.out)
         clear hp b3)
      | (go_at_call 66
         (with_reducible refine hc2.out.mono ?_)
         rintro e w4 ⟨rfl, J, b4, k4⟩
         have hc3 := hid (hcall2.out true w4 J (by have := b4.size; have := b03.out.size; have := hsz.out; omega))
         have hq := hid (hfin.out w3 w4)
         replace b4 := hid b4
         replace k4 := hid k4
         clear hc2 J))
    clear hcall hcall2 hfin
    go_wp2_with fail
    refine hc3.out.mono ?_
    rintro e w5 ⟨rfl, J, b5, k5⟩
    have hz := hid (hq.out w5 b03.out b4.out k4.out J b5 k5)
    clear hq J b5 k5 hc3 b03 b4 k4
    go_wp2_with fail
    go_ret
    exact ⟨rfl, hz.out⟩
  · have hfin := hid (show ∀ w1 w2 w', Below w.heap.size w w1 → Below B w1 w2 → Kept b w1 w2 → Bld.Is 58 [.bool wr] B b (l ++ (ByteArray.mk (leb 4 s.size).toArray).data.toList ++ s.data.toList) w' → Below B w2 w' → Kept b w2 w' → WrP w B b (wT s o) n (m + 4 + s.size) w' from fun w1 w2 w' b0 b1 k1 J b2 k2 => by
      refine ⟨⟨_, wr, J, by rw [hlen]; omega, by rw [hlen]; omega, ?_⟩, ((b0.mono hBw).trans b1).trans b2, kept_trans (kept_trans (kept_bel (kept_refl b w) b0) k1) k2⟩
      rw [ho.out]
      unfold wT
      rw [if_pos (by omega), e, List.append_assoc]
      cases wr <;> rfl)
    have hli : ¬ (2048 : Int) < (s.size : Int) := by omega
    have I := hid I
    clear hlong hlen e
    go_enter Try.func64, Try.ntmps64
    go_upto_region 3 with fail
    go_region_held3 (fun Y => True) (exact trivial) (first
      | (go_at_call 69
         (with_reducible refine (hp.out _).mono ?_)
         rintro e w3 ⟨rfl, b3⟩
         have b03 := hid ((Below.refl w.heap.size w).drew.trans b3)
         have hc2 := hid (hcall.out wr w w3 I.out b03.out hBw)
         clear hp b3)
      | (go_at_call 66
         (with_reducible refine hc2.out.mono ?_)
         rintro e w4 ⟨rfl, J, b4, k4⟩
         have hc3 := hid (hcall2.out wr w4 J (by have := b4.size; have := b03.out.size; omega))
         have hq := hid (hfin.out w3 w4)
         replace b4 := hid b4
         replace k4 := hid k4
         clear hc2 J))
    clear hcall hcall2 hfin
    go_wp2_with fail
    refine hc3.out.mono ?_
    rintro e w5 ⟨rfl, J, b5, k5⟩
    have hz := hid (hq.out w5 b03.out b4.out k4.out J b5 k5)
    clear hq J b5 k5 hc3 b03 b4 k4
    go_wp2_with fail
    go_ret
    exact ⟨rfl, hz.out⟩
end Go.Proofs.Ytldlkoiekdlmhaa.Wi
