/-
  change.reader (take, number, text), change.textsOf: contracts; the lists that are read of any bytes.
-/
import Derived.Test.YtldlkoiekdlmhaaWireRead
namespace Go.Proofs.Ytldlkoiekdlmhaa.Wi
open Go.ChangeShapes Go.WideShapes Go.ChangeAt Go.RowKit
open Go.Proofs.Ytldlkoiekdlmhaa.Mem
open Go.Proofs.Ytldlkoiekdlmhaa.Crc hiding hid bt
set_option linter.unusedVariables false
set_option linter.unusedSimpArgs false
set_option maxRecDepth 100000
/-! ### what is read of any bytes -/
def lB (l : List UInt8) : Nat × List UInt8 := (match l with | [] => 0 | b :: _ => b.toNat, l.drop 1)
def lN (l : List UInt8) : Nat := if (l.take 4).length = 4 then num (l.take 4) else 0
def lT (l : List UInt8) : ByteArray × List UInt8 := (bs ((l.drop 4).take (lN l)), (l.drop 4).drop (lN l))
def lC (l : List UInt8) : Ch × List UInt8 :=
  (⟨(lB l).1, (lT (lB l).2).1, (lT (lT (lB l).2).2).1, (lT (lT (lT (lB l).2).2).2).1, (lT (lT (lT (lT (lB l).2).2).2).2).1⟩, (lT (lT (lT (lT (lB l).2).2).2).2).2)
def lCs : Nat → List UInt8 → List Ch
  | 0, _ => []
  | n + 1, l => (lC l).1 :: lCs n (lC l).2
def lL (l : List UInt8) : List Ch := lCs (lB l).1 (lB l).2
theorem lB_cons (n : Nat) (t : List UInt8) (h : n < 256) : lB (UInt8.ofNat n :: t) = (n, t) := by
  unfold lB
  simp only [List.drop_one, List.tail_cons, UInt8.toNat_ofNat']
  rw [Nat.mod_eq_of_lt (by omega)]
theorem lB_lt (l : List UInt8) : (lB l).1 < 256 := by
  unfold lB
  cases l with
  | nil => decide
  | cons b l => exact b.toNat_lt
theorem lT_txt (s : ByteArray) (t : List UInt8) (h : s.size ≤ 2048) : lT (txt s ++ t) = (s, t) := by
  have h1 : (txt s ++ t).take 4 = leb 4 s.size := by unfold txt; rw [List.append_assoc, List.take_left' (leb_len 4 _)]
  have h2 : (txt s ++ t).drop 4 = s.data.toList ++ t := by unfold txt; rw [List.append_assoc, List.drop_left' (leb_len 4 _)]
  have h3 : lN (txt s ++ t) = s.size := by unfold lN; rw [h1, if_pos (leb_len 4 _), num_leb4 _ (by omega)]
  unfold lT
  rw [h2, h3, List.take_left' (len_size s), List.drop_left' (len_size s), bs_of]
theorem lC_E (c : Ch) (t : List UInt8) (h : chS c) (hk : c.k < 256) : lC (chE c ++ t) = (c, t) := by
  obtain ⟨g1, g2, g3, g4⟩ := h
  unfold lC chE
  simp only [List.cons_append, List.append_assoc, lB_cons c.k _ hk, lT_txt _ _ g1, lT_txt _ _ g2, lT_txt _ _ g3, lT_txt _ _ g4]
theorem lCs_E (l : List Ch) (h : ∀ c ∈ l, chS c) (hk : ∀ c ∈ l, c.k < 256) : lCs l.length (l.flatMap chE) = l := by
  induction l with
  | nil => rfl
  | cons c l ih =>
    show (lC _).1 :: lCs _ (lC _).2 = _
    rw [List.flatMap_cons, lC_E c _ (h c (by simp)) (hk c (by simp))]
    show c :: lCs l.length (l.flatMap chE) = _
    rw [ih (fun x hx => h x (by simp [hx])) (fun x hx => hk x (by simp [hx]))]
theorem lL_E (l : List Ch) (h : packR l) : lL (packE l) = l := by
  have := h.1
  unfold lL packE
  rw [lB_cons _ _ (by omega)]
  exact lCs_E l h.2.2 (fun c hc => chR_k (h.2.1 c hc))
theorem lT_size (l : List UInt8) : (lT l).1.size ≤ l.length ∧ (lT l).2.length ≤ l.length := by
  unfold lT
  refine ⟨?_, ?_⟩
  · show (bs _).size ≤ _
    rw [bs_size, List.length_take, List.length_drop]; omega
  · show (List.drop _ _).length ≤ _
    rw [List.length_drop, List.length_drop]; omega
/-! ### contracts -/
def CR (w : World) (b : Nat) (l : List UInt8) : Prop := ∃ s : ByteArray, Blk w b [.string s] 133 ∧ s.size ≤ 16777216 ∧ s.data.toList = l
def CrP (w : World) (b : Nat) (l' : List UInt8) (w' : World) : Prop := CR w' b l' ∧ But w.heap.size b w w'
set_option maxHeartbeats 4000000 in
theorem ctake_any (b n : Nat) (l : List UInt8) (w : World) (h : CR w b l) (hn : n < 4294967296) :
    Calls Try.prog 89 #[.pointer (some ⟨b, 0, none⟩), .int .u32 (n : Nat)] w fun e w' => ∃ x : ByteArray, e = .returned (.string x) ∧ x.data.toList = l.take n ∧ CrP w b (l.drop n) w' := by
  obtain ⟨s, K, hs, rfl⟩ := h
  obtain ⟨m, hm⟩ : ∃ m, min n s.size = m := ⟨_, rfl⟩
  have hfin := hid (show ∀ (e : Ending) (w' : World), (e = .returned (.string (s.extract 0 m)) ∧ w' = w.setCell ⟨b, 0, none⟩ (.string (s.extract m s.size))) → ∃ x : ByteArray, e = .returned (.string x) ∧ x.data.toList = s.data.toList.take n ∧ CrP w b (s.data.toList.drop n) w' from by
    rintro e w' ⟨rfl, rfl⟩
    have hle : m ≤ s.size := by omega
    have hmn : s.data.toList.take m = s.data.toList.take n ∧ s.data.toList.drop m = s.data.toList.drop n := by
      by_cases hl : n ≤ s.size
      · obtain rfl : m = n := by omega
        exact ⟨rfl, rfl⟩
      · obtain rfl : m = s.size := by omega
        rw [List.take_of_length_le (by rw [len_size]; omega), List.take_of_length_le (by rw [len_size]; omega), List.drop_eq_nil_of_le (by rw [len_size]; omega), List.drop_eq_nil_of_le (by rw [len_size]; omega)]
        exact ⟨rfl, rfl⟩
    refine ⟨_, rfl, by rw [ext_take, hmn.1], ⟨_, K.set 0 _, ?_, by rw [ext_drop _ _ hle, hmn.2]⟩, But.of (Below.refl _ _) 0 _⟩
    rw [← len_size, ext_drop _ _ hle, List.length_drop, len_size]; omega)
  obtain ⟨k0, kf⟩ := K.one
  have hsi : (s.size : Int) ≤ 16777216 := by omega
  have hwr : IntKind.u32.wrap (s.size : Int) = s.size := IntWalk.u32_in _ (by omega)
  clear K
  have hle : m = n ∧ n ≤ s.size ∨ m = s.size ∧ s.size < n := by omega
  clear hm
  rcases hle with ⟨rfl, hle⟩ | ⟨rfl, hle⟩
  · have hmi : min (m : Int) (s.size : Int) = (m : Int) := by omega
    go_enter Try.func89, Try.ntmps89
    go_wp2_with fail
    go_ret
    exact hfin.out _ _ ⟨rfl, rfl⟩
  · have hmi : min (n : Int) (s.size : Int) = (s.size : Int) := by omega
    have e1 : s.extract s.size s.size = ByteArray.empty := by
      have : (s.extract s.size s.size).data = #[] := by simp
      exact ByteArray.ext this
    have e0 : s.extract 0 s.size = s := by
      apply ByteArray.ext; simp
    rw [e1, e0] at hfin
    clear e0 e1
    go_enter Try.func89, Try.ntmps89
    go_wp2_with fail
    go_ret
    exact hfin.out _ _ ⟨rfl, rfl⟩
set_option maxHeartbeats 4000000 in
theorem textsOf_any (b : Nat) (w : World) :
    Calls Try.prog 71 #[.pointer (some ⟨b, 0, none⟩)] w fun e w' => e = .returned (.agg #[.pointer (some ⟨b, 1, none⟩), .pointer (some ⟨b, 2, none⟩), .pointer (some ⟨b, 3, none⟩), .pointer (some ⟨b, 4, none⟩)]) ∧ Below w.heap.size w w' := by
  go_enter Try.func71, Try.ntmps71
  go_wp2_with fail
  go_region
  all_goals (go_wp2_with fail; go_returns; exact ⟨rfl, by go_grown⟩)
set_option maxHeartbeats 4000000 in
theorem cnumber_any (b : Nat) (l : List UInt8) (w : World) (h : CR w b l) :
    Calls Try.prog 87 #[.pointer (some ⟨b, 0, none⟩)] w fun e w' => e = .returned (.int .u8 ((lB l).1 : Nat)) ∧ CrP w b (lB l).2 w' := by
  have hc := hid (ctake_any b 1 l w h (by decide))
  clear h
  go_enter Try.func87, Try.ntmps87
  go_wp2_with fail
  refine hc.out.mono ?_
  rintro e w1 ⟨x, rfl, hx, hR⟩
  clear hc
  replace hR := hid hR
  cases l with
  | nil =>
    obtain rfl : x = ⟨#[]⟩ := by
      have : x.data = #[] := by simpa using hx
      cases x; simp_all
    clear hx
    go_wp2_with fail
    go_ret
    exact ⟨rfl, hR.out⟩
  | cons c l =>
    have hx' : x.data.toList = [c] := by simpa using hx
    obtain rfl : x = ⟨#[c]⟩ := by
      have : x.data = #[c] := by rw [← Array.toList_inj]; exact hx'
      cases x; simp_all
    have h0 : (ByteArray.mk #[c]).toList.isEmpty = false := by rw [ByteArray.toList_eq]; rfl
    clear hx hx'
    go_wp2_with fail
    all_goals first | (exfalso; rename_i hz; rw [ByteArray.toList_eq, List.isEmpty_iff] at hz; cases hz) | (go_ret; exact ⟨rfl, hR.out⟩)
set_option maxHeartbeats 4000000 in
theorem ctext_any (b : Nat) (l : List UInt8) (w : World) (h : CR w b l) :
    Calls Try.prog 88 #[.pointer (some ⟨b, 0, none⟩)] w fun e w' => e = .returned (.string (lT l).1) ∧ CrP w b (lT l).2 w' := by
  have hc := hid (ctake_any b 4 l w h (by decide))
  clear h
  go_enter Try.func88, Try.ntmps88
  go_wp2_with fail
  refine hc.out.mono ?_
  rintro e w1 ⟨x, rfl, hx, hR, hBut⟩
  have hlt := num_lt x.data.toList
  have hfin := hid (show ∀ n, n = lN l → n < 4294967296 → Calls Try.prog 89 #[.pointer (some ⟨b, 0, none⟩), .int .u32 (n : Nat)] w1 fun e w' => ∃ y : ByteArray, e = .returned (.string y) ∧ y = (lT l).1 ∧ CrP w b (lT l).2 w' from by
    intro n hn hn2
    subst hn
    refine (ctake_any b _ _ w1 hR hn2).mono ?_
    rintro e w2 ⟨y, rfl, hy, hR2, hB2⟩
    refine ⟨y, rfl, ?_, hR2, But.trans hBut hB2 rfl⟩
    show y = bs _
    rw [← hy, bs_of])
  by_cases h4 : x.size = 4
  · have hn : num x.data.toList = lN l := by
      unfold lN
      rw [← hx, if_pos (by rw [len_size]; exact h4)]
    rw [len_size, h4] at hlt
    have hq := hid (hfin.out _ hn (by omega))
    clear hc hR hBut hfin hn hlt hx
    go_wp2_with fail
    refine (get32_yes x _ h4).mono ?_
    rintro e w2 ⟨rfl, rfl⟩
    go_wp2_with fail
    refine hq.out.mono ?_
    rintro e w3 ⟨y, rfl, rfl, hC⟩
    replace hC := hid hC
    clear hq
    go_wp2_with fail
    go_ret
    exact ⟨rfl, hC.out⟩
  · have hn : 0 = lN l := by
      unfold lN
      rw [← hx, if_neg (by rw [len_size]; exact h4)]
    have hq := hid (hfin.out _ hn (by decide))
    clear hc hR hBut hfin hn hlt hx
    go_wp2_with fail
    refine (get32_no x _ h4).mono ?_
    rintro e w2 ⟨rfl, rfl⟩
    go_wp2_with fail
    refine hq.out.mono ?_
    rintro e w3 ⟨y, rfl, rfl, hC⟩
    replace hC := hid hC
    clear hq
    go_wp2_with fail
    go_ret
    exact ⟨rfl, hC.out⟩
end Go.Proofs.Ytldlkoiekdlmhaa.Wi
