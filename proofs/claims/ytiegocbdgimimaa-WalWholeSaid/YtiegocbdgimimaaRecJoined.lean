/-
  The contract of record's joined.
-/
import Derived.Test.YtiegocbdgimimaaRecHd
namespace Go.Proofs.Ytiegocbdgimimaa.Rec
open Go.ChangeShapes Go.WideShapes Go.ChangeAt Go.RowKit
open Go.Proofs.Ytiegocbdgimimaa.Mem Go.Proofs.Ytiegocbdgimimaa.CrcMath
set_option linter.unusedVariables false
set_option maxRecDepth 100000

def bodies (l : List ByteArray) : By := (l.map fun s => s.data.toList.drop 3).flatten
def all64 (l : List ByteArray) : Bool := l.all fun s => decide (s.size = 64)
def joinedE (l : List ByteArray) (n : Nat) : By × Int := if l.length = pcs n ∧ all64 l = true then ((bodies l).take n, 0) else ([], 14)
theorem pcsE_nat (n : Nat) (h : n ≤ 16384) : pcsE (n : Int) = (((pcs n : Nat) : Int), 0) := by
  unfold pcsE pcs
  rw [if_neg (by omega)]
  congr 1
theorem bodies_snoc (l : List ByteArray) (s : ByteArray) : bodies (l ++ [s]) = bodies l ++ s.data.toList.drop 3 := by simp [bodies]
theorem bodies_len (l : List ByteArray) (h : all64 l = true) : (bodies l).length = 61 * l.length := by
  induction l with
  | nil => rfl
  | cons s l ih =>
    simp only [all64, List.all_cons, Bool.and_eq_true, decide_eq_true_eq] at h
    have := ih h.2
    have hs : s.data.toList.length = 64 := h.1
    simp only [bodies, List.map_cons, List.flatten_cons, List.length_append, List.length_drop, hs] at this ⊢
    rw [show (List.map (fun s => List.drop 3 s.data.toList) l).flatten.length = 61 * l.length from this]
    simp; omega
theorem drop3 (s : ByteArray) (h : s.size = 64) : s.extract 3 s.size = bs (s.data.toList.drop 3) := by
  rw [extract_bs]
  congr 1
  exact List.take_of_length_le (by rw [List.length_drop]; exact Nat.le_refl _)
def JoinedTold (w : World) (r : By × Int) (e : Ending) (w' : World) : Prop := e = .returned (.tuple #[.string (bs r.1), .int .i64 r.2]) ∧ Below w.heap.size w w'
set_option maxHeartbeats 2000000 in
theorem joined_any (l : List ByteArray) (v : Value) (n : Nat) (w : World) (h : StrsV w v l) (hn : n ≤ 16384) :
    Calls Try.prog 104 #[v, .int .i64 n] w (JoinedTold w (joinedE l n)) := by
  have hpe := hid (pcsE_nat n hn)
  obtain ⟨so, scap, rfl, hs2, hs3⟩ := h.form
  have hl := h.len
  have h' := hid h
  unfold maxLen at hs3 hl
  clear h
  by_cases hlen : l.length = pcs n
  · have h1 : ((l.length : Int) != (pcs n : Int)) = false := by rw [hlen]; simp
    have hlen' := hid hlen
    have hpn : pcs n ≤ 269 := by unfold pcs; omega
    have hpn' := hid hpn
    have hpn2 := hid (show n ≤ 61 * pcs n by unfold pcs; omega)
    clear hlen hpn
    go_enter Try.func104, Try.ntmps104
    go_wp2_with fail
    refine (pieces_any n _).mono ?_
    rw [hpe.out]
    rintro e w1 ⟨rfl, rfl⟩
    go_wp2_with fail
    go_loopw [26] (fun i wr => ∃ k : Nat, k ≤ l.length ∧ i = .int .i64 k ∧ Hid (Bld w.heap.size w.heap.size (bodies (l.take k)) wr) ∧ Hid (all64 (l.take k) = true) ∧ Hid (Below w.heap.size w wr)) (fun i _ => l.length - (intOf i).toNat)
    case atStart =>
      exact ⟨0, by omega, rfl, hid (bld_new _ _ _ (Nat.le_refl _) (by show (w.heap.push _)[w.heap.size]? = _; simp)), hid rfl, hid (by go_grown)⟩
    case round =>
      obtain ⟨k, hk, rfl, hbl, hall, hbr⟩ := hrel
      by_cases hlt : k < l.length
      · obtain ⟨b, off, cap', hv, _, _, hb, hc⟩ := h'.out.open (by omega)
        simp only [Value.slice.injEq] at hv
        obtain ⟨rfl, _, rfl⟩ := hv
        have x0 := (hbr.out.cell (p := ⟨b, off + k, none⟩) hb).trans (hc k hlt)
        have hkl : (k : Int) < (l.length : Int) := by omega
        have hk0 : (0 : Int) ≤ (k : Int) := by omega
        clear hc
        obtain ⟨s, hs⟩ : ∃ s, l[k] = s := ⟨_, rfl⟩
        rw [hs] at x0
        have hts := hid (List.take_succ_eq_append_getElem hlt)
        by_cases h64 : s.size = 64
        · have g1 : ((s.size : Int) != 64) = false := by rw [h64]; rfl
          have g3 : (3 : Int) ≤ (s.size : Int) := by omega
          have hd := hid (drop3 s h64)
          have hbn : Hid (bodies (l.take (k + 1)) = bodies (l.take k) ++ s.data.toList.drop 3) := hid (by rw [hts.out, hs, bodies_snoc])
          have han : Hid (all64 (l.take (k + 1)) = true) := hid (by rw [hts.out, hs, all64, List.all_append]; simp [h64]; have := hall.out; simpa [all64] using this)
          have hbl2 : Hid ((bodies (l.take k)).length ≤ 16500) := hid (by
            rw [bodies_len _ hall.out, List.length_take]; have := hpn'.out; have := hlen'.out; omega)
          have hsz : Hid ((bs (s.data.toList.drop 3)).size ≤ 64) := hid (by rw [bs_size, List.length_drop]; have : s.data.toList.length = 64 := h64; omega)
          clear hs h64 hts
          go_wp2_with fail
          rw [hd.out]
          refine (bld_write w.heap.size w.heap.size _ _ _ hbl.out (by have := hbl2.out; have := hsz.out; omega) hbr.out.size).mono ?_
          rw [bs_list]
          rintro e w2 ⟨rfl, hb2, hw2⟩
          have hb3 := hid hb2
          have hw3 := hid (hbr.out.trans hw2)
          clear hb2 hw2
          go_wp2_with fail
          go_roundw
          case rel => exact ⟨k + 1, by omega, by go_num, by rw [hbn.out]; exact hb3, han, hw3⟩
          case measure => simp [intOf]; omega
        · have g1 : ((s.size : Int) != 64) = true := by rw [bne_iff_ne]; omega
          have hf : Hid (joinedE l n = ([], 14)) := hid (by
            unfold joinedE
            rw [if_neg]
            rintro ⟨_, ha⟩
            simp only [all64, List.all_eq_true, decide_eq_true_eq] at ha
            exact h64 (hs ▸ ha _ (List.getElem_mem hlt)))
          clear hs h64 hts
          go_wp2_with fail
          go_ret2
          exact ⟨by rw [hf.out]; rfl, hbr.out⟩
      · obtain rfl : k = l.length := by omega
        rw [List.take_length] at hbl hall
        have hf : Hid (joinedE l n = ((bodies l).take n, 0)) := hid (by unfold joinedE; rw [if_pos ⟨hlen'.out, hall.out⟩])
        have hbl2 := bodies_len l hall.out
        have hbl3 : n ≤ (bodies l).length := by rw [hbl2, hlen'.out]; exact hpn2.out
        have g1 : (n : Int) ≤ ((bs (bodies l)).size : Int) := by rw [bs_size]; omega
        have hx : Hid ((bs (bodies l)).extract 0 n = bs ((bodies l).take n)) := hid (by rw [extract_bs, bs_list]; simp)
        have g0 : (0 : Int) ≤ (n : Int) := by omega
        clear hbl2 hbl3
        go_wp2_with fail
        refine (bld_string w.heap.size w.heap.size _ _ hbl.out hbr.out.size).mono ?_
        rintro e w2 ⟨rfl, hw2⟩
        have hw3 := hid (hbr.out.trans hw2)
        clear hw2
        go_wp2_with fail
        go_ret2
        exact ⟨by rw [hf.out, ← hx.out]; rfl, hw3.out⟩
  · have h1 : ((l.length : Int) != (pcs n : Int)) = true := by rw [bne_iff_ne]; omega
    have hf : Hid (joinedE l n = ([], 14)) := hid (by unfold joinedE; rw [if_neg (fun h => hlen h.1)])
    clear hlen
    go_enter Try.func104, Try.ntmps104
    go_wp2_with fail
    refine (pieces_any n _).mono ?_
    rw [hpe.out]
    rintro e w1 ⟨rfl, rfl⟩
    go_wp2_with fail
    go_ret2
    exact ⟨by rw [hf.out]; rfl, Below.refl _ _⟩
end Go.Proofs.Ytiegocbdgimimaa.Rec
