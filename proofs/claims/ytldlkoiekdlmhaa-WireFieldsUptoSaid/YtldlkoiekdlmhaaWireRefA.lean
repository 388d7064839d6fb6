/-
  wire's calls: contracts. Written by wip/wiretopgen.py.
-/
import Derived.Test.YtldlkoiekdlmhaaPkWireSame
import Derived.Deep.Cut
import Derived.Deep.CutRange
import Derived.OwnWalk
import Derived.BigQuiet
namespace Go.Proofs.Ytldlkoiekdlmhaa.Wi
open Go.ChangeShapes Go.WideShapes Go.ChangeAt Go.RowKit
open Go.Proofs.Ytldlkoiekdlmhaa.Mem
open Go.Proofs.Ytldlkoiekdlmhaa.Lik (Kept)
open Go.Proofs.Ytldlkoiekdlmhaa.Crc hiding hid bt
set_option linter.unusedVariables false
set_option linter.unusedSimpArgs false
set_option maxRecDepth 100000
theorem mid_list (s : ByteArray) (a n : Nat) : (s.extract a (a + n)).data.toList = (s.data.toList.drop a).take n := by
  simp [List.extract_eq_take_drop]
def bOne (c : Nat) : ByteArray := ⟨#[UInt8.ofNat c]⟩
theorem convOne (w : World) (g c : Nat) (h : Blk w g [.int .u8 (c : Nat)] 5) : (convert 49 9 (.slice (some ⟨g, 0, none⟩) 1 1)).run Try.prog w = .ok (.string (bOne c)) w := by
  rw [run_convert_bytes_arg w 49 5 Try.underlying49 Try.underlying5 g 0 1 1 [(c : Int)] rfl ?_ 9 Try.underlying9]
  · simp [strOfNums, bOne]
  · intro i hi
    obtain rfl : i = 0 := by omega
    simpa using h.cell 0 (by simp)
theorem app_bytes (a b : ByteArray) : (a ++ b).data.toList = a.data.toList ++ b.data.toList := by simp
theorem app_bs (a b : List UInt8) : bs a ++ bs b = bs (a ++ b) := by rw [← bs_of (bs a ++ bs b), app_bytes, bs_list, bs_list]
set_option maxHeartbeats 4000000 in
theorem text_ref (s : ByteArray) (w : World) (hs : s.size ≤ 16777216) : Calls Try.prog 23 #[.string s] w fun e w' => e = .returned (.string (bs (txt s))) ∧ Below w.heap.size w w' := by
  have hi : (s.size : Int) ≤ 16777216 := by omega
  go_enter Try.func23, Try.ntmps23
  go_wp2_with fail
  refine (refput32_any s.size _ (by omega)).mono ?_
  rintro e w1' ⟨rfl, b1⟩
  have e : (⟨(leb 4 s.size).toArray⟩ : ByteArray) ++ s = bs (txt s) := by
    unfold txt
    rw [← app_bs, bs_of]; rfl
  have hz : (⟨(leb 4 s.size).toArray⟩ : ByteArray).size = 4 := by rw [show (⟨(leb 4 s.size).toArray⟩ : ByteArray) = bs (leb 4 s.size) from rfl, bs_size, leb_len]
  replace e := hid e
  generalize (⟨(leb 4 s.size).toArray⟩ : ByteArray) = x at e hz
  have hsum : ¬ 9223372036854775807 < x.size + s.size := by omega
  go_wp2_with fail
  go_ret
  exact ⟨by rw [← e.out]; rfl, b1⟩
theorem below_drw {B : Nat} {w w1 : World} (h : Below B w w1) (n : Nat) : Below B w (w1.drewN n) := ⟨h.os, h.tape, h.output, h.size, h.block⟩
def TkP (s x r : ByteArray) (ok : Bool) : Prop := ok = true ∧ pT s.data.toList = some (x, r.data.toList) ∨ ok = false ∧ x = ⟨#[]⟩ ∧ r = ⟨#[]⟩ ∧ pT s.data.toList = none
set_option maxHeartbeats 4000000 in
theorem taken_ref (s : ByteArray) (w : World) (hs : s.size ≤ 16777216) : Calls Try.prog 27 #[.string s] w fun e w' => (∃ x r ok, e = .returned (.tuple #[.string x, .string r, .bool ok]) ∧ TkP s x r ok) ∧ Below w.heap.size w w' := by
  have hi : (s.size : Int) ≤ 16777216 := by omega
  by_cases h4 : s.size < 4
  · have hi4 : (s.size : Int) < 4 := by omega
    have hfin := hid (show TkP s ⟨#[]⟩ ⟨#[]⟩ false from .inr ⟨rfl, rfl, rfl, by unfold pT; rw [if_neg (by rw [len_size]; omega)]⟩)
    go_enter Try.func27, Try.ntmps27
    go_wp2_with fail
    go_ret3
    exact ⟨⟨_, _, _, rfl, hfin.out⟩, Below.refl _ _⟩
  · have hi4 : ¬ (s.size : Int) < 4 := by omega
    have hx4 : (s.extract 0 4).size = 4 := by rw [← len_size, ext_take, List.length_take, len_size]; omega
    obtain ⟨n, hn⟩ : ∃ n, num (s.data.toList.take 4) = n := ⟨_, rfl⟩
    have hn4 : n < 4294967296 := by
      have := num_lt (s.data.toList.take 4)
      rw [hn, List.length_take, len_size, show min 4 s.size = 4 by omega] at this
      omega
    have hc := hid (refget32_yes (s.extract 0 4) w hx4)
    rw [ext_take, hn] at hc
    have hp := hid (show pT s.data.toList = if n ≤ 2048 ∧ n ≤ (s.data.toList.drop 4).length then some (bs ((s.data.toList.drop 4).take n), (s.data.toList.drop 4).drop n) else none by unfold pT; rw [if_pos (by rw [len_size]; omega), hn])
    clear hn
    have hle4 : (4 : Int) ≤ (s.size : Int) := by omega
    go_enter Try.func27, Try.ntmps27
    go_wp2_with fail
    refine hc.out.mono ?_
    rintro e w1' ⟨rfl, rfl⟩
    clear hc
    by_cases hg : n ≤ 2048 ∧ n + 4 ≤ s.size
    · have h1 : ¬ (2048 : Int) < (n : Int) := by omega
      have h2 : ¬ (s.size : Int) - 4 < (n : Int) := by omega
      have h3 : 4 + (n : Int) ≤ (s.size : Int) := by omega
      have h5 : (4 : Int) ≤ 4 + (n : Int) := by omega
      have hfin := hid (show TkP s (s.extract 4 (4 + n)) (s.extract (4 + n) s.size) true from .inl ⟨rfl, by
        rw [hp.out, if_pos ⟨hg.1, by rw [List.length_drop, len_size]; omega⟩, ext_drop _ _ (by omega), ← mid_list, bs_of, List.drop_drop]⟩)
      clear hp
      go_wp2_with fail
      go_quiet (fail)
      rename_i nq
      go_wp2_with fail
      go_ret3
      exact ⟨⟨_, _, _, rfl, hfin.out⟩, below_drw (Below.refl _ _) nq⟩
    · have hfin := hid (show TkP s ⟨#[]⟩ ⟨#[]⟩ false from .inr ⟨rfl, rfl, rfl, by rw [hp.out, if_neg (by rw [List.length_drop, len_size]; omega)]⟩)
      clear hp
      by_cases h1 : (2048 : Int) < (n : Int)
      · go_wp2_with fail
        go_ret3
        exact ⟨⟨_, _, _, rfl, hfin.out⟩, Below.refl _ _⟩
      · have h2 : (s.size : Int) - 4 < (n : Int) := by omega
        go_wp2_with fail
        go_ret3
        exact ⟨⟨_, _, _, rfl, hfin.out⟩, Below.refl _ _⟩
def NmP (s : ByteArray) (n : Nat) (r : ByteArray) (ok : Bool) : Prop := n < 18446744073709551616 ∧ (ok = true ∧ pN s.data.toList = some (n, r.data.toList) ∨ ok = false ∧ n = 0 ∧ r = ⟨#[]⟩ ∧ pN s.data.toList = none)
set_option maxHeartbeats 4000000 in
theorem number_ref (s : ByteArray) (w : World) (hs : s.size ≤ 16777216) : Calls Try.prog 25 #[.string s] w fun e w' => (∃ (n : Nat) (r : ByteArray) (ok : Bool), e = .returned (.tuple #[.int .u64 (n : Nat), .string r, .bool ok]) ∧ NmP s n r ok) ∧ Below w.heap.size w w' := by
  have hi : (s.size : Int) ≤ 16777216 := by omega
  by_cases h8 : s.size < 8
  · have hi8 : (s.size : Int) < 8 := by omega
    have hfin := hid (show NmP s 0 ⟨#[]⟩ false from ⟨by decide, .inr ⟨rfl, rfl, rfl, by unfold pN; rw [if_neg (by rw [len_size]; omega)]⟩⟩)
    go_enter Try.func25, Try.ntmps25
    go_wp2_with fail
    go_ret3
    exact ⟨⟨0, _, _, rfl, hfin.out⟩, Below.refl _ _⟩
  · have hi8 : ¬ (s.size : Int) < 8 := by omega
    have hle8 : (8 : Int) ≤ (s.size : Int) := by omega
    have hx8 : (s.extract 0 8).size = 8 := by rw [← len_size, ext_take, List.length_take, len_size]; omega
    obtain ⟨n, hn⟩ : ∃ n, num (s.data.toList.take 8) = n := ⟨_, rfl⟩
    have hn8 : n < 18446744073709551616 := by
      have := num_lt (s.data.toList.take 8)
      rw [hn, List.length_take, len_size, show min 8 s.size = 8 by omega] at this
      omega
    have hc := hid (refget64_yes (s.extract 0 8) w hx8)
    rw [ext_take, hn] at hc
    have hfin := hid (show NmP s n (s.extract 8 s.size) true from ⟨hn8, .inl ⟨rfl, by unfold pN; rw [if_pos (by rw [len_size]; omega), hn, ext_drop _ _ (by omega)]⟩⟩)
    clear hn
    go_enter Try.func25, Try.ntmps25
    go_wp2_with fail
    refine hc.out.mono ?_
    rintro e w1' ⟨rfl, rfl⟩
    clear hc
    go_wp2_with fail
    go_quiet (fail)
    rename_i nq
    go_wp2_with fail
    go_ret3
    exact ⟨⟨_, _, _, rfl, hfin.out⟩, below_drw (Below.refl _ _) nq⟩
/-- what texts answers -/
def TxP (l : List ByteArray) (t : ByteArray) (ok : Bool) : Prop := ok = true ∧ lR l ∧ t = bs (lE l) ∨ ok = false ∧ ¬ lR l ∧ t = ⟨#[]⟩
def TxA (l : List ByteArray) (e : Ending) : Prop := ∃ t ok, e = .returned (.tuple #[.string t, .bool ok]) ∧ TxP l t ok
def lEj (n : Nat) (l : List ByteArray) (j : Nat) : List UInt8 := UInt8.ofNat n :: (l.take j).flatMap txt
theorem lEj_snoc (n : Nat) (l : List ByteArray) (j : Nat) (h : j < l.length) : lEj n l (j + 1) = lEj n l j ++ txt l[j] := by
  unfold lEj
  rw [List.take_succ_eq_append_getElem h, List.flatMap_append, List.cons_append]
  simp
theorem lEj_len (n : Nat) (l : List ByteArray) (j : Nat) : (lEj n l j).length = 1 + tot (l.take j) := by
  unfold lEj tot
  rw [List.length_cons, List.length_flatMap]
  simp only [txt_len]; omega
set_option maxHeartbeats 8000000 in
theorem texts_ref (l : List ByteArray) (v : Value) (w : World) (hV : StrsV w v l) (hlen : l.length ≤ 1048576) (hm : tot l ≤ 90000000) : Calls Try.prog 29 #[v] w fun e w' => TxA l e ∧ Below w.heap.size w w' := by
  obtain ⟨ao, cp, rfl, _, _⟩ := hV.form
  obtain ⟨N, hN⟩ : ∃ N, l.length = N := ⟨_, rfl⟩
  have hNi : (N : Int) ≤ 1048576 := by omega
  have hN' := hid hN
  have hVa := hid (show ∀ W, Below w.heap.size w W → StrsV W (.slice ao N cp) l from fun W hW => by
    have := hV.below hW
    rw [hN] at this; exact this)
  rw [hN] at hlen ⊢
  clear hV hN
  by_cases h255 : N ≤ 255
  case neg =>
    have hi : (255 : Int) < (N : Int) := by omega
    have hfin := hid (show TxP l ⟨#[]⟩ false from .inr ⟨rfl, fun h => by have := h.1; have := hN'.out; omega, rfl⟩)
    clear hVa
    go_enter Try.func29, Try.ntmps29
    go_wp2_with fail
    go_ret2
    exact ⟨⟨_, _, rfl, hfin.out⟩, Below.refl _ _⟩
  have hi : ¬ (255 : Int) < (N : Int) := by omega
  have hi2 : (N : Int) ≤ 255 := by omega
  have hm' := hid hm
  clear hm
  go_enter Try.func29, Try.ntmps29
  go_wp2_with fail
  rw [convOne _ _ _ (Blk.new w [.int .u8 (N : Nat)] 5)]
  have b0 := hid ((Below.refl w.heap.size w).alloc (Nat.le_refl _) (.cells #[.int .u8 (N : Nat)] 5))
  have e0 := hid (show bOne N = bs (lEj N l 0) from rfl)
  generalize w.alloc (.cells #[.int .u8 (N : Nat)] 5) = X at b0 ⊢
  go_wp2_with fail
  go_loopw [4, 17] (fun v i wr => ∃ j : Nat, j ≤ N ∧ i = .int .i64 j ∧ v = .string (bs (lEj N l j)) ∧ Hid (∀ s ∈ l.take j, s.size ≤ 2048) ∧ Hid (Below w.heap.size w wr)) (fun _ i _ => N - (intOf i).toNat)
  case atStart => exact ⟨0, by omega, rfl, by rw [e0.out], hid (by simp), b0⟩
  case round =>
    clear b0 e0
    obtain ⟨j, hj, rfl, rfl, hs, b0⟩ := hrel
    by_cases hjn : j < N
    · have hji : (j : Int) < (N : Int) := by omega
      have hjl : j < l.length := by rw [hN'.out]; exact hjn
      obtain ⟨b', off, cap', e, -, -, -, hcl⟩ := StrsV.open (hVa.out wr b0.out) (by omega)
      simp only [Value.slice.injEq] at e
      obtain ⟨rfl, -, -⟩ := e
      have hx := hcl j hjl
      have htk := hid (tot_take l j hjl)
      have htl := hid (tot_le l (j + 1))
      have hsn := hid (lEj_snoc N l j hjl)
      have hjlen := hid (lEj_len N l j)
      have htk2 := hid (show l.take (j + 1) = l.take j ++ [l[j]] from List.take_succ_eq_append_getElem hjl)
      have hmem := hid (show l[j] ∈ l from List.getElem_mem hjl)
      generalize l[j] = s at hx htk hsn htk2 hmem
      clear hcl
      have hsz : s.size ≤ 16777216 ∨ ¬ s.size ≤ 16777216 := by omega
      have hsm : s.size ≤ 90000000 := by have := htk.out; have := htl.out; have := hm'.out; omega
      by_cases h2 : s.size ≤ 2048
      · have hi3 : ¬ (2048 : Int) < (s.size : Int) := by omega
        have hst := hid (show (bs (lEj N l j)).size ≤ 90000001 by rw [bs_size, hjlen.out]; have := tot_le l j; have := hm'.out; omega)
        have htx := hid (bs_size (txt s))
        rw [txt_len] at htx
        have hnew := hid (show bs (lEj N l j) ++ bs (txt s) = bs (lEj N l (j + 1)) by rw [app_bs, hsn.out])
        go_wp2_with fail
        refine (text_ref s wr (by omega)).mono ?_
        rintro e w3 ⟨rfl, q3⟩
        replace b0 := hid (b0.out.trans (q3.mono b0.out.size))
        have hsum : ¬ 9223372036854775807 < (bs (lEj N l j)).size + (bs (txt s)).size := by have := hst.out; have := htx.out; omega
        clear q3
        generalize hA : bs (lEj N l j) = A at hsum hnew
        generalize hB : bs (txt s) = B at hsum hnew
        go_wp2_with fail
        go_roundw
        case rel => exact ⟨j + 1, by omega, by go_num, by rw [hnew.out], hid (by
          rw [htk2.out]
          intro x hx
          rcases List.mem_append.1 hx with hx | hx
          · exact hs.out x hx
          · rw [List.mem_singleton.1 hx]; exact h2), b0⟩
        case measure => simp [intOf]; omega
      · have hi3 : (2048 : Int) < (s.size : Int) := by omega
        have hfin := hid (show TxP l ⟨#[]⟩ false from .inr ⟨rfl, fun h => h2 (h.2 _ hmem.out), rfl⟩)
        go_wp2_with fail
        go_ret2
        exact ⟨⟨_, _, rfl, hfin.out⟩, b0.out⟩
    · obtain rfl : j = N := by omega
      have hji : ¬ (j : Int) < (j : Int) := by omega
      have hall : l.take j = l := List.take_of_length_le (by rw [hN'.out]; exact Nat.le_refl _)
      have hfin := hid (show TxP l (bs (lEj j l j)) true from .inl ⟨rfl, ⟨by rw [hN'.out]; exact h255, by rw [← hall]; exact hs.out⟩, by unfold lEj lE; rw [hall, hN'.out]⟩)
      clear hs hVa
      go_wp2_with fail
      go_ret2
      exact ⟨⟨_, _, rfl, hfin.out⟩, b0.out⟩
end Go.Proofs.Ytldlkoiekdlmhaa.Wi
