/-
  lictorref07.Quote, lictorref08.quotable, label: contracts.
-/
import Derived.Test.YtbcjppbiihgfpaaGreatDoorExCalls
import Derived.Test.YtbcjppbiihgfpaaGreatDoorTokRefQ
namespace Go.Proofs.YtbcjppbiihgfpaaGreatDoor.Ex
open Go.ChangeShapes Go.WideShapes Go.ChangeAt Go.RowKit
open Go.Proofs.YtbcjppbiihgfpaaGreatDoor.Mem Go.Proofs.YtbcjppbiihgfpaaGreatDoor.Lik
set_option linter.unusedVariables false
set_option linter.unusedSimpArgs false
set_option maxRecDepth 100000
set_option maxHeartbeats 4000000 in
theorem rquote_any (s : ByteArray) (w : World) (hs : s.size ≤ 140737488355328) :
    Calls Tryz.prog 186 #[.string s] w fun e w' => e = .returned (.tuple #[.string (bs (if Tok.checkE s = 0 then Tok.quoteL s.data.toList else [])), .int .i64 (Tok.checkE s)]) ∧ Below w.heap.size w w' := by
  have hu := hid (Nam.utf_any s w hs)
  have hsi : (s.size : Int) ≤ 140737488355328 := by omega
  have he : Hid (Tok.checkE s = if Nam.utfB s = true then (if 256 < s.size then 3 else 0) else 6) := hid rfl
  have hqt := hid (fun (h : s.size ≤ 256) W => Tok.quoted_any s W (by omega))
  have hsz := hid hs
  clear hs
  generalize Tok.checkE s = c at *
  cases hb : Nam.utfB s with
  | true =>
    rw [hb] at hu he
    clear hb
    by_cases h2 : 256 < s.size
    · have h2i : (256 : Int) < s.size := by omega
      have hc : c = 3 := by have := he.out; rw [if_pos rfl, if_pos h2] at this; exact this
      subst hc
      clear h2 he hqt
      go_enter Tryz.func186, Tryz.ntmps186
      go_wp2_with fail
      refine hu.out.mono ?_
      rintro e w' ⟨rfl, hb2⟩
      have hb2 := hid hb2
      clear hu
      go_wp2_with fail
      go_ret2
      exact ⟨rfl, hb2.out⟩
    · have h2i : (s.size : Int) ≤ 256 := by omega
      have hc : c = 0 := by have := he.out; rw [if_pos rfl, if_neg h2] at this; exact this
      subst hc
      have hqt := hid (hqt.out (by omega))
      clear h2 he
      rw [if_pos rfl]
      go_enter Tryz.func186, Tryz.ntmps186
      go_wp2_with fail
      refine hu.out.mono ?_
      rintro e w' ⟨rfl, hb2⟩
      have hb2 := hid hb2
      clear hu
      go_wp2_with fail
      refine (hqt.out _).mono ?_
      rintro e w2 ⟨rfl, hb3⟩
      have hb3 := hid (bt hb2.out hb3)
      go_wp2_with fail
      go_ret2
      exact ⟨rfl, hb3.out⟩
  | false =>
    rw [hb] at hu he
    have hc : c = 6 := by have := he.out; rw [if_neg (by simp)] at this; exact this
    subst hc
    clear hb he hqt
    go_enter Tryz.func186, Tryz.ntmps186
    go_wp2_with fail
    refine hu.out.mono ?_
    rintro e w' ⟨rfl, hb2⟩
    have hb2 := hid hb2
    clear hu
    go_wp2_with fail
    go_ret2
    exact ⟨rfl, hb2.out⟩
set_option maxHeartbeats 4000000 in
theorem quotable_any (s : ByteArray) (w : World) (hs : s.size ≤ 140737488355328) :
    Calls Tryz.prog 125 #[.string s] w fun e w' => e = .returned (.bool (txB s)) ∧ Below w.heap.size w w' := by
  have hq := hid (rquote_any s w hs)
  have hR := hid (check_tx s).symm
  generalize (if Tok.checkE s = 0 then Tok.quoteL s.data.toList else []) = q at hq
  generalize txB s = R at *
  generalize Tok.checkE s = c at *
  clear hs
  go_enter Tryz.func125, Tryz.ntmps125
  go_wp2_with fail
  refine hq.out.mono ?_
  rintro e w1 ⟨rfl, b1⟩
  have b1 := hid b1
  clear hq
  go_wp2_with fail
  go_ret
  exact ⟨by rw [hR.out]; rfl, b1.out⟩
set_option maxHeartbeats 4000000 in
theorem label_any (s : ByteArray) (w : World) (hs : s.size ≤ 140737488355328) :
    Calls Tryz.prog 126 #[.string s] w fun e w' => e = .returned (.bool (nmB s)) ∧ Below w.heap.size w w' := by
  have hq := hid (quotable_any s w hs)
  have hR := hid (show nmB s = (!decide (s.size = 0) && (decide (s.size ≤ 64) && txB s)) from rfl)
  have h0 := size_beq s
  have hsi : (s.size : Int) ≤ 140737488355328 := by omega
  generalize nmB s = R at *
  generalize txB s = tb at *
  clear hs
  go_enter Tryz.func126, Tryz.ntmps126
  go_wp2_with fail
  refine hq.out.mono ?_
  rintro e w1 ⟨rfl, b1⟩
  have b1 := hid b1
  clear hq
  cases tb with
  | false =>
    go_wp2_with fail
    go_ret
    exact ⟨by rw [hR.out, Bool.and_false, Bool.and_false]; rfl, b1.out⟩
  | true =>
    by_cases he : s.size = 0
    · rw [decide_eq_true he] at h0 hR
      clear he
      go_wp2_with fail
      go_ret
      exact ⟨by rw [hR.out]; rfl, b1.out⟩
    · rw [decide_eq_false he] at h0 hR
      by_cases h1 : s.size ≤ 64
      · have h1i : (s.size : Int) ≤ 64 := by omega
        rw [decide_eq_true h1] at hR
        clear he h1
        go_wp2_with fail
        go_ret
        exact ⟨by rw [hR.out]; rfl, b1.out⟩
      · have h1i : ¬ (s.size : Int) ≤ 64 := by omega
        rw [decide_eq_false h1] at hR
        clear he h1
        go_wp2_with fail
        go_ret
        exact ⟨by rw [hR.out]; show Ending.returned (.bool (decide ((s.size : Int) ≤ 64))) = _; rw [decide_eq_false (by omega)]; rfl, b1.out⟩
end Go.Proofs.YtbcjppbiihgfpaaGreatDoor.Ex
