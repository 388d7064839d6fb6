/-
  wire.reader.small at given bytes: what it answers is one number.
-/
import Derived.Test.YtldlkoiekdlmhaaWireQuery
namespace Go.Proofs.Ytldlkoiekdlmhaa.Wi
open Go.ChangeShapes Go.WideShapes Go.ChangeAt Go.RowKit
open Go.Proofs.Ytldlkoiekdlmhaa.Mem
open Go.Proofs.Ytldlkoiekdlmhaa.Crc hiding hid bt
set_option linter.unusedVariables false
set_option linter.unusedSimpArgs false
set_option maxRecDepth 100000
def SmallAt (b : Nat) (s : ByteArray) (wr : Bool) (n : Nat) : Prop := ∀ W, Blk W b [.string s, .bool wr] 67 → Calls Try.prog 79 #[.pointer (some ⟨b, 0, none⟩), .int .i64 0] W fun e w' => e = .returned (.int .i64 (n : Nat)) ∧ RdP W b pB (left s wr) n w'
set_option maxHeartbeats 4000000 in
theorem small_at (b : Nat) (s : ByteArray) (wr : Bool) (hs : s.size ≤ 16777216) : ∃ n, n < 256 ∧ SmallAt b s wr n := by
  cases hl : s.data.toList with
  | nil =>
    have h0 : s.size = 0 := by rw [← len_size, hl]; rfl
    refine ⟨0, by decide, fun W K => ?_⟩
    have hc := hid (take_any b s wr 1 W K hs (by decide))
    have hfin := hid (show ∀ w', Blk w' b [.string s, .bool true] 67 → But W.heap.size b W w' → RdP W b pB (left s wr) 0 w' from fun w' K' hB => ⟨none, ⟨s, true, K', hs, rfl⟩, Res.stop fun l hl' => by
      cases wr with
      | true => cases hl'
      | false => cases hl'; rw [hl]; rfl, hB⟩)
    clear K
    go_enter Try.func79, Try.ntmps79
    go_wp2_with fail
    refine hc.out.mono ?_
    rintro e w1 ⟨ht, hB⟩
    rw [if_pos (by omega)] at ht
    obtain ⟨rfl, K1⟩ := ht
    have hq := hid (hfin.out w1 K1 hB)
    clear hc hfin K1 hB
    go_wp2_with fail
    go_ret
    exact ⟨rfl, hq.out⟩
  | cons c l =>
    have h0 : s.size = l.length + 1 := by rw [← len_size, hl]; rfl
    refine ⟨c.toNat, c.toNat_lt, fun W K => ?_⟩
    have hc := hid (take_any b s wr 1 W K hs (by decide))
    have hfin := hid (show ∀ (w' : World) (t : ByteArray), t.data.toList = l → Blk w' b [.string t, .bool wr] 67 → But W.heap.size b W w' → RdP W b pB (left s wr) c.toNat w' from fun w' t ht K' hB => ⟨left t wr, ⟨t, wr, K', by rw [← len_size, ht]; omega, rfl⟩, by
      cases wr with
      | true => exact ⟨rfl, fun y t' e => by cases e⟩
      | false =>
        refine ⟨?_, fun y t' e => ?_⟩
        · show some t.data.toList = Option.map Prod.snd (pB s.data.toList)
          rw [hl, ht]; rfl
        · change pB s.data.toList = _ at e
          rw [hl] at e
          simp only [pB, Option.some.injEq, Prod.mk.injEq] at e
          exact e.1, hB⟩)
    have hwr := hid (show wrap64 (c.toNat : Int) = (c.toNat : Int) from by
      have := UInt8.toNat_lt c; simp only [RowKit.wrap64]; omega)
    clear K
    go_enter Try.func79, Try.ntmps79
    go_wp2_with fail
    refine hc.out.mono ?_
    rintro e w1 ⟨ht, hB⟩
    rw [if_neg (by omega)] at ht
    obtain ⟨x, t, rfl, hx, ht, K1⟩ := ht
    rw [hl] at hx ht
    obtain rfl : x = ⟨#[c]⟩ := by
      have : x.data = #[c] := by rw [← Array.toList_inj]; simpa using hx
      cases x; simp_all
    have hq := hid (hfin.out w1 t (by simpa using ht) K1 hB)
    clear hc hfin K1 hB hx ht hl
    go_wp2_with fail
    all_goals first | (exfalso; rename_i hz; rw [ByteArray.toList_eq, List.isEmpty_iff] at hz; cases hz) | (go_ret; exact ⟨by first | rfl | (rw [← hwr.out]; rfl), hq.out⟩)
end Go.Proofs.Ytldlkoiekdlmhaa.Wi
