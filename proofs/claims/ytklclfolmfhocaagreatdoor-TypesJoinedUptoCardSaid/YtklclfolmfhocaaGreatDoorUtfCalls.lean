/-
  The document's UTF-8, uids: contracts.
-/
import Derived.Test.YtklclfolmfhocaaGreatDoorTypeCalls
import Derived.Test.YtklclfolmfhocaaGreatDoorUtfMath
import Derived.Laws.RangeString
import Derived.Laws.RangeAny
import Derived.LoopTactic
import Derived.Shelf.Unicode.ValidAny
namespace Go.Proofs.YtklclfolmfhocaaGreatDoor.Nam
open Go.ChangeShapes Go.WideShapes Go.ChangeAt Go.RowKit
open Go.Proofs.YtklclfolmfhocaaGreatDoor.Mem
set_option linter.unusedVariables false
set_option linter.unusedSimpArgs false
set_option maxRecDepth 100000
theorem width_pos (s : ByteArray) (pos : Nat) (h : pos < s.size) : 1 ≤ (Utf8.decode s pos).2 := by
  by_cases ha : (s[pos]'h).toNat < 128
  · rw [decode_ascii s pos h ha]
    exact Nat.le_refl _
  · exact (decode_high s pos h (by omega)).2
theorem below_iter (w : World) (s : ByteArray) (pos : Nat) : Below w.heap.size w (w.iter s pos) := (Below.refl _ w).alloc (Nat.le_refl _) _
/-- a uid's error -/
def uidE (t i : ByteArray) : Int := if typeB t = false then 5 else if utfB i = false then 6 else if 64 < i.size then 3 else 0
def ValidTold : Prop := ∀ (s : ByteArray) (w : World), s.size ≤ 140737488355328 → Lib.Utf8Tabs 0 1 w →
  Calls Tryz.prog 70 #[.string s] w fun e w' => e = .returned (.bool (utfB s)) ∧ Below w.heap.size w w'
set_option maxHeartbeats 4000000 in
theorem uid_any (hS : SplitTold) (hV : ValidTold) (t i : ByteArray) (w : World) (ht : t.size ≤ 140737488355328) (hi : i.size ≤ 140737488355328) (hm : ∃ m, w.cell? ⟨2, 0, none⟩ = some (.int .i64 m)) (hT : Lib.Utf8Tabs 0 1 w) :
    Calls Tryz.prog 92 #[.agg #[.string t, .string i]] w fun e w' => e = .returned (.int .i64 (uidE t i)) ∧ Below w.heap.size w w' := by
  have hty := hid (fun W (b : Below w.heap.size w W) => type_any hS t W ht (by
    obtain ⟨m, hm⟩ := hm
    exact ⟨m, (b.cell (World.block_lt_of_cell? _ _ hm)).trans hm⟩))
  have hva := hid (fun W (b : Below w.heap.size w W) => hV i W hi (Utf8Tabs_below hT b))
  have hii : (i.size : Int) ≤ 140737488355328 := by omega
  have hfin : uidE t i = uidE t i := rfl
  conv at hfin => rhs; unfold uidE
  have hfin' := hid hfin
  clear hfin hm hT
  go_enter Tryz.func92, Tryz.ntmps92
  go_upto_region 1 with fail
  have K := hid (Blk.new w [.string t, .string i] 112)
  have bw := hid ((Below.refl w.heap.size w).alloc (Nat.le_refl _) (.cells #[.string t, .string i] 112))
  generalize w.alloc (.cells #[.string t, .string i] 112) = X0 at K bw ⊢
  obtain ⟨k0, k1, kf⟩ := K.out.two
  go_wp2_with fail
  refine (hty.out _ bw.out).mono ?_
  rintro e w1 ⟨rfl, b1⟩
  replace K := hid (K.out.below b1 K.out.lt)
  replace bw := hid (bt bw.out b1)
  clear b1 k0 k1 kf hty
  cases h1 : typeB t with
  | false =>
    have hn := hid (hfin'.out.trans (if_pos h1))
    clear hfin' h1
    go_wp2_with fail
    go_ret
    exact ⟨by rw [hn.out]; rfl, bw.out⟩
  | true =>
    replace hfin' := hid (hfin'.out.trans (if_neg (by rw [h1]; simp)))
    clear h1
    obtain ⟨k0, k1, kf⟩ := K.out.two
    go_wp2_with fail
    refine (hva.out _ bw.out).mono ?_
    rintro e w2 ⟨rfl, b1⟩
    replace K := hid (K.out.below b1 K.out.lt)
    replace bw := hid (bt bw.out b1)
    clear b1 k0 k1 kf hva
    cases h1 : utfB i with
    | false =>
      have hn := hid (hfin'.out.trans (if_pos h1))
      clear hfin' h1
      go_wp2_with fail
      go_ret
      exact ⟨by rw [hn.out]; rfl, bw.out⟩
    | true =>
      replace hfin' := hid (hfin'.out.trans (if_neg (by rw [h1]; simp)))
      clear h1
      obtain ⟨k0, k1, kf⟩ := K.out.two
      by_cases h3 : 64 < i.size
      · have h3i : (64 : Int) < (i.size : Int) := by omega
        have hn := hid (hfin'.out.trans (if_pos h3))
        clear hfin' h3
        go_wp2_with fail
        go_ret
        exact ⟨by rw [hn.out]; rfl, bw.out⟩
      · have h3i : ¬ (64 : Int) < (i.size : Int) := by omega
        have hn := hid (hfin'.out.trans (if_neg h3))
        clear hfin' h3
        go_wp2_with fail
        go_ret
        exact ⟨by rw [hn.out]; rfl, bw.out⟩
end Go.Proofs.YtklclfolmfhocaaGreatDoor.Nam
