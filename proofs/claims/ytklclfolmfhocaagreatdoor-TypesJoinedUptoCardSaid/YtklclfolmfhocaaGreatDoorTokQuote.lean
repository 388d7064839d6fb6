/-
  token.Quote: its contract.
-/
import Derived.Test.YtklclfolmfhocaaGreatDoorShelf
import Derived.Test.YtklclfolmfhocaaGreatDoorTokMap
import Derived.Test.YtklclfolmfhocaaGreatDoorLikBuild
import Derived.Lib.ValidU
import Derived.Shelf.Unicode.DecodeSlow
import Derived.Lib.Strings
namespace Go.Proofs.YtklclfolmfhocaaGreatDoor.Tok
open Go.ChangeShapes Go.WideShapes Go.ChangeAt Go.RowKit Go.Maps
open Go.Proofs.YtklclfolmfhocaaGreatDoor.Mem Go.Proofs.YtklclfolmfhocaaGreatDoor.Lik
set_option linter.unusedVariables false
set_option linter.unusedSimpArgs false
set_option maxRecDepth 100000
abbrev By := List UInt8
/-- the byte as it is written within a string's marks, what stands behind it being r -/
def quote1 (c : UInt8) (r : By) : By := match letV c.toNat with
  | none => [c]
  | some x => if Lib.hasPrefix (c :: r) [92, 42] then [c] else [92, x.toNat.toUInt8]
def quoteGo : By → By
  | [] => []
  | c :: r => quote1 c r ++ quoteGo r
def quoteL (s : By) : By := 34 :: (quoteGo s ++ [34])
theorem quote1_len (c : UInt8) (r : By) : (quote1 c r).length ≤ 2 := by
  unfold quote1
  split
  · simp
  · split <;> simp
theorem quoteGo_len (s : By) : (quoteGo s).length ≤ 2 * s.length := by
  induction s with
  | nil => simp [quoteGo]
  | cons c r ih =>
    have := quote1_len c r
    simp only [quoteGo, List.length_append, List.length_cons]
    omega
def qAt (s : By) (i : Nat) : By := match s[i]? with
  | some c => quote1 c (s.drop (i + 1))
  | none => []
theorem qAt_len (s : By) (i : Nat) : (qAt s i).length ≤ 2 := by
  unfold qAt
  split
  · exact quote1_len _ _
  · simp
theorem qAt_lt (s : By) (i : Nat) (h : i < s.length) : qAt s i = quote1 s[i] (s.drop (i + 1)) := by
  unfold qAt
  rw [List.getElem?_eq_getElem h]
theorem fm_congr {α β : Type} {f g : α → List β} : ∀ (l : List α), (∀ x ∈ l, f x = g x) → l.flatMap f = l.flatMap g := by
  intro l
  induction l with
  | nil => intro _; rfl
  | cons x l ih => intro h; simp only [List.flatMap_cons, h x (by simp), ih (fun y hy => h y (by simp [hy]))]
/-- the first bytes, written, ahead of the rest -/
def quoteTo (s : By) (k : Nat) : By := 34 :: (List.range k).flatMap (qAt s)
theorem quoteTo_zero (s : By) : quoteTo s 0 = [34] := rfl
theorem quoteTo_succ (s : By) (k : Nat) (h : k < s.length) : quoteTo s (k + 1) = quoteTo s k ++ quote1 s[k] (s.drop (k + 1)) := by
  simp [quoteTo, List.range_succ, List.flatMap_append, qAt_lt s k h]
theorem quoteTo_all : ∀ (s : By), quoteTo s s.length ++ [34] = quoteL s := by
  have key : ∀ (s p : By), (List.range s.length).flatMap (fun i => qAt (p ++ s) (p.length + i)) = quoteGo s := by
    intro s
    induction s with
    | nil => intro p; rfl
    | cons c r ih =>
      intro p
      rw [List.length_cons, List.range_succ_eq_map, List.flatMap_cons, List.flatMap_map]
      have h0 : qAt (p ++ c :: r) (p.length + 0) = quote1 c r := by
        rw [qAt_lt _ _ (by simp)]
        simp [List.drop_append, List.drop_eq_nil_of_le (show p.length ≤ p.length + 1 by omega)]
      rw [h0, quoteGo]
      have h2 := ih (p ++ [c])
      simp only [List.length_append, List.length_cons, List.length_nil, List.append_assoc, List.cons_append, List.nil_append] at h2
      rw [← h2]
      congr 1
      refine fm_congr _ fun i _ => ?_
      simp only [Function.comp, Nat.succ_eq_add_one, show p.length + (i + 1) = p.length + (0 + 1) + i by omega]
  intro s
  have := key s []
  simp only [List.nil_append, List.length_nil, Nat.zero_add] at this
  unfold quoteTo quoteL
  rw [show (fun i => qAt s i) = qAt s from rfl] at this
  rw [this]
  rfl
theorem quoteTo_len (s : By) (k : Nat) : (quoteTo s k).length ≤ 2 * k + 1 := by
  induction k with
  | zero => simp [quoteTo]
  | succ k ih =>
    simp only [quoteTo, List.range_succ, List.flatMap_append, List.flatMap_cons, List.flatMap_nil, List.append_nil, List.length_cons, List.length_append] at ih ⊢
    have := qAt_len s k
    omega
def checkE (s : ByteArray) : Int := if Lib.validD s.data.toList = true then (if 256 < s.size then 3 else 0) else 6
def Tabs (w : World) : Prop := Lib.Utf8Tabs 0 1 w
def ValidTold : Prop := ∀ (s : ByteArray) (w : World), s.size ≤ 140737488355328 → Tabs w →
  Calls Tryz.prog 70 #[.string s] w fun e w' => e = .returned (.bool (Lib.validD s.data.toList)) ∧ Below w.heap.size w w'
theorem checkText_any (hV : ValidTold) (s : ByteArray) (w : World) (hs : s.size ≤ 140737488355328) (hT : Tabs w) :
    Calls Tryz.prog 162 #[.string s] w fun e w' => e = .returned (.int .i64 (checkE s)) ∧ Below w.heap.size w w' := by
  have hv := hid (hV s w hs hT)
  have hsi : (s.size : Int) ≤ 140737488355328 := by omega
  have he : Hid (checkE s = if Lib.validD s.data.toList = true then (if 256 < s.size then 3 else 0) else 6) := hid rfl
  clear hT
  cases hb : Lib.validD s.data.toList with
  | true =>
    have hb' := hid hb
    rw [hb] at hv
    clear hb
    by_cases h2 : 256 < s.size
    · have h2i : (256 : Int) < s.size := by omega
      have h3 := hid h2
      clear h2
      go_enter Tryz.func162, Tryz.ntmps162
      go_wp2_with fail
      refine hv.out.mono ?_
      rintro e w' ⟨rfl, hb2⟩
      have hb2 := hid hb2
      go_wp2
      go_ret
      exact ⟨by rw [he.out, if_pos hb'.out, if_pos h3.out]; rfl, hb2.out⟩
    · have h2i : (s.size : Int) ≤ 256 := by omega
      have h3 := hid h2
      clear h2
      go_enter Tryz.func162, Tryz.ntmps162
      go_wp2_with fail
      refine hv.out.mono ?_
      rintro e w' ⟨rfl, hb2⟩
      have hb2 := hid hb2
      go_wp2
      go_ret
      exact ⟨by rw [he.out, if_pos hb'.out, if_neg h3.out]; rfl, hb2.out⟩
  | false =>
    have hb' := hid hb
    rw [hb] at hv
    clear hb
    go_enter Tryz.func162, Tryz.ntmps162
    go_wp2_with fail
    refine hv.out.mono ?_
    rintro e w' ⟨rfl, hb2⟩
    have hb2 := hid hb2
    go_wp2
    go_ret
    exact ⟨by rw [he.out, if_neg (by rw [hb'.out]; simp)]; rfl, hb2.out⟩
end Go.Proofs.YtklclfolmfhocaaGreatDoor.Tok
