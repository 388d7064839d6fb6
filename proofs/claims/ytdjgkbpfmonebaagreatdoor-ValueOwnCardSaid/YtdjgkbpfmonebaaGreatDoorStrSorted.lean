/-
  slices.Sorted of slices.Values at texts: contract.
-/
import Derived.Test.YtdjgkbpfmonebaaGreatDoorStrVals
import Derived.Test.YtdjgkbpfmonebaaGreatDoorValTold
import Derived.Shelf.SortM.Plain
import Derived.Shelf.SortM.SortNone
import Derived.Sort.OwnSorted
namespace Go.Proofs.YtdjgkbpfmonebaaGreatDoor.Val
open Go.ChangeShapes Go.WideShapes Go.ChangeAt Go.RowKit Go.Shelf
open Go.Proofs.YtdjgkbpfmonebaaGreatDoor.Mem
set_option linter.unusedVariables false
set_option maxRecDepth 100000
theorem strC_enc (L : List ByteArray) : strC L = (L.map fun s => s.data.toList).map encStr := by
  simp only [strC, List.map_map]
  rfl
theorem enc_strC (ss : List (List UInt8)) : ss.map encStr = strC (ss.map fun l => ⟨l.toArray⟩) := by
  simp only [strC, List.map_map]
  rfl
set_option maxHeartbeats 1000000 in
theorem sorted_any (L : List ByteArray) (sv : Value) (Bs : Nat) (w A : World) (hroom : L.length * 16 ≤ 140737488355328) (hBs : Bs < w.heap.size) (hc : w.cell? ⟨Bs, 0, none⟩ = some sv) (hA : A.heap.size ≤ w.heap.size) (hAw : Below A.heap.size A w) (hI : StrsV A sv L) :
    Calls Tryz.prog 21 #[.func (.func 52) #[] #[.pointer (some ⟨Bs, 0, none⟩)]] w fun e w' => ∃ (so : Option Addr) (sc : Nat) (N : List ByteArray), e = .returned (.slice so N.length sc) ∧ N.Perm L ∧ w'.ownsRow w.heap.size 9 1 (.slice so N.length sc) N.length (strC N) ∧ Below w.heap.size w w' := by
  have h := hid (collect_any L sv Bs w A hroom hBs hc hA hAw hI)
  have hr := hid hroom
  clear hroom hBs hc hA hAw hI
  go_enter Tryz.func21, Tryz.ntmps21
  go_wp2_with fail
  refine h.out.mono ?_
  rintro e w1 ⟨v, rfl, ho, hb⟩
  clear h
  rcases ho.2 with ⟨rfl, h0⟩ | ⟨g, cap, cur, rfl, hge, hh, hnc, hcm, hcs, htake⟩
  · obtain rfl : L = [] := List.eq_nil_of_length_eq_zero h0
    have hs := hid (AnyM.slices_Sort_string_none Tryz.sortM none 0 w1)
    replace ho := hid ho
    replace hb := hid hb
    go_wp2_with fail
    refine (show Calls Tryz.prog 51 #[.slice none 0 0] w1 _ from hs.out).mono ?_
    rintro e w2 ⟨rfl, rfl⟩
    go_wp2_with fail
    go_ret
    exact ⟨none, 0, [], rfl, List.Perm.refl _, ho.out, hb.out⟩
  · have hl : (L.map fun s => s.data.toList).length = L.length := List.length_map ..
    have hH : Sort.Holds encStr w1 g 0 (L.map fun s => s.data.toList).toArray := holds_of_block hh (by rw [hl, ← strC_enc, ← htake, Nat.mul_one])
    have hs := AnyM.slices_Sort_string Tryz.sortM g 0 cap (L.map fun s => s.data.toList) w1 hH (Array.getElem?_eq_some_iff.1 hh).1 (by rw [hl]; have := hr.out; omega)
    rw [hl] at hs
    have hp : ((L.map fun s => s.data.toList).mergeSort fun x y => decide (x ≤ y)).Perm (L.map fun s => s.data.toList) := List.mergeSort_perm _ _
    generalize ((L.map fun s => s.data.toList).mergeSort fun x y => decide (x ≤ y)) = ss at hs hp
    have hpl : ss.length = (L.map fun s => s.data.toList).length := hp.length_eq
    have hfin := hid (fun (n : Nat) (os : Array Obj) => ownsRow_sorted (os := os) (n := n) (ts := ss) (ss := L.map fun s => s.data.toList) hpl hge hh (by rw [hl]; exact hnc) hcm hcs)
    have hgr := hid (fun (n : Nat) (os : Array Obj) => hb.grown (grownBy_sorted (w := w1) (g := g) (n := n) (os := os) ss.toArray) hb.size (fun j hj => by cases hj; exact hge))
    have hper := hid (show (ss.map fun l => (⟨l.toArray⟩ : ByteArray)).Perm L from by
      have := hp.map (fun l => (⟨l.toArray⟩ : ByteArray))
      rw [List.map_map] at this
      have e : ((fun l => (⟨l.toArray⟩ : ByteArray)) ∘ fun s : ByteArray => s.data.toList) = id := by funext s; rfl
      rwa [e, List.map_id] at this)
    have hpl2 := hid (hpl.trans hl)
    replace hs := hid hs
    clear ho hb hh hnc hcm hcs htake hH hp hpl hge
    go_wp2_with fail
    refine (show Calls Tryz.prog 51 #[.slice (some ⟨g, 0, none⟩) L.length cap] w1 _ from hs.out).mono ?_
    rintro e w2 ⟨rfl, n, os, rfl⟩
    have h1 := hid (hfin.out n os)
    have h2 := hid (hgr.out n os)
    clear hs hfin hgr
    generalize Sort.grow (Sort.putRow encStr (Sort.ahead w1 n) g 0 ss.toArray) os = w3 at h1 h2 ⊢
    go_wp2_with fail
    go_ret
    refine ⟨some ⟨g, 0, none⟩, cap, ss.map fun l => ⟨l.toArray⟩, ?_, hper.out, ?_, h2.out⟩
    · rw [List.length_map, hpl2.out]; rfl
    · have := h1.out
      rw [hl, enc_strC] at this
      rw [List.length_map, hpl2.out]
      exact this
end Go.Proofs.YtdjgkbpfmonebaaGreatDoor.Val
