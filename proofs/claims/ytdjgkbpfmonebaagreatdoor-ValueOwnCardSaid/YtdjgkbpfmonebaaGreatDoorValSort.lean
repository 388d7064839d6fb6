/-
  slices.SortFunc over value.Compare, at right values: contract.
-/
import Derived.Test.YtdjgkbpfmonebaaGreatDoorValOrder
import Derived.Test.YtdjgkbpfmonebaaGreatDoorValKeep
import Derived.Test.YtdjgkbpfmonebaaGreatDoorValCopied
import Derived.Test.YtdjgkbpfmonebaaGreatDoorValTold
import Derived.Shelf.SlSortCmp.NoneTotal
import Derived.Shelf.SlSortCmp.WholeK
namespace Go.Proofs.YtdjgkbpfmonebaaGreatDoor.Val
open Go.ChangeShapes Go.WideShapes Go.ChangeAt Go.RowKit
open Go.Proofs.YtdjgkbpfmonebaaGreatDoor.Mem Go.Proofs.YtdjgkbpfmonebaaGreatDoor.Ord
set_option linter.unusedVariables false
set_option linter.unusedSimpArgs false
set_option maxRecDepth 100000
/-- what the shelf calls grown -/
theorem bel_grow {W w' : World} (h : Bel W.heap.size W w') : ∃ q os, w' = Sort.grow (W.drewN q) os := by
  refine ⟨w'.drawn - W.drawn, w'.heap.extract W.heap.size w'.heap.size, ?_⟩
  obtain ⟨⟨h1, h2, h3, h4, h5⟩, h6⟩ := h
  have e : w'.heap = W.heap ++ w'.heap.extract W.heap.size w'.heap.size := by
    apply Array.ext_getElem?
    intro k
    by_cases hk : k < W.heap.size
    · rw [Array.getElem?_append_left hk, h5 k hk]
    · rw [Array.getElem?_append_right (by omega), Array.getElem?_extract]
      by_cases hk2 : k < w'.heap.size
      · rw [if_pos (by omega), show W.heap.size + (k - W.heap.size) = k by omega]
      · rw [if_neg (by omega), Array.getElem?_eq_none (by omega)]
  cases w' with
  | mk heap tape drawn os output =>
    dsimp only at h1 h2 h3 h4 h5 h6 e
    subst h1 h2 h3
    unfold Sort.grow World.drewN
    dsimp only
    rw [← e, show W.drawn + (drawn - W.drawn) = drawn by omega]
/-- the world of a sort: its row's block holds the new row, blocks behind, all else as it was -/
theorem sort_heap (W : World) (g n : Nat) (F : Array Value) (os : Array Obj) (k : Nat) (hk : k < W.heap.size) (hg : k ≠ g) : (Sort.grow (Sort.putRow id (Sort.ahead W n) g 0 F) os).heap[k]? = W.heap[k]? := by
  unfold Sort.grow Sort.putRow Sort.mapBlock Sort.ahead
  dsimp only
  rw [Array.getElem?_append_left (by simpa using hk), Array.getElem?_modify, if_neg (fun e => hg e.symm)]
theorem sort_blk {W : World} {g : Nat} {cs tail : List Value} {t : TypeId} (hB : Blk W g (cs ++ tail) t) (F : Array Value) (hF : F.size = cs.length) (n : Nat) (os : Array Obj) : Blk (Sort.grow (Sort.putRow id (Sort.ahead W n) g 0 F) os) g (F.toList ++ tail) t := ⟨by
  have hk := hB.lt
  unfold Sort.grow Sort.putRow Sort.mapBlock Sort.ahead
  dsimp only
  rw [Array.getElem?_append_left (by simpa using hk), Array.getElem?_modify, if_pos rfl, hB.at']
  simp only [Option.map_some, Sort.onCells]
  congr 2
  apply Array.ext_getElem?
  intro j
  unfold Sort.putCells
  rw [Array.getElem?_mapIdx]
  simp only [List.getElem?_toArray]
  by_cases hj : j < F.size
  · rw [List.getElem?_append_left (by omega), List.getElem?_append_left (by simpa using hj), List.getElem?_eq_getElem (show j < cs.length by omega), Option.map_some, if_pos (by omega), Nat.sub_zero]
    simp [hj]
  · rw [List.getElem?_append_right (by omega), List.getElem?_append_right (by simpa using hj), ← hF, Array.length_toList]
    cases tail[j - F.size]? with
    | none => rfl
    | some v => rw [Option.map_some, if_neg (by omega)]⟩
theorem sort_frame (W : World) (g n : Nat) (F : Array Value) (os : Array Obj) : But W.heap.size g W (Sort.grow (Sort.putRow id (Sort.ahead W n) g 0 F) os) :=
  ⟨rfl, rfl, rfl, by unfold Sort.grow Sort.putRow Sort.mapBlock Sort.ahead; simp, fun k hk hg => sort_heap W g n F os k hk hg⟩
/-- a row of values as the shelf lays it flat -/
theorem flat_encL {α : Type} [Inhabited α] (f : α → T) (d : Array α) : Sort.flatK (fun x => (f x).enc) 7 d = (T.encL (d.toList.map f)).toArray := by
  apply Array.ext_getElem?
  intro j
  by_cases hj : j < d.size * 7
  · have hi : j / 7 < d.size := by omega
    have e1 : (Sort.flatK (fun x => (f x).enc) 7 d)[j]? = some (((f d[j / 7]!).enc)[j % 7]!) := by
      have h0 : j < (Sort.flatK (fun x => (f x).enc) 7 d).size := by simpa using hj
      have h1 := Sort.get_flatK (fun x => (f x).enc) 7 d j hj
      rw [getElem!_pos _ j h0] at h1
      rw [Array.getElem?_eq_getElem h0, h1]
    have hm : j % 7 < 7 := Nat.mod_lt _ (by omega)
    have e2 := T.encL_get (d.toList.map f) (j / 7) (by simpa using hi) (j % 7) hm
    rw [show j / 7 * 7 + j % 7 = j by omega] at e2
    rw [e1, List.getElem?_toArray, e2]
    simp only [List.getElem_map, Array.getElem_toList]
    have hm' : j % 7 < ((f d[j / 7]).enc).length := hm
    rw [getElem!_pos d (j / 7) hi, List.getElem?_eq_getElem hm', getElem!_pos ((f d[j / 7]).enc) (j % 7) hm']
  · rw [Array.getElem?_eq_none (by simp; omega), List.getElem?_toArray, List.getElem?_eq_none (by rw [T.encL_len]; simp; omega)]
theorem cmp_enters : ∀ args w, (callFunc 19 args).run Tryz.prog w = .ok (.enter 19 args) w := enters_of Tryz.func19 (by kernel_rfl) rfl
theorem value_agg : ∀ w, (isAgg 27).run Tryz.prog w = .ok true w := fun _ => by kernel_rfl
theorem value_size : ∀ w, (Go.sizeOf 27).run Tryz.prog w = .ok 7 w := fun _ => by kernel_rfl
/-- rising, where none is below one ahead of it -/
def SortedT (l : List T) : Prop := l.Pairwise fun x y => ¬ cmpT y x < 0
theorem sort_any (l : List T) (W : World) (g cap : Nat) (tail : List Value) (t : TypeId) (hB : Blk W g (T.encL l ++ tail) t) (hl : 0 < l.length) (hs : l.length < 4611686018427387904)
    (hR : ∀ x ∈ l, RightT x) (hok : ∀ x ∈ l, x.ok W) (hin : ∀ x ∈ l, x.inS (fun k => k ≠ g ∧ k < W.heap.size)) :
    Calls Tryz.prog 30 #[.slice (some ⟨g, 0, none⟩) l.length cap, .func (.func 19) #[] #[]] W fun e w' =>
      e = .returned (.tuple #[]) ∧ ∃ l' : List T, l'.Perm l ∧ SortedT l' ∧ Blk w' g (T.encL l' ++ tail) t ∧ But W.heap.size g W w' := by
  let A := { x : T // x ∈ l }
  obtain ⟨x0, hx0⟩ : ∃ x0, x0 ∈ l := ⟨l[0], List.getElem_mem hl⟩
  letI : Inhabited A := ⟨⟨x0, hx0⟩⟩
  let d : Array A := l.attach.toArray
  have hd : d.toList.map Subtype.val = l := by simp [d]
  have hds : d.size = l.length := by have := congrArg List.length hd; rw [List.length_map, Array.length_toList] at this; exact this
  let enc : A → List Value := fun x => x.1.enc
  let cf : A → A → Int := fun x y => cmpT x.1 y.1
  have hG : Orders (fun _ : A => True) cf := cmpT_good.pull Subtype.val (fun x _ => hR _ x.2)
  have hO : Sort.SWO (ltOf cf) := hG.swo
  have hflat : ∀ dk : Array A, Sort.flatK enc 7 dk = (T.encL (dk.toList.map Subtype.val)).toArray := flat_encL Subtype.val
  have hH : Sort.HoldsK enc 7 W g 0 d := by
    unfold Sort.HoldsK
    rw [hflat, hd]
    intro j hj
    have hj' : j < (T.encL l).length := by simpa using hj
    rw [Nat.zero_add]
    refine ⟨?_, hB.free _⟩
    rw [hB.cell j (by rw [List.length_append]; omega), List.getElem_append_left hj']
    simp [hj']
  have hcmp : CmpLays Tryz.prog 19 #[] enc 7 cf g 0 d.size W := by
    intro m os dk hdk x y
    have hk : ∀ k, (k ≠ g ∧ k < W.heap.size) → (sortWorldK enc 7 W g 0 m dk os).heap[k]? = W.heap[k]? := fun k h => sort_heap W g m _ os k h.2 h.1
    have := compB_any x.1 y.1 (sortWorldK enc 7 W g 0 m dk os) ((hok _ x.2).keep hk (hin _ x.2)) ((hok _ y.2).keep hk (hin _ y.2))
    rw [show (#[.agg (enc x).toArray, .agg (enc y).toArray] ++ #[] : Array Value) = #[x.1.val, y.1.val] from rfl]
    exact this.mono fun e w' ⟨h1, h2⟩ => ⟨h1, bel_grow h2⟩
  have h1 : ∀ x : A, ∀ v ∈ enc x, v.oneCell' = true := fun x => enc_one (hok _ x.2)
  have hcon := AnyQ.slices_SortFunc Tryz.sortL 7 value_agg value_size enc (fun _ => rfl) h1 cf hO 19 #[] g 0 cap d W cmp_enters hcmp hH hB.lt (by omega)
  rw [hds] at hcon
  refine Calls.mono hcon fun e w' h => ?_
  obtain ⟨he, d', n, os, hp, hso, hw⟩ := h
  refine ⟨he, d'.toList.map Subtype.val, ?_, ?_, ?_, ?_⟩
  · have h3 := hp.2.2
    have e1 : (d'.extract 0 l.length).toList = d'.toList := by
      rw [← hds, ← hp.1]; simp
    have e2 : (d.extract 0 l.length).toList = d.toList := by
      rw [← hds]; simp
    rw [e1, e2] at h3
    have := h3.map Subtype.val
    rw [hd] at this
    exact this
  · refine List.pairwise_iff_getElem.2 fun i j hi hj hij => ?_
    have hi' : i < d'.size := by simpa using hi
    have hj' : j < d'.size := by simpa using hj
    have h4 := hso i j (Nat.zero_le _) hij (by rw [← hds, ← hp.1]; exact hj')
    rw [getElem!_pos d' i hi', getElem!_pos d' j hj'] at h4
    simp only [List.getElem_map, Array.getElem_toList]
    unfold ltOf at h4
    simpa [cf] using h4
  · subst hw
    have h5 := sort_blk hB (Sort.flatK enc 7 d') (by rw [Sort.size_flatK, hp.1, hds, T.encL_len]) n os
    have e5 : (Sort.flatK enc 7 d').toList = T.encL (d'.toList.map Subtype.val) := by rw [hflat]
    rw [e5] at h5
    exact h5
  · subst hw
    exact sort_frame W g n _ os
theorem sort_none (p : Option Addr) (cap : Nat) (W : World) : Calls Tryz.prog 30 #[.slice p 0 cap, .func (.func 19) #[] #[]] W fun e w' => e = .returned (.tuple #[]) ∧ w' = W := AnyF.slices_SortFunc_none Tryz.sortL p cap _ W
end Go.Proofs.YtdjgkbpfmonebaaGreatDoor.Val
