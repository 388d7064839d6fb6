/-
  value.places: contract.
-/
import Derived.Test.YtdjgkbpfmonebaaGreatDoorStrIter
import Derived.Maps.OwnIn
import Derived.Maps.Views
import Derived.StringKeys
namespace Go.Proofs.YtdjgkbpfmonebaaGreatDoor.Val
open Go.ChangeShapes Go.WideShapes Go.ChangeAt Go.RowKit Go.Shelf
open Go.Proofs.YtdjgkbpfmonebaaGreatDoor.Mem
set_option linter.unusedVariables false
set_option maxRecDepth 100000
attribute [local go_sem] Oper.semAt_some
/-- a place and a name, as a map may have them -/
abbrev WSok : Type := { x : WS // x.2.size ≤ 140737488355328 ∧ (Lit.int .i64 x.1).wf = true }
def encW (x : WSok) : Array Value := #[.int .i64 x.1.1, .string x.1.2]
def elS (L : List ByteArray) (q : Nat) : WSok := if h : (L.getD q ⟨#[]⟩).size ≤ 140737488355328 ∧ (Lit.int .i64 (q : Int)).wf = true then ⟨((q : Int), L.getD q ⟨#[]⟩), h⟩ else ⟨(0, ⟨#[]⟩), by decide⟩
theorem wf_nat {n : Nat} (h : (n : Int) ≤ 9223372036854775807) : (Lit.int .i64 (n : Int)).wf = true := by
  simp only [Lit.wf, IntKind.min, IntKind.max, IntKind.signed, IntKind.bits, Bool.and_eq_true, decide_eq_true_eq, if_true]
  omega
theorem elS_at {L : List ByteArray} (hz : ∀ y ∈ L, y.size ≤ 140737488355328) (hl : (L.length : Int) ≤ 9223372036854775807) (q : Nat) (h : q < L.length) : (elS L q).1 = ((q : Int), L[q]) := by
  have e : L.getD q ⟨#[]⟩ = L[q] := by simp [List.getD, h]
  unfold elS
  rw [dif_pos ⟨by rw [e]; exact hz _ (List.getElem_mem h), wf_nat (by omega)⟩]
  exact Prod.ext rfl e
/-- the places of the names of a row, put from the last one on -/
def putS (D : DataW Unit) (x : WSok) : DataW Unit := D.put (.string x.1.2.data.toList) (.lit (.int .i64 x.1.1))
def foldS (l : List WSok) : DataW Unit := l.foldl putS (.map [])
theorem foldS_snoc (l : List WSok) (x : WSok) : foldS (l ++ [x]) = (foldS l).put (.string x.1.2.data.toList) (.lit (.int .i64 x.1.1)) := by simp [foldS, putS]
def plD (L : List ByteArray) : DataW Unit := foldS (uptoA (elS L) L.length L.length)
def MapP (W : World) (b n : Nat) (D : DataW Unit) : Prop := W.ownsMap Tryz.prog 9 (plainElem (H := Unit) Tryz.prog 3) b n D
theorem make_map (n : Int) (W : World) : (Instr.makeMap 52 (some (.int .i64 n))).run Tryz.prog W = .ok (.map (some W.heap.size)) (W.alloc (.map #[] 0)) := by
  simp [Instr.makeMap, run_underlying Tryz.underlying52, go_sem]
set_option maxHeartbeats 4000000 in
theorem places_any (L : List ByteArray) (v : Value) (w : World) (h : StrsV w v L) (hz : ∀ y ∈ L, y.size ≤ 140737488355328) :
    Calls Tryz.prog 20 #[v] w fun e w' => ∃ b, e = .returned (.map (some b)) ∧ w.heap.size ≤ b ∧ MapP w' b L.length (plD L) ∧ Below w.heap.size w w' := by
  obtain ⟨so, sc, rfl, _⟩ := h.form
  have hlen : (L.length : Int) ≤ 9223372036854775807 := by have := h.len; unfold maxLen at this; omega
  have hmx : L.length ≤ maxLen := h.len
  have h' := hid h
  have hz' := hid hz
  clear h hz
  refine (callsIn_wide (n := 9)).1 ?_
  refine callsIn_of_wp_marks Tryz.func20 rfl trivial ?_ rfl
  simp only [Tryz.ntmps20, List.size_toArray, List.length_cons, List.length_nil, Nat.reduceAdd, Nat.reduceSub, Array.replicate_succ, Array.replicate_zero, List.push_toArray, List.append_toArray, List.nil_append, List.cons_append]
  have hmm := fun (n : Int) (W : World) => make_map n W
  gi_wp2_with fail
  refine ⟨trivial, ?_⟩
  refine (bstr_in _ _ trivial rfl _ _ _ _).mono ?_
  rintro e w4 ⟨rfl, rfl⟩
  have hm0 : MapP (w.alloc (.map #[] 0)) w.heap.size 0 (.map []) := World.ownsMap_made w Tryz.prog 9 (plainElem (H := Unit) Tryz.prog 3)
  have bM := (Boxed.new (w.alloc (.map #[] 0)) 52 (.map (some w.heap.size))).alloc (.cells #[.slice so L.length sc] 22)
  have bB := Boxed.new ((w.alloc (.map #[] 0)).alloc (.cells #[.map (some w.heap.size)] 52)) 22 (.slice so L.length sc)
  simp only [World.size_alloc] at bM bB
  have hB0 : Below w.heap.size w (((w.alloc (.map #[] 0)).alloc (.cells #[.map (some w.heap.size)] 52)).alloc (.cells #[.slice so L.length sc] 22)) := (((Below.refl _ w).alloc (Nat.le_refl _) _).alloc (by simp) _).alloc (by simp; omega) _
  gi_wp2_with fail
  have hst : StrsV w (.slice so L.length sc) L := h'.out
  refine wpIn_rangeFunc_ownG rfl (by omega) (gf := 73) (lb := #[.pointer (some ⟨w.heap.size + 1 + 1, 0, none⟩)]) rfl trivial (enters_of Tryz.func73 (by kernel_rfl) rfl)
    (bstr_stops Fence.wide (9 - 1) trivial rfl (by omega) encW (elS L) (w.heap.size + 1 + 1) w.heap.size (.slice so L.length sc) L (fun q hq => by unfold encW; rw [elS_at hz'.out hlen q hq]) hlen _ w (by simp) (by simp; omega) bB.cell (Nat.le_refl _) hB0 hst) KpB.trans (KpB_b (by simp; omega) (by simp)) (Below.refl _ _) (fun _ => rfl)
    (fun pre W => (W.cell? ⟨w.heap.size + 1, 0, none⟩ = some (.map (some w.heap.size)) ∧ MapP W w.heap.size pre.length (foldS pre) ∧ w.heap.size + 1 + 1 + 1 ≤ W.heap.size) ∧ Below w.heap.size w W)
    (fun _ _ _ => False)
    (OwnFrom.and (fun s A B row hs hg hr => ⟨cell_kept hs.1 hg (fun r e => (hr r e).2), World.ownsMap.kept hs.2.1 hg (fun e => by have := (hr _ e.symm).1; simp at this; omega), Nat.le_trans hs.2.2 hg.size⟩) (ownFrom_below (Nat.le_refl _) (by simp; omega)))
    (fun _ _ _ _ _ hs _ _ => hs)
    ⟨⟨bM.cell, (World.ownsMap.alloc (World.ownsMap.alloc hm0 _) _), by simp⟩, hB0⟩
    (fun x => { tmps := #[.slice so L.length sc, undef, .map none, .pointer (some ⟨w.heap.size + 1, 0, none⟩), .int .i64 x.1.1, .string x.1.2, .slice so L.length sc, .int .i64 L.length, .map (some w.heap.size), .slice so L.length sc, .func (.func 73) #[] #[.pointer (some ⟨w.heap.size + 1 + 1, 0, none⟩)], .int .i64 x.1.1, .string x.1.2, undef, undef, undef, undef], defers := [] }) ?assign ?body ?done ?stop
  case assign =>
    intro l x W K hK
    dsimp only [encW]
    gi_wp2
    exact hK
  case body =>
    rintro l pre x W ⟨⟨hc, hown, hz3⟩, hB⟩ hlt
    have hkey := WideMaps.keyOf_string_mk Tryz.underlying9 (s := x.1.2) (by have := x.2.1; unfold maxLen; omega)
    have hn : pre.length < maxLen := by omega
    gi_wp2_with (gi_at_mapUpdate; refine wpListIn_mapUpdate_own _ rfl _ _ _ 52 rfl 9 3 (Maps.string_keyed Tryz.underlying9) Tryz.underlying52 _ w.heap.size pre.length _ rfl hown hn _ _ _ rfl rfl hkey _ [] (plainElem_int Tryz.underlying3 x.2.2) ?_; intro w1 hown1 hgrow1)
    obtain ⟨es, ck, hh, _⟩ := hown
    exact ⟨KeepsFrom.of_grownBy hgrow1 (fun j e => by cases e; simp; omega), ⟨(Below.refl _ W).grown hgrow1 hB.size (fun k e => by cases e; exact Nat.le_refl _), hgrow1.block (w.heap.size + 1 + 1) (by omega) (fun e => by have := Option.some.inj e; omega)⟩,
      ⟨cell_kept hc hgrow1 (fun r e => by cases e; exact ⟨_, hh, rfl⟩), by rw [foldS_snoc, List.length_append]; exact hown1, Nat.le_trans hz3 hgrow1.size⟩, hB.grown hgrow1 hB.size (fun k e => by cases e; exact Nat.le_refl _)⟩
  case done =>
    rintro D ys W hD rfl ⟨⟨hc, hown, hz3⟩, hB⟩ hK
    rw [uptoA_length] at hown
    gi_wp2
    refine ⟨by simp, .inl ⟨_, _, rfl, run_takeDeferred hK, ?_⟩⟩
    exact ⟨_, results_tmp rfl _ _ _, w.heap.size, rfl, Nat.le_refl _, World.ownsMap.kept hown (grownBy_putObj' _ D _) (fun e => by cases e; simp at hD; omega), hB.trans (belowK_b (w := w) (Nat.le_refl _) W D _ _ (by simp at hD; omega) hK rfl rfl)⟩
  case stop =>
    rintro D c pre W _ _ h _
    exact h.elim
end Go.Proofs.YtdjgkbpfmonebaaGreatDoor.Val
