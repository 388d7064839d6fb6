/-
  What value.places tells: how many names, and where each is.
-/
import Derived.Test.YtdjgkbpfmonebaaGreatDoorValPlaces
import Derived.Maps.OwnSet
import Derived.Maps.OwnOps
namespace Go.Proofs.YtdjgkbpfmonebaaGreatDoor.Val
open Go.ChangeShapes Go.WideShapes Go.ChangeAt Go.RowKit
open Go.Proofs.YtdjgkbpfmonebaaGreatDoor.Mem
set_option linter.unusedVariables false
def keyS (s : ByteArray) : Lit := .string s.data.toList
theorem keyS_inj {s t : ByteArray} (h : keyS s = keyS t) : s = t := by
  unfold keyS at h
  simp only [Lit.string.injEq] at h
  have : s.data = t.data := Array.toList_inj.1 h
  cases s; cases t
  simpa using this
theorem keyS_key (s : ByteArray) : WideAt.IsKeyLit (keyS s) := trivial
theorem foldS_tidy (p : List WSok) : Maps.Tidy (foldS p) := by
  suffices h : ∀ (p : List WSok) (D : DataW Unit), Maps.Tidy D → Maps.Tidy (p.foldl putS D) from h p _ Maps.tidy_empty
  intro p
  induction p with
  | nil => intro D h; exact h
  | cons x p ih => intro D h; exact ih _ (h.put (k := keyS x.1.2) (keyS_key _) _)
/-- what is there once all is put -/
structure PutP (p : List WSok) : Prop where
  le : Maps.size (foldS p) ≤ p.length
  has : ∀ s : ByteArray, Maps.has (foldS p) (keyS s) = true ↔ ∃ x ∈ p, x.1.2 = s
  full : Maps.size (foldS p) = p.length → p.Pairwise (fun x y => x.1.2 ≠ y.1.2)
  size : p.Pairwise (fun x y => x.1.2 ≠ y.1.2) → Maps.size (foldS p) = p.length
  at' : p.Pairwise (fun x y => x.1.2 ≠ y.1.2) → ∀ x ∈ p, ∀ z : DataW Unit, (foldS p).atKey (keyS x.1.2) z = .lit (.int .i64 x.1.1)
theorem snoc_ind {α : Type} {P : List α → Prop} (h0 : P []) (h : ∀ l x, P l → P (l ++ [x])) (l : List α) : P l := by
  suffices hh : ∀ r : List α, P r.reverse by have := hh l.reverse; rwa [List.reverse_reverse] at this
  intro r
  induction r with
  | nil => exact h0
  | cons x r ih => rw [List.reverse_cons]; exact h _ _ ih
theorem putP (p : List WSok) : PutP p := by
  refine snoc_ind (P := PutP) ?_ ?_ p
  · exact ⟨Nat.le_refl _, fun s => ⟨fun h => absurd (show false = true from h) (by decide), fun ⟨x, hx, _⟩ => by cases hx⟩, fun _ => List.Pairwise.nil, fun _ => rfl, fun _ x hx => by cases hx⟩
  · intro l x ih
    have ht := foldS_tidy l
    have e : foldS (l ++ [x]) = (foldS l).put (keyS x.1.2) (.lit (.int .i64 x.1.1)) := foldS_snoc l x
    have hsz := Maps.size_put ht (k := keyS x.1.2) (.lit (.int .i64 x.1.1))
    have hpw : (l ++ [x]).Pairwise (fun x y => x.1.2 ≠ y.1.2) ↔ l.Pairwise (fun x y => x.1.2 ≠ y.1.2) ∧ ∀ y ∈ l, y.1.2 ≠ x.1.2 := by
      rw [List.pairwise_append]
      simp
    have hno : Maps.has (foldS l) (keyS x.1.2) = false ↔ ∀ y ∈ l, y.1.2 ≠ x.1.2 := by
      constructor
      · intro h y hy e'
        have := (ih.has x.1.2).2 ⟨y, hy, e'⟩
        rw [h] at this
        exact absurd this (by simp)
      · intro h
        cases hh : Maps.has (foldS l) (keyS x.1.2) with
        | false => rfl
        | true =>
          obtain ⟨y, hy, e'⟩ := (ih.has x.1.2).1 hh
          exact absurd e' (h y hy)
    have hl : (l ++ [x]).length = l.length + 1 := by simp
    refine ⟨?_, ?_, ?_, ?_, ?_⟩
    · rw [e, hsz, hl]
      have := ih.le
      split <;> omega
    · intro s
      rw [e]
      by_cases hs : keyS s = keyS x.1.2
      · have hs' := keyS_inj hs
        subst hs'
        rw [Maps.has_put_same ht.isMap (keyS_key _)]
        exact ⟨fun _ => ⟨x, by simp, rfl⟩, fun _ => rfl⟩
      · rw [Maps.has_put_other hs, ih.has s]
        constructor
        · rintro ⟨y, hy, e'⟩; exact ⟨y, List.mem_append_left _ hy, e'⟩
        · rintro ⟨y, hy, e'⟩
          rcases List.mem_append.1 hy with hy | hy
          · exact ⟨y, hy, e'⟩
          · rw [List.mem_singleton] at hy
            subst hy
            exact absurd (by rw [e']) hs
    · intro h
      rw [e, hsz, hl] at h
      have := ih.le
      cases hh : Maps.has (foldS l) (keyS x.1.2) with
      | true => rw [hh, if_pos rfl] at h; omega
      | false =>
        rw [hh, if_neg (by simp)] at h
        exact hpw.2 ⟨ih.full (by omega), hno.1 hh⟩
    · intro h
      obtain ⟨h1, h2⟩ := hpw.1 h
      rw [e, hsz, hno.2 h2, if_neg (by simp), hl, ih.size h1]
    · intro h y hy z
      obtain ⟨h1, h2⟩ := hpw.1 h
      rw [e]
      rcases List.mem_append.1 hy with hy | hy
      · rw [Maps.atKey_put_other (fun e' => h2 y hy (keyS_inj e')), ih.at' h1 y hy]
      · rw [List.mem_singleton] at hy
        subst hy
        rw [Maps.atKey_put_same ht.isMap (keyS_key _)]
/-- the names of a row, each once -/
def Once (L : List ByteArray) : Prop := ∀ i j (hi : i < L.length) (hj : j < L.length), L[i] = L[j] → i = j
theorem uptoA_get {α : Type} (el : Nat → α) (n : Nat) (k : Nat) (hk : k < n) : (uptoA el n n)[k]? = some (el (n - 1 - k)) := by
  unfold uptoA
  rw [List.getElem?_map, List.getElem?_range hk]
  rfl
theorem mem_upto {L : List ByteArray} (x : WSok) : x ∈ uptoA (elS L) L.length L.length ↔ ∃ q, q < L.length ∧ x = elS L q := by
  unfold uptoA
  simp only [List.mem_map, List.mem_range]
  constructor
  · rintro ⟨k, hk, rfl⟩; exact ⟨L.length - 1 - k, by omega, rfl⟩
  · rintro ⟨q, hq, rfl⟩; exact ⟨L.length - 1 - q, by omega, by rw [show L.length - 1 - (L.length - 1 - q) = q by omega]⟩
theorem pair_once {L : List ByteArray} (hz : ∀ y ∈ L, y.size ≤ 140737488355328) (hl : (L.length : Int) ≤ 9223372036854775807) : (uptoA (elS L) L.length L.length).Pairwise (fun x y => x.1.2 ≠ y.1.2) ↔ Once L := by
  have hlen := uptoA_length (elS L) L.length L.length
  have hg : ∀ (k : Nat) (hk : k < (uptoA (elS L) L.length L.length).length), (uptoA (elS L) L.length L.length)[k] = elS L (L.length - 1 - k) := fun k hk => by
    have := uptoA_get (elS L) L.length k (by omega)
    rw [List.getElem?_eq_getElem hk] at this
    exact Option.some.inj this
  have hn : ∀ q (h : q < L.length), (elS L q).1.2 = L[q] := fun q h => by rw [elS_at hz hl q h]
  rw [List.pairwise_iff_getElem]
  constructor
  · intro h i j hi hj e
    rcases Nat.lt_trichotomy i j with hlt | he | hlt
    · refine absurd ?_ (h (L.length - 1 - j) (L.length - 1 - i) (by omega) (by omega) (by omega))
      rw [hg, hg, show L.length - 1 - (L.length - 1 - j) = j by omega, show L.length - 1 - (L.length - 1 - i) = i by omega, hn i hi, hn j hj, e]
    · exact he
    · refine absurd ?_ (h (L.length - 1 - i) (L.length - 1 - j) (by omega) (by omega) (by omega))
      rw [hg, hg, show L.length - 1 - (L.length - 1 - j) = j by omega, show L.length - 1 - (L.length - 1 - i) = i by omega, hn i hi, hn j hj, e]
  · intro h i j hi hj hij e
    rw [hg, hg, hn _ (by omega), hn _ (by omega)] at e
    have := h _ _ (by omega) (by omega) e
    omega
theorem plD_tidy (L : List ByteArray) : Maps.Tidy (plD L) := foldS_tidy _
theorem plD_size {L : List ByteArray} (hz : ∀ y ∈ L, y.size ≤ 140737488355328) (hl : (L.length : Int) ≤ 9223372036854775807) : Maps.size (plD L) = L.length ↔ Once L := by
  have h := putP (uptoA (elS L) L.length L.length)
  rw [← pair_once hz hl]
  have hlen := uptoA_length (elS L) L.length L.length
  unfold plD
  constructor
  · intro e; exact h.full (by rw [e, hlen])
  · intro e; rw [h.size e, hlen]
theorem plD_le (L : List ByteArray) : Maps.size (plD L) ≤ L.length := by
  have h := (putP (uptoA (elS L) L.length L.length)).le
  rw [uptoA_length] at h
  exact h
theorem plD_has {L : List ByteArray} (hz : ∀ y ∈ L, y.size ≤ 140737488355328) (hl : (L.length : Int) ≤ 9223372036854775807) (s : ByteArray) : Maps.has (plD L) (keyS s) = true ↔ s ∈ L := by
  unfold plD
  rw [(putP _).has s]
  constructor
  · rintro ⟨x, hx, e⟩
    obtain ⟨q, hq, rfl⟩ := (mem_upto x).1 hx
    rw [elS_at hz hl q hq] at e
    rw [← e]
    exact List.getElem_mem hq
  · intro h
    obtain ⟨q, hq, e⟩ := List.getElem_of_mem h
    exact ⟨elS L q, (mem_upto _).2 ⟨q, hq, rfl⟩, by rw [elS_at hz hl q hq]; exact e⟩
theorem plD_at {L : List ByteArray} (hz : ∀ y ∈ L, y.size ≤ 140737488355328) (hl : (L.length : Int) ≤ 9223372036854775807) (ho : Once L) (q : Nat) (hq : q < L.length) (z : DataW Unit) : (plD L).atKey (keyS L[q]) z = .lit (.int .i64 (q : Int)) := by
  have := (putP (uptoA (elS L) L.length L.length)).at' ((pair_once hz hl).2 ho) (elS L q) ((mem_upto _).2 ⟨q, hq, rfl⟩) z
  rw [elS_at hz hl q hq] at this
  exact this
theorem perm_once {N L : List ByteArray} (h : N.Perm L) (ho : Once L) : Once N := by
  have key : ∀ X : List ByteArray, Once X ↔ X.Nodup := fun X => by
    rw [List.Nodup, List.pairwise_iff_getElem]
    constructor
    · intro h i j hi hj hij e
      have := h i j hi hj e
      omega
    · intro h i j hi hj e
      rcases Nat.lt_trichotomy i j with hlt | he | hlt
      · exact absurd e (h i j hi hj hlt)
      · exact he
      · exact absurd e.symm (h j i hj hi hlt)
  exact (key N).2 (h.nodup_iff.2 ((key L).1 ho))
/-- a look-up in the map of places -/
theorem place_look {W : World} {b n : Nat} {L : List ByteArray} (h : MapP W b n (plD L)) (hz : ∀ y ∈ L, y.size ≤ 140737488355328) (hl : (L.length : Int) ≤ 9223372036854775807) (ho : Once L) (q : Nat) (hq : q < L.length) :
    (Instr.lookup 52 (.map (some b)) (.string L[q]) false).run Tryz.prog W = .ok (.int .i64 (q : Int)) W := by
  have hkey := WideMaps.keyOf_string_mk Tryz.underlying9 (s := L[q]) (by have := hz _ (List.getElem_mem hq); unfold maxLen; omega)
  obtain ⟨c, hrun, hat, hwc⟩ := World.ownsMap.lookup_int h (Maps.string_keyed Tryz.underlying9) Tryz.underlying52 Tryz.underlying3 (Tryz.zeroValue3 _) hkey
  rw [show (plD L).atKey (.string L[q].data.toList) (.lit (.int .i64 0)) = .lit (.int .i64 (q : Int)) from plD_at hz hl ho q hq _] at hat
  simp only [DataW.lit.injEq, Lit.int.injEq, true_and] at hat
  rw [hrun, hat]
end Go.Proofs.YtdjgkbpfmonebaaGreatDoor.Val
