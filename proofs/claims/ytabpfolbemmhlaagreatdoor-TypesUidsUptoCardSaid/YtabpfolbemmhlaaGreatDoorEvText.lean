/-
  A checked evaluator of concrete calls: a text appended to a row of bytes; a row of bytes seen as a text. No walk.
-/
import Derived.Test.YtabpfolbemmhlaaGreatDoorEvMore
namespace Go.Proofs.YtabpfolbemmhlaaGreatDoor.Ev
open Go.ChangeShapes Go.WideShapes Go.ChangeAt Go.RowKit
open Go.Proofs.YtabpfolbemmhlaaGreatDoor.Mem
set_option linter.unusedVariables false
set_option linter.unusedSimpArgs false
def byteVals (s : ByteArray) : List Value := s.data.toList.map fun b => Value.int .u8 b.toNat
theorem byteVals_str (s : ByteArray) : Lib.strCells s = byteVals s := rfl
theorem byteVals_len (s : ByteArray) : (byteVals s).length = s.size := by simp [byteVals]
theorem byteVals_flat (s : ByteArray) : (byteVals s).all flat = true := by
  unfold byteVals
  rw [List.all_eq_true]
  intro v hv
  obtain ⟨b, -, rfl⟩ := List.mem_map.1 hv
  rfl
def isByteRow (P : Program) (t u : TypeId) : Option TypeId :=
  match P.underlying t, P.underlying u with
  | some (.slice el), some .string => match P.info? el with
    | some i => match i.zero with
      | some (.int .u8 0) => bif Nat.beq i.size 1 && Nat.beq i.bytes 1 then some el else none
      | _ => none
    | none => none
  | _, _ => none
theorem isByteRow_of {P : Program} {t u el : TypeId} (h : isByteRow P t u = some el) : ∃ i, P.underlying t = some (.slice el) ∧ P.underlying u = some .string ∧ P.info? el = some i ∧ i.zero = some (.int .u8 0) ∧ i.size = 1 ∧ i.bytes = 1 := by
  unfold isByteRow at h
  split at h
  · rename_i el' ht hu
    split at h
    · rename_i i hi
      split at h
      · rename_i hz
        obtain ⟨h1, h2⟩ := bif_some h
        subst h2
        simp only [Bool.and_eq_true] at h1
        exact ⟨i, ht, hu, hi, hz, Nat.eq_of_beq_eq_true h1.1, Nat.eq_of_beq_eq_true h1.2⟩
      · cases h
    · cases h
  · cases h
noncomputable def evAppendStr (P : Program) (s : St) (t u : TypeId) (x : Value) (y : ByteArray) : Option (Value × St) :=
  match isByteRow P t u with
  | none => none
  | some el =>
    if s.next < 2 ^ 40 ∧ y.size ≤ 16777216 then
      match x with
      | .slice none 0 0 => if y.size = 0 then some (.slice none 0 0, s) else some (.slice (some ⟨s.name, 0, none⟩) y.size 0, s.alloc (byteVals y) el (some 1))
      | .slice (some ⟨n, 0, none⟩) len 0 =>
        match s.get n with
        | some c => if n < 2 ^ 40 ∧ c.row = some 1 ∧ c.ro = false ∧ c.ty = el ∧ c.cells.length = len ∧ len ≤ 16777216 ∧ 0 < len then
            some (.slice (some ⟨s.name, 0, none⟩) (len + y.size) 0, (s.put n none).alloc (c.cells ++ byteVals y) el (some 1)) else none
        | none => none
      | _ => none
    else none
theorem evAppendStr_sound {P : Program} {m : Mu} {s s' : St} {B : Nat} {W : World} (h : Holds m s B W) {t u ty : TypeId} {x x' v : Value} {y : ByteArray} (hx : R m x x') (e : evAppendStr P s t u x y = some (v, s')) :
    ∃ v' W' m', (Builtin.append_ #[t, u] ty #[x', .string y]).run P W = .ok v' W' ∧ R m' v v' ∧ Sub m m' ∧ Holds m' s' B W' ∧ Below B W W' := by
  unfold evAppendStr at e
  split at e
  · cases e
  · rename_i el hel
    obtain ⟨i, ht, hu, hi, hz, hs1, hb1⟩ := isByteRow_of hel
    split at e
    · rename_i hq
      obtain ⟨q1, q2⟩ := hq
      have hml : maxLen = 9223372036854775807 := rfl
      split at e
      · cases hx with
        | sliceNil =>
          split at e
          · rename_i hy0
            cases e
            obtain ⟨v', W', hrun, ho, hgr, hiff⟩ := Lib.run_append_own_string (P := P) (w := W) B t u ty el i ht hu hi hz hs1 hb1 (.slice none 0 0) 0 [] ⟨by simp, .inl ⟨rfl, rfl⟩⟩ y (by omega) (by omega) h.room
            have hv := hiff.2 ⟨rfl, hy0⟩
            subst hv
            have hb : Below B W W' := (Below.refl B W).grown hgr h.room (fun j hj => by cases hj)
            have hb2 : Below W.heap.size W W' := (Below.refl W.heap.size W).grown hgr (Nat.le_refl _) (fun j hj => by cases hj)
            exact ⟨_, W', m, hrun, .sliceNil, Sub.refl m, h.below hb2, hb⟩
          · rename_i hy0
            cases e
            obtain ⟨v', W', hrun, ho, hgr, hpl⟩ := run_append_place_str (P := P) W B t u ty el i ht hu hi hz hs1 hb1 (.slice none 0 0) 0 [] ⟨by simp, .inl ⟨rfl, rfl⟩⟩ y (by omega) (by omega) h.room
            obtain ⟨g, cap, tail, rfl, hgB, hkc, hcm, hblk, hlen, hob⟩ := own_form ho (by omega)
            have hb : Below B W W' := (Below.refl B W).grown hgr h.room (fun j hj => by cases hj)
            have hge : W.heap.size ≤ g := by
              rcases hpl with hp | ⟨g', hp, hge⟩
              · rw [hob] at hp; cases hp
              · rw [hob] at hp; cases hp; exact hge
            have hkeep : ∀ n c l, n < 2 ^ 40 → s.get n = some c → m n = some l → W'.heap[l.blk]? = W.heap[l.blk]? ∧ l.blk ≠ g := fun n c l hn hc hl => by
              obtain ⟨l', h1, h2⟩ := h.at' n c hn hc
              rw [hl] at h1; cases h1
              have hlt := h2.lt h.room
              exact ⟨hgr.block _ hlt (fun q => by cases q), by omega⟩
            obtain ⟨g1, g2⟩ := h.land q1 hb hgB hkeep (fun n c l hn hc hl => by
              obtain ⟨l', h1, h2⟩ := h.maps.1 n c hn hc
              rw [hl] at h1; cases h1
              exact hgr.block _ h2.lt (fun q => by cases q)) (RL.of_flat (m := m) (byteVals_flat y)) (t := el) (tail := tail) (by rw [byteVals_str] at hblk; simpa using hblk) (some 1) (cap := cap) (fun k' hk' => by cases hk'; rw [byteVals_str] at hlen; simpa using hlen) (by simp)
            exact ⟨_, W', _, hrun, by simpa using R.slice s.name 0 (0 + y.size) 0 ⟨g, cap⟩ (by simp [Mu.put]) (by simpa using hkc) hcm, g1, g2, hb⟩
      · rename_i n len
        split at e
        · rename_i c hc
          split at e
          · rename_i hw
            obtain ⟨w1, w2, w3, w4, w5, w6, w7⟩ := hw
            cases e
            cases hx with
            | slice _ _ _ _ l hl hcap hcm0 =>
              obtain ⟨l', h1, h2⟩ := h.at' n c w1 hc
              rw [hl] at h1; cases h1
              obtain ⟨hB, rl, tl, hrl, hblk0, hrow0, -⟩ := h2.own w3
              have hlen0 := hrow0 _ w2
              have hrlen : rl.length = len := by rw [← hrl.length]; exact w5
              have hown : W.ownsRow B el 1 (.slice (some ⟨l.blk, 0, none⟩) len (l.cap - 0)) len rl := by
                refine ⟨by simpa using hrlen, .inr ⟨l.blk, l.cap, (rl ++ tl).toArray, by rw [Nat.sub_zero], hB, by rw [← w4]; exact hblk0.at', by omega, hcm0, by simpa using hlen0, by rw [← hrlen]; simp⟩⟩
              obtain ⟨v', W', hrun, ho, hgr, hpl⟩ := run_append_place_str (P := P) W B t u ty el i ht hu hi hz hs1 hb1 _ len rl hown y (by omega) (by omega) h.room
              obtain ⟨g, cap, tail, rfl, hgB, hkc, hcm, hblk, hlen, hob⟩ := own_form ho (by omega)
              have hownb : (Value.slice (some ⟨l.blk, 0, none⟩) len (l.cap - 0)).ownBlock = some l.blk := rfl
              have hb : Below B W W' := (Below.refl B W).grown hgr h.room (fun j hj => by rw [hownb] at hj; cases hj; exact hB)
              have hd := h.drop n w1
              have hkeep : ∀ k' c' e', k' < 2 ^ 40 → (s.put n none).get k' = some c' → m k' = some e' → W'.heap[e'.blk]? = W.heap[e'.blk]? ∧ e'.blk ≠ g := fun k' c' e' hk' hc' he' => by
                have hkn : k' ≠ n := fun hkn => by subst hkn; rw [St.get_put_same _ _ _ hk'] at hc'; cases hc'
                have hc2 : s.get k' = some c' := (St.get_put_other s none hkn).symm.trans hc'
                obtain ⟨e2, h3, h4⟩ := h.at' k' c' hk' hc2
                rw [he'] at h3; cases h3
                have hlt := h4.lt h.room
                have hne : e'.blk ≠ l.blk := fun q => hkn (h.inj k' n c' c e' l hc2 hc he' hl q)
                refine ⟨hgr.block _ hlt (fun q => hne (by rw [hownb] at q; simpa using q)), ?_⟩
                rcases hpl with hp | ⟨g', hp, hge⟩
                · rw [hob, hownb] at hp; have hp2 : g = l.blk := by simpa using hp
                  rw [hp2]; exact hne
                · rw [hob] at hp; cases hp; omega
              obtain ⟨g1, g2⟩ := hd.land q1 hb hgB hkeep (fun n' c' l' hn' hc' hl' => by
                obtain ⟨l2, h1, h2⟩ := hd.maps.1 n' c' hn' hc'
                rw [hl'] at h1; cases h1
                exact hgr.block _ h2.lt (fun q => h2.ne hblk0 (by rw [hownb] at q; simpa using q))) (hrl.append (RL.of_flat (m := m) (byteVals_flat y))) (t := el) (tail := tail) (by rw [byteVals_str] at hblk; exact hblk) (some 1) (cap := cap) (fun k' hk' => by cases hk'; rw [byteVals_str] at hlen; exact hlen) (by simp)
              exact ⟨_, W', _, hrun, (show R (m.put (s.put n none).name ⟨g, cap⟩) (.slice (some ⟨s.name, 0, none⟩) (len + y.size) 0) (.slice (some ⟨g, 0, none⟩) (len + y.size) cap) from R.slice s.name 0 (len + y.size) 0 ⟨g, cap⟩ (show (m.put s.name _) s.name = _ by simp [Mu.put]) (by simpa using hkc) hcm), g1, g2, hb⟩
          · cases e
        · cases e
      · cases e
    · cases e
/-! ### bytes seen as a text -/
def evSliceData : Value → Option Value
  | .slice (some ⟨n, o, none⟩) (k + 1) _ => some (.pointer (some ⟨n, o, none⟩))
  | _ => none
theorem evSliceData_sound {P : Program} {m : Mu} {x x' v : Value} (hx : R m x x') (e : evSliceData x = some v) (ts : Array TypeId) (ty : TypeId) (W : World) : ∃ v', (Builtin.unsafeSliceData_ ts ty #[x']).run P W = .ok v' W ∧ R m v v' := by
  unfold evSliceData at e
  split at e
  · cases e
    rename_i n o k ex
    cases hx with
    | slice _ _ _ _ l hl hc hm => exact ⟨_, Lib.run_unsafeSliceData_row W ts ty ⟨l.blk, o, none⟩ _ _ (by omega), .ptr n o l hl⟩
  · cases e
/-- the bytes that cells hold -/
def bytesOf : List Value → Option (List UInt8)
  | [] => some []
  | .int .u8 (.ofNat n) :: l => match bytesOf l with
    | some r => bif Nat.blt n 256 then some (UInt8.ofNat n :: r) else none
    | none => none
  | _ => none
theorem bytesOf_get : ∀ (l : List Value) (r : List UInt8), bytesOf l = some r → l.length = r.length ∧ ∀ (j : Nat) (x : UInt8), r[j]? = some x → l[j]? = some (Value.int .u8 x.toNat) := by
  intro l
  induction l with
  | nil => intro r h; cases h; exact ⟨rfl, fun j x h => by simp at h⟩
  | cons v l ih =>
    intro r h
    unfold bytesOf at h
    split at h
    · rename_i heq; cases heq
    · rename_i n l' heq
      cases heq
      split at h
      · rename_i r' hr
        obtain ⟨h1, h2⟩ := bif_some h
        subst h2
        have hn : n < 256 := by simpa [Nat.blt_eq] using h1
        obtain ⟨g1, g2⟩ := ih _ hr
        refine ⟨by simp [g1], fun j x hj => ?_⟩
        cases j with
        | zero =>
          simp only [List.getElem?_cons_zero, Option.some.injEq] at hj
          subst hj
          simp [UInt8.toNat_ofNat_of_lt' hn]
        | succ j => simpa using g2 j x (by simpa using hj)
      · cases h
    · cases h
def isBytePtr (P : Program) (pt : TypeId) : Option TypeId := match P.underlying pt with
  | some (.pointer e) => bif Nat.beq (P.cellsOf e) 1 then some e else none
  | _ => none
noncomputable def evUnsafeStr (P : Program) (s : St) (pt : TypeId) (x y : Value) : Option (Value × St) :=
  match y with
  | .int .i64 (.ofNat 0) => match x with
    | .pointer _ => some (.string .empty, s)
    | _ => none
  | .int .i64 (.ofNat (k + 1)) => match x, isBytePtr P pt with
    | .pointer (some ⟨n, 0, none⟩), some e => match s.get n with
      | some c => if n < 2 ^ 40 ∧ c.ro = false ∧ c.ty = e ∧ k + 1 ≤ c.cells.length ∧ k + 1 ≤ 16777216 then
          match bytesOf (c.cells.take (k + 1)) with
          | some l => some (.string ⟨l.toArray⟩, s.put n none)
          | none => none
        else none
      | none => none
    | _, _ => none
  | _ => none
theorem Holds.turned {m : Mu} {s : St} {B : Nat} {W W' : World} (h : Holds m s B W) (hs : Below B W W') (hk : ∀ n c l, n < 2 ^ 40 → s.get n = some c → m n = some l → W'.heap[l.blk]? = W.heap[l.blk]?) (hkm : ∀ n c l, n < 2 ^ 40 → s.get (n + 2 ^ 40) = some c → m n = some l → W'.heap[l.blk]? = W.heap[l.blk]?) : Holds m s B W' :=
  ⟨h.fresh, h.laid, h.cin, h.big, Nat.le_trans h.room hs.size, fun n c hn hc => by
    obtain ⟨l, h1, h2⟩ := h.at' n c hn hc
    exact ⟨l, h1, h2.turn (hk n c l hn hc h1)⟩, h.inj, h.glob, h.keep.up hs, ⟨fun n c hn hc => by
    obtain ⟨l, h1, h2⟩ := h.maps.1 n c hn hc
    exact ⟨l, h1, h2.turn (hkm n c l hn hc h1)⟩, h.maps.2⟩⟩
theorem evUnsafeStr_sound {P : Program} {m : Mu} {s s' : St} {B : Nat} {W : World} (h : Holds m s B W) {pt it ty : TypeId} {x x' y y' v : Value} (hx : R m x x') (hy : R m y y') (e : evUnsafeStr P s pt x y = some (v, s')) :
    ∃ v' W', (Builtin.unsafeString_ #[pt, it] ty #[x', y']).run P W = .ok v' W' ∧ R m v v' ∧ Holds m s' B W' ∧ Below B W W' := by
  unfold evUnsafeStr at e
  split at e
  · split at e
    · cases e
      cases hy
      have hxp : ∃ p, x' = .pointer p := by cases hx <;> exact ⟨_, rfl⟩
      obtain ⟨p, rfl⟩ := hxp
      exact ⟨_, W, Lib.run_unsafeString_none W pt it ty p, .string _, h, Below.refl B W⟩
    · cases e
  · rename_i k
    split at e
    · rename_i n e1 hbp
      split at e
      · rename_i c hc
        split at e
        · rename_i hw
          obtain ⟨w1, w2, w3, w4, w5⟩ := hw
          split at e
          · rename_i l hl
            cases e
            cases hx with
            | ptr _ _ lo hlo =>
              cases hy
              obtain ⟨b1, b2⟩ := bytesOf_get _ _ hl
              have hlen : l.length = k + 1 := by rw [← b1, List.length_take]; omega
              unfold isBytePtr at hbp
              split at hbp
              · rename_i e2 hu
                obtain ⟨c1, c2⟩ := bif_some hbp
                subst c2
                have hcells := Nat.eq_of_beq_eq_true c1
                obtain ⟨lo', h1, h2⟩ := h.at' n c w1 hc
                rw [hlo] at h1; cases h1
                obtain ⟨hB, rl, tail, hrl, hblk, hrow, -⟩ := h2.own w2
                have hsh := Blk.shape hblk
                rw [w3] at hsh
                have hrl2 := hrl.length
                have hcell : ∀ j x, l[j]? = some x → W.cell? ((⟨lo.blk, 0, none⟩ : Addr).add j) = some (.int .u8 x.toNat) := fun j x hj => by
                  have hj2 : j < k + 1 := by rw [← hlen]; exact (List.getElem?_eq_some_iff.1 hj).1
                  have hb := b2 j x hj
                  rw [List.getElem?_take, if_pos hj2] at hb
                  obtain ⟨yv, hy1, hy2⟩ := h.read hc hlo j hb
                  rw [Mem.add_plain, Nat.zero_add, hy1]
                  rw [hy2.flat_eq rfl]
                have hrun := Lib.run_unsafeString_row (P := P) W pt it ty e2 hu hcells lo.blk (rl ++ tail).length hsh l (by intro q; rw [q] at hlen; simp at hlen) (by rw [hlen, List.length_append]; omega) (by omega) hcell
                rw [hlen] at hrun
                refine ⟨_, _, by simpa using hrun, .string _, ?_, Lib.below_freeze (Below.refl B W) (p := ⟨lo.blk, 0, none⟩) hB _⟩
                refine (h.drop n w1).turned ?_ (fun n' c' l' hn' hc' hl' => ?_) (fun n' c' l' hn' hc' hl' => ?_)
                · exact Lib.below_freeze (Below.refl B W) (p := ⟨lo.blk, 0, none⟩) hB _
                · have hkn : n' ≠ n := fun hkn => by subst hkn; rw [St.get_put_same _ _ _ hn'] at hc'; cases hc'
                  have hc2 : s.get n' = some c' := (St.get_put_other s none hkn).symm.trans hc'
                  have hne : l'.blk ≠ lo.blk := fun q => hkn (h.inj n' n c' c l' lo hc2 hc hl' hlo q)
                  unfold World.freeze
                  split
                  · rfl
                  · simp only [Array.getElem?_modify]
                    rw [if_neg (fun q => hne q.symm)]
                · obtain ⟨l2, h1, h2⟩ := (h.drop n w1).maps.1 n' c' hn' hc'
                  rw [hl'] at h1; cases h1
                  have hne : l'.blk ≠ lo.blk := h2.ne hblk
                  unfold World.freeze
                  split
                  · rfl
                  · simp only [Array.getElem?_modify]
                    rw [if_neg (fun q => hne q.symm)]
              · cases hbp
          · cases e
        · cases e
      · cases e
    · cases e
  · cases e
end Go.Proofs.YtabpfolbemmhlaaGreatDoor.Ev
