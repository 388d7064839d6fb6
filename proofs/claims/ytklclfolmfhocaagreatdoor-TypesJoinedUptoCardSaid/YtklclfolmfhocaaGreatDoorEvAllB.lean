/-
  The evaluator of concrete calls: EvAppend, EvMore, EvText, EvMap, EvOp in one. Written by wip/groups.py.
-/
import Derived.Test.YtklclfolmfhocaaGreatDoorEvAllA
import Derived.Test.YtklclfolmfhocaaGreatDoorRowOwn
import Derived.Lib.Builder
import Derived.Lib.AppendStr
import Derived.Lib.UnsafeStr
import Derived.Laws.Externs
import Derived.Laws.Pointers
import Derived.Laws.Cover3
import Derived.KernelRfl
import Derived.MapKept
import Derived.Carry
namespace Go.Proofs.YtklclfolmfhocaaGreatDoor.Ev
open Go.ChangeShapes Go.WideShapes Go.ChangeAt Go.RowKit
open Go.Proofs.YtklclfolmfhocaaGreatDoor.Mem
set_option linter.unusedVariables false
set_option linter.unusedSimpArgs false
theorem cell_of_block {W W' : World} {b : Nat} (e : W'.heap[b]? = W.heap[b]?) (j : Nat) : W'.cell? ⟨b, j, none⟩ = W.cell? ⟨b, j, none⟩ := by
  unfold World.cell?
  rw [show (⟨b, j, none⟩ : Addr).block = b from rfl, e]
theorem Lies.turn {m : Mu} {B : Nat} {W W' : World} {c : Cells} {l : Loc} (e : W'.heap[l.blk]? = W.heap[l.blk]?) (h : Lies m B W c l) : Lies m B W' c l := by
  refine ⟨fun q => ?_, h.low, ?_⟩
  · obtain ⟨h1, rl, tail, h2, h3, h4⟩ := h.own q
    exact ⟨h1, rl, tail, h2, ⟨e.trans h3.at'⟩, h4⟩
  · obtain ⟨rl, h1, h2⟩ := h.cell
    exact ⟨rl, h1, fun j hj => (cell_of_block e j).trans (h2 j hj)⟩
/-- a name for a block that a call left -/
theorem Holds.land {m : Mu} {s : St} {B : Nat} {W W' : World} (h : Holds m s B W) (hn : s.next < 2 ^ 40) (hb : Below B W W') {g cap : Nat} (hg : B ≤ g)
    (hk : ∀ n c l, n < 2 ^ 40 → s.get n = some c → m n = some l → W'.heap[l.blk]? = W.heap[l.blk]? ∧ l.blk ≠ g) (hkm : ∀ n c l, n < 2 ^ 40 → s.get (n + 2 ^ 40) = some c → m n = some l → W'.heap[l.blk]? = W.heap[l.blk]?) {cs rl tail : List Value} (hr : RL m cs rl) {t : TypeId} (hB : Blk W' g (rl ++ tail) t) (row : Option Nat) (hrow : ∀ k, row = some k → (rl ++ tail).length = cap * k) (hnr : row ≠ none) :
    Sub m (m.put s.name ⟨g, cap⟩) ∧ Holds (m.put s.name ⟨g, cap⟩) (s.alloc cs t row) B W' := by
  have hs : Sub m (m.put s.name ⟨g, cap⟩) := Sub.put _ (h.name hn).1
  have hmu : (m.put s.name ⟨g, cap⟩) s.name = some ⟨g, cap⟩ := by simp [Mu.put]
  have hold : ∀ k, k ≠ s.name → (m.put s.name ⟨g, cap⟩) k = m k := fun k hk => by simp [Mu.put, hk]
  have hget : ∀ k c, k < 2 ^ 40 → (s.alloc cs t row).get k = some c → (k = s.name ∧ c = ⟨cs, t, row, false⟩) ∨ (k ≠ s.name ∧ s.get k = some c) := fun k c hk e => by
    by_cases hk2 : k = s.name
    · subst hk2
      exact .inl ⟨rfl, Option.some.inj (e.symm.trans ((St.alloc_get s cs t row _).trans (St.get_put_same s s.name (some (⟨cs, t, row, false⟩ : Cells)) hk)))⟩
    · exact .inr ⟨hk2, (St.get_put_other s (some (⟨cs, t, row, false⟩ : Cells)) hk2).symm.trans ((St.alloc_get s cs t row _).symm.trans e)⟩
  have hnew : Lies (m.put s.name ⟨g, cap⟩) B W' ⟨cs, t, row, false⟩ ⟨g, cap⟩ := by
    refine ⟨fun _ => ⟨hg, rl, tail, hr.up hs, hB, hrow, fun q => absurd q hnr⟩, fun e => (by cases e), rl, hr.up hs, fun j hj => ?_⟩
    rw [hB.cell j (by rw [List.length_append]; omega), List.getElem_append_left hj]
  have hname : ∀ k l, (m.put s.name ⟨g, cap⟩) k = some l → k < 2 ^ 40 := fun k l e => by
    by_cases hk : k = s.name
    · have := (h.name hn).2; omega
    · rw [hold k hk] at e; exact R.name_lt h e
  obtain ⟨f1, f2, f3, f4⟩ := h.names hn ⟨g, cap⟩ cs t row
  refine ⟨hs, ⟨f1, f2, f3, f4, Nat.le_trans h.room hb.size, fun n c hn2 hc => ?_, fun n k c d l e hc hd hl he heq => ?_, fun n c hn2 hc hro => ?_, h.keep.up hb, ⟨fun n c hn2 hc => by
    rw [St.alloc_high s cs t row (h.name hn).2] at hc
    obtain ⟨l, h3, h4⟩ := h.maps.1 n c hn2 hc
    exact ⟨l, hs _ _ h3, (h4.turn (hkm n c l hn2 hc h3)).up hs⟩, fun n k c d l e hn2 hk2 hc hd hl he => by
    rw [St.alloc_high s cs t row (h.name hn).2] at hc hd
    obtain ⟨l1, h3, h4⟩ := h.maps.1 n c hn2 hc
    obtain ⟨l2, h5, h6⟩ := h.maps.1 k d hk2 hd
    rw [hs _ _ h3] at hl; cases hl
    rw [hs _ _ h5] at he; cases he
    exact h.maps.2 n k c d _ _ hn2 hk2 hc hd h3 h5⟩⟩⟩
  · rcases hget n c hn2 hc with ⟨rfl, rfl⟩ | ⟨h1, h2⟩
    · exact ⟨_, hmu, hnew⟩
    · obtain ⟨l, h3, h4⟩ := h.at' n c hn2 h2
      exact ⟨l, hs _ _ h3, (h4.turn (hk n c l hn2 h2 h3).1).up hs⟩
  · rcases hget n c (hname n l hl) hc with ⟨rfl, rfl⟩ | ⟨h1, h2⟩
    · rcases hget k d (hname k e he) hd with ⟨h3, _⟩ | ⟨h3, h4⟩
      · exact h3.symm
      · have he2 := he
        rw [hold k h3] at he2
        have := (hk k d e (hname k e he) h4 he2).2
        rw [hmu] at hl; cases hl
        exact absurd heq.symm this
    · rcases hget k d (hname k e he) hd with ⟨rfl, rfl⟩ | ⟨h3, h4⟩
      · have hl2 := hl
        rw [hold n h1] at hl2
        have := (hk n c l (hname n l hl) h2 hl2).2
        rw [hmu] at he; cases he
        exact absurd heq this
      · rw [hold n h1] at hl
        rw [hold k h3] at he
        exact h.inj n k c d l e h2 h4 hl he heq
  · rcases hget n c hn2 hc with ⟨rfl, rfl⟩ | ⟨h1, h2⟩
    · cases hro
    · obtain ⟨cap', h3⟩ := h.glob n c hn2 h2 hro
      exact ⟨cap', hs _ _ h3⟩
noncomputable def evAppend (P : Program) (s : St) (t : TypeId) (x y : Value) : Option (Value × St) :=
  match P.underlying t, y with
  | some (.slice el), .slice (some ⟨ny, oy, none⟩) k _ =>
    match P.info? el, s.get ny with
    | some i, some cy =>
      match i.zero with
      | some z =>
        if s.next < 2 ^ 40 ∧ 0 < k ∧ 0 < i.size ∧ z.cells.size = i.size ∧ ((cy.cells.drop oy).take (k * i.size)).length = k * i.size ∧ ((cy.cells.drop oy).take (k * i.size)).all (·.oneCell') = true then
          match x with
          | .slice none 0 0 => if k * i.bytes ≤ 140737488355328 ∧ k ≤ maxLen then some (.slice (some ⟨s.name, 0, none⟩) k 0, s.alloc ((cy.cells.drop oy).take (k * i.size)) el (some i.size)) else none
          | .slice (some ⟨n, 0, none⟩) len 0 =>
            match s.get n with
            | some c => if n < 2 ^ 40 ∧ c.row = some i.size ∧ c.ro = false ∧ c.ty = el ∧ c.cells.length = len * i.size ∧ (len + k) * i.bytes ≤ 140737488355328 ∧ len + k ≤ maxLen then
                some (.slice (some ⟨s.name, 0, none⟩) (len + k) 0, (s.put n none).alloc (c.cells ++ (cy.cells.drop oy).take (k * i.size)) el (some i.size)) else none
            | none => none
          | _ => none
        else none
      | none => none
    | _, _ => none
  | _, _ => none
/-- a row of the call's own, as a block -/
theorem own_form {w : World} {base : Nat} {e : TypeId} {size n : Nat} {v : Value} {xs : List Value} (h : w.ownsRow base e size v n xs) (hn : 0 < n) :
    ∃ g cap tail, v = .slice (some ⟨g, 0, none⟩) n cap ∧ base ≤ g ∧ n ≤ cap ∧ cap ≤ maxLen ∧ Blk w g (xs ++ tail) e ∧ (xs ++ tail).length = cap * size ∧ v.ownBlock = some g := by
  rcases h.2 with ⟨rfl, h0⟩ | ⟨g, cap, cur, rfl, hb, hh, hnc, hcm, hcs, htake⟩
  · omega
  · have e1 : cur.toList = xs ++ cur.toList.drop (n * size) := by
      have := (List.take_append_drop (n * size) cur.toList).symm
      rw [htake] at this
      exact this
    refine ⟨g, cap, cur.toList.drop (n * size), rfl, hb, hnc, hcm, ⟨?_⟩, ?_, rfl⟩
    · rw [hh, ← e1]
    · rw [← e1, Array.length_toList, hcs]
theorem evAppend_sound {P : Program} {m : Mu} {s s' : St} {B : Nat} {W : World} (h : Holds m s B W) {t ty : TypeId} {x x' y y' v : Value} (hx : R m x x') (hy : R m y y') (e : evAppend P s t x y = some (v, s')) :
    ∃ v' W' m', (Builtin.append_ #[t, t] ty #[x', y']).run P W = .ok v' W' ∧ R m' v v' ∧ Sub m m' ∧ Holds m' s' B W' ∧ Below B W W' := by
  unfold evAppend at e
  split at e
  · rename_i el ny oy k ce hu
    cases hy with
    | slice _ _ _ ey ly hly hcy hmy =>
      split at e
      · rename_i i cy hi hcell
        split at e
        · rename_i z hz
          split at e
          · rename_i hq
            obtain ⟨q1, q2, q3, q4, q5, q6⟩ := hq
            obtain ⟨nr, hnr, hrange⟩ := h.range hcell hly oy (k * i.size)
            have hnl : nr.length = k * i.size := by rw [← hnr.length]; exact q5
            have hnews : ∀ j u, nr[j]? = some u → W.cell? ((⟨ly.blk, oy, none⟩ : Addr).add j) = some u := fun j u hj => by rw [Mem.add_plain]; exact hrange j u hj
            split at e
            · split at e
              · rename_i hw
                cases e
                cases hx with
                | sliceNil =>
                  obtain ⟨v', W', hrun, ho, hgr, hpl⟩ := run_append_place (P := P) W B t ty el i z i.size i.bytes hu hi hz rfl rfl q4 q3 (.slice none 0 0) 0 [] ⟨by simp, .inl ⟨rfl, rfl⟩⟩ ⟨ly.blk, oy, none⟩ k (ly.cap - ce) nr hnl hnews (hnr.one q6) (by omega) (by simpa using hw.1) h.room
                  obtain ⟨g, cap, tail, rfl, hgB, hkc, hcm, hblk, hlen, hob⟩ := own_form ho (by omega)
                  have hb : Below B W W' := (Below.refl B W).grown hgr h.room (fun j hj => by cases hj)
                  have hge : W.heap.size ≤ g := by
                    rcases hpl with hp | ⟨g', hp, hge⟩
                    · rw [hob] at hp; cases hp
                    · rw [hob] at hp; cases hp; exact hge
                  have hkeep : ∀ n c l, n < 2 ^ 40 → s.get n = some c → m n = some l → W'.heap[l.blk]? = W.heap[l.blk]? ∧ l.blk ≠ g := fun n c l hn hc hl => by
                    obtain ⟨l', h1, h2⟩ := h.at' n c hn hc
                    rw [hl] at h1; cases h1
                    have hlt := h2.lt h.room
                    exact ⟨hgr.block _ hlt (fun q => by cases q), by omega⟩
                  obtain ⟨g1, g2⟩ := h.land q1 hb hgB hkeep (fun n c l hn hc hl => by
                    obtain ⟨l', h1, h2⟩ := h.maps.1 n c hn hc
                    rw [hl] at h1; cases h1
                    exact hgr.block _ h2.lt (fun q => by cases q)) hnr (t := el) (tail := tail) (by simpa using hblk) (some i.size) (cap := cap) (fun k' hk' => by cases hk'; simpa using hlen) (by simp)
                  exact ⟨_, W', _, hrun, by simpa using R.slice s.name 0 (0 + k) 0 ⟨g, cap⟩ (by simp [Mu.put]) (by simpa using hkc) hcm, g1, g2, hb⟩
              · cases e
            · rename_i n len
              split at e
              · rename_i c hc
                split at e
                · rename_i hw
                  obtain ⟨w1, w2, w3, w4, w5, w6, w7⟩ := hw
                  cases e
                  cases hx with
                  | slice _ _ _ _ l hl hcap hcm0 =>
                    obtain ⟨l', h1, h2⟩ := h.at' n c w1 hc
                    rw [hl] at h1; cases h1
                    obtain ⟨hB, rl, tl, hrl, hblk0, hrow0, -⟩ := h2.own w3
                    have hlen0 := hrow0 _ w2
                    have hrlen : rl.length = len * i.size := by rw [← hrl.length]; exact w5
                    have hown : W.ownsRow B el i.size (.slice (some ⟨l.blk, 0, none⟩) len (l.cap - 0)) len rl := by
                      refine ⟨hrlen, .inr ⟨l.blk, l.cap, (rl ++ tl).toArray, by rw [Nat.sub_zero], hB, by rw [← w4]; exact hblk0.at', by omega, hcm0, by simpa using hlen0, by rw [← hrlen]; simp⟩⟩
                    obtain ⟨v', W', hrun, ho, hgr, hpl⟩ := run_append_place (P := P) W B t ty el i z i.size i.bytes hu hi hz rfl rfl q4 q3 _ len rl hown ⟨ly.blk, oy, none⟩ k (ly.cap - ce) nr hnl hnews (hnr.one q6) w7 w6 h.room
                    obtain ⟨g, cap, tail, rfl, hgB, hkc, hcm, hblk, hlen, hob⟩ := own_form ho (by omega)
                    have hownb : (Value.slice (some ⟨l.blk, 0, none⟩) len (l.cap - 0)).ownBlock = some l.blk := rfl
                    have hb : Below B W W' := (Below.refl B W).grown hgr h.room (fun j hj => by rw [hownb] at hj; cases hj; exact hB)
                    have hd := h.drop n w1
                    have hkeep : ∀ k' c' e', k' < 2 ^ 40 → (s.put n none).get k' = some c' → m k' = some e' → W'.heap[e'.blk]? = W.heap[e'.blk]? ∧ e'.blk ≠ g := fun k' c' e' hk' hc' he' => by
                      have hkn : k' ≠ n := fun hkn => by subst hkn; rw [St.get_put_same _ _ _ hk'] at hc'; cases hc'
                      have hc2 : s.get k' = some c' := (St.get_put_other s none hkn).symm.trans hc'
                      obtain ⟨e2, h3, h4⟩ := h.at' k' c' hk' hc2
                      rw [he'] at h3; cases h3
                      have hlt := h4.lt h.room
                      have hne : e'.blk ≠ l.blk := fun q => hkn (h.inj k' n c' c e' l hc2 hc he' hl q)
                      refine ⟨hgr.block _ hlt (fun q => hne (by rw [hownb] at q; simpa using q)), ?_⟩
                      rcases hpl with hp | ⟨g', hp, hge⟩
                      · rw [hob, hownb] at hp; have hp2 : g = l.blk := by simpa using hp
                        rw [hp2]; exact hne
                      · rw [hob] at hp; cases hp; omega
                    obtain ⟨g1, g2⟩ := hd.land q1 hb hgB hkeep (fun n' c' l' hn' hc' hl' => by
                      obtain ⟨l2, h1, h2⟩ := hd.maps.1 n' c' hn' hc'
                      rw [hl'] at h1; cases h1
                      exact hgr.block _ h2.lt (fun q => h2.ne hblk0 (by rw [hownb] at q; simpa using q))) (hrl.append hnr) (t := el) (tail := tail) hblk (some i.size) (cap := cap) (fun k' hk' => by cases hk'; exact hlen) (by simp)
                    exact ⟨_, W', _, hrun, (show R (m.put (s.put n none).name ⟨g, cap⟩) (.slice (some ⟨s.name, 0, none⟩) (len + k) 0) (.slice (some ⟨g, 0, none⟩) (len + k) cap) from R.slice s.name 0 (len + k) 0 ⟨g, cap⟩ (show (m.put s.name _) s.name = _ by simp [Mu.put]) (by simpa using hkc) hcm), g1, g2, hb⟩
                · cases e
              · cases e
            · cases e
          · cases e
        · cases e
      · cases e
  · cases e
end Go.Proofs.YtklclfolmfhocaaGreatDoor.Ev
namespace Go.Proofs.YtklclfolmfhocaaGreatDoor.Ev
open Go.ChangeShapes Go.WideShapes Go.ChangeAt Go.RowKit
open Go.Proofs.YtklclfolmfhocaaGreatDoor.Mem
set_option linter.unusedVariables false
set_option linter.unusedSimpArgs false
/-! ### compared with nil, or with itself -/
def isPtr (P : Program) (t : TypeId) : Bool := match P.underlying t with
  | some (.pointer e) => (P.info? e).isSome
  | _ => false
def isSl (P : Program) (t : TypeId) : Bool := match P.underlying t with
  | some (.slice _) => true
  | _ => false
def isIf (P : Program) (t : TypeId) : Bool := match P.underlying t with
  | some (.interface _) => true
  | _ => false
def isFnT (P : Program) (t : TypeId) : Bool := match P.underlying t with
  | some (.func _ _ _) => true
  | _ => false
def evSame (P : Program) (t : TypeId) : Value → Value → Option Bool
  | .pointer none, .pointer b => bif isPtr P t then some b.isNone else none
  | .pointer (some _), .pointer none => bif isPtr P t then some false else none
  | .pointer (some ⟨n, o, none⟩), .pointer (some ⟨n', o', none⟩) => bif isPtr P t && Nat.beq n n' && Nat.beq o o' then some true else none
  | .slice a _ _, .slice none 0 0 => bif isSl P t then some a.isNone else none
  | .iface _ _, .nilIface => bif isIf P t then some false else none
  | .nilIface, .iface _ _ => bif isIf P t then some false else none
  | .func _ _ _, .nilFunc => bif isFnT P t then some false else none
  | _, _ => none
theorem bif_some {α : Type} {b : Bool} {x y : α} (h : (bif b then some x else none) = some y) : b = true ∧ x = y := by
  cases b
  · cases h
  · cases h; exact ⟨rfl, rfl⟩
theorem isPtr_of {P : Program} {t : TypeId} (h : isPtr P t = true) : ∃ e j, P.underlying t = some (.pointer e) ∧ P.info? e = some j := by
  unfold isPtr at h
  split at h
  · rename_i e hu
    obtain ⟨j, hj⟩ := Option.isSome_iff_exists.1 h
    exact ⟨e, j, hu, hj⟩
  · cases h
theorem evSame_run {P : Program} {m : Mu} {t : TypeId} {x x' y y' : Value} {b : Bool} (hx : R m x x') (hy : R m y y') (h : evSame P t x y = some b) (ox oy : Operand) (W : World) :
    (do eqGuard .eql t ox oy x' y'; binOp .eql t x' y' : Sem Value).run P W = .ok (.bool b) W ∧ (do eqGuard .neq t ox oy x' y'; binOp .neq t x' y' : Sem Value).run P W = .ok (.bool (!b)) W := by
  have key : ∀ d, (Op.equalIn (d + 1) t x' y').run P W = .ok b W := by
    intro d
    unfold evSame at h
    split at h
    · obtain ⟨h1, h2⟩ := bif_some h
      obtain ⟨e, j, hu, hj⟩ := isPtr_of h1
      cases hx
      cases hy with
      | ptrNil => simp [Op.equalIn, run_underlying hu, ← h2]
      | ptr n o l hl => simp [Op.equalIn, run_underlying hu, ← h2]
    · obtain ⟨h1, h2⟩ := bif_some h
      obtain ⟨e, j, hu, hj⟩ := isPtr_of h1
      cases hy
      cases hx with
      | ptr n o l hl => simp [Op.equalIn, run_underlying hu, ← h2]
    · obtain ⟨h1, h2⟩ := bif_some h
      simp only [Bool.and_eq_true] at h1
      obtain ⟨⟨h1, h3⟩, h4⟩ := h1
      obtain ⟨e, j, hu, hj⟩ := isPtr_of h1
      have e1 := Nat.eq_of_beq_eq_true h3
      have e2 := Nat.eq_of_beq_eq_true h4
      subst e1 e2
      cases hx with
      | ptr _ _ l hl =>
        cases hy with
        | ptr _ _ l' hl' =>
          rw [hl] at hl'
          cases hl'
          simp [Op.equalIn, run_underlying hu, sizeOf, typeInfo, hj, run_sameAddr_same, ← h2]
    · obtain ⟨h1, h2⟩ := bif_some h
      unfold isSl at h1
      split at h1
      · rename_i e hu
        cases hy
        cases hx with
        | sliceNil => simp [Op.equalIn, run_underlying hu, ← h2]
        | slice n o len e l hl hc hm => simp [Op.equalIn, run_underlying hu, ← h2]
      · cases h1
    · obtain ⟨h1, h2⟩ := bif_some h
      unfold isIf at h1
      split at h1
      · rename_i ms hu
        cases hy
        cases hx with
        | iface t v v' hv => simp [Op.equalIn, run_underlying hu, ← h2]
      · cases h1
    · obtain ⟨h1, h2⟩ := bif_some h
      unfold isIf at h1
      split at h1
      · rename_i ms hu
        cases hx
        cases hy with
        | iface t v v' hv => simp [Op.equalIn, run_underlying hu, ← h2]
      · cases h1
    · obtain ⟨h1, h2⟩ := bif_some h
      unfold isFnT at h1
      split at h1
      · rename_i hu
        cases hy
        cases hx with
        | func f a b a' b' hf hg => simp [Op.equalIn, run_underlying hu, ← h2]
      · cases h1
    · cases h
  have hk := key 9999
  have hq : (Op.equal t x' y').run P W = .ok b W := by simpa [Op.equal, Op.maxDepth] using hk
  unfold evSame at h
  split at h <;> first | (cases h; done) | skip
  all_goals
    cases hx <;> cases hy <;> simp [eqGuard, binOp, Sem.run_bind, hq]
/-! ### to unsafe.Pointer and back -/
noncomputable def evConv (P : Program) (s : St) (src dst : TypeId) : Value → Option Value
  | .pointer (some ⟨n, o, none⟩) => match P.underlying src, P.underlying dst, s.get n with
    | some (.pointer t), some .unsafePointer, some c => match sizeB P t with
      | some (k + 1) => bif Nat.blt o c.cells.length then some (.pointer (some ⟨n, o, none⟩)) else none
      | _ => none
    | some .unsafePointer, some (.pointer u), some c => match c.row with
      | none => bif !c.ro && (P.info? u).isSome && liesAt P P.depth c.ty (c.cells.length / P.cellsOf c.ty) o u 1 then some (.pointer (some ⟨n, o, none⟩)) else none
      | some _ => none
    | _, _, _ => none
  | _ => none
theorem Blk.shape {W : World} {b : Nat} {cs : List Value} {t : TypeId} (h : Blk W b cs t) : W.shape? b = some (t, cs.length) := by
  simp [World.shape?, h.at']
theorem evConv_sound {P : Program} {m : Mu} {s : St} {B : Nat} {W : World} (h : Holds m s B W) {src dst : TypeId} {x x' v : Value} (hx : R m x x') (e : evConv P s src dst x = some v) : ∃ v', (convert src dst x').run P W = .ok v' W ∧ R m v v' := by
  unfold evConv at e
  split at e
  · rename_i n o
    cases hx with
    | ptr _ _ l hl =>
      split at e
      · rename_i t c hs hd hc
        split at e
        · rename_i k hk
          obtain ⟨e1, e2⟩ := bif_some e
          subst e2
          have ho : o < c.cells.length := by simpa [Nat.blt_eq] using e1
          obtain ⟨y, hy, hr⟩ := h.read hc hl o (List.getElem?_eq_getElem ho)
          unfold sizeB at hk
          obtain ⟨i, hi, hik⟩ := Option.map_eq_some_iff.1 hk
          obtain ⟨e', cells, hsh, hlt, -⟩ := World.shape?_of_cell? hy
          exact ⟨_, Lib.run_to_unsafe W ⟨l.blk, o, none⟩ hs hd hi (by rw [hik]; omega) hsh hlt, .ptr n o l hl⟩
        · cases e
      · rename_i u c hs hd hc
        split at e
        · rename_i hrow
          obtain ⟨e1, e2⟩ := bif_some e
          subst e2
          simp only [Bool.and_eq_true, Bool.not_eq_true'] at e1
          obtain ⟨⟨e1, e3⟩, e4⟩ := e1
          obtain ⟨j, hj⟩ := Option.isSome_iff_exists.1 e3
          obtain ⟨l', h1, h2⟩ := h.at' n c (R.name_lt h hl) hc
          rw [hl] at h1; cases h1
          obtain ⟨hB, rl, tail, h3, h4, h5, h6⟩ := h2.own e1
          have ht := h6 hrow
          subst ht
          have hsh := Blk.shape h4
          rw [List.append_nil, ← h3.length] at hsh
          exact ⟨_, Lib.run_from_unsafe W ⟨l.blk, o, none⟩ hs hd hj hsh e4, .ptr n o l hl⟩
        · cases e
      · cases e
  · cases e
/-! ### internal/abi.NoEscape -/
def isSameF (P : Program) (g : FuncId) : Bool := match P.funcs[g]? with
  | some fn => fn.name == "internal/abi.NoEscape" && fn.body.isNone && (Extern.findNext fn).isNone
  | none => false
theorem find_noEsc (fn : Func) (h : fn.name = "internal/abi.NoEscape") : Extern.find fn = some Extern.AbiNoEscape.same := by
  unfold Extern.find
  simp only [h]
  have g1 : Extern.allGenericRows.lookup "internal/abi.NoEscape" = none := by kernel_rfl
  have g2 : Extern.allTypedRows.lookup "internal/abi.NoEscape" = none := by kernel_rfl
  have g3 : Extern.allRows.lookup "internal/abi.NoEscape" = some Extern.AbiNoEscape.same := by kernel_rfl
  rw [g1, g2, g3]
  rfl
theorem isSameF_run {P : Program} {g : FuncId} (h : isSameF P g = true) (x : Value) (W : World) : (callFunc g #[x]).run P W = .ok (.value x) W := by
  unfold isSameF at h
  split at h
  · rename_i fn hf
    simp only [Bool.and_eq_true, beq_iff_eq] at h
    obtain ⟨⟨h1, h2⟩, h3⟩ := h
    rw [run_callFunc_extern hf (by rw [h1]; rfl) h2 (by simpa using h3) (find_noEsc fn h1)]
    rfl
  · cases h
/-! ### a text appended -/
theorem run_append_place_str {P : Program} (w : World) (base : Nat) (t u ty e : TypeId) (i : TypeInfo) (ht : P.underlying t = some (.slice e)) (hu : P.underlying u = some .string) (hi : P.info? e = some i) (hz : i.zero = some (.int .u8 0)) (hsize : i.size = 1) (hby : i.bytes = 1)
    (v : Value) (n : Nat) (xs : List Value) (hown : w.ownsRow base e 1 v n xs) (s : ByteArray) (h63 : n + s.size ≤ maxLen) (hbytes : n + s.size ≤ 140737488355328) (hbase : base ≤ w.heap.size) :
    ∃ v' w', (Builtin.append_ #[t, u] ty #[v, .string s]).run P w = .ok v' w' ∧ w'.ownsRow base e 1 v' (n + s.size) (xs ++ Lib.strCells s) ∧ w.grownBy w' v.ownBlock ∧ Placed w v v' := by
  obtain ⟨v', w', hrun, ho, hg, hiff⟩ := Lib.run_append_own_string (P := P) (w := w) base t u ty e i ht hu hi hz hsize hby v n xs hown s h63 hbytes hbase
  refine ⟨v', w', hrun, ho, hg, ?_⟩
  unfold maxLen at h63
  rcases hown.2 with ⟨rfl, h0⟩ | ⟨g, cap, cur, rfl, hb, hh, hnc, hcm, hcs, htake⟩
  · obtain ⟨v2, w2, hrun2, ho2, _, _⟩ := Lib.run_append_own_string (P := P) (w := w) w.heap.size t u ty e i ht hu hi hz hsize hby (.slice none 0 0) n xs ⟨hown.1, .inl ⟨rfl, h0⟩⟩ s (by unfold maxLen; exact h63) hbytes (Nat.le_refl _)
    rw [hrun] at hrun2
    simp only [Result.ok.injEq] at hrun2
    obtain ⟨rfl, rfl⟩ := hrun2
    cases hv : v'.ownBlock with
    | none => exact .inl hv
    | some g => exact .inr ⟨g, hv, (ho2.lt g hv).1⟩
  · have hcs' : cur.size = cap := by simpa using hcs
    by_cases hroom : n + s.size ≤ cap
    · have hr := Lib.run_append_room_string (P := P) (w := w) t u ty e i ht hu hi hsize g n cap cur hh s hroom (by omega)
      rw [hrun] at hr
      simp only [Result.ok.injEq] at hr
      rw [hr.1]
      exact .inl rfl
    · have holds : ∀ j u, xs[j]? = some u → w.cell? ((⟨g, 0, none⟩ : Addr).add j) = some u := hown.cells (g := g) rfl
      have hr := Lib.run_append_grow_string (P := P) (w := w) t u ty e i (.int .u8 0) ht hu hi hz ⟨g, 0, none⟩ n cap xs (by rw [hsize]; exact hown.1) holds s (by omega) (by omega) (by rw [hby]; exact growslice_fits (by omega) (by omega))
      rw [hrun] at hr
      simp only [Result.ok.injEq] at hr
      rw [hr.1]
      exact .inr ⟨w.heap.size, rfl, Nat.le_refl _⟩
end Go.Proofs.YtklclfolmfhocaaGreatDoor.Ev
namespace Go.Proofs.YtklclfolmfhocaaGreatDoor.Ev
open Go.ChangeShapes Go.WideShapes Go.ChangeAt Go.RowKit
open Go.Proofs.YtklclfolmfhocaaGreatDoor.Mem
set_option linter.unusedVariables false
set_option linter.unusedSimpArgs false
def byteVals (s : ByteArray) : List Value := s.data.toList.map fun b => Value.int .u8 b.toNat
theorem byteVals_str (s : ByteArray) : Lib.strCells s = byteVals s := rfl
theorem byteVals_len (s : ByteArray) : (byteVals s).length = s.size := by simp [byteVals]
theorem byteVals_flat (s : ByteArray) : (byteVals s).all flat = true := by
  unfold byteVals
  rw [List.all_eq_true]
  intro v hv
  obtain ⟨b, -, rfl⟩ := List.mem_map.1 hv
  rfl
def isByteRow (P : Program) (t u : TypeId) : Option TypeId :=
  match P.underlying t, P.underlying u with
  | some (.slice el), some .string => match P.info? el with
    | some i => match i.zero with
      | some (.int .u8 0) => bif Nat.beq i.size 1 && Nat.beq i.bytes 1 then some el else none
      | _ => none
    | none => none
  | _, _ => none
theorem isByteRow_of {P : Program} {t u el : TypeId} (h : isByteRow P t u = some el) : ∃ i, P.underlying t = some (.slice el) ∧ P.underlying u = some .string ∧ P.info? el = some i ∧ i.zero = some (.int .u8 0) ∧ i.size = 1 ∧ i.bytes = 1 := by
  unfold isByteRow at h
  split at h
  · rename_i el' ht hu
    split at h
    · rename_i i hi
      split at h
      · rename_i hz
        obtain ⟨h1, h2⟩ := bif_some h
        subst h2
        simp only [Bool.and_eq_true] at h1
        exact ⟨i, ht, hu, hi, hz, Nat.eq_of_beq_eq_true h1.1, Nat.eq_of_beq_eq_true h1.2⟩
      · cases h
    · cases h
  · cases h
noncomputable def evAppendStr (P : Program) (s : St) (t u : TypeId) (x : Value) (y : ByteArray) : Option (Value × St) :=
  match isByteRow P t u with
  | none => none
  | some el =>
    if s.next < 2 ^ 40 ∧ y.size ≤ 16777216 then
      match x with
      | .slice none 0 0 => if y.size = 0 then some (.slice none 0 0, s) else some (.slice (some ⟨s.name, 0, none⟩) y.size 0, s.alloc (byteVals y) el (some 1))
      | .slice (some ⟨n, 0, none⟩) len 0 =>
        match s.get n with
        | some c => if n < 2 ^ 40 ∧ c.row = some 1 ∧ c.ro = false ∧ c.ty = el ∧ c.cells.length = len ∧ len ≤ 16777216 ∧ 0 < len then
            some (.slice (some ⟨s.name, 0, none⟩) (len + y.size) 0, (s.put n none).alloc (c.cells ++ byteVals y) el (some 1)) else none
        | none => none
      | _ => none
    else none
theorem evAppendStr_sound {P : Program} {m : Mu} {s s' : St} {B : Nat} {W : World} (h : Holds m s B W) {t u ty : TypeId} {x x' v : Value} {y : ByteArray} (hx : R m x x') (e : evAppendStr P s t u x y = some (v, s')) :
    ∃ v' W' m', (Builtin.append_ #[t, u] ty #[x', .string y]).run P W = .ok v' W' ∧ R m' v v' ∧ Sub m m' ∧ Holds m' s' B W' ∧ Below B W W' := by
  unfold evAppendStr at e
  split at e
  · cases e
  · rename_i el hel
    obtain ⟨i, ht, hu, hi, hz, hs1, hb1⟩ := isByteRow_of hel
    split at e
    · rename_i hq
      obtain ⟨q1, q2⟩ := hq
      have hml : maxLen = 9223372036854775807 := rfl
      split at e
      · cases hx with
        | sliceNil =>
          split at e
          · rename_i hy0
            cases e
            obtain ⟨v', W', hrun, ho, hgr, hiff⟩ := Lib.run_append_own_string (P := P) (w := W) B t u ty el i ht hu hi hz hs1 hb1 (.slice none 0 0) 0 [] ⟨by simp, .inl ⟨rfl, rfl⟩⟩ y (by omega) (by omega) h.room
            have hv := hiff.2 ⟨rfl, hy0⟩
            subst hv
            have hb : Below B W W' := (Below.refl B W).grown hgr h.room (fun j hj => by cases hj)
            have hb2 : Below W.heap.size W W' := (Below.refl W.heap.size W).grown hgr (Nat.le_refl _) (fun j hj => by cases hj)
            exact ⟨_, W', m, hrun, .sliceNil, Sub.refl m, h.below hb2, hb⟩
          · rename_i hy0
            cases e
            obtain ⟨v', W', hrun, ho, hgr, hpl⟩ := run_append_place_str (P := P) W B t u ty el i ht hu hi hz hs1 hb1 (.slice none 0 0) 0 [] ⟨by simp, .inl ⟨rfl, rfl⟩⟩ y (by omega) (by omega) h.room
            obtain ⟨g, cap, tail, rfl, hgB, hkc, hcm, hblk, hlen, hob⟩ := own_form ho (by omega)
            have hb : Below B W W' := (Below.refl B W).grown hgr h.room (fun j hj => by cases hj)
            have hge : W.heap.size ≤ g := by
              rcases hpl with hp | ⟨g', hp, hge⟩
              · rw [hob] at hp; cases hp
              · rw [hob] at hp; cases hp; exact hge
            have hkeep : ∀ n c l, n < 2 ^ 40 → s.get n = some c → m n = some l → W'.heap[l.blk]? = W.heap[l.blk]? ∧ l.blk ≠ g := fun n c l hn hc hl => by
              obtain ⟨l', h1, h2⟩ := h.at' n c hn hc
              rw [hl] at h1; cases h1
              have hlt := h2.lt h.room
              exact ⟨hgr.block _ hlt (fun q => by cases q), by omega⟩
            obtain ⟨g1, g2⟩ := h.land q1 hb hgB hkeep (fun n c l hn hc hl => by
              obtain ⟨l', h1, h2⟩ := h.maps.1 n c hn hc
              rw [hl] at h1; cases h1
              exact hgr.block _ h2.lt (fun q => by cases q)) (RL.of_flat (m := m) (byteVals_flat y)) (t := el) (tail := tail) (by rw [byteVals_str] at hblk; simpa using hblk) (some 1) (cap := cap) (fun k' hk' => by cases hk'; rw [byteVals_str] at hlen; simpa using hlen) (by simp)
            exact ⟨_, W', _, hrun, by simpa using R.slice s.name 0 (0 + y.size) 0 ⟨g, cap⟩ (by simp [Mu.put]) (by simpa using hkc) hcm, g1, g2, hb⟩
      · rename_i n len
        split at e
        · rename_i c hc
          split at e
          · rename_i hw
            obtain ⟨w1, w2, w3, w4, w5, w6, w7⟩ := hw
            cases e
            cases hx with
            | slice _ _ _ _ l hl hcap hcm0 =>
              obtain ⟨l', h1, h2⟩ := h.at' n c w1 hc
              rw [hl] at h1; cases h1
              obtain ⟨hB, rl, tl, hrl, hblk0, hrow0, -⟩ := h2.own w3
              have hlen0 := hrow0 _ w2
              have hrlen : rl.length = len := by rw [← hrl.length]; exact w5
              have hown : W.ownsRow B el 1 (.slice (some ⟨l.blk, 0, none⟩) len (l.cap - 0)) len rl := by
                refine ⟨by simpa using hrlen, .inr ⟨l.blk, l.cap, (rl ++ tl).toArray, by rw [Nat.sub_zero], hB, by rw [← w4]; exact hblk0.at', by omega, hcm0, by simpa using hlen0, by rw [← hrlen]; simp⟩⟩
              obtain ⟨v', W', hrun, ho, hgr, hpl⟩ := run_append_place_str (P := P) W B t u ty el i ht hu hi hz hs1 hb1 _ len rl hown y (by omega) (by omega) h.room
              obtain ⟨g, cap, tail, rfl, hgB, hkc, hcm, hblk, hlen, hob⟩ := own_form ho (by omega)
              have hownb : (Value.slice (some ⟨l.blk, 0, none⟩) len (l.cap - 0)).ownBlock = some l.blk := rfl
              have hb : Below B W W' := (Below.refl B W).grown hgr h.room (fun j hj => by rw [hownb] at hj; cases hj; exact hB)
              have hd := h.drop n w1
              have hkeep : ∀ k' c' e', k' < 2 ^ 40 → (s.put n none).get k' = some c' → m k' = some e' → W'.heap[e'.blk]? = W.heap[e'.blk]? ∧ e'.blk ≠ g := fun k' c' e' hk' hc' he' => by
                have hkn : k' ≠ n := fun hkn => by subst hkn; rw [St.get_put_same _ _ _ hk'] at hc'; cases hc'
                have hc2 : s.get k' = some c' := (St.get_put_other s none hkn).symm.trans hc'
                obtain ⟨e2, h3, h4⟩ := h.at' k' c' hk' hc2
                rw [he'] at h3; cases h3
                have hlt := h4.lt h.room
                have hne : e'.blk ≠ l.blk := fun q => hkn (h.inj k' n c' c e' l hc2 hc he' hl q)
                refine ⟨hgr.block _ hlt (fun q => hne (by rw [hownb] at q; simpa using q)), ?_⟩
                rcases hpl with hp | ⟨g', hp, hge⟩
                · rw [hob, hownb] at hp; have hp2 : g = l.blk := by simpa using hp
                  rw [hp2]; exact hne
                · rw [hob] at hp; cases hp; omega
              obtain ⟨g1, g2⟩ := hd.land q1 hb hgB hkeep (fun n' c' l' hn' hc' hl' => by
                obtain ⟨l2, h1, h2⟩ := hd.maps.1 n' c' hn' hc'
                rw [hl'] at h1; cases h1
                exact hgr.block _ h2.lt (fun q => h2.ne hblk0 (by rw [hownb] at q; simpa using q))) (hrl.append (RL.of_flat (m := m) (byteVals_flat y))) (t := el) (tail := tail) (by rw [byteVals_str] at hblk; exact hblk) (some 1) (cap := cap) (fun k' hk' => by cases hk'; rw [byteVals_str] at hlen; exact hlen) (by simp)
              exact ⟨_, W', _, hrun, (show R (m.put (s.put n none).name ⟨g, cap⟩) (.slice (some ⟨s.name, 0, none⟩) (len + y.size) 0) (.slice (some ⟨g, 0, none⟩) (len + y.size) cap) from R.slice s.name 0 (len + y.size) 0 ⟨g, cap⟩ (show (m.put s.name _) s.name = _ by simp [Mu.put]) (by simpa using hkc) hcm), g1, g2, hb⟩
          · cases e
        · cases e
      · cases e
    · cases e
/-! ### bytes seen as a text -/
def evSliceData : Value → Option Value
  | .slice (some ⟨n, o, none⟩) (k + 1) _ => some (.pointer (some ⟨n, o, none⟩))
  | _ => none
theorem evSliceData_sound {P : Program} {m : Mu} {x x' v : Value} (hx : R m x x') (e : evSliceData x = some v) (ts : Array TypeId) (ty : TypeId) (W : World) : ∃ v', (Builtin.unsafeSliceData_ ts ty #[x']).run P W = .ok v' W ∧ R m v v' := by
  unfold evSliceData at e
  split at e
  · cases e
    rename_i n o k ex
    cases hx with
    | slice _ _ _ _ l hl hc hm => exact ⟨_, Lib.run_unsafeSliceData_row W ts ty ⟨l.blk, o, none⟩ _ _ (by omega), .ptr n o l hl⟩
  · cases e
/-- the bytes that cells hold -/
def bytesOf : List Value → Option (List UInt8)
  | [] => some []
  | .int .u8 (.ofNat n) :: l => match bytesOf l with
    | some r => bif Nat.blt n 256 then some (UInt8.ofNat n :: r) else none
    | none => none
  | _ => none
theorem bytesOf_get : ∀ (l : List Value) (r : List UInt8), bytesOf l = some r → l.length = r.length ∧ ∀ (j : Nat) (x : UInt8), r[j]? = some x → l[j]? = some (Value.int .u8 x.toNat) := by
  intro l
  induction l with
  | nil => intro r h; cases h; exact ⟨rfl, fun j x h => by simp at h⟩
  | cons v l ih =>
    intro r h
    unfold bytesOf at h
    split at h
    · rename_i heq; cases heq
    · rename_i n l' heq
      cases heq
      split at h
      · rename_i r' hr
        obtain ⟨h1, h2⟩ := bif_some h
        subst h2
        have hn : n < 256 := by simpa [Nat.blt_eq] using h1
        obtain ⟨g1, g2⟩ := ih _ hr
        refine ⟨by simp [g1], fun j x hj => ?_⟩
        cases j with
        | zero =>
          simp only [List.getElem?_cons_zero, Option.some.injEq] at hj
          subst hj
          simp [UInt8.toNat_ofNat_of_lt' hn]
        | succ j => simpa using g2 j x (by simpa using hj)
      · cases h
    · cases h
def isBytePtr (P : Program) (pt : TypeId) : Option TypeId := match P.underlying pt with
  | some (.pointer e) => bif Nat.beq (P.cellsOf e) 1 then some e else none
  | _ => none
noncomputable def evUnsafeStr (P : Program) (s : St) (pt : TypeId) (x y : Value) : Option (Value × St) :=
  match y with
  | .int .i64 (.ofNat 0) => match x with
    | .pointer _ => some (.string .empty, s)
    | _ => none
  | .int .i64 (.ofNat (k + 1)) => match x, isBytePtr P pt with
    | .pointer (some ⟨n, 0, none⟩), some e => match s.get n with
      | some c => if n < 2 ^ 40 ∧ c.ro = false ∧ c.ty = e ∧ k + 1 ≤ c.cells.length ∧ k + 1 ≤ 16777216 then
          match bytesOf (c.cells.take (k + 1)) with
          | some l => some (.string ⟨l.toArray⟩, s.put n none)
          | none => none
        else none
      | none => none
    | _, _ => none
  | _ => none
theorem Holds.turned {m : Mu} {s : St} {B : Nat} {W W' : World} (h : Holds m s B W) (hs : Below B W W') (hk : ∀ n c l, n < 2 ^ 40 → s.get n = some c → m n = some l → W'.heap[l.blk]? = W.heap[l.blk]?) (hkm : ∀ n c l, n < 2 ^ 40 → s.get (n + 2 ^ 40) = some c → m n = some l → W'.heap[l.blk]? = W.heap[l.blk]?) : Holds m s B W' :=
  ⟨h.fresh, h.laid, h.cin, h.big, Nat.le_trans h.room hs.size, fun n c hn hc => by
    obtain ⟨l, h1, h2⟩ := h.at' n c hn hc
    exact ⟨l, h1, h2.turn (hk n c l hn hc h1)⟩, h.inj, h.glob, h.keep.up hs, ⟨fun n c hn hc => by
    obtain ⟨l, h1, h2⟩ := h.maps.1 n c hn hc
    exact ⟨l, h1, h2.turn (hkm n c l hn hc h1)⟩, h.maps.2⟩⟩
theorem evUnsafeStr_sound {P : Program} {m : Mu} {s s' : St} {B : Nat} {W : World} (h : Holds m s B W) {pt it ty : TypeId} {x x' y y' v : Value} (hx : R m x x') (hy : R m y y') (e : evUnsafeStr P s pt x y = some (v, s')) :
    ∃ v' W', (Builtin.unsafeString_ #[pt, it] ty #[x', y']).run P W = .ok v' W' ∧ R m v v' ∧ Holds m s' B W' ∧ Below B W W' := by
  unfold evUnsafeStr at e
  split at e
  · split at e
    · cases e
      cases hy
      have hxp : ∃ p, x' = .pointer p := by cases hx <;> exact ⟨_, rfl⟩
      obtain ⟨p, rfl⟩ := hxp
      exact ⟨_, W, Lib.run_unsafeString_none W pt it ty p, .string _, h, Below.refl B W⟩
    · cases e
  · rename_i k
    split at e
    · rename_i n e1 hbp
      split at e
      · rename_i c hc
        split at e
        · rename_i hw
          obtain ⟨w1, w2, w3, w4, w5⟩ := hw
          split at e
          · rename_i l hl
            cases e
            cases hx with
            | ptr _ _ lo hlo =>
              cases hy
              obtain ⟨b1, b2⟩ := bytesOf_get _ _ hl
              have hlen : l.length = k + 1 := by rw [← b1, List.length_take]; omega
              unfold isBytePtr at hbp
              split at hbp
              · rename_i e2 hu
                obtain ⟨c1, c2⟩ := bif_some hbp
                subst c2
                have hcells := Nat.eq_of_beq_eq_true c1
                obtain ⟨lo', h1, h2⟩ := h.at' n c w1 hc
                rw [hlo] at h1; cases h1
                obtain ⟨hB, rl, tail, hrl, hblk, hrow, -⟩ := h2.own w2
                have hsh := Blk.shape hblk
                rw [w3] at hsh
                have hrl2 := hrl.length
                have hcell : ∀ j x, l[j]? = some x → W.cell? ((⟨lo.blk, 0, none⟩ : Addr).add j) = some (.int .u8 x.toNat) := fun j x hj => by
                  have hj2 : j < k + 1 := by rw [← hlen]; exact (List.getElem?_eq_some_iff.1 hj).1
                  have hb := b2 j x hj
                  rw [List.getElem?_take, if_pos hj2] at hb
                  obtain ⟨yv, hy1, hy2⟩ := h.read hc hlo j hb
                  rw [Mem.add_plain, Nat.zero_add, hy1]
                  rw [hy2.flat_eq rfl]
                have hrun := Lib.run_unsafeString_row (P := P) W pt it ty e2 hu hcells lo.blk (rl ++ tail).length hsh l (by intro q; rw [q] at hlen; simp at hlen) (by rw [hlen, List.length_append]; omega) (by omega) hcell
                rw [hlen] at hrun
                refine ⟨_, _, by simpa using hrun, .string _, ?_, Lib.below_freeze (Below.refl B W) (p := ⟨lo.blk, 0, none⟩) hB _⟩
                refine (h.drop n w1).turned ?_ (fun n' c' l' hn' hc' hl' => ?_) (fun n' c' l' hn' hc' hl' => ?_)
                · exact Lib.below_freeze (Below.refl B W) (p := ⟨lo.blk, 0, none⟩) hB _
                · have hkn : n' ≠ n := fun hkn => by subst hkn; rw [St.get_put_same _ _ _ hn'] at hc'; cases hc'
                  have hc2 : s.get n' = some c' := (St.get_put_other s none hkn).symm.trans hc'
                  have hne : l'.blk ≠ lo.blk := fun q => hkn (h.inj n' n c' c l' lo hc2 hc hl' hlo q)
                  unfold World.freeze
                  split
                  · rfl
                  · simp only [Array.getElem?_modify]
                    rw [if_neg (fun q => hne q.symm)]
                · obtain ⟨l2, h1, h2⟩ := (h.drop n w1).maps.1 n' c' hn' hc'
                  rw [hl'] at h1; cases h1
                  have hne : l'.blk ≠ lo.blk := h2.ne hblk
                  unfold World.freeze
                  split
                  · rfl
                  · simp only [Array.getElem?_modify]
                    rw [if_neg (fun q => hne q.symm)]
              · cases hbp
          · cases e
        · cases e
      · cases e
    · cases e
  · cases e
end Go.Proofs.YtklclfolmfhocaaGreatDoor.Ev
namespace Go.Proofs.YtklclfolmfhocaaGreatDoor.Ev
open Go.ChangeShapes Go.WideShapes Go.ChangeAt Go.RowKit
open Go.Proofs.YtklclfolmfhocaaGreatDoor.Mem
variable {N : Nat}
set_option linter.unusedVariables false
set_option linter.unusedSimpArgs false
def eqBytes : List UInt8 → List UInt8 → Bool
  | [], [] => true
  | a :: l, b :: k => bif Nat.beq a.toNat b.toNat then eqBytes l k else false
  | _, _ => false
theorem eqBytes_eq : ∀ (l k : List UInt8), eqBytes l k = (l == k) := by
  intro l
  induction l with
  | nil => intro k; cases k <;> rfl
  | cons a l ih =>
    intro k
    cases k with
    | nil => rfl
    | cons b k =>
      simp only [eqBytes, ih, List.cons_beq_cons]
      have e : Nat.beq a.toNat b.toNat = (a == b) := by
        rw [Bool.eq_iff_iff, Nat.beq_eq, beq_iff_eq]
        exact UInt8.toNat_inj
      rw [e]
      cases (a == b) <;> rfl
def eqN (a b : Int) : Bool := match a with
  | .ofNat a => (match b with
    | .ofNat b => Nat.beq a b
    | .negSucc _ => false)
  | .negSucc _ => a == b
theorem eqN_eq (a b : Int) : eqN a b = (a == b) := by
  cases a with
  | ofNat a =>
    cases b with
    | ofNat b =>
      simp only [eqN]
      rw [Bool.eq_iff_iff, Nat.beq_eq]
      simp
      omega
    | negSucc b =>
      simp only [eqN]
      symm
      rw [beq_eq_false_iff_ne]
      intro h
      cases h
  | negSucc a => rfl
def keyEq : Value → Value → Option Bool
  | .string a => fun y => match y with
    | .string b => some (eqBytes a.data.toList b.data.toList)
    | _ => none
  | .int k a => fun y => match y with
    | .int k' b => if k = k' then some (eqN a b) else none
    | _ => none
  | _ => fun _ => none
/-- the key is of the map's kind -/
def isKeyB : TypeDesc → Value → Bool
  | .string, .string _ => true
  | .int k, .int k' _ => decide (k' = k)
  | _, _ => false
theorem isKeyB_key {d : TypeDesc} {k : Value} (h : isKeyB d k = true) : MapKept.IsKey d k := by
  cases d <;> cases k <;> simp_all [isKeyB, MapKept.IsKey]
def findL (k : Value) : List Value → Nat → Option (Option (Nat × Value))
  | key :: v :: r, i => match keyEq k key with
    | some true => some (some (i, v))
    | some false => findL k r (Nat.succ i)
    | none => none
  | _, _ => some none
theorem keyEq_now {m : Mu} {d : TypeDesc} {k k' key key' : Value} {b : Bool} (hk : R m k k') (hkey : R m key key') (hd : isKeyB d k = true) (h : keyEq k key = some b) : k' = k ∧ Instr.sameNow d k' key' = some b := by
  cases hk <;> simp only [keyEq] at h <;> first | (cases h; done) | skip
  · cases hkey <;> simp only at h <;> first | (cases h; done) | skip
    rename_i kk n kk2 n2
    split at h
    · rename_i e
      subst e
      cases h
      refine ⟨rfl, ?_⟩
      cases d <;> simp [isKeyB] at hd
      simp [Instr.sameNow, eqN_eq]
    · cases h
  · cases hkey <;> simp only at h <;> first | (cases h; done) | skip
    rename_i s t
    cases h
    refine ⟨rfl, ?_⟩
    cases d <;> simp [isKeyB] at hd
    simp only [Instr.sameNow, eqBytes_eq]
    congr 1
    rw [Bool.eq_iff_iff, MapKept.bytes_beq, beq_iff_eq]
    constructor
    · intro e; rw [e]
    · intro e
      cases s; cases t
      simp only at e
      congr 1
      exact Array.ext' e
/-- what is found here is what is found there -/
def FoundM (m : Mu) : Option (Nat × Value) → Option (Nat × Value) → Prop
  | none, none => True
  | some (i, v), some (j, v') => i = j ∧ R m v v'
  | _, _ => False
def entL (es : List MapEntry) : List Value := es.flatMap fun e => [e.key, e.val]
theorem findL_now {m : Mu} {d : TypeDesc} {k k' : Value} (hk : R m k k') (hd : isKeyB d k = true) : ∀ (es : List MapEntry) (cs : List Value) (i : Nat) (r : Option (Nat × Value)), RL m cs (entL es) → findL k cs i = some r → ∃ r', Instr.findNow d k' es i = some r' ∧ FoundM m r r' := by
  intro es
  induction es with
  | nil =>
    intro cs i r h e
    cases h
    cases e
    exact ⟨none, rfl, trivial⟩
  | cons x es ih =>
    intro cs i r h e
    have h2 : RL m cs (x.key :: x.val :: entL es) := h
    cases h2 with
    | cons h0 h1 =>
      cases h1 with
      | cons h1 h3 =>
        simp only [findL] at e
        split at e
        · rename_i hb
          cases e
          obtain ⟨rfl, q⟩ := keyEq_now hk h0 hd hb
          exact ⟨some (i, x.val), by simp [Instr.findNow, q], rfl, h1⟩
        · rename_i hb
          obtain ⟨rfl, q⟩ := keyEq_now hk h0 hd hb
          obtain ⟨r', g1, g2⟩ := ih _ (i + 1) r h3 e
          exact ⟨r', by simp only [Instr.findNow, q]; exact g1, g2⟩
        · cases e
/-! ### the block of a map -/
noncomputable def hi (n : Nat) : Nat := Nat.add n 1099511627776
theorem hi_eq (n : Nat) : hi n = n + 2 ^ 40 := rfl
noncomputable def St.allocM (s : St) : St := match s.cur with
  | some n => ⟨s.heap.put 42 (hi n) (some ⟨[], 0, none, false⟩), s.next, s.res.filter (fun k => !Nat.beq k n), none⟩
  | none => ⟨s.heap.put 42 (hi s.next) (some ⟨[], 0, none, false⟩), Nat.succ s.next, s.res, none⟩
theorem St.allocM_get (s : St) (k : Nat) : s.allocM.get k = (s.put (hi s.name) (some ⟨[], 0, none, false⟩)).get k := by
  unfold St.allocM St.name St.put St.get
  cases s.cur <;> rfl
theorem Holds.allocM {m : Mu} {s : St} {B : Nat} {W : World} (h : Holds m s B W) (hn : s.next < 2 ^ 40) :
    Sub m (m.put s.name ⟨W.heap.size, 0⟩) ∧ Holds (m.put s.name ⟨W.heap.size, 0⟩) s.allocM B (W.alloc (.map #[] 0)) ∧ Below W.heap.size W (W.alloc (.map #[] 0)) := by
  have hs : Sub m (m.put s.name ⟨W.heap.size, 0⟩) := Sub.put _ (h.name hn).1
  have hb : Below W.heap.size W (W.alloc (.map #[] 0)) := (Below.refl _ W).alloc (Nat.le_refl _) _
  have hn40 := (h.name hn).2
  have hmu : (m.put s.name ⟨W.heap.size, 0⟩) s.name = some ⟨W.heap.size, 0⟩ := by simp [Mu.put]
  have hold : ∀ k, k ≠ s.name → (m.put s.name ⟨W.heap.size, 0⟩) k = m k := fun k hk => by simp [Mu.put, hk]
  have hlow : ∀ k, k < 2 ^ 40 → s.allocM.get k = s.get k := fun k hk => (St.allocM_get s k).trans (St.get_put_other s _ (by rw [hi_eq]; omega))
  have hhigh : ∀ k c, k < 2 ^ 40 → s.allocM.get (k + 2 ^ 40) = some c → (k = s.name ∧ c = ⟨[], 0, none, false⟩) ∨ (k ≠ s.name ∧ s.get (k + 2 ^ 40) = some c) := fun k c hk e => by
    rw [St.allocM_get] at e
    by_cases hk2 : k = s.name
    · subst hk2
      rw [← hi_eq, St.get_put_same' _ _ _ (by rw [hi_eq]; omega)] at e
      exact .inl ⟨rfl, (Option.some.inj e).symm⟩
    · exact .inr ⟨hk2, (St.get_put_other s _ (by rw [hi_eq]; omega)).symm.trans e⟩
  have hname : ∀ k l, (m.put s.name ⟨W.heap.size, 0⟩) k = some l → k < 2 ^ 40 := fun k l e => by
    by_cases hk : k = s.name
    · omega
    · rw [hold k hk] at e; exact R.name_lt h e
  have hne : ∀ k c, k < 2 ^ 40 → s.get k = some c → k ≠ s.name := fun k c hk hc e => by
    obtain ⟨l, h1, _⟩ := h.at' k c hk hc
    rw [e, (h.name hn).1] at h1
    cases h1
  obtain ⟨f1, f2, f3, f4⟩ := h.names hn ⟨W.heap.size, 0⟩ [] 0 none
  have ea : s.allocM.next = (s.alloc [] 0 none).next ∧ s.allocM.res = (s.alloc [] 0 none).res ∧ s.allocM.cur = (s.alloc [] 0 none).cur := by
    unfold St.allocM St.alloc
    cases s.cur <;> exact ⟨rfl, rfl, rfl⟩
  refine ⟨hs, ⟨by rw [ea.1]; exact f1, by rw [ea.1, ea.2.1]; exact f2, by rw [ea.2.1, ea.2.2]; exact f3, by rw [ea.1]; exact f4, Nat.le_trans h.room hb.size, fun n c hn2 hc => ?_, fun n k c d l e hc hd hl he heq => ?_, fun n c hn2 hc hro => ?_, h.keep.up (hb.mono h.room), ⟨fun n c hn2 hc => ?_, fun n k c d l e hn2 hk2 hc hd hl he heq => ?_⟩⟩, hb⟩
  · rw [hlow n hn2] at hc
    obtain ⟨l, h3, h4⟩ := h.at' n c hn2 hc
    exact ⟨l, hs _ _ h3, (h4.below hb).up hs⟩
  · have hn2 := hname n l hl
    have hk2 := hname k e he
    rw [hlow n hn2] at hc
    rw [hlow k hk2] at hd
    rw [hold n (hne n c hn2 hc)] at hl
    rw [hold k (hne k d hk2 hd)] at he
    exact h.inj n k c d l e hc hd hl he heq
  · rw [hlow n hn2] at hc
    obtain ⟨cap, h3⟩ := h.glob n c hn2 hc hro
    exact ⟨cap, hs _ _ h3⟩
  · rcases hhigh n c hn2 hc with ⟨rfl, rfl⟩ | ⟨h1, h2⟩
    · exact ⟨_, hmu, h.room, #[], 0, by show (W.heap.push _)[W.heap.size]? = _; simp, .nil⟩
    · obtain ⟨l, h3, h4⟩ := h.maps.1 n c hn2 h2
      exact ⟨l, hs _ _ h3, (h4.below hb).up hs⟩
  · rcases hhigh n c hn2 hc with ⟨rfl, rfl⟩ | ⟨h1, h2⟩
    · rcases hhigh k d hk2 hd with ⟨h3, _⟩ | ⟨h3, h4⟩
      · exact h3.symm
      · obtain ⟨l2, h5, h6⟩ := h.maps.1 k d hk2 h4
        rw [hold k h3, h5] at he; cases he
        rw [hmu] at hl; cases hl
        have := h6.lt
        simp only at heq
        omega
    · rcases hhigh k d hk2 hd with ⟨rfl, _⟩ | ⟨h3, h4⟩
      · obtain ⟨l2, h5, h6⟩ := h.maps.1 n c hn2 h2
        rw [hold n h1, h5] at hl; cases hl
        rw [hmu] at he; cases he
        have := h6.lt
        simp only at heq
        omega
      · rw [hold n h1] at hl
        rw [hold k h3] at he
        exact h.maps.2 n k c d l e hn2 hk2 h2 h4 hl he heq
/-- the entries of a map are turned -/
theorem Holds.setM {m : Mu} {s : St} {B : Nat} {W : World} (h : Holds m s B W) {n : Nat} (hn : n < 2 ^ 40) {c : Cells} {l : Loc} (hc : s.get (hi n) = some c) (hl : m n = some l) {cs : List Value} (es : Array MapEntry) (ck : Nat) (hr : RL m cs (entL es.toList)) :
    Holds m (s.put (hi n) (some { c with cells := cs })) B { W with heap := W.heap.setIfInBounds l.blk (.map es ck) } ∧ Below B W { W with heap := W.heap.setIfInBounds l.blk (.map es ck) } := by
  rw [hi_eq] at hc ⊢
  obtain ⟨l0, g1, g2⟩ := h.maps.1 n c hn hc
  rw [hl] at g1; cases g1
  obtain ⟨hB, es0, ck0, g3, g4⟩ := g2
  have hlt : l.blk < W.heap.size := (Array.getElem?_eq_some_iff.1 g3).1
  have hset := MapKept.heap_set (o' := .map es ck) g3
  have hother : ∀ r, r ≠ l.blk → ({ W with heap := W.heap.setIfInBounds l.blk (.map es ck) } : World).heap[r]? = W.heap[r]? := hset.2
  have hbel : Below B W { W with heap := W.heap.setIfInBounds l.blk (.map es ck) } := ⟨rfl, rfl, rfl, by simp, fun k hk => hother k (by omega)⟩
  have hlow : ∀ k, k < 2 ^ 40 → (s.put (n + 2 ^ 40) (some { c with cells := cs })).get k = s.get k := fun k hk => St.get_put_other s _ (by omega)
  have hhigh : ∀ k d, k < 2 ^ 40 → (s.put (n + 2 ^ 40) (some { c with cells := cs })).get (k + 2 ^ 40) = some d → (k = n ∧ d = { c with cells := cs }) ∨ (k ≠ n ∧ s.get (k + 2 ^ 40) = some d) := fun k d hk e => by
    by_cases hk2 : k = n
    · subst hk2
      rw [St.get_put_same' _ _ _ (by omega)] at e
      exact .inl ⟨rfl, (Option.some.inj e).symm⟩
    · exact .inr ⟨hk2, (St.get_put_other s _ (by omega)).symm.trans e⟩
  have hne : ∀ k d e, k < 2 ^ 40 → s.get k = some d → m k = some e → e.blk ≠ l.blk := fun k d e hk hd he q => by
    obtain ⟨e2, q1, q2⟩ := h.at' k d hk hd
    rw [he] at q1; cases q1
    cases hro : d.ro with
    | false =>
      obtain ⟨_, _, _, _, q3, _⟩ := q2.own hro
      rw [← q, q3.at'] at g3
      cases g3
    | true =>
      have := q2.low hro
      omega
  refine ⟨⟨h.fresh, h.laid, h.cin, h.big, Nat.le_trans h.room hbel.size, fun k d hk hd => ?_, fun a k d d' l1 e hd hd' hl1 he heq => ?_, fun k d hk hd hro => ?_, h.keep.up hbel, ⟨fun k d hk hd => ?_, fun a k d d' l1 e ha hk hd hd' hl1 he heq => ?_⟩⟩, hbel⟩
  · rw [hlow k hk] at hd
    obtain ⟨e, q1, q2⟩ := h.at' k d hk hd
    exact ⟨e, q1, q2.turn (hother _ (hne k d e hk hd q1))⟩
  · rw [hlow a (R.name_lt h hl1)] at hd
    rw [hlow k (R.name_lt h he)] at hd'
    exact h.inj a k d d' l1 e hd hd' hl1 he heq
  · rw [hlow k hk] at hd
    exact h.glob k d hk hd hro
  · rcases hhigh k d hk hd with ⟨rfl, rfl⟩ | ⟨h1, h2⟩
    · exact ⟨l, hl, hB, es, ck, hset.1, hr⟩
    · obtain ⟨e, q1, q2⟩ := h.maps.1 k d hk h2
      exact ⟨e, q1, q2.turn (hother _ (fun q => h1 (h.maps.2 k n d c e l hk hn h2 hc q1 hl q)))⟩
  · have q1 : ∃ d0, s.get (a + 2 ^ 40) = some d0 := by
      rcases hhigh a d ha hd with ⟨rfl, _⟩ | ⟨_, g⟩
      · exact ⟨c, hc⟩
      · exact ⟨d, g⟩
    have q2 : ∃ d0, s.get (k + 2 ^ 40) = some d0 := by
      rcases hhigh k d' hk hd' with ⟨rfl, _⟩ | ⟨_, g⟩
      · exact ⟨c, hc⟩
      · exact ⟨d', g⟩
    obtain ⟨d1, q1⟩ := q1
    obtain ⟨d2, q2⟩ := q2
    exact h.maps.2 a k d1 d2 l1 e ha hk q1 q2 hl1 he heq
/-! ### operations -/
noncomputable def evMakeMap (s : St) : Option (Value × St) := bif Nat.blt s.next 1099511627776 then some (.map (some s.name), s.allocM) else none
theorem evMakeMap_sound {P : Program} {m : Mu} {s s' : St} {B : Nat} {W : World} (h : Holds m s B W) {v : Value} (t : TypeId) (e : evMakeMap s = some (v, s')) :
    ∃ v' W' m', (Instr.makeMap t none).run P W = .ok v' W' ∧ R m' v v' ∧ Sub m m' ∧ Holds m' s' B W' ∧ Below W.heap.size W W' := by
  unfold evMakeMap at e
  cases hb : Nat.blt s.next 1099511627776 with
  | false => rw [hb] at e; cases e
  | true =>
    rw [hb, cond_true] at e
    cases e
    have hn : s.next < 2 ^ 40 := by simpa [Nat.blt_eq] using hb
    obtain ⟨h1, h2, h3⟩ := h.allocM hn
    exact ⟨_, _, _, run_makeMap t W, .map s.name ⟨W.heap.size, 0⟩ (by simp [Mu.put]), h1, h2, h3⟩
noncomputable def zeroOr (P : Program) (et : TypeId) (ok : Bool) : Option Value := match zeroB P et with
  | some z => some (bif ok then .tuple #[z, .bool false] else z)
  | none => none
noncomputable def evLookup (P : Program) (s : St) (mt : TypeId) (x k : Value) (ok : Bool) : Option Value :=
  match P.underlying mt with
  | some (.map kt et) => match P.underlying kt with
    | some d => bif isKeyB d k then (match x with
      | .map none => zeroOr P et ok
      | .map (some n) => match s.get (hi n) with
        | some c => match findL k c.cells 0 with
          | some (some (_, v)) => some (bif ok then .tuple #[v, .bool true] else v)
          | some none => zeroOr P et ok
          | none => none
        | none => none
      | _ => none) else none
    | none => none
  | _ => none
theorem zeroOr_run {P : Program} {et : TypeId} {ok : Bool} {v : Value} (h : zeroOr P et ok = some v) (m : Mu) (W : World) : ∃ z, (zeroValue et).run P W = .ok z W ∧ v = (bif ok then .tuple #[z, .bool false] else z) ∧ R m v v := by
  unfold zeroOr at h
  split at h
  · rename_i z hz
    cases h
    obtain ⟨h1, h2⟩ := zero_run hz W
    refine ⟨z, h1, rfl, ?_⟩
    have hr := R.of_closed (m := m) h2
    cases ok with
    | true => exact .tuple _ _ (.cons hr (.cons (.bool _) .nil))
    | false => exact hr
  · cases h
theorem evLookup_sound {P : Program} {m : Mu} {s : St} {B : Nat} {W : World} (h : Holds m s B W) {mt : TypeId} {x x' k k' v : Value} {ok : Bool} (hx : R m x x') (hk : R m k k') (e : evLookup P s mt x k ok = some v) :
    ∃ v', (Instr.lookup mt x' k' ok).run P W = .ok v' W ∧ R m v v' := by
  unfold evLookup at e
  split at e
  · rename_i kt et hm
    split at e
    · rename_i d hd
      cases hkb : isKeyB d k with
      | false => rw [hkb] at e; cases e
      | true =>
        rw [hkb, cond_true] at e
        have hkk : k' = k := by
          cases hk <;> first | rfl | (cases d <;> simp [isKeyB] at hkb)
        subst hkk
        have hkey := isKeyB_key hkb
        split at e
        · cases hx
          obtain ⟨z, h1, h2, h3⟩ := zeroOr_run e m W
          refine ⟨v, ?_, h3⟩
          have hf : Instr.findNow d k' [] 0 = some none := rfl
          simp only [Instr.lookup, Sem.run_bind, Sem.run_pure, run_underlying hm, Result.andThen, MapKept.run_checkKey hd hkey, MapKept.run_findKey hd hf, h1]
          cases ok <;> simp [h2]
        · rename_i n
          cases hx with
          | map _ l hl =>
            have hn := R.name_lt h hl
            split at e
            · rename_i c hc
              obtain ⟨l0, g1, g2⟩ := h.maps.1 n c hn hc
              rw [hl] at g1; cases g1
              obtain ⟨hB, es, ck, g3, g4⟩ := g2
              split at e
              · rename_i i u hf
                cases e
                obtain ⟨r', q1, q2⟩ := findL_now hk hkb es.toList c.cells 0 _ g4 hf
                match r', q2 with
                | some (j, u'), q2 =>
                  obtain ⟨rfl, q3⟩ := q2
                  refine ⟨bif ok then .tuple #[u', .bool true] else u', ?_, ?_⟩
                  · simp only [Instr.lookup, Sem.run_bind, Sem.run_pure, run_underlying hm, Result.andThen, MapKept.run_getObj_map g3, MapKept.run_checkKey hd hkey, MapKept.run_findKey hd q1]
                    cases ok <;> simp
                  · cases ok with
                    | true => exact .tuple _ _ (.cons q3 (.cons (.bool _) .nil))
                    | false => exact q3
              · rename_i hf
                obtain ⟨r', q1, q2⟩ := findL_now hk hkb es.toList c.cells 0 _ g4 hf
                match r', q2 with
                | none, _ =>
                  obtain ⟨z, h1, h2, h3⟩ := zeroOr_run e m W
                  refine ⟨v, ?_, h3⟩
                  simp only [Instr.lookup, Sem.run_bind, Sem.run_pure, run_underlying hm, Result.andThen, MapKept.run_getObj_map g3, MapKept.run_checkKey hd hkey, MapKept.run_findKey hd q1, h1]
                  cases ok <;> simp [h2]
              · cases e
            · cases e
        · cases e
    · cases e
  · cases e
theorem keyEq_true {k key : Value} (h : keyEq k key = some true) : key = k := by
  cases k <;> simp only [keyEq] at h <;> first | (cases h; done) | skip
  · cases key <;> simp only at h <;> first | (cases h; done) | skip
    split at h
    · rename_i e
      subst e
      simp only [Option.some.injEq, eqN_eq, beq_iff_eq] at h
      rw [h]
    · cases h
  · cases key <;> simp only at h <;> first | (cases h; done) | skip
    rename_i a b
    simp only [Option.some.injEq, eqBytes_eq, beq_iff_eq] at h
    congr 1
    cases a; cases b
    simp only at h
    congr 1
    exact (Array.ext' h).symm
theorem findL_at (k : Value) : ∀ (es : List MapEntry) (m : Mu) (cs : List Value) (i j : Nat) (v : Value), RL m cs (entL es) → findL k cs i = some (some (j, v)) → ∃ q e, j = i + q ∧ es[q]? = some e ∧ R m k e.key := by
  intro es
  induction es with
  | nil =>
    intro m cs i j v h e
    cases h
    cases e
  | cons x es ih =>
    intro m cs i j v h e
    have h2 : RL m cs (x.key :: x.val :: entL es) := h
    cases h2 with
    | cons h0 h1 =>
      cases h1 with
      | cons h1 h3 =>
        simp only [findL] at e
        split at e
        · rename_i hb
          cases e
          have := keyEq_true hb
          exact ⟨0, x, rfl, rfl, this ▸ h0⟩
        · obtain ⟨q, e2, g1, g2, g3⟩ := ih m _ (i + 1) j v h3 e
          exact ⟨q + 1, e2, by omega, by simpa using g2, g3⟩
        · cases e
theorem entL_modify (key' v' : Value) : ∀ (es : List MapEntry) (i : Nat) (e : MapEntry), es[i]? = some e → e.key = key' → entL (es.modify i fun e => { e with key := key', val := v' }) = (entL es).set (2 * i + 1) v' := by
  intro es
  induction es with
  | nil => intro i e h; simp at h
  | cons x es ih =>
    intro i e h hk
    cases i with
    | zero =>
      simp only [List.getElem?_cons_zero, Option.some.injEq] at h
      subst h
      simp [entL, hk]
    | succ i =>
      simp only [List.getElem?_cons_succ] at h
      have := ih i e h hk
      rw [List.modify_succ_cons]
      show x.key :: x.val :: entL (es.modify i _) = (x.key :: x.val :: entL es).set (2 * (i + 1) + 1) v'
      rw [this, show 2 * (i + 1) + 1 = (2 * i + 1) + 1 + 1 by omega]
      rfl
noncomputable def evUpdate (P : Program) (s : St) (mt : TypeId) (x k v : Value) : Option St :=
  match P.underlying mt with
  | some (.map kt et) => match P.underlying kt with
    | some d => bif isKeyB d k then (match x with
      | .map (some n) => match s.get (hi n) with
        | some c => match findL k c.cells 0 with
          | some (some (i, _)) => some (s.put (hi n) (some { c with cells := c.cells.set (Nat.succ (Nat.mul 2 i)) v }))
          | some none => some (s.put (hi n) (some { c with cells := c.cells ++ [k, v] }))
          | none => none
        | none => none
      | _ => none) else none
    | none => none
  | _ => none
theorem evUpdate_sound {P : Program} {m : Mu} {s s' : St} {B : Nat} {W : World} (h : Holds m s B W) {mt : TypeId} {x x' k k' v v' : Value} (hx : R m x x') (hk : R m k k') (hv : R m v v') (e : evUpdate P s mt x k v = some s') :
    ∃ W', (Instr.mapUpdate mt x' k' v').run P W = .ok () W' ∧ Holds m s' B W' ∧ Below B W W' := by
  unfold evUpdate at e
  split at e
  · rename_i kt et hm
    split at e
    · rename_i d hd
      cases hkb : isKeyB d k with
      | false => rw [hkb] at e; cases e
      | true =>
        rw [hkb, cond_true] at e
        have hkk : k' = k := by
          cases hk <;> first | rfl | (cases d <;> simp [isKeyB] at hkb)
        subst hkk
        have hkey := isKeyB_key hkb
        split at e
        · rename_i n
          cases hx with
          | map _ l hl =>
            have hn := R.name_lt h hl
            split at e
            · rename_i c hc
              obtain ⟨l0, g1, g2⟩ := h.maps.1 n c hn hc
              rw [hl] at g1; cases g1
              obtain ⟨hB, es, ck, g3, g4⟩ := g2
              split at e
              · rename_i i u hf
                cases e
                obtain ⟨r', q1, q2⟩ := findL_now hk hkb es.toList c.cells 0 _ g4 hf
                obtain ⟨q, e2, w1, w2, w3⟩ := findL_at k' es.toList m c.cells 0 i u g4 hf
                have w1' : i = q := by omega
                subst w1'
                have w4 : e2.key = k' := by
                  generalize hek : e2.key = ek at w3
                  cases w3 <;> first | rfl | (cases d <;> simp [isKeyB] at hkb)
                match r', q2 with
                | some (j, u'), q2 =>
                  obtain ⟨rfl, q3⟩ := q2
                  have hj : es[i]? = some e2 := by simpa using w2
                  obtain ⟨z1, z2⟩ := h.setM hn hc hl (es.modify i fun e => { e with key := k', val := v' }) ck (cs := c.cells.set (2 * i + 1) v) (by
                    rw [Array.toList_modify, entL_modify k' v' es.toList i e2 w2 w4]
                    exact g4.set _ hv)
                  refine ⟨_, ?_, z1, z2⟩
                  simp [Instr.mapUpdate, run_underlying hm, MapKept.run_getObj_map g3, MapKept.run_checkKey hd hkey, MapKept.run_findKey hd q1, hj, w4, MapKept.run_keyThatStays hkey, MapKept.run_setObj_map _ g3, Result.andThen]
              · rename_i hf
                cases e
                obtain ⟨r', q1, q2⟩ := findL_now hk hkb es.toList c.cells 0 _ g4 hf
                match r', q2 with
                | none, _ =>
                  obtain ⟨z1, z2⟩ := h.setM hn hc hl (es.push { key := k', val := v', born := ck }) (ck + 1) (cs := c.cells ++ [k', v]) (by
                    rw [Array.toList_push]
                    unfold entL
                    rw [List.flatMap_append]
                    exact g4.append (.cons hk (.cons hv .nil)))
                  refine ⟨_, ?_, z1, z2⟩
                  simp [Instr.mapUpdate, run_underlying hm, MapKept.run_getObj_map g3, MapKept.run_checkKey hd hkey, MapKept.run_findKey hd q1, MapKept.run_setObj_map _ g3, Result.andThen]
              · cases e
            · cases e
        · cases e
    · cases e
  · cases e
noncomputable def evLenM (s : St) (x : Value) : Option Value := match x with
  | .map none => some (.int .i64 0)
  | .map (some n) => match s.get (hi n) with
    | some c => some (.int .i64 (.ofNat (Nat.div c.cells.length 2)))
    | none => none
  | _ => none
theorem entL_len (es : List MapEntry) : (entL es).length = 2 * es.length := by
  induction es with
  | nil => rfl
  | cons x es ih =>
    show (x.key :: x.val :: entL es).length = _
    simp only [List.length_cons, ih]
    omega
theorem evLenM_sound {P : Program} {m : Mu} {s : St} {B : Nat} {W : World} (h : Holds m s B W) {t ty kt et : TypeId} (ht : P.underlying t = some (.map kt et)) {x x' v : Value} (hx : R m x x') (e : evLenM s x = some v) :
    ∃ v', (Builtin.len_ #[t] ty #[x']).run P W = .ok v' W ∧ R m v v' := by
  unfold evLenM at e
  split at e
  · cases hx
    cases e
    refine ⟨_, by simp [Builtin.len_, run_underlying ht, Result.andThen]; rfl, .int _ _⟩
  · rename_i n
    cases hx with
    | map _ l hl =>
      split at e
      · rename_i c hc
        obtain ⟨l0, g1, g2⟩ := h.maps.1 n c (R.name_lt h hl) hc
        rw [hl] at g1; cases g1
        obtain ⟨hB, es, ck, g3, g4⟩ := g2
        cases e
        have hlen : c.cells.length = 2 * es.size := by
          have h1 : c.cells.length = (entL es.toList).length := RL.length g4
          rw [h1, entL_len, Array.length_toList]
        have hd : Nat.div c.cells.length 2 = es.size := by
          rw [hlen]
          show 2 * es.size / 2 = es.size
          omega
        rw [hd]
        refine ⟨_, by simp [Builtin.len_, run_underlying ht, MapKept.run_getObj_map g3, Result.andThen]; rfl, ?_⟩
        exact .int _ _
      · cases e
  · cases e
end Go.Proofs.YtklclfolmfhocaaGreatDoor.Ev
namespace Go.Proofs.YtklclfolmfhocaaGreatDoor.Ev
open Go.ChangeShapes Go.WideShapes Go.ChangeAt Go.RowKit
open Go.Proofs.YtklclfolmfhocaaGreatDoor.Mem
variable {N : Nat}
set_option linter.unusedVariables false
set_option linter.unusedSimpArgs false
noncomputable def evXs (s : St) (a : Sls) : List Operand → Option (List Value)
  | [] => some []
  | x :: r => match evX s a x, evXs s a r with
    | some v, some l => some (v :: l)
    | _, _ => none
theorem evXs_sound {m : Mu} {s : St} {B : Nat} {W : World} (h : Holds m s B W) {a : Sls} {A : Act} (ha : RS N m a A) : ∀ (xs : List Operand) (l : List Value), evXs s a xs = some l → RL m l (xs.map A.eval) := by
  intro xs
  induction xs with
  | nil => intro l e; cases e; exact .nil
  | cons x xs ih =>
    intro l e
    simp only [evXs] at e
    split at e
    · rename_i v r hv hr
      cases e
      exact .cons (evX_sound h ha hv) (ih _ hr)
    · cases e
/-- an operand that may be left out -/
noncomputable def evXo (s : St) (a : Sls) : Option Operand → Option (Option Value)
  | none => some none
  | some x => (evX s a x).map some
/-! ### what is common, at once -/
/-- the sum is in range -/
def fits (k : IntKind) (n : Nat) : Bool := bif Nat.blt n 128 then true else match k with
  | .i64 => Nat.blt n 9223372036854775808
  | _ => false
theorem fits_wrap {k : IntKind} {n : Nat} (h : fits k n = true) : k.wrap (n : Int) = n := by
  unfold fits at h
  cases hb : Nat.blt n 128 with
  | true =>
    have hn : n < 128 := by simpa [Nat.blt_eq] using hb
    cases k <;> simp [IntKind.wrap, IntKind.bits, IntKind.signed] <;> omega
  | false =>
    rw [hb, cond_false] at h
    cases k <;> (try simp only [] at h) <;> first | (cases h; done) | skip
    have hn : n < 9223372036854775808 := by simpa [Nat.blt_eq] using h
    simp [IntKind.wrap, IntKind.bits, IntKind.signed]
    omega
def ltN (a b : Int) : Bool := match a with
  | .ofNat a => (match b with
    | .ofNat b => Nat.blt a b
    | .negSucc _ => false)
  | .negSucc _ => decide (a < b)
theorem ltN_eq (a b : Int) : ltN a b = decide (a < b) := by
  cases a with
  | ofNat a =>
    cases b with
    | ofNat b =>
      simp only [ltN]
      rw [Bool.eq_iff_iff]
      simp [Nat.blt_eq]
    | negSucc b =>
      simp only [ltN]
      symm
      simp
      omega
  | negSucc a => rfl
def ints (f : IntKind → Int → Int → Option Value) : Value → Value → Option Value
  | .int k a => fun y => match y with
    | .int k' b => if k = k' then f k a b else none
    | _ => none
  | _ => fun _ => none
def addN (k : IntKind) (a b : Int) : Option Value := match a with
  | .ofNat a => (match b with
    | .ofNat b => bif fits k (Nat.add a b) then some (.int k (.ofNat (Nat.add a b))) else none
    | .negSucc _ => none)
  | .negSucc _ => none
def subN (k : IntKind) (a b : Int) : Option Value := match a with
  | .ofNat a => (match b with
    | .ofNat b => bif Nat.ble b a then (bif fits k (Nat.sub a b) then some (.int k (.ofNat (Nat.sub a b))) else none) else none
    | .negSucc _ => none)
  | .negSucc _ => none
def fastEq (neg : Bool) : Value → Value → Option Value
  | .int k a => fun y => match y with
    | .int k' b => if k = k' then some (.bool (bif neg then !(eqN a b) else eqN a b)) else none
    | _ => none
  | .string x => fun y => match y with
    | .string y => some (.bool (bif neg then !(eqBytes x.data.toList y.data.toList) else eqBytes x.data.toList y.data.toList))
    | _ => none
  | _ => fun _ => none
def fastBin : BinOp → Value → Value → Option Value
  | .lss => ints fun _ a b => some (.bool (ltN a b))
  | .gtr => ints fun _ a b => some (.bool (ltN b a))
  | .leq => ints fun _ a b => some (.bool (!(ltN b a)))
  | .geq => ints fun _ a b => some (.bool (!(ltN a b)))
  | .add => ints addN
  | .sub => ints subN
  | .eql => fastEq false
  | .neq => fastEq true
  | _ => fun _ _ => none
theorem ints_some {f : IntKind → Int → Int → Option Value} {x y v : Value} (h : ints f x y = some v) : ∃ k a b, x = .int k a ∧ y = .int k b ∧ f k a b = some v := by
  cases x <;> simp only [ints] at h <;> first | (cases h; done) | skip
  rename_i k a
  cases y <;> (try simp only [] at h) <;> first | (cases h; done) | skip
  rename_i k' b
  split at h
  · rename_i hk; subst hk; exact ⟨k, a, b, rfl, rfl, h⟩
  · cases h
theorem fastBin_run {P : Program} {op : BinOp} {t : TypeId} {x y v : Value} (ox oy : Operand) (h : fastBin op x y = some v) (W : World) : (do eqGuard op t ox oy x y; binOp op t x y : Sem Value).run P W = .ok v W := by
  cases op <;> simp only [fastBin] at h <;> first | (cases h; done) | skip
  all_goals first
    | (replace h := ints_some h; obtain ⟨k, a, b, rfl, rfl, h⟩ := h)
    | skip
  case eql =>
    cases x <;> simp only [fastEq] at h <;> first | (cases h; done) | skip
    · rename_i k a
      cases y <;> (try simp only [] at h) <;> first | (cases h; done) | skip
      rename_i k' b
      split at h
      · rename_i hk; subst hk; cases h
        simp [eqGuard, binOp, Op.intCmp, eqN_eq, Sem.run_bind]
      · cases h
    · rename_i x
      cases y <;> (try simp only [] at h) <;> first | (cases h; done) | skip
      rename_i y
      cases h
      simp [eqGuard, binOp, Op.stringOp, eqBytes_eq, Sem.run_bind, ByteArray.toList_eq]
  case neq =>
    cases x <;> simp only [fastEq] at h <;> first | (cases h; done) | skip
    · rename_i k a
      cases y <;> (try simp only [] at h) <;> first | (cases h; done) | skip
      rename_i k' b
      split at h
      · rename_i hk; subst hk; cases h
        simp [eqGuard, binOp, Op.intCmp, eqN_eq, Sem.run_bind, bne]
      · cases h
    · rename_i x
      cases y <;> (try simp only [] at h) <;> first | (cases h; done) | skip
      rename_i y
      cases h
      simp [eqGuard, binOp, Op.stringOp, eqBytes_eq, Sem.run_bind, ByteArray.toList_eq]
  case add =>
    cases a <;> simp only [addN] at h <;> first | (cases h; done) | skip
    cases b <;> (try simp only [] at h) <;> first | (cases h; done) | skip
    rename_i a b
    cases hf : fits k (Nat.add a b) with
    | false => rw [hf] at h; cases h
    | true =>
      rw [hf] at h
      cases h
      have hw := fits_wrap hf
      simp [eqGuard, binOp, Op.intArith, Sem.run_bind]
      exact hw
  case sub =>
    cases a <;> simp only [subN] at h <;> first | (cases h; done) | skip
    cases b <;> (try simp only [] at h) <;> first | (cases h; done) | skip
    rename_i a b
    cases hl : Nat.ble b a with
    | false => rw [hl] at h; cases h
    | true =>
      rw [hl, cond_true] at h
      cases hf : fits k (Nat.sub a b) with
      | false => rw [hf] at h; cases h
      | true =>
        rw [hf] at h
        cases h
        have hw := fits_wrap hf
        have hle : b ≤ a := Nat.le_of_ble_eq_true hl
        simp [eqGuard, binOp, Op.intArith, Sem.run_bind]
        rw [← Int.ofNat_sub hle]
        exact hw
  all_goals
    cases h
    simp [eqGuard, binOp, Op.intCmp, ltN_eq, Sem.run_bind]
    try (rw [Bool.eq_iff_iff]; simp)
/-- a byte of a text -/
def fastIndex : Value → Value → Option Value
  | .string s => fun y => match y with
    | .int _ (.ofNat i) => match s.data.toList[i]? with
      | some b => some (.int .u8 b.toNat)
      | none => none
    | _ => none
  | _ => fun _ => none
def isStr (P : Program) (t : TypeId) : Bool := match P.underlying t with
  | some .string => true
  | _ => false
theorem fastIndex_run {P : Program} {t : TypeId} {x y v : Value} (ht : isStr P t = true) (h : fastIndex x y = some v) (W : World) : (Instr.index t x y).run P W = .ok v W := by
  unfold isStr at ht
  split at ht
  · rename_i hu
    cases x <;> simp only [fastIndex] at h <;> first | (cases h; done) | skip
    rename_i s
    cases y <;> (try simp only [] at h) <;> first | (cases h; done) | skip
    rename_i k i
    cases i <;> (try simp only [] at h) <;> first | (cases h; done) | skip
    rename_i i
    split at h
    · rename_i b hb
      cases h
      have hs : s[i]? = some b := by
        rw [Array.getElem?_toList] at hb
        obtain ⟨hlt, e⟩ := Array.getElem?_eq_some_iff.1 hb
        have hlt2 : i < s.size := hlt
        rw [getElem?_pos s i hlt2]
        exact congrArg some e
      simp [Instr.index, asIntOf, Sem.run_bind, underlying_run hu W, hs]
    · cases h
  · cases ht
theorem fastBin_flat {op : BinOp} {x y v : Value} (h : fastBin op x y = some v) : flat x = true ∧ flat y = true ∧ flat v = true := by
  cases op <;> simp only [fastBin] at h <;> first | (cases h; done) | skip
  all_goals first
    | (replace h := ints_some h; obtain ⟨k, a, b, rfl, rfl, h⟩ := h; refine ⟨rfl, rfl, ?_⟩)
    | skip
  case eql =>
    cases x <;> simp only [fastEq] at h <;> first | (cases h; done) | skip
    all_goals
      cases y <;> (try simp only [] at h) <;> first | (cases h; done) | skip
    · split at h
      · cases h; exact ⟨rfl, rfl, rfl⟩
      · cases h
    · cases h; exact ⟨rfl, rfl, rfl⟩
  case neq =>
    cases x <;> simp only [fastEq] at h <;> first | (cases h; done) | skip
    all_goals
      cases y <;> (try simp only [] at h) <;> first | (cases h; done) | skip
    · split at h
      · cases h; exact ⟨rfl, rfl, rfl⟩
      · cases h
    · cases h; exact ⟨rfl, rfl, rfl⟩
  case add =>
    cases a <;> simp only [addN] at h <;> first | (cases h; done) | skip
    cases b <;> (try simp only [] at h) <;> first | (cases h; done) | skip
    rename_i a b
    cases hf : fits k (Nat.add a b) <;> rw [hf] at h <;> cases h
    rfl
  case sub =>
    cases a <;> simp only [subN] at h <;> first | (cases h; done) | skip
    cases b <;> (try simp only [] at h) <;> first | (cases h; done) | skip
    rename_i a b
    cases hl : Nat.ble b a <;> rw [hl] at h <;> first | (cases h; done) | skip
    rw [cond_true] at h
    cases hf : fits k (Nat.sub a b) <;> rw [hf] at h <;> cases h
    rfl
  all_goals (cases h; rfl)
def evBin (P : Program) (op : BinOp) (t : TypeId) (p q : Value) : Option Value :=
  match fastBin op p q with
  | some v => some v
  | none => match op with
    | .eql => (evSame P t p q).map fun b => .bool b
    | .neq => (evSame P t p q).map fun b => .bool (!b)
    | _ => none
theorem evBin_sound {P : Program} {m : Mu} {op : BinOp} {t : TypeId} {x x' y y' v : Value} (hx : R m x x') (hy : R m y y') (e : evBin P op t x y = some v) (ox oy : Operand) (W : World) : (do eqGuard op t ox oy x' y'; binOp op t x' y' : Sem Value).run P W = .ok v W ∧ flat v = true := by
  unfold evBin at e
  split at e
  · rename_i v' hv
    cases e
    obtain ⟨f1, f2, f3⟩ := fastBin_flat hv
    rw [hx.flat_eq f1, hy.flat_eq f2]
    exact ⟨fastBin_run ox oy hv W, f3⟩
  · split at e
    · obtain ⟨b, hb, e⟩ := Option.map_eq_some_iff.1 e
      cases e
      exact ⟨(evSame_run hx hy hb ox oy W).1, rfl⟩
    · obtain ⟨b, hb, e⟩ := Option.map_eq_some_iff.1 e
      cases e
      exact ⟨(evSame_run hx hy hb ox oy W).2, rfl⟩
    · cases e
abbrev EvF := Program → St → Sls → Oper → Option (Option Value × St)
/-- what an operation does, by its kind: each branch a closed term -/
noncomputable def evTab : Op → EvF
  | .move x => fun _ s a _ => (evX s a x).map fun v => (some v, s)
  | .assign x => fun _ s a _ => (evX s a x).map fun v => (some v, s)
  | .pick c x y => fun _ s a _ => match evX s a c with
      | some (.bool b) => (evX s a (if b then x else y)).map fun v => (some v, s)
      | _ => none
  | .load t x => fun P s a _ => match evX s a x with
      | some p => (evLoad P s t p).map fun v => (some v, s)
      | none => none
  | .store t x y => fun P s a _ => match evX s a x, evX s a y with
      | some p, some v => (evStore P s t p v).map fun s' => (none, s')
      | _, _ => none
  | .alloc t => fun P s _ _ => match zeroB P t with
      | some z => (evNew s t z).map fun r => (some r.1, r.2)
      | none => none
  | .box t x => fun _ s a _ => match evX s a x with
      | some v => (evNew s t v).map fun r => (some r.1, r.2)
      | none => none
  | .build t ps => fun P s a _ => (evBuild P s a t ps.toList).map fun v => (some v, s)
  | .buildSlice t len ps => fun P s a _ => (evBuildSlice P s a t len ps.toList).map fun r => (some r.1, r.2)
  | .fieldAddr t x f => fun P s a _ => match evX s a x with
      | some p => (evFieldAddr P t p f).map fun v => (some v, s)
      | none => none
  | .field t x f => fun P s a _ => match evX s a x with
      | some p => (evField P t p f).map fun v => (some v, s)
      | none => none
  | .indexAddr t x i => fun P s a _ => match evX s a x, evX s a i with
      | some p, some j => (evIndexAddr P t p j).map fun v => (some v, s)
      | _, _ => none
  | .index t x i => fun P s a _ => match evX s a x, evX s a i with
      | some p, some j => bif isStr P t then (fastIndex p j).map fun v => (some v, s) else (evIndex P t p j).map fun v => (some v, s)
      | _, _ => none
  | .extract x i => fun _ s a _ => match evX s a x with
      | some p => (evExtract p i).map fun v => (some v, s)
      | none => none
  | .makeMap t none => fun _ s _ _ => (evMakeMap s).map fun r => (some r.1, r.2)
  | .insert t x k y => fun P s a _ => match evX s a x, evX s a k, evX s a y with
      | some p, some q, some r => (evUpdate P s t p q r).map fun s' => (none, s')
      | _, _, _ => none
  | .mapUpdate t x k y => fun P s a _ => match evX s a x, evX s a k, evX s a y with
      | some p, some q, some r => (evUpdate P s t p q r).map fun s' => (none, s')
      | _, _, _ => none
  | .lookup t x k ok => fun P s a _ => match evX s a x, evX s a k with
      | some p, some q => (evLookup P s t p q ok).map fun v => (some v, s)
      | _, _ => none
  | .slice t x lo hi none => fun P s a _ => match evX s a x, evXo s a lo, evXo s a hi with
      | some p, some l, some h => (evSlice P t p l h).map fun v => (some v, s)
      | _, _, _ => none
  | .makeFunc f fs cs => fun _ s a _ => match evXs s a fs.toList, evXs s a cs.toList with
      | some l, some k => some (some (.func f l.toArray k.toArray), s)
      | _, _ => none
  | .nilCheck x => fun _ s a _ => match evX s a x with
      | some p => (evNilCheck p).map fun v => (some v, s)
      | none => none
  | .binOp op t x y _ => fun P s a _ => match evX s a x, evX s a y with
      | some p, some q => (evBin P op t p q).map fun v => (some v, s)
      | _, _ => none
  | .convert src dst x => fun P s a _ => match evX s a x with
      | some p => (evConv P s src dst p).map fun v => (some v, s)
      | none => none
  | .call c => match c.callee with
    | .builtin .len => fun P s a _ => match c.args.toList, (c.argTypes[0]?).bind P.underlying with
      | [x], some (.slice _) => match evX s a x with
        | some p => (evLen p).map fun v => (some v, s)
        | none => none
      | [x], some (.map _ _) => match evX s a x with
        | some p => (evLenM s p).map fun v => (some v, s)
        | none => none
      | _, _ => none
    | .builtin .append => fun P s a _ => match c.args.toList, c.argTypes.toList with
      | [x, y], [t, t'] => match evX s a x, evX s a y with
        | some p, some q => if t = t' then (evAppend P s t p q).map fun r => (some r.1, r.2) else match q with
          | .string b => (evAppendStr P s t t' p b).map fun r => (some r.1, r.2)
          | _ => none
        | _, _ => none
      | _, _ => none
    | .builtin .unsafeSliceData => fun _ s a _ => match c.args.toList with
      | [x] => match evX s a x with
        | some p => (evSliceData p).map fun v => (some v, s)
        | none => none
      | _ => none
    | .builtin .unsafeString => fun P s a _ => match c.args.toList, c.argTypes.toList with
      | [x, y], [pt, it] => match evX s a x, evX s a y with
        | some p, some q => (evUnsafeStr P s pt p q).map fun r => (some r.1, r.2)
        | _, _ => none
      | _, _ => none
    | .value f => fun P s a _ => match c.args.toList with
      | [x] => match evX s a f, evX s a x with
        | some (.func (.func g) b d), some p => bif isSameF P g && b.toList.isEmpty && d.toList.isEmpty then some (some p, s) else none
        | _, _ => none
      | _ => none
    | _ => fun _ _ _ _ => none
  | _ => fun _ _ _ _ => none
noncomputable def evOp (P : Program) (s : St) (a : Sls) (o : Oper) : Option (Option Value × St) :=
  match evTab o.op P s a o with
  | some r => some r
  | none => match evFlat P s a o with
    | some v => some (some v, s)
    | none => none
def OpOk (P : Program) (m : Mu) (B : Nat) (W : World) (o : Oper) (A : Act) (s' : St) (r : Option Value) : Prop :=
  ∃ m' W', Sub m m' ∧ Holds m' s' B W' ∧ Below B W W' ∧ match r with
    | some v => ∃ v', (execOp A.eval o).run P W = .ok (.value v') W' ∧ R m' v v'
    | none => (execOp A.eval o).run P W = .ok .skip W'
theorem OpOk.val {P : Program} {m : Mu} {B : Nat} {W : World} {o : Oper} {A : Act} {s : St} {v v' : Value} (h : Holds m s B W) (e : (execOp A.eval o).run P W = .ok (.value v') W) (r : R m v v') : OpOk P m B W o A s (some v) :=
  ⟨m, W, Sub.refl m, h, Below.refl B W, v', e, r⟩
theorem evOp_sound {P : Program} {m : Mu} {s : St} {B : Nat} {W : World} (h : Holds m s B W) {a : Sls} {A : Act} (ha : RS N m a A) {o : Oper} {r : Option Value} {s' : St} (e : evOp P s a o = some (r, s')) : OpOk P m B W o A s' r := by
  have hflat : (match evFlat P s a o with
    | some v => some (some v, s)
    | none => none) = some (r, s') → OpOk P m B W o A s' r := fun e => by
    split at e
    · rename_i v hv
      cases e
      obtain ⟨h1, h2⟩ := evFlat_sound h ha hv
      exact .val h h1 h2
    · cases e
  unfold evOp at e
  split at e
  case h_2 => exact hflat e
  case h_1 r0 hr0 =>
    clear hflat
    rw [Option.some.inj e] at hr0
    clear e
    have e := hr0
    clear hr0
    unfold evTab at e
    generalize hop : o.op = op at e
    cases op <;> (try dsimp only at e) <;> first | (cases e; done) | skip
    case move x =>
      obtain ⟨v, hv, e⟩ := Option.map_eq_some_iff.1 e
      cases e
      exact .val h (by simp [execOp, hop]) (evX_sound h ha hv)
    case assign x =>
      obtain ⟨v, hv, e⟩ := Option.map_eq_some_iff.1 e
      cases e
      exact .val h (by simp [execOp, hop]) (evX_sound h ha hv)
    case pick c x y =>
      split at e
      · rename_i b hb
        obtain ⟨v, hv, e⟩ := Option.map_eq_some_iff.1 e
        cases e
        have hc := (evX_sound h ha hb).flat_eq rfl
        exact .val h (v' := A.eval _) (by cases b <;> simp [execOp, hop, hc, asBool, Sem.run_bind] <;> rfl) (evX_sound h ha hv)
      · cases e
    case load t x =>
      split at e
      · rename_i p hp
        obtain ⟨v, hv, e⟩ := Option.map_eq_some_iff.1 e
        cases e
        obtain ⟨v', h1, h2⟩ := evLoad_sound h (evX_sound h ha hp) hv
        exact .val h (by simp [execOp, hop, Sem.run_bind, h1]) h2
      · cases e
    case store t x y =>
      split at e
      · rename_i p v hp hv
        obtain ⟨s2, hs, e⟩ := Option.map_eq_some_iff.1 e
        cases e
        obtain ⟨W', h1, h2, h3⟩ := evStore_sound h (evX_sound h ha hp) (evX_sound h ha hv) hs
        exact ⟨m, W', Sub.refl m, h2, h3, by simp [execOp, hop, Sem.run_bind, h1]⟩
      · cases e
    case alloc t =>
      split at e
      · rename_i z hz
        obtain ⟨q, hq, e⟩ := Option.map_eq_some_iff.1 e
        cases e
        obtain ⟨h1, h2⟩ := zero_run hz W
        obtain ⟨r', W', m', g1, g2, g3, g4, g5⟩ := evNew_sound (P := P) h (R.of_closed (m := m) h2) hq
        refine ⟨m', W', g3, g4, g5.mono h.room, r', ?_, g2⟩
        obtain ⟨t, hop⟩ : ∃ t, o.op = .alloc t ∧ (zeroValue t).run P W = .ok z W ∧ (Instr.box t z).run P W = .ok r' W' := ⟨_, hop, h1, g1⟩
        obtain ⟨hop, h1, g1⟩ := hop
        have : (Instr.alloc t true (.tuple #[])).run P W = .ok r' W' := by
          simp only [Instr.alloc, Sem.run_bind, h1, Result.andThen_ok]
          exact g1
        simp [execOp, hop, Sem.run_bind, this]
      · cases e
    case box t x =>
      split at e
      · rename_i p hp
        obtain ⟨q, hq, e⟩ := Option.map_eq_some_iff.1 e
        cases e
        obtain ⟨r', W', m', g1, g2, g3, g4, g5⟩ := evNew_sound (P := P) h (evX_sound h ha hp) hq
        exact ⟨m', W', g3, g4, g5.mono h.room, r', by simp [execOp, hop, Sem.run_bind, g1], g2⟩
      · cases e
    case build t ps =>
      obtain ⟨v, hv, e⟩ := Option.map_eq_some_iff.1 e
      cases e
      obtain ⟨v', h1, h2⟩ := evBuild_sound h ha hv
      exact .val h (by simp [execOp, hop, Sem.run_bind, h1]) h2
    case buildSlice t len ps =>
      obtain ⟨q, hq, e⟩ := Option.map_eq_some_iff.1 e
      cases e
      obtain ⟨r', W', m', g1, g2, g3, g4, g5⟩ := evBuildSlice_sound h ha hq
      exact ⟨m', W', g3, g4, g5.mono h.room, r', by simp [execOp, hop, Sem.run_bind, g1], g2⟩
    case fieldAddr t x f =>
      split at e
      · rename_i p hp
        obtain ⟨v, hv, e⟩ := Option.map_eq_some_iff.1 e
        cases e
        obtain ⟨v', h1, h2⟩ := evFieldAddr_sound (evX_sound h ha hp) _ hv W
        exact .val h (by simp [execOp, hop, Sem.run_bind, h1]) h2
      · cases e
    case field t x f =>
      split at e
      · rename_i p hp
        obtain ⟨v, hv, e⟩ := Option.map_eq_some_iff.1 e
        cases e
        obtain ⟨v', h1, h2⟩ := evField_sound (evX_sound h ha hp) _ hv W
        exact .val h (by simp [execOp, hop, Sem.run_bind, h1]) h2
      · cases e
    case indexAddr t x i =>
      split at e
      · rename_i p j hp hj
        obtain ⟨v, hv, e⟩ := Option.map_eq_some_iff.1 e
        cases e
        obtain ⟨v', h1, h2⟩ := evIndexAddr_sound (evX_sound h ha hp) (evX_sound h ha hj) hv W
        exact .val h (by simp [execOp, hop, Sem.run_bind, h1]) h2
      · cases e
    case index t x i =>
      split at e
      · rename_i p j hp hj
        cases hst : isStr P t with
        | true =>
          rw [hst, cond_true] at e
          obtain ⟨v, hv, e⟩ := Option.map_eq_some_iff.1 e
          cases e
          have hflat : flat v = true := by
            cases p <;> simp only [fastIndex] at hv <;> first | (cases hv; done) | skip
            cases j <;> (try simp only [] at hv) <;> first | (cases hv; done) | skip
            rename_i i
            cases i <;> (try simp only [] at hv) <;> first | (cases hv; done) | skip
            split at hv
            · cases hv; rfl
            · cases hv
          have hx := evX_sound h ha hp
          have hy := evX_sound h ha hj
          have hpf : flat p = true ∧ flat j = true := by
            cases p <;> simp only [fastIndex] at hv <;> first | (cases hv; done) | skip
            cases j <;> (try simp only [] at hv) <;> first | (cases hv; done) | skip
            exact ⟨rfl, rfl⟩
          have e1 := hx.flat_eq hpf.1
          have e2 := hy.flat_eq hpf.2
          exact .val h (by simp [execOp, hop, Sem.run_bind, e1, e2, fastIndex_run hst hv W]) (R.of_flat hflat)
        | false =>
          rw [hst, cond_false] at e
          obtain ⟨v, hv, e⟩ := Option.map_eq_some_iff.1 e
          cases e
          obtain ⟨v', h1, h2⟩ := evIndex_sound (evX_sound h ha hp) (evX_sound h ha hj) hv W
          exact .val h (by simp [execOp, hop, Sem.run_bind, h1]) h2
      · cases e
    case extract x i =>
      split at e
      · rename_i p hp
        obtain ⟨v, hv, e⟩ := Option.map_eq_some_iff.1 e
        cases e
        obtain ⟨v', h1, h2⟩ := evExtract_sound (P := P) (evX_sound h ha hp) _ hv W
        exact .val h (by simp [execOp, hop, Sem.run_bind, h1]) h2
      · cases e
    case slice t x lo hi mx =>
      cases mx with
      | some mx => dsimp only at e; cases e
      | none =>
      dsimp only at e
      split at e
      · rename_i p l hh hp hl hhi
        obtain ⟨v, hv, e⟩ := Option.map_eq_some_iff.1 e
        cases e
        have key : ∀ (q : Option Operand) (u : Option Value), evXo s a q = some u → (∀ z, u = some z → ∃ z', q.map A.eval = some z' ∧ R m z z') ∧ (u = none → q.map A.eval = none) := fun q u hq => by
          cases q with
          | none => cases hq; exact ⟨fun z hz => (by cases hz), fun _ => rfl⟩
          | some x =>
            obtain ⟨z, hz, e⟩ := Option.map_eq_some_iff.1 hq
            subst e
            exact ⟨fun z' hz' => (by cases hz'; exact ⟨_, rfl, evX_sound h ha hz⟩), fun e => (by cases e)⟩
        obtain ⟨v', h1, h2⟩ := evSlice_sound (evX_sound h ha hp) (key _ _ hl).1 (key _ _ hl).2 (key _ _ hhi).1 (key _ _ hhi).2 hv W
        exact .val h (by simp [execOp, hop, Sem.run_bind, h1]) h2
      · cases e
    case makeFunc f fs cs =>
      split at e
      · rename_i l k hl hk
        cases e
        exact .val h (v' := .func f (fs.map A.eval) (cs.map A.eval)) (by simp [execOp, hop, Sem.run_bind, Instr.makeFunc]) (.func _ _ _ _ _ (by simpa using evXs_sound h ha _ _ hl) (by simpa using evXs_sound h ha _ _ hk))
      · cases e
    case nilCheck x =>
      split at e
      · rename_i p hp
        obtain ⟨v, hv, e⟩ := Option.map_eq_some_iff.1 e
        cases e
        have hr := evX_sound h ha hp
        unfold evNilCheck at hv
        split at hv
        · cases hv
          generalize hy : A.eval _ = y at hr
          cases hr with
          | ptr n o' l hl => exact .val h (v' := .pointer (some ⟨l.blk, o', none⟩)) (by simp [execOp, hop, hy]) (.ptr _ _ _ hl)
        · cases hv
          generalize hy : A.eval _ = y at hr
          cases hr with
          | func f a0 b0 a' b' h0 g0 => refine .val h (v' := .func _ a' b') ?_ (.func _ _ _ _ _ h0 g0); simp [execOp, hop, hy]
        · cases hv
      · cases e
    case makeMap t r =>
      cases r with
      | some _ => cases e
      | none =>
        obtain ⟨q, hq, e⟩ := Option.map_eq_some_iff.1 e
        cases e
        obtain ⟨v', W', m', g1, g2, g3, g4, g5⟩ := evMakeMap_sound (P := P) h t hq
        refine ⟨m', W', g3, g4, g5.mono h.room, v', ?_, g2⟩
        simp [execOp, hop, Sem.run_bind, g1]
    case insert t x k y =>
      split at e
      · rename_i p q r hp hq hr
        obtain ⟨s2, hs, e⟩ := Option.map_eq_some_iff.1 e
        cases e
        obtain ⟨W', h1, h2, h3⟩ := evUpdate_sound h (evX_sound h ha hp) (evX_sound h ha hq) (evX_sound h ha hr) hs
        exact ⟨m, W', Sub.refl m, h2, h3, by simp [execOp, hop, Sem.run_bind, h1]⟩
      · cases e
    case mapUpdate t x k y =>
      split at e
      · rename_i p q r hp hq hr
        obtain ⟨s2, hs, e⟩ := Option.map_eq_some_iff.1 e
        cases e
        obtain ⟨W', h1, h2, h3⟩ := evUpdate_sound h (evX_sound h ha hp) (evX_sound h ha hq) (evX_sound h ha hr) hs
        exact ⟨m, W', Sub.refl m, h2, h3, by simp [execOp, hop, Sem.run_bind, h1]⟩
      · cases e
    case lookup t x k ok =>
      split at e
      · rename_i p q hp hq
        obtain ⟨v, hv, e⟩ := Option.map_eq_some_iff.1 e
        cases e
        obtain ⟨v', h1, h2⟩ := evLookup_sound (P := P) h (evX_sound h ha hp) (evX_sound h ha hq) hv
        exact .val h (by simp [execOp, hop, Sem.run_bind, h1]) h2
      · cases e
    case call c =>
      generalize hcal : c.callee = cl at e
      cases cl <;> (try dsimp only at e) <;> first | (cases e; done) | skip
      case builtin bi =>
        cases bi <;> (try dsimp only at e) <;> first | (cases e; done) | skip
        case len =>
          split at e
          · rename_i x el hargs hu
            split at e
            · rename_i p hp
              obtain ⟨v, hv, e⟩ := Option.map_eq_some_iff.1 e
              cases e
              have hr := evX_sound h ha hp
              unfold evLen at hv
              split at hv
              · rename_i q n ex
                cases hv
                obtain ⟨t, ht, hu⟩ := Option.bind_eq_some_iff.1 hu
                have hargs := Array.toList_inj.1 (show _ = (#[x] : Array Operand).toList from hargs)
                have hy : ∃ ad cp, A.eval x = .slice ad n cp := by
                  generalize hy : A.eval x = y at hr
                  cases hr with
                  | sliceNil => exact ⟨_, _, rfl⟩
                  | slice n o' len e l hl hc hm => exact ⟨_, _, rfl⟩
                obtain ⟨ad, cp, hy⟩ := hy
                refine .val h (v' := .int .i64 n) ?_ (.int _ _)
                simp [execOp, hop, Sem.run_bind, resolve, hcal, invoke, builtin, Builtin.len_, hargs, ht, hy, underlying_run hu W, goInt]
              · cases hv
            · cases e
          · rename_i x kt et hargs hu
            split at e
            · rename_i p hp
              obtain ⟨v, hv, e⟩ := Option.map_eq_some_iff.1 e
              cases e
              have hr := evX_sound h ha hp
              obtain ⟨t, ht, hu⟩ := Option.bind_eq_some_iff.1 hu
              have hargs := Array.toList_inj.1 (show _ = (#[x] : Array Operand).toList from hargs)
              obtain ⟨v', g1, g2⟩ := evLenM_sound (P := P) (ty := o.type) h hu hr hv
              refine .val h (v' := v') ?_ g2
              have hl : ∀ ts : Array TypeId, ts[0]? = some t → (Builtin.len_ ts o.type #[A.eval x]).run P W = (Builtin.len_ #[t] o.type #[A.eval x]).run P W := fun ts hts => by simp [Builtin.len_, hts]
              simp [execOp, hop, Sem.run_bind, resolve, hcal, invoke, builtin, hargs, hl _ ht, g1]
            · cases e
          · cases e
        case append =>
          split at e
          · rename_i x y t t' hargs hat
            have hargs := Array.toList_inj.1 (show _ = (#[x, y] : Array Operand).toList from hargs)
            have hats := Array.toList_inj.1 (show _ = (#[t, t'] : Array TypeId).toList from hat)
            split at e
            · rename_i p q hp hq
              split at e
              · rename_i htt
                subst htt
                obtain ⟨r2, hr2, e⟩ := Option.map_eq_some_iff.1 e
                cases e
                obtain ⟨v', W', m', g1, g2, g3, g4, g5⟩ := evAppend_sound (P := P) (ty := o.type) h (evX_sound h ha hp) (evX_sound h ha hq) hr2
                refine ⟨m', W', g3, g4, g5, v', ?_, g2⟩
                simp [execOp, hop, Sem.run_bind, resolve, hcal, invoke, builtin, hargs, hats, g1]
              · split at e
                · rename_i b
                  obtain ⟨r2, hr2, e⟩ := Option.map_eq_some_iff.1 e
                  cases e
                  have hyb : A.eval y = .string b := (evX_sound h ha hq).flat_eq rfl
                  obtain ⟨v', W', m', g1, g2, g3, g4, g5⟩ := evAppendStr_sound (P := P) (ty := o.type) h (evX_sound h ha hp) hr2
                  refine ⟨m', W', g3, g4, g5, v', ?_, g2⟩
                  simp [execOp, hop, Sem.run_bind, resolve, hcal, invoke, builtin, hargs, hats, hyb, g1]
                · cases e
            · cases e
          · cases e
        case unsafeSliceData =>
          split at e
          · rename_i x hargs
            have hargs := Array.toList_inj.1 (show _ = (#[x] : Array Operand).toList from hargs)
            split at e
            · rename_i p hp
              obtain ⟨v, hv, e⟩ := Option.map_eq_some_iff.1 e
              cases e
              obtain ⟨v', h1, h2⟩ := evSliceData_sound (P := P) (evX_sound h ha hp) hv c.argTypes o.type W
              exact .val h (by simp [execOp, hop, Sem.run_bind, resolve, hcal, invoke, builtin, hargs, h1]) h2
            · cases e
          · cases e
        case unsafeString =>
          split at e
          · rename_i x y pt it hargs hat
            have hargs := Array.toList_inj.1 (show _ = (#[x, y] : Array Operand).toList from hargs)
            have hats := Array.toList_inj.1 (show _ = (#[pt, it] : Array TypeId).toList from hat)
            split at e
            · rename_i p q hp hq
              obtain ⟨r2, hr2, e⟩ := Option.map_eq_some_iff.1 e
              cases e
              obtain ⟨v', W', g1, g2, g3, g4⟩ := evUnsafeStr_sound (P := P) (it := it) (ty := o.type) h (evX_sound h ha hp) (evX_sound h ha hq) hr2
              refine ⟨m, W', Sub.refl m, g3, g4, v', ?_, g2⟩
              simp [execOp, hop, Sem.run_bind, resolve, hcal, invoke, builtin, hargs, hats, g1]
            · cases e
          · cases e
      case value f =>
        split at e
        · rename_i x hargs
          have hargs := Array.toList_inj.1 (show _ = (#[x] : Array Operand).toList from hargs)
          split at e
          · rename_i g b d p hf hp
            obtain ⟨e1, e2⟩ := bif_some e
            cases e2
            simp only [Bool.and_eq_true, List.isEmpty_iff] at e1
            obtain ⟨⟨e1, e2⟩, e3⟩ := e1
            have hb : b = #[] := Array.toList_inj.1 e2
            have hd : d = #[] := Array.toList_inj.1 e3
            subst hb hd
            have hfe : A.eval f = .func (.func g) #[] #[] := (evX_sound h ha hf).closed_eq rfl
            have hrun := isSameF_run e1 (A.eval x) W
            refine .val h (v' := A.eval x) ?_ (evX_sound h ha hp)
            simp [execOp, hop, Sem.run_bind, resolve, hcal, Deferred.ofValue, hfe, hargs, invoke, hrun]
          · cases e
        · cases e
    case binOp op t x y t2 =>
      split at e
      · rename_i p q hp hq
        obtain ⟨v, hv, e⟩ := Option.map_eq_some_iff.1 e
        cases e
        obtain ⟨hr, hf⟩ := evBin_sound (evX_sound h ha hp) (evX_sound h ha hq) hv x y W
        refine .val h (v' := v) ?_ (R.of_flat hf)
        simp only [Sem.run_bind] at hr
        simp only [execOp, hop, Sem.run_bind, hr, Result.andThen_ok, Sem.run_pure]
      · cases e
    case convert src dst x =>
      split at e
      · rename_i p hp
        obtain ⟨v, hv, e⟩ := Option.map_eq_some_iff.1 e
        cases e
        obtain ⟨v', h1, h2⟩ := evConv_sound h (evX_sound h ha hp) hv
        exact .val h (by simp [execOp, hop, Sem.run_bind, h1]) h2
      · cases e
end Go.Proofs.YtklclfolmfhocaaGreatDoor.Ev
