/-
  A checked evaluator of concrete calls: append. No walk.
-/
import Derived.Test.YtabpfolbemmhlaaGreatDoorEvBuild
import Derived.Test.YtabpfolbemmhlaaGreatDoorRowOwn
namespace Go.Proofs.YtabpfolbemmhlaaGreatDoor.Ev
open Go.ChangeShapes Go.WideShapes Go.ChangeAt Go.RowKit
open Go.Proofs.YtabpfolbemmhlaaGreatDoor.Mem
set_option linter.unusedVariables false
set_option linter.unusedSimpArgs false
theorem cell_of_block {W W' : World} {b : Nat} (e : W'.heap[b]? = W.heap[b]?) (j : Nat) : W'.cell? ⟨b, j, none⟩ = W.cell? ⟨b, j, none⟩ := by
  unfold World.cell?
  rw [show (⟨b, j, none⟩ : Addr).block = b from rfl, e]
theorem Lies.turn {m : Mu} {B : Nat} {W W' : World} {c : Cells} {l : Loc} (e : W'.heap[l.blk]? = W.heap[l.blk]?) (h : Lies m B W c l) : Lies m B W' c l := by
  refine ⟨fun q => ?_, h.low, ?_⟩
  · obtain ⟨h1, rl, tail, h2, h3, h4⟩ := h.own q
    exact ⟨h1, rl, tail, h2, ⟨e.trans h3.at'⟩, h4⟩
  · obtain ⟨rl, h1, h2⟩ := h.cell
    exact ⟨rl, h1, fun j hj => (cell_of_block e j).trans (h2 j hj)⟩
/-- a name for a block that a call left -/
theorem Holds.land {m : Mu} {s : St} {B : Nat} {W W' : World} (h : Holds m s B W) (hn : s.next < 2 ^ 40) (hb : Below B W W') {g cap : Nat} (hg : B ≤ g)
    (hk : ∀ n c l, n < 2 ^ 40 → s.get n = some c → m n = some l → W'.heap[l.blk]? = W.heap[l.blk]? ∧ l.blk ≠ g) (hkm : ∀ n c l, n < 2 ^ 40 → s.get (n + 2 ^ 40) = some c → m n = some l → W'.heap[l.blk]? = W.heap[l.blk]?) {cs rl tail : List Value} (hr : RL m cs rl) {t : TypeId} (hB : Blk W' g (rl ++ tail) t) (row : Option Nat) (hrow : ∀ k, row = some k → (rl ++ tail).length = cap * k) (hnr : row ≠ none) :
    Sub m (m.put s.name ⟨g, cap⟩) ∧ Holds (m.put s.name ⟨g, cap⟩) (s.alloc cs t row) B W' := by
  have hs : Sub m (m.put s.name ⟨g, cap⟩) := Sub.put _ (h.name hn).1
  have hmu : (m.put s.name ⟨g, cap⟩) s.name = some ⟨g, cap⟩ := by simp [Mu.put]
  have hold : ∀ k, k ≠ s.name → (m.put s.name ⟨g, cap⟩) k = m k := fun k hk => by simp [Mu.put, hk]
  have hget : ∀ k c, k < 2 ^ 40 → (s.alloc cs t row).get k = some c → (k = s.name ∧ c = ⟨cs, t, row, false⟩) ∨ (k ≠ s.name ∧ s.get k = some c) := fun k c hk e => by
    by_cases hk2 : k = s.name
    · subst hk2
      exact .inl ⟨rfl, Option.some.inj (e.symm.trans ((St.alloc_get s cs t row _).trans (St.get_put_same s s.name (some (⟨cs, t, row, false⟩ : Cells)) hk)))⟩
    · exact .inr ⟨hk2, (St.get_put_other s (some (⟨cs, t, row, false⟩ : Cells)) hk2).symm.trans ((St.alloc_get s cs t row _).symm.trans e)⟩
  have hnew : Lies (m.put s.name ⟨g, cap⟩) B W' ⟨cs, t, row, false⟩ ⟨g, cap⟩ := by
    refine ⟨fun _ => ⟨hg, rl, tail, hr.up hs, hB, hrow, fun q => absurd q hnr⟩, fun e => (by cases e), rl, hr.up hs, fun j hj => ?_⟩
    rw [hB.cell j (by rw [List.length_append]; omega), List.getElem_append_left hj]
  have hname : ∀ k l, (m.put s.name ⟨g, cap⟩) k = some l → k < 2 ^ 40 := fun k l e => by
    by_cases hk : k = s.name
    · have := (h.name hn).2; omega
    · rw [hold k hk] at e; exact R.name_lt h e
  obtain ⟨f1, f2, f3, f4⟩ := h.names hn ⟨g, cap⟩ cs t row
  refine ⟨hs, ⟨f1, f2, f3, f4, Nat.le_trans h.room hb.size, fun n c hn2 hc => ?_, fun n k c d l e hc hd hl he heq => ?_, fun n c hn2 hc hro => ?_, h.keep.up hb, ⟨fun n c hn2 hc => by
    rw [St.alloc_high s cs t row (h.name hn).2] at hc
    obtain ⟨l, h3, h4⟩ := h.maps.1 n c hn2 hc
    exact ⟨l, hs _ _ h3, (h4.turn (hkm n c l hn2 hc h3)).up hs⟩, fun n k c d l e hn2 hk2 hc hd hl he => by
    rw [St.alloc_high s cs t row (h.name hn).2] at hc hd
    obtain ⟨l1, h3, h4⟩ := h.maps.1 n c hn2 hc
    obtain ⟨l2, h5, h6⟩ := h.maps.1 k d hk2 hd
    rw [hs _ _ h3] at hl; cases hl
    rw [hs _ _ h5] at he; cases he
    exact h.maps.2 n k c d _ _ hn2 hk2 hc hd h3 h5⟩⟩⟩
  · rcases hget n c hn2 hc with ⟨rfl, rfl⟩ | ⟨h1, h2⟩
    · exact ⟨_, hmu, hnew⟩
    · obtain ⟨l, h3, h4⟩ := h.at' n c hn2 h2
      exact ⟨l, hs _ _ h3, (h4.turn (hk n c l hn2 h2 h3).1).up hs⟩
  · rcases hget n c (hname n l hl) hc with ⟨rfl, rfl⟩ | ⟨h1, h2⟩
    · rcases hget k d (hname k e he) hd with ⟨h3, _⟩ | ⟨h3, h4⟩
      · exact h3.symm
      · have he2 := he
        rw [hold k h3] at he2
        have := (hk k d e (hname k e he) h4 he2).2
        rw [hmu] at hl; cases hl
        exact absurd heq.symm this
    · rcases hget k d (hname k e he) hd with ⟨rfl, rfl⟩ | ⟨h3, h4⟩
      · have hl2 := hl
        rw [hold n h1] at hl2
        have := (hk n c l (hname n l hl) h2 hl2).2
        rw [hmu] at he; cases he
        exact absurd heq this
      · rw [hold n h1] at hl
        rw [hold k h3] at he
        exact h.inj n k c d l e h2 h4 hl he heq
  · rcases hget n c hn2 hc with ⟨rfl, rfl⟩ | ⟨h1, h2⟩
    · cases hro
    · obtain ⟨cap', h3⟩ := h.glob n c hn2 h2 hro
      exact ⟨cap', hs _ _ h3⟩
noncomputable def evAppend (P : Program) (s : St) (t : TypeId) (x y : Value) : Option (Value × St) :=
  match P.underlying t, y with
  | some (.slice el), .slice (some ⟨ny, oy, none⟩) k _ =>
    match P.info? el, s.get ny with
    | some i, some cy =>
      match i.zero with
      | some z =>
        if s.next < 2 ^ 40 ∧ 0 < k ∧ 0 < i.size ∧ z.cells.size = i.size ∧ ((cy.cells.drop oy).take (k * i.size)).length = k * i.size ∧ ((cy.cells.drop oy).take (k * i.size)).all (·.oneCell') = true then
          match x with
          | .slice none 0 0 => if k * i.bytes ≤ 140737488355328 ∧ k ≤ maxLen then some (.slice (some ⟨s.name, 0, none⟩) k 0, s.alloc ((cy.cells.drop oy).take (k * i.size)) el (some i.size)) else none
          | .slice (some ⟨n, 0, none⟩) len 0 =>
            match s.get n with
            | some c => if n < 2 ^ 40 ∧ c.row = some i.size ∧ c.ro = false ∧ c.ty = el ∧ c.cells.length = len * i.size ∧ (len + k) * i.bytes ≤ 140737488355328 ∧ len + k ≤ maxLen then
                some (.slice (some ⟨s.name, 0, none⟩) (len + k) 0, (s.put n none).alloc (c.cells ++ (cy.cells.drop oy).take (k * i.size)) el (some i.size)) else none
            | none => none
          | _ => none
        else none
      | none => none
    | _, _ => none
  | _, _ => none
/-- a row of the call's own, as a block -/
theorem own_form {w : World} {base : Nat} {e : TypeId} {size n : Nat} {v : Value} {xs : List Value} (h : w.ownsRow base e size v n xs) (hn : 0 < n) :
    ∃ g cap tail, v = .slice (some ⟨g, 0, none⟩) n cap ∧ base ≤ g ∧ n ≤ cap ∧ cap ≤ maxLen ∧ Blk w g (xs ++ tail) e ∧ (xs ++ tail).length = cap * size ∧ v.ownBlock = some g := by
  rcases h.2 with ⟨rfl, h0⟩ | ⟨g, cap, cur, rfl, hb, hh, hnc, hcm, hcs, htake⟩
  · omega
  · have e1 : cur.toList = xs ++ cur.toList.drop (n * size) := by
      have := (List.take_append_drop (n * size) cur.toList).symm
      rw [htake] at this
      exact this
    refine ⟨g, cap, cur.toList.drop (n * size), rfl, hb, hnc, hcm, ⟨?_⟩, ?_, rfl⟩
    · rw [hh, ← e1]
    · rw [← e1, Array.length_toList, hcs]
theorem evAppend_sound {P : Program} {m : Mu} {s s' : St} {B : Nat} {W : World} (h : Holds m s B W) {t ty : TypeId} {x x' y y' v : Value} (hx : R m x x') (hy : R m y y') (e : evAppend P s t x y = some (v, s')) :
    ∃ v' W' m', (Builtin.append_ #[t, t] ty #[x', y']).run P W = .ok v' W' ∧ R m' v v' ∧ Sub m m' ∧ Holds m' s' B W' ∧ Below B W W' := by
  unfold evAppend at e
  split at e
  · rename_i el ny oy k ce hu
    cases hy with
    | slice _ _ _ ey ly hly hcy hmy =>
      split at e
      · rename_i i cy hi hcell
        split at e
        · rename_i z hz
          split at e
          · rename_i hq
            obtain ⟨q1, q2, q3, q4, q5, q6⟩ := hq
            obtain ⟨nr, hnr, hrange⟩ := h.range hcell hly oy (k * i.size)
            have hnl : nr.length = k * i.size := by rw [← hnr.length]; exact q5
            have hnews : ∀ j u, nr[j]? = some u → W.cell? ((⟨ly.blk, oy, none⟩ : Addr).add j) = some u := fun j u hj => by rw [Mem.add_plain]; exact hrange j u hj
            split at e
            · split at e
              · rename_i hw
                cases e
                cases hx with
                | sliceNil =>
                  obtain ⟨v', W', hrun, ho, hgr, hpl⟩ := run_append_place (P := P) W B t ty el i z i.size i.bytes hu hi hz rfl rfl q4 q3 (.slice none 0 0) 0 [] ⟨by simp, .inl ⟨rfl, rfl⟩⟩ ⟨ly.blk, oy, none⟩ k (ly.cap - ce) nr hnl hnews (hnr.one q6) (by omega) (by simpa using hw.1) h.room
                  obtain ⟨g, cap, tail, rfl, hgB, hkc, hcm, hblk, hlen, hob⟩ := own_form ho (by omega)
                  have hb : Below B W W' := (Below.refl B W).grown hgr h.room (fun j hj => by cases hj)
                  have hge : W.heap.size ≤ g := by
                    rcases hpl with hp | ⟨g', hp, hge⟩
                    · rw [hob] at hp; cases hp
                    · rw [hob] at hp; cases hp; exact hge
                  have hkeep : ∀ n c l, n < 2 ^ 40 → s.get n = some c → m n = some l → W'.heap[l.blk]? = W.heap[l.blk]? ∧ l.blk ≠ g := fun n c l hn hc hl => by
                    obtain ⟨l', h1, h2⟩ := h.at' n c hn hc
                    rw [hl] at h1; cases h1
                    have hlt := h2.lt h.room
                    exact ⟨hgr.block _ hlt (fun q => by cases q), by omega⟩
                  obtain ⟨g1, g2⟩ := h.land q1 hb hgB hkeep (fun n c l hn hc hl => by
                    obtain ⟨l', h1, h2⟩ := h.maps.1 n c hn hc
                    rw [hl] at h1; cases h1
                    exact hgr.block _ h2.lt (fun q => by cases q)) hnr (t := el) (tail := tail) (by simpa using hblk) (some i.size) (cap := cap) (fun k' hk' => by cases hk'; simpa using hlen) (by simp)
                  exact ⟨_, W', _, hrun, by simpa using R.slice s.name 0 (0 + k) 0 ⟨g, cap⟩ (by simp [Mu.put]) (by simpa using hkc) hcm, g1, g2, hb⟩
              · cases e
            · rename_i n len
              split at e
              · rename_i c hc
                split at e
                · rename_i hw
                  obtain ⟨w1, w2, w3, w4, w5, w6, w7⟩ := hw
                  cases e
                  cases hx with
                  | slice _ _ _ _ l hl hcap hcm0 =>
                    obtain ⟨l', h1, h2⟩ := h.at' n c w1 hc
                    rw [hl] at h1; cases h1
                    obtain ⟨hB, rl, tl, hrl, hblk0, hrow0, -⟩ := h2.own w3
                    have hlen0 := hrow0 _ w2
                    have hrlen : rl.length = len * i.size := by rw [← hrl.length]; exact w5
                    have hown : W.ownsRow B el i.size (.slice (some ⟨l.blk, 0, none⟩) len (l.cap - 0)) len rl := by
                      refine ⟨hrlen, .inr ⟨l.blk, l.cap, (rl ++ tl).toArray, by rw [Nat.sub_zero], hB, by rw [← w4]; exact hblk0.at', by omega, hcm0, by simpa using hlen0, by rw [← hrlen]; simp⟩⟩
                    obtain ⟨v', W', hrun, ho, hgr, hpl⟩ := run_append_place (P := P) W B t ty el i z i.size i.bytes hu hi hz rfl rfl q4 q3 _ len rl hown ⟨ly.blk, oy, none⟩ k (ly.cap - ce) nr hnl hnews (hnr.one q6) w7 w6 h.room
                    obtain ⟨g, cap, tail, rfl, hgB, hkc, hcm, hblk, hlen, hob⟩ := own_form ho (by omega)
                    have hownb : (Value.slice (some ⟨l.blk, 0, none⟩) len (l.cap - 0)).ownBlock = some l.blk := rfl
                    have hb : Below B W W' := (Below.refl B W).grown hgr h.room (fun j hj => by rw [hownb] at hj; cases hj; exact hB)
                    have hd := h.drop n w1
                    have hkeep : ∀ k' c' e', k' < 2 ^ 40 → (s.put n none).get k' = some c' → m k' = some e' → W'.heap[e'.blk]? = W.heap[e'.blk]? ∧ e'.blk ≠ g := fun k' c' e' hk' hc' he' => by
                      have hkn : k' ≠ n := fun hkn => by subst hkn; rw [St.get_put_same _ _ _ hk'] at hc'; cases hc'
                      have hc2 : s.get k' = some c' := (St.get_put_other s none hkn).symm.trans hc'
                      obtain ⟨e2, h3, h4⟩ := h.at' k' c' hk' hc2
                      rw [he'] at h3; cases h3
                      have hlt := h4.lt h.room
                      have hne : e'.blk ≠ l.blk := fun q => hkn (h.inj k' n c' c e' l hc2 hc he' hl q)
                      refine ⟨hgr.block _ hlt (fun q => hne (by rw [hownb] at q; simpa using q)), ?_⟩
                      rcases hpl with hp | ⟨g', hp, hge⟩
                      · rw [hob, hownb] at hp; have hp2 : g = l.blk := by simpa using hp
                        rw [hp2]; exact hne
                      · rw [hob] at hp; cases hp; omega
                    obtain ⟨g1, g2⟩ := hd.land q1 hb hgB hkeep (fun n' c' l' hn' hc' hl' => by
                      obtain ⟨l2, h1, h2⟩ := hd.maps.1 n' c' hn' hc'
                      rw [hl'] at h1; cases h1
                      exact hgr.block _ h2.lt (fun q => h2.ne hblk0 (by rw [hownb] at q; simpa using q))) (hrl.append hnr) (t := el) (tail := tail) hblk (some i.size) (cap := cap) (fun k' hk' => by cases hk'; exact hlen) (by simp)
                    exact ⟨_, W', _, hrun, (show R (m.put (s.put n none).name ⟨g, cap⟩) (.slice (some ⟨s.name, 0, none⟩) (len + k) 0) (.slice (some ⟨g, 0, none⟩) (len + k) cap) from R.slice s.name 0 (len + k) 0 ⟨g, cap⟩ (show (m.put s.name _) s.name = _ by simp [Mu.put]) (by simpa using hkc) hcm), g1, g2, hb⟩
                · cases e
              · cases e
            · cases e
          · cases e
        · cases e
      · cases e
  · cases e
end Go.Proofs.YtabpfolbemmhlaaGreatDoor.Ev
