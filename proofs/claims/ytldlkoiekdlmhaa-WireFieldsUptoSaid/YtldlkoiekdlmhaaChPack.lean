/-
  change.packable, Pack: contracts. Written by wip/chpackgen.py.
-/
import Derived.Test.YtldlkoiekdlmhaaPkChRight
import Derived.Test.YtldlkoiekdlmhaaBld
namespace Go.Proofs.Ytldlkoiekdlmhaa.Wi
open Go.ChangeShapes Go.WideShapes Go.ChangeAt Go.RowKit
open Go.Proofs.Ytldlkoiekdlmhaa.Mem
open Go.Proofs.Ytldlkoiekdlmhaa.Crc hiding hid bt
set_option linter.unusedVariables false
set_option linter.unusedSimpArgs false
set_option maxRecDepth 100000
theorem chC_get (l : List Ch) : ∀ (i : Nat) (h : i < l.length), (chC l)[i * 5]? = some (.int .u8 (l[i].k : Nat)) ∧ (chC l)[i * 5 + 1]? = some (.string l[i].i) ∧ (chC l)[i * 5 + 2]? = some (.string l[i].t) ∧ (chC l)[i * 5 + 3]? = some (.string l[i].ut) ∧ (chC l)[i * 5 + 4]? = some (.string l[i].ui) := by
  induction l with
  | nil => intro i h; simp at h
  | cons p l ih =>
    intro i h
    cases i with
    | zero => exact ⟨rfl, rfl, rfl, rfl, rfl⟩
    | succ i =>
      have := ih i (by simpa using h)
      have e : ∀ k, (chC (p :: l))[(i + 1) * 5 + k]? = (chC l)[i * 5 + k]? := by
        intro k
        show ((chV p) ++ chC l)[(i + 1) * 5 + k]? = _
        rw [List.getElem?_append_right (by show 5 ≤ _; omega), show (i + 1) * 5 + k - (chV p).length = i * 5 + k from by show (i + 1) * 5 + k - 5 = _; omega]
      exact ⟨(e 0).trans this.1, (e 1).trans this.2.1, (e 2).trans this.2.2.1, (e 3).trans this.2.2.2.1, (e 4).trans this.2.2.2.2⟩
/-- a slice of changes that is read -/
def ChsV (w : World) (v : Value) (l : List Ch) : Prop := SlV w v l.length (chC l)
theorem ChsV.open {w : World} {v : Value} {l : List Ch} (h : ChsV w v l) (hc : 0 < l.length) :
    ∃ b off cap, v = .slice (some ⟨b, off, none⟩) l.length cap ∧ b < w.heap.size ∧
      ∀ j (h : j < l.length), w.cell? ⟨b, off + j * 5, none⟩ = some (.int .u8 (l[j].k : Nat)) ∧ w.cell? ⟨b, off + j * 5 + 1, none⟩ = some (.string l[j].i) ∧ w.cell? ⟨b, off + j * 5 + 2, none⟩ = some (.string l[j].t) ∧ w.cell? ⟨b, off + j * 5 + 3, none⟩ = some (.string l[j].ut) ∧ w.cell? ⟨b, off + j * 5 + 4, none⟩ = some (.string l[j].ui) := by
  obtain ⟨b, off, cap, h1, h2, h3, h4, h5⟩ := SlV.open h (by rw [chC_len]; omega)
  refine ⟨b, off, cap, h1, h4, fun j hj => ?_⟩
  have g := chC_get l j hj
  have key : ∀ k, k < 5 → w.cell? ⟨b, off + j * 5 + k, none⟩ = (chC l)[j * 5 + k]? := by
    intro k hk
    have hl : j * 5 + k < (chC l).length := by rw [chC_len]; omega
    rw [Nat.add_assoc, h5 _ hl, ← List.getElem?_eq_getElem hl]
  exact ⟨(key 0 (by omega)).trans g.1, (key 1 (by omega)).trans g.2.1, (key 2 (by omega)).trans g.2.2.1, (key 3 (by omega)).trans g.2.2.2.1, (key 4 (by omega)).trans g.2.2.2.2⟩
theorem ChsV.below {w w' : World} {v : Value} {l : List Ch} (h : ChsV w v l) (hb : Below w.heap.size w w') : ChsV w' v l := SlV.below h hb
/-- the texts ahead of the i-th are not too long -/
def upS (c : Ch) (i : Nat) : Prop := (0 < i → c.i.size ≤ 2048) ∧ (1 < i → c.t.size ≤ 2048) ∧ (2 < i → c.ut.size ≤ 2048) ∧ (3 < i → c.ui.size ≤ 2048)
/-- all numbers fit, and no text is very long -/
def chsF (l : List Ch) : Prop := ∀ c ∈ l, c.k < 256 ∧ c.i.size ≤ 16777216 ∧ c.t.size ≤ 16777216 ∧ c.ut.size ≤ 16777216 ∧ c.ui.size ≤ 16777216
theorem ixp0 (a b c d : Value) (w : World) : (Instr.index 124 (.agg #[a, b, c, d]) (.int .i64 0)).run Try.prog w = .ok a w := by
  simp [Instr.index, go_sem]
theorem ixp1 (a b c d : Value) (w : World) : (Instr.index 124 (.agg #[a, b, c, d]) (.int .i64 1)).run Try.prog w = .ok b w := by
  simp [Instr.index, go_sem]
theorem ixp2 (a b c d : Value) (w : World) : (Instr.index 124 (.agg #[a, b, c, d]) (.int .i64 2)).run Try.prog w = .ok c w := by
  simp [Instr.index, go_sem]
theorem ixp3 (a b c d : Value) (w : World) : (Instr.index 124 (.agg #[a, b, c, d]) (.int .i64 3)).run Try.prog w = .ok d w := by
  simp [Instr.index, go_sem]
attribute [local go_sem] ixp0 ixp1 ixp2 ixp3
theorem packW_many {l : List Ch} {a b c : Int} (h : 255 < l.length) : packW l a b c = a := by unfold packW; rw [if_pos h]
theorem packW_syn {l : List Ch} {a b c : Int} (h : ¬ 255 < l.length) (i : Nat) (hi : i < l.length) (hr : ¬ chR l[i]) : packW l a b c = b := by
  unfold packW; rw [if_neg h, if_pos ⟨_, List.getElem_mem hi, hr⟩]
theorem packW_long {l : List Ch} {a b c : Int} (h : ¬ 255 < l.length) (hr : ∀ x ∈ l, chR x) (i : Nat) (hi : i < l.length) (hs : ¬ chS l[i]) : packW l a b c = c := by
  unfold packW; rw [if_neg h, if_neg (by rintro ⟨x, hx, hn⟩; exact hn (hr x hx)), if_pos ⟨_, List.getElem_mem hi, hs⟩]
theorem packW_ok {l : List Ch} {a b c : Int} (h : ¬ 255 < l.length) (hr : ∀ x ∈ l, chR x) (hs : ∀ x ∈ l, chS x) : packW l a b c = 0 := by
  unfold packW; rw [if_neg h, if_neg (by rintro ⟨x, hx, hn⟩; exact hn (hr x hx)), if_neg (by rintro ⟨x, hx, hn⟩; exact hn (hs x hx))]
theorem packW_zero {l : List Ch} {a b c : Int} (ha : a ≠ 0) (hb : b ≠ 0) (hc : c ≠ 0) (h : packW l a b c = 0) : packR l := by
  unfold packW at h
  by_cases h1 : 255 < l.length
  · rw [if_pos h1] at h; exact absurd h ha
  · rw [if_neg h1] at h
    by_cases h2 : ∃ c ∈ l, ¬ chR c
    · rw [if_pos h2] at h; exact absurd h hb
    · rw [if_neg h2] at h
      by_cases h3 : ∃ c ∈ l, ¬ chS c
      · rw [if_pos h3] at h; exact absurd h hc
      · exact ⟨by omega, fun x hx => Decidable.byContradiction fun hn => h2 ⟨x, hx, hn⟩, fun x hx => Decidable.byContradiction fun hn => h3 ⟨x, hx, hn⟩⟩
theorem packW_of {l : List Ch} {a b c : Int} (h : packR l) : packW l a b c = 0 := packW_ok (by have := h.1; omega) h.2.1 h.2.2
set_option maxHeartbeats 8000000 in
theorem packable_any (l : List Ch) (v : Value) (w : World) (h : ChsV w v l) (hF : chsF l) :
    Calls Try.prog 70 #[v] w fun e w' => e = .returned (.int .i64 (packW l 2 5 3)) ∧ Below w.heap.size w w' := by
  obtain ⟨ao, cap, rfl, hle, hcm⟩ := SlV.form h
  obtain ⟨n, hn⟩ : ∃ n, l.length = n := ⟨_, rfl⟩
  have hni : (n : Int) ≤ 9223372036854775807 := by unfold maxLen at hcm; omega
  have h' := hid h
  have hF' := hid hF
  have hn' := hid hn
  rw [hn] at h ⊢
  clear h hF hle hcm
  by_cases hbig : 255 < n
  · have hfin := hid (packW_many (l := l) (a := 2) (b := 5) (c := 3) (by rw [hn]; exact hbig))
    have hbi : (255 : Int) < (n : Int) := by omega
    clear hn
    go_enter Try.func70, Try.ntmps70
    go_wp2_with fail
    go_ret
    exact ⟨by rw [hfin.out]; rfl, Below.refl _ _⟩
  have hnb := hid (show ¬ 255 < l.length by rw [hn]; exact hbig)
  have hbi : ¬ (255 : Int) < (n : Int) := by omega
  clear hn
  go_enter Try.func70, Try.ntmps70
  go_wp2_with fail
  go_loopw [14] (fun i wr => ∃ j : Nat, j ≤ n ∧ i = .int .i64 j ∧ Hid (∀ k (hk : k < l.length), k < j → chR l[k]) ∧ Hid (Below w.heap.size w wr)) (fun i _ => n - (intOf i).toNat)
  case atStart => exact ⟨0, by omega, rfl, hid (fun k _ hk => absurd hk (by omega)), hid (Below.refl _ _)⟩
  case round =>
    obtain ⟨j, hj, rfl, hR, bw⟩ := hrel
    by_cases hjn : j < n
    · have hji : (j : Int) < (n : Int) := by omega
      have hjl : j < l.length := by rw [hn'.out]; exact hjn
      obtain ⟨b, off, cap', e, -, hc⟩ := (h'.out.below bw.out).open (by omega)
      simp only [Value.slice.injEq] at e
      obtain ⟨rfl, -, -⟩ := e
      obtain ⟨x0, x1, x2, x3, x4⟩ := hc j hjl
      have hfit := hF'.out _ (List.getElem_mem hjl)
      obtain ⟨c, hce⟩ : ∃ c, l[j] = c := ⟨_, rfl⟩
      rw [hce] at x0 x1 x2 x3 x4 hfit
      replace hce := hid hce
      clear hc
      go_upto_region 6 with fail
      have K := hid (Blk.new wr (chV c) 28)
      replace bw := hid (bw.out.alloc bw.out.size (.cells (chV c).toArray 28))
      clear x0 x1 x2 x3 x4
      change Hid (Blk (wr.alloc (.cells #[.int .u8 (c.k : Nat), .string c.i, .string c.t, .string c.ut, .string c.ui] 28)) wr.heap.size _ _) at K
      change Hid (Below w.heap.size w (wr.alloc (.cells #[.int .u8 (c.k : Nat), .string c.i, .string c.t, .string c.ut, .string c.ui] 28))) at bw
      generalize wr.alloc (.cells #[.int .u8 (c.k : Nat), .string c.i, .string c.t, .string c.ut, .string c.ui] 28) = X1 at K bw ⊢
      obtain ⟨c0, c1, c2, c3, c4, cf⟩ := five K.out
      have hq := hid (right_any c X1 hfit.1)
      clear hfit
      go_wp2_with fail
      refine hq.out.mono ?_
      rintro e w2 ⟨rfl, hb2⟩
      replace bw := hid (bw.out.trans (hb2.mono bw.out.size))
      clear hb2 K c0 c1 c2 c3 c4 cf hq
      by_cases hr : chR c
      · rw [decide_eq_true hr]
        replace hr := hid hr
        go_wp2_with fail
        go_roundw
        case rel => exact ⟨j + 1, by omega, by go_num, hid (fun k hk hkj => by
          by_cases hkj' : k < j
          · exact hR.out k hk hkj'
          · obtain rfl : k = j := by omega
            rw [hce.out]; exact hr.out), bw⟩
        case measure => simp [intOf]; omega
      · rw [decide_eq_false hr]
        have hfin := hid (packW_syn (a := 2) (b := 5) (c := 3) hnb.out j hjl (by rw [hce.out]; exact hr))
        clear hr
        go_wp2_with fail
        go_ret
        exact ⟨by rw [hfin.out]; rfl, bw.out⟩
    · obtain rfl : j = n := by omega
      have hAll := hid (show ∀ x ∈ l, chR x from fun x hx => by
        obtain ⟨k, hk, rfl⟩ := List.getElem_of_mem hx
        exact hR.out k hk (by rw [← hn'.out]; exact hk))
      have hji : ¬ (j : Int) < (j : Int) := by omega
      clear hR
      go_wp2_with fail
      go_loopw [24] (fun i wr => ∃ m : Nat, m ≤ j ∧ i = .int .i64 m ∧ Hid (∀ k (hk : k < l.length), k < m → chS l[k]) ∧ Hid (Below w.heap.size w wr)) (fun i _ => j - (intOf i).toNat)
      case atStart => exact ⟨0, by omega, rfl, hid (fun k _ hk => absurd hk (by omega)), bw⟩
      case round =>
        clear bw
        obtain ⟨m, hm, rfl, hS, bw⟩ := hrel
        by_cases hmn : m < j
        · have hmi : (m : Int) < (j : Int) := by omega
          have hml : m < l.length := by rw [hn'.out]; exact hmn
          obtain ⟨b, off, cap', e, -, hc⟩ := (h'.out.below bw.out).open (by omega)
          simp only [Value.slice.injEq] at e
          obtain ⟨rfl, -, -⟩ := e
          obtain ⟨x0, x1, x2, x3, x4⟩ := hc m hml
          have hfit := hF'.out _ (List.getElem_mem hml)
          obtain ⟨c, hce⟩ : ∃ c, l[m] = c := ⟨_, rfl⟩
          rw [hce] at x0 x1 x2 x3 x4 hfit
          replace hce := hid hce
          clear hc
          go_upto_region 12 with fail
          have K := hid (Blk.new wr (chV c) 28)
          replace bw := hid (bw.out.alloc bw.out.size (.cells (chV c).toArray 28))
          clear x0 x1 x2 x3 x4
          change Hid (Blk (wr.alloc (.cells #[.int .u8 (c.k : Nat), .string c.i, .string c.t, .string c.ut, .string c.ui] 28)) wr.heap.size _ _) at K
          change Hid (Below w.heap.size w (wr.alloc (.cells #[.int .u8 (c.k : Nat), .string c.i, .string c.t, .string c.ut, .string c.ui] 28))) at bw
          obtain ⟨cb, hcb⟩ : ∃ cb, wr.heap.size = cb := ⟨_, rfl⟩
          generalize wr.alloc (.cells #[.int .u8 (c.k : Nat), .string c.i, .string c.t, .string c.ut, .string c.ui] 28) = X1 at K bw ⊢
          rw [hcb] at K ⊢
          clear hcb
          go_wp2_with fail
          refine (textsOf_any cb X1).mono ?_
          rintro e w2 ⟨rfl, hb2⟩
          replace K := hid (K.out.below hb2 K.out.lt)
          replace bw := hid (bw.out.trans (hb2.mono bw.out.size))
          obtain ⟨c0, c1, c2, c3, c4, cf⟩ := five K.out
          have i1 : (c.i.size : Int) ≤ 16777216 := by omega
          have i2 : (c.t.size : Int) ≤ 16777216 := by omega
          have i3 : (c.ut.size : Int) ≤ 16777216 := by omega
          have i4 : (c.ui.size : Int) ≤ 16777216 := by omega
          clear hb2 hfit
          go_wp2_with fail
          go_loopw [29] (fun i wr => ∃ q : Nat, q ≤ 4 ∧ i = .int .i64 q ∧ Hid (upS c q) ∧ wr = w2) (fun i _ => 4 - (intOf i).toNat)
          case atStart => exact ⟨0, by omega, rfl, hid ⟨fun h => absurd h (by omega), fun h => absurd h (by omega), fun h => absurd h (by omega), fun h => absurd h (by omega)⟩, rfl⟩
          case round =>
            obtain ⟨q, hq, rfl, hU, rfl⟩ := hrel
            by_cases hq4 : q < 4
            · have hcase : q = 0 ∨ q = 1 ∨ q = 2 ∨ q = 3 := by omega
              rcases hcase with rfl | rfl | rfl | rfl
              · by_cases hlong : 2048 < c.i.size
                · have hfin := hid (packW_long (a := 2) (b := 5) (c := 3) hnb.out hAll.out m hml (by rw [hce.out]; intro hs; have := hs.1; omega))
                  have hli : (2048 : Int) < (c.i.size : Int) := by omega
                  clear hlong
                  go_wp2_with fail
                  go_ret
                  exact ⟨by rw [hfin.out]; rfl, bw.out⟩
                · have hli : ¬ (2048 : Int) < (c.i.size : Int) := by omega
                  have hU2 := hid (show upS c 1 from by
                    obtain ⟨u1, u2, u3, u4⟩ := hU.out
                    refine ⟨fun h => ?_, fun h => ?_, fun h => ?_, fun h => ?_⟩ <;> first | omega | exact u1 (by omega) | exact u2 (by omega) | exact u3 (by omega))
                  clear hlong
                  go_wp2_with fail
                  go_roundw
                  case rel => exact ⟨1, by omega, rfl, hU2, trivial⟩
                  case measure => simp [intOf]
              · by_cases hlong : 2048 < c.t.size
                · have hfin := hid (packW_long (a := 2) (b := 5) (c := 3) hnb.out hAll.out m hml (by rw [hce.out]; intro hs; have := hs.2.1; omega))
                  have hli : (2048 : Int) < (c.t.size : Int) := by omega
                  clear hlong
                  go_wp2_with fail
                  go_ret
                  exact ⟨by rw [hfin.out]; rfl, bw.out⟩
                · have hli : ¬ (2048 : Int) < (c.t.size : Int) := by omega
                  have hU2 := hid (show upS c 2 from by
                    obtain ⟨u1, u2, u3, u4⟩ := hU.out
                    refine ⟨fun h => ?_, fun h => ?_, fun h => ?_, fun h => ?_⟩ <;> first | omega | exact u1 (by omega) | exact u2 (by omega) | exact u3 (by omega))
                  clear hlong
                  go_wp2_with fail
                  go_roundw
                  case rel => exact ⟨2, by omega, rfl, hU2, trivial⟩
                  case measure => simp [intOf]
              · by_cases hlong : 2048 < c.ut.size
                · have hfin := hid (packW_long (a := 2) (b := 5) (c := 3) hnb.out hAll.out m hml (by rw [hce.out]; intro hs; have := hs.2.2.1; omega))
                  have hli : (2048 : Int) < (c.ut.size : Int) := by omega
                  clear hlong
                  go_wp2_with fail
                  go_ret
                  exact ⟨by rw [hfin.out]; rfl, bw.out⟩
                · have hli : ¬ (2048 : Int) < (c.ut.size : Int) := by omega
                  have hU2 := hid (show upS c 3 from by
                    obtain ⟨u1, u2, u3, u4⟩ := hU.out
                    refine ⟨fun h => ?_, fun h => ?_, fun h => ?_, fun h => ?_⟩ <;> first | omega | exact u1 (by omega) | exact u2 (by omega) | exact u3 (by omega))
                  clear hlong
                  go_wp2_with fail
                  go_roundw
                  case rel => exact ⟨3, by omega, rfl, hU2, trivial⟩
                  case measure => simp [intOf]
              · by_cases hlong : 2048 < c.ui.size
                · have hfin := hid (packW_long (a := 2) (b := 5) (c := 3) hnb.out hAll.out m hml (by rw [hce.out]; intro hs; have := hs.2.2.2; omega))
                  have hli : (2048 : Int) < (c.ui.size : Int) := by omega
                  clear hlong
                  go_wp2_with fail
                  go_ret
                  exact ⟨by rw [hfin.out]; rfl, bw.out⟩
                · have hli : ¬ (2048 : Int) < (c.ui.size : Int) := by omega
                  have hU2 := hid (show upS c 4 from by
                    obtain ⟨u1, u2, u3, u4⟩ := hU.out
                    refine ⟨fun h => ?_, fun h => ?_, fun h => ?_, fun h => ?_⟩ <;> first | omega | exact u1 (by omega) | exact u2 (by omega) | exact u3 (by omega))
                  clear hlong
                  go_wp2_with fail
                  go_roundw
                  case rel => exact ⟨4, by omega, rfl, hU2, trivial⟩
                  case measure => simp [intOf]
            · obtain rfl : q = 4 := by omega
              have hs := hid (show chS c from ⟨hU.out.1 (by omega), hU.out.2.1 (by omega), hU.out.2.2.1 (by omega), hU.out.2.2.2 (by omega)⟩)
              clear hU c0 c1 c2 c3 c4 cf K i1 i2 i3 i4
              go_wp2_with fail
              go_roundw
              case rel => exact ⟨m + 1, by omega, by go_num, hid (fun k hk hkj => by
                by_cases hkj' : k < m
                · exact hS.out k hk hkj'
                · obtain rfl : k = m := by omega
                  rw [hce.out]; exact hs.out), bw⟩
              case measure => simp [intOf]; omega
        · obtain rfl : m = j := by omega
          have hfin := hid (packW_ok (a := 2) (b := 5) (c := 3) hnb.out hAll.out (fun x hx => by
            obtain ⟨k, hk, rfl⟩ := List.getElem_of_mem hx
            exact hS.out k hk (by rw [← hn'.out]; exact hk)))
          have hmi : ¬ (m : Int) < (m : Int) := by omega
          clear hS
          go_wp2_with fail
          go_ret
          exact ⟨by rw [hfin.out]; rfl, bw.out⟩
theorem htB : Bld.HT 56 0 := ⟨by decide, by kernel_rfl⟩
/-- the first q texts of a change, as bytes -/
def tw (c : Ch) : Nat → List UInt8
  | 0 => []
  | 1 => txt c.i
  | 2 => txt c.i ++ txt c.t
  | 3 => txt c.i ++ (txt c.t ++ txt c.ut)
  | _ => txt c.i ++ (txt c.t ++ (txt c.ut ++ txt c.ui))
theorem tw_len (c : Ch) (h : chS c) (q : Nat) : (tw c q).length ≤ 8208 := by
  obtain ⟨h1, h2, h3, h4⟩ := h
  unfold tw
  split <;> simp only [List.length_append, txt_len, List.length_nil] <;> omega
theorem chE_len (c : Ch) (h : chS c) : (chE c).length ≤ 8209 := by
  obtain ⟨h1, h2, h3, h4⟩ := h
  unfold chE
  simp only [List.length_append, txt_len, List.length_cons]; omega
theorem flat_len (l : List Ch) (h : ∀ c ∈ l, chS c) : (l.flatMap chE).length ≤ l.length * 8209 := by
  induction l with
  | nil => simp
  | cons c l ih =>
    have h1 := chE_len c (h c (by simp))
    have h2 := ih (fun x hx => h x (by simp [hx]))
    rw [List.flatMap_cons, List.length_append, List.length_cons]; omega
/-- what has been written behind j changes -/
def pk (l : List Ch) (j : Nat) : List UInt8 := UInt8.ofNat l.length :: (l.take j).flatMap chE
theorem pk_succ (l : List Ch) (j : Nat) (h : j < l.length) : pk l (j + 1) = (pk l j ++ [UInt8.ofNat l[j].k]) ++ tw l[j] 4 := by
  unfold pk
  rw [List.take_succ_eq_append_getElem h, List.flatMap_append]
  simp [chE, tw]
theorem pk_len (l : List Ch) (h : packR l) (j : Nat) (hj : j ≤ l.length) : (pk l j).length ≤ 2100000 := by
  unfold pk
  have := flat_len (l.take j) (fun c hc => h.2.2 c (List.mem_of_mem_take hc))
  rw [List.length_take] at this
  have := h.1
  rw [List.length_cons]
  have h3 : min j l.length * 8209 ≤ 255 * 8209 := Nat.mul_le_mul_right _ (by omega)
  omega
theorem pk_all (l : List Ch) : pk l l.length = packE l := by unfold pk packE; rw [List.take_of_length_le (Nat.le_refl _)]
set_option maxHeartbeats 8000000 in
theorem pack_no (l : List Ch) (v : Value) (w : World) (h : ChsV w v l) (hF : chsF l) (hz : packW l 2 5 3 ≠ 0) :
    Calls Try.prog 65 #[v] w fun e w' => e = .returned (.tuple #[.string ⟨#[]⟩, .int .i64 (packW l 2 5 3)]) ∧ Below w.heap.size w w' := by
  have hp := hid (packable_any l v w h hF)
  obtain ⟨ao, cap, rfl, hle, hcm⟩ := SlV.form h
  obtain ⟨n, hn⟩ : ∃ n, l.length = n := ⟨_, rfl⟩
  rw [hn] at hp ⊢
  clear h hF hle hcm
  have hne : ¬ packW l 2 5 3 = 0 := hz
  generalize packW l 2 5 3 = z at hz hne hp ⊢
  clear hz hn
  go_enter Try.func65, Try.ntmps65
  go_wp2_with fail
  refine hp.out.mono ?_
  rintro e w1 ⟨rfl, hb1⟩
  replace hb1 := hid hb1
  clear hp
  go_wp2_with fail
  go_ret2
  exact ⟨rfl, hb1.out⟩
set_option maxHeartbeats 8000000 in
theorem pack_yes (l : List Ch) (v : Value) (w : World) (h : ChsV w v l) (hF : chsF l) (hR : packR l) :
    Calls Try.prog 65 #[v] w fun e w' => e = .returned (.tuple #[.string (bs (packE l)), .int .i64 0]) ∧ Below w.heap.size w w' := by
  have hp := hid (packable_any l v w h hF)
  rw [packW_of hR] at hp
  obtain ⟨ao, cap, rfl, hle, hcm⟩ := SlV.form h
  obtain ⟨n, hn⟩ : ∃ n, l.length = n := ⟨_, rfl⟩
  have h' := hid h
  have hF' := hid hF
  have hn' := hid hn
  have hR := hid hR
  rw [hn] at h hp ⊢
  have hn255 : n ≤ 255 := by rw [← hn]; exact hR.out.1
  have hni : (n : Int) ≤ 255 := by omega
  have hwr : IntKind.u8.wrap (n : Int) = n := IntWalk.u8_in _ (by omega)
  clear h hF hle hcm hn
  go_enter Try.func65, Try.ntmps65
  go_wp2_with fail
  refine hp.out.mono ?_
  rintro e w1 ⟨rfl, hb1⟩
  have hge := hid hb1.size
  replace hb1 := hid hb1
  clear hp
  go_upto_region 5 with fail
  have I := hid (Bld.Is.new 56 [] w1)
  replace hb1 := hid (hb1.out.alloc hb1.out.size (.cells #[.pointer none, .slice none 0 0] 56))
  change Hid (Bld.Is _ _ _ _ _ (w1.alloc (.cells #[.pointer none, .slice none 0 0] 56))) at I
  have hBw := hid (show w1.heap.size < (w1.alloc (.cells #[.pointer none, .slice none 0 0] 56)).heap.size by simp)
  obtain ⟨b, hb⟩ : ∃ b, w1.heap.size = b := ⟨_, rfl⟩
  generalize w1.alloc (.cells #[.pointer none, .slice none 0 0] 56) = X1 at I hb1 hBw ⊢
  rw [hb] at I hge hBw ⊢
  clear hb
  have hcb := hid (Bld.bbyte_any 56 [] htB b b [] (UInt8.ofNat n) X1 I.out (by decide) (by have := hBw.out; omega))
  rw [show ((UInt8.ofNat n).toNat : Int) = (n : Int) from by rw [UInt8.toNat_ofNat']; omega] at hcb
  go_wp2_with fail
  refine hcb.out.mono ?_
  rintro e w3 ⟨rfl, I3, b3, -⟩
  replace hb1 := hid (hb1.out.trans (b3.mono hge.out))
  replace hBw := hid (show b < w3.heap.size by have := b3.size; have := hBw.out; omega)
  replace I := hid (show Bld.Is 56 [] b b (pk l 0) w3 from by
    have e : pk l 0 = [] ++ [UInt8.ofNat n] := by unfold pk; rw [hn'.out]; rfl
    rw [e]; exact I3)
  clear hcb I3 b3
  go_wp2_with fail
  go_loopw [21] (fun i wr => ∃ j : Nat, j ≤ n ∧ i = .int .i64 j ∧ Hid (Bld.Is 56 [] b b (pk l j) wr) ∧ Hid (b < wr.heap.size) ∧ Hid (Below w.heap.size w wr)) (fun i _ => n - (intOf i).toNat)
  case atStart => exact ⟨0, by omega, rfl, I, hBw, hb1⟩
  case round =>
    clear I hBw hb1
    obtain ⟨j, hj, rfl, I, hBw, bw⟩ := hrel
    by_cases hjn : j < n
    · have hji : (j : Int) < (n : Int) := by omega
      have hjl : j < l.length := by rw [hn'.out]; exact hjn
      have hstep := hid (pk_succ l j hjl)
      have hplen := hid (pk_len l hR.out j (by rw [hn'.out]; exact hj))
      have hsz := hid (hR.out.2.2 _ (List.getElem_mem hjl))
      have hkk := hid (hF'.out _ (List.getElem_mem hjl)).1
      obtain ⟨sb, off, cap', e, -, hc⟩ := (h'.out.below bw.out).open (by omega)
      simp only [Value.slice.injEq] at e
      obtain ⟨rfl, -, -⟩ := e
      obtain ⟨x0, x1, x2, x3, x4⟩ := hc j hjl
      obtain ⟨c, hce⟩ : ∃ c, l[j] = c := ⟨_, rfl⟩
      rw [hce] at x0 x1 x2 x3 x4 hstep hsz hkk
      replace hce := hid hce
      generalize pk l j = L0 at hstep hplen I
      clear hc
      go_upto_region 9 with fail
      have K := hid (Blk.new wr (chV c) 28)
      replace I := hid (I.out.alloc (.cells (chV c).toArray 28))
      replace bw := hid (bw.out.alloc bw.out.size (.cells (chV c).toArray 28))
      clear x0 x1 x2 x3 x4
      change Hid (Blk (wr.alloc (.cells #[.int .u8 (c.k : Nat), .string c.i, .string c.t, .string c.ut, .string c.ui] 28)) wr.heap.size _ _) at K
      change Hid (Below w.heap.size w (wr.alloc (.cells #[.int .u8 (c.k : Nat), .string c.i, .string c.t, .string c.ut, .string c.ui] 28))) at bw
      change Hid (Bld.Is _ _ _ _ _ (wr.alloc (.cells #[.int .u8 (c.k : Nat), .string c.i, .string c.t, .string c.ut, .string c.ui] 28))) at I
      obtain ⟨cb, hcb⟩ : ∃ cb, wr.heap.size = cb := ⟨_, rfl⟩
      generalize wr.alloc (.cells #[.int .u8 (c.k : Nat), .string c.i, .string c.t, .string c.ut, .string c.ui] 28) = X2 at K bw I ⊢
      rw [hcb] at K hBw ⊢
      clear hcb
      have hcb : cb ≠ b := by have := hBw.out; omega
      replace hcb := hid hcb
      obtain ⟨c0, c1, c2, c3, c4, cf⟩ := five K.out
      have hcall := hid (Bld.bbyte_any 56 [] htB b b L0 (UInt8.ofNat c.k) X2 I.out (by have := hplen.out; omega) (by have := K.out.lt; have := hBw.out; omega))
      rw [show ((UInt8.ofNat c.k).toNat : Int) = (c.k : Int) from by have := hkk.out; rw [UInt8.toNat_ofNat']; omega] at hcall
      go_wp2_with fail
      refine hcall.out.mono ?_
      rintro e w4 ⟨rfl, I4, b4, k4⟩
      replace K := hid (I.out.kept k4 K.out hcb.out (by decide))
      replace I := hid I4
      replace bw := hid (bw.out.trans (b4.mono hge.out))
      clear hcall I4 b4 k4 c0 c1 c2 c3 c4 cf
      go_wp2_with fail
      refine (textsOf_any cb w4).mono ?_
      rintro e w5 ⟨rfl, hb5⟩
      replace K := hid (K.out.below hb5 K.out.lt)
      replace I := hid (show Bld.Is 56 [] b b ((L0 ++ [UInt8.ofNat c.k]) ++ tw c 0) w5 from by rw [show tw c 0 = [] from rfl, List.append_nil]; exact I.out.below hb5)
      replace bw := hid (bw.out.trans (hb5.mono bw.out.size))
      have hL1 := hid (show (L0 ++ [UInt8.ofNat c.k]).length ≤ 2100001 by have := hplen.out; simp; omega)
      generalize L0 ++ [UInt8.ofNat c.k] = L2 at I hstep hL1
      have i1 : (c.i.size : Int) ≤ 2048 := by have := hsz.out.1; omega
      have i2 : (c.t.size : Int) ≤ 2048 := by have := hsz.out.2.1; omega
      have i3 : (c.ut.size : Int) ≤ 2048 := by have := hsz.out.2.2.1; omega
      have i4 : (c.ui.size : Int) ≤ 2048 := by have := hsz.out.2.2.2; omega
      have htw := hid (tw_len c hsz.out)
      have hkb := hid K.out.lt
      clear hb5 hplen
      go_wp2_with fail
      go_loopw [29] (fun i wr => ∃ q : Nat, q ≤ 4 ∧ i = .int .i64 q ∧ Hid (Bld.Is 56 [] b b (L2 ++ tw c q) wr) ∧ Hid (Blk wr cb (chV c) 28) ∧ Hid (Below w.heap.size w wr)) (fun i _ => 4 - (intOf i).toNat)
      case atStart => exact ⟨0, by omega, rfl, I, K, bw⟩
      case round =>
        clear I K bw
        obtain ⟨q, hq, rfl, I, K, bw⟩ := hrel
        by_cases hq4 : q < 4
        · have hcase : q = 0 ∨ q = 1 ∨ q = 2 ∨ q = 3 := by omega
          rcases hcase with rfl | rfl | rfl | rfl
          · obtain ⟨c0, c1, c2, c3, c4, cf⟩ := five K.out
            have hw32 : IntKind.u32.wrap (c.i.size : Int) = c.i.size := IntWalk.u32_in _ (by omega)
            have hsN : c.i.size ≤ 2048 := by omega
            go_wp2_with fail
            refine (put32_any c.i.size _ (by omega)).mono ?_
            rintro e w6 ⟨rfl, b6⟩
            replace K := hid (K.out.below b6 K.out.lt)
            replace I := hid (I.out.below b6)
            replace bw := hid (bw.out.trans (b6.mono bw.out.size))
            clear b6 c0 c1 c2 c3 c4 cf
            have hcall := hid (Bld.bwrite_any 56 [] htB b b _ ⟨(leb 4 c.i.size).toArray⟩ w6 I.out (by have := htw.out 0; have := hL1.out; rw [leb_size, List.length_append]; omega) (by have := I.out.lt; omega))
            go_wp2_with fail
            refine hcall.out.mono ?_
            rintro e w7 ⟨rfl, I7, b7, k7⟩
            replace K := hid (I.out.kept k7 K.out hcb.out (by decide))
            replace I := hid I7
            replace bw := hid (bw.out.trans (b7.mono hge.out))
            clear hcall I7 b7 k7
            obtain ⟨c0, c1, c2, c3, c4, cf⟩ := five K.out
            have hcall := hid (Bld.bwrite_any 56 [] htB b b _ c.i w7 I.out (by have := htw.out 0; have := hL1.out; rw [List.length_append, List.length_append]; simp [leb_len]; omega) (by have := I.out.lt; omega))
            go_wp2_with fail
            refine hcall.out.mono ?_
            rintro e w8 ⟨rfl, I8, b8, k8⟩
            replace K := hid (I.out.kept k8 K.out hcb.out (by decide))
            replace I := hid (show Bld.Is 56 [] b b (L2 ++ tw c 1) w8 from by
              have e : L2 ++ tw c 1 = L2 ++ tw c 0 ++ (ByteArray.mk (leb 4 c.i.size).toArray).data.toList ++ c.i.data.toList := by simp [tw, txt]
              rw [e]; exact I8)
            replace bw := hid (bw.out.trans (b8.mono hge.out))
            clear hcall I8 b8 k8 c0 c1 c2 c3 c4 cf hw32 hsN
            go_wp2_with fail
            go_roundw
            case rel => exact ⟨1, by omega, rfl, I, K, bw⟩
            case measure => simp [intOf]
          · obtain ⟨c0, c1, c2, c3, c4, cf⟩ := five K.out
            have hw32 : IntKind.u32.wrap (c.t.size : Int) = c.t.size := IntWalk.u32_in _ (by omega)
            have hsN : c.t.size ≤ 2048 := by omega
            go_wp2_with fail
            refine (put32_any c.t.size _ (by omega)).mono ?_
            rintro e w6 ⟨rfl, b6⟩
            replace K := hid (K.out.below b6 K.out.lt)
            replace I := hid (I.out.below b6)
            replace bw := hid (bw.out.trans (b6.mono bw.out.size))
            clear b6 c0 c1 c2 c3 c4 cf
            have hcall := hid (Bld.bwrite_any 56 [] htB b b _ ⟨(leb 4 c.t.size).toArray⟩ w6 I.out (by have := htw.out 1; have := hL1.out; rw [leb_size, List.length_append]; omega) (by have := I.out.lt; omega))
            go_wp2_with fail
            refine hcall.out.mono ?_
            rintro e w7 ⟨rfl, I7, b7, k7⟩
            replace K := hid (I.out.kept k7 K.out hcb.out (by decide))
            replace I := hid I7
            replace bw := hid (bw.out.trans (b7.mono hge.out))
            clear hcall I7 b7 k7
            obtain ⟨c0, c1, c2, c3, c4, cf⟩ := five K.out
            have hcall := hid (Bld.bwrite_any 56 [] htB b b _ c.t w7 I.out (by have := htw.out 1; have := hL1.out; rw [List.length_append, List.length_append]; simp [leb_len]; omega) (by have := I.out.lt; omega))
            go_wp2_with fail
            refine hcall.out.mono ?_
            rintro e w8 ⟨rfl, I8, b8, k8⟩
            replace K := hid (I.out.kept k8 K.out hcb.out (by decide))
            replace I := hid (show Bld.Is 56 [] b b (L2 ++ tw c 2) w8 from by
              have e : L2 ++ tw c 2 = L2 ++ tw c 1 ++ (ByteArray.mk (leb 4 c.t.size).toArray).data.toList ++ c.t.data.toList := by simp [tw, txt]
              rw [e]; exact I8)
            replace bw := hid (bw.out.trans (b8.mono hge.out))
            clear hcall I8 b8 k8 c0 c1 c2 c3 c4 cf hw32 hsN
            go_wp2_with fail
            go_roundw
            case rel => exact ⟨2, by omega, rfl, I, K, bw⟩
            case measure => simp [intOf]
          · obtain ⟨c0, c1, c2, c3, c4, cf⟩ := five K.out
            have hw32 : IntKind.u32.wrap (c.ut.size : Int) = c.ut.size := IntWalk.u32_in _ (by omega)
            have hsN : c.ut.size ≤ 2048 := by omega
            go_wp2_with fail
            refine (put32_any c.ut.size _ (by omega)).mono ?_
            rintro e w6 ⟨rfl, b6⟩
            replace K := hid (K.out.below b6 K.out.lt)
            replace I := hid (I.out.below b6)
            replace bw := hid (bw.out.trans (b6.mono bw.out.size))
            clear b6 c0 c1 c2 c3 c4 cf
            have hcall := hid (Bld.bwrite_any 56 [] htB b b _ ⟨(leb 4 c.ut.size).toArray⟩ w6 I.out (by have := htw.out 2; have := hL1.out; rw [leb_size, List.length_append]; omega) (by have := I.out.lt; omega))
            go_wp2_with fail
            refine hcall.out.mono ?_
            rintro e w7 ⟨rfl, I7, b7, k7⟩
            replace K := hid (I.out.kept k7 K.out hcb.out (by decide))
            replace I := hid I7
            replace bw := hid (bw.out.trans (b7.mono hge.out))
            clear hcall I7 b7 k7
            obtain ⟨c0, c1, c2, c3, c4, cf⟩ := five K.out
            have hcall := hid (Bld.bwrite_any 56 [] htB b b _ c.ut w7 I.out (by have := htw.out 2; have := hL1.out; rw [List.length_append, List.length_append]; simp [leb_len]; omega) (by have := I.out.lt; omega))
            go_wp2_with fail
            refine hcall.out.mono ?_
            rintro e w8 ⟨rfl, I8, b8, k8⟩
            replace K := hid (I.out.kept k8 K.out hcb.out (by decide))
            replace I := hid (show Bld.Is 56 [] b b (L2 ++ tw c 3) w8 from by
              have e : L2 ++ tw c 3 = L2 ++ tw c 2 ++ (ByteArray.mk (leb 4 c.ut.size).toArray).data.toList ++ c.ut.data.toList := by simp [tw, txt]
              rw [e]; exact I8)
            replace bw := hid (bw.out.trans (b8.mono hge.out))
            clear hcall I8 b8 k8 c0 c1 c2 c3 c4 cf hw32 hsN
            go_wp2_with fail
            go_roundw
            case rel => exact ⟨3, by omega, rfl, I, K, bw⟩
            case measure => simp [intOf]
          · obtain ⟨c0, c1, c2, c3, c4, cf⟩ := five K.out
            have hw32 : IntKind.u32.wrap (c.ui.size : Int) = c.ui.size := IntWalk.u32_in _ (by omega)
            have hsN : c.ui.size ≤ 2048 := by omega
            go_wp2_with fail
            refine (put32_any c.ui.size _ (by omega)).mono ?_
            rintro e w6 ⟨rfl, b6⟩
            replace K := hid (K.out.below b6 K.out.lt)
            replace I := hid (I.out.below b6)
            replace bw := hid (bw.out.trans (b6.mono bw.out.size))
            clear b6 c0 c1 c2 c3 c4 cf
            have hcall := hid (Bld.bwrite_any 56 [] htB b b _ ⟨(leb 4 c.ui.size).toArray⟩ w6 I.out (by have := htw.out 3; have := hL1.out; rw [leb_size, List.length_append]; omega) (by have := I.out.lt; omega))
            go_wp2_with fail
            refine hcall.out.mono ?_
            rintro e w7 ⟨rfl, I7, b7, k7⟩
            replace K := hid (I.out.kept k7 K.out hcb.out (by decide))
            replace I := hid I7
            replace bw := hid (bw.out.trans (b7.mono hge.out))
            clear hcall I7 b7 k7
            obtain ⟨c0, c1, c2, c3, c4, cf⟩ := five K.out
            have hcall := hid (Bld.bwrite_any 56 [] htB b b _ c.ui w7 I.out (by have := htw.out 3; have := hL1.out; rw [List.length_append, List.length_append]; simp [leb_len]; omega) (by have := I.out.lt; omega))
            go_wp2_with fail
            refine hcall.out.mono ?_
            rintro e w8 ⟨rfl, I8, b8, k8⟩
            replace K := hid (I.out.kept k8 K.out hcb.out (by decide))
            replace I := hid (show Bld.Is 56 [] b b (L2 ++ tw c 4) w8 from by
              have e : L2 ++ tw c 4 = L2 ++ tw c 3 ++ (ByteArray.mk (leb 4 c.ui.size).toArray).data.toList ++ c.ui.data.toList := by simp [tw, txt]
              rw [e]; exact I8)
            replace bw := hid (bw.out.trans (b8.mono hge.out))
            clear hcall I8 b8 k8 c0 c1 c2 c3 c4 cf hw32 hsN
            go_wp2_with fail
            go_roundw
            case rel => exact ⟨4, by omega, rfl, I, K, bw⟩
            case measure => simp [intOf]
        · obtain rfl : q = 4 := by omega
          clear i1 i2 i3 i4
          go_wp2_with fail
          go_roundw
          case rel => exact ⟨j + 1, by omega, by go_num, hid (by rw [hstep.out]; exact I.out), hid (by have := I.out.lt; omega), bw⟩
          case measure => simp [intOf]; omega
    · obtain rfl : j = n := by omega
      have hji : ¬ (j : Int) < (j : Int) := by omega
      have e := pk_all l
      rw [hn'.out] at e
      rw [e] at I
      have hcall := hid (Bld.bstring_any 56 [] htB b b (packE l) wr I.out (by unfold packE; simp))
      clear e
      go_wp2_with fail
      refine hcall.out.mono ?_
      rintro e w4 ⟨rfl, -, b4, -⟩
      replace bw := hid (bw.out.trans (b4.mono hge.out))
      clear hcall b4
      go_wp2_with fail
      go_ret2
      exact ⟨rfl, bw.out⟩
theorem pack_any (l : List Ch) (v : Value) (w : World) (h : ChsV w v l) (hF : chsF l) :
    Calls Try.prog 65 #[v] w fun e w' => (∃ (s : ByteArray) (z : Int), e = .returned (.tuple #[.string s, .int .i64 z]) ∧ (z = 0 ∧ packR l ∧ s = bs (packE l) ∨ z ≠ 0 ∧ ¬ packR l ∧ s = ⟨#[]⟩)) ∧ Below w.heap.size w w' := by
  by_cases hz : packW l 2 5 3 = 0
  · have hR := packW_zero (by decide) (by decide) (by decide) hz
    exact (pack_yes l v w h hF hR).mono fun e w' ⟨h1, h2⟩ => ⟨⟨_, _, h1, .inl ⟨rfl, hR, rfl⟩⟩, h2⟩
  · exact (pack_no l v w h hF hz).mono fun e w' ⟨h1, h2⟩ => ⟨⟨_, _, h1, .inr ⟨hz, fun hR => hz (packW_of hR), rfl⟩⟩, h2⟩
end Go.Proofs.Ytldlkoiekdlmhaa.Wi
