/-
  wire.walkTexts through a reader and through a writer: contracts.
-/
import Derived.Test.YtldlkoiekdlmhaaWireStW
import Derived.Test.YtldlkoiekdlmhaaPkPush2
import Derived.Laws.MakeOwn
namespace Go.Proofs.Ytldlkoiekdlmhaa.Wi
open Go.ChangeShapes Go.WideShapes Go.ChangeAt Go.RowKit
open Go.Proofs.Ytldlkoiekdlmhaa.Mem
open Go.Proofs.Ytldlkoiekdlmhaa.Lik (Kept)
open Go.Proofs.Ytldlkoiekdlmhaa.Crc hiding hid bt
set_option linter.unusedVariables false
set_option linter.unusedSimpArgs false
set_option maxRecDepth 100000
theorem info_st : ∃ i z, Try.prog.info? 9 = some i ∧ i.zero = some z ∧ z = .string ⟨#[]⟩ ∧ i.size = 1 ∧ i.bytes = 16 ∧ z.cells.size = 1 := ⟨_, _, rfl, rfl, rfl, rfl, rfl, rfl⟩
theorem made_strz (n : Nat) : (madeCells #[Value.string ⟨#[]⟩] n).toList = strC (List.replicate n E0) := by
  apply List.ext_getElem
  · simp [madeCells, strC]
  · intro j h1 h2
    simp [madeCells, Nat.mod_one, strC, E0]
theorem ta_yes (v : Value) (w : World) : (Instr.typeAssert (.iface 65 v) 81 65 true).run Try.prog w = .ok (.tuple #[v, .bool true]) w := by
  simp [Instr.typeAssert, run_underlying Try.underlying65, go_sem]
theorem ta_no (v : Value) (w : World) : (Instr.typeAssert (.iface 53 v) 81 65 true).run Try.prog w = .ok (.tuple #[.pointer none, .bool false]) w := by
  simp [Instr.typeAssert, run_underlying Try.underlying65, go_sem]
attribute [local go_sem] ta_yes ta_no
set_option maxHeartbeats 8000000 in
theorem rtexts_any (b : Nat) (o : Option (List UInt8)) (w : World) (h : Rd w b o) :
    Calls Try.prog 39 #[.iface 65 (.pointer (some ⟨b, 0, none⟩)), .slice none 0 0] w fun e w' => ∃ so cap l, e = .returned (.slice so l.length cap) ∧ w'.ownsRow w.heap.size 9 1 (.slice so l.length cap) l.length (strC l) ∧ lR l ∧ RdP w b pL o l w' := by
  obtain ⟨i0, z0, hi, hz0, rfl, hz1, hz2, hz3⟩ := info_st
  have hc := hid (small_any b o 0 w h)
  have hblt := hid h.lt
  clear h
  go_enter Try.func39, Try.ntmps39
  go_wp2_with fail
  refine hc.out.mono ?_
  rintro e w1 ⟨n, rfl, hn, o1, r1, r2, r3⟩
  have hL0 := hid (show ∀ y o', Res (pTs n) o1 y o' → Res pL o y o' from fun y o' hr => r2.bind (q := pTs) hr)
  have hni : (n : Int) < 256 := by omega
  replace r1 := hid r1
  replace r3 := hid r3
  clear r2 hc
  go_wp2_with (at_make; refine wpList_make_full _ rfl _ _ 38 rfl w1.heap.size 9 i0 (.string ⟨#[]⟩) 1 Try.underlying38 hi hz0 hz1 _ _ _ _ n rfl rfl rfl rfl ?m1 ?m2 (Nat.le_refl _) ?_)
  case m1 => rw [hz2]; omega
  case m2 => unfold maxLen; omega
  intro wm hown hgm
  have hbm : Below w1.heap.size w1 wm := (Below.refl _ _).grown hgm (Nat.le_refl _) (by simp)
  obtain ⟨tail, hV⟩ : ∃ tail, Blk wm w1.heap.size (strC (List.replicate n E0) ++ tail) 9 := by
    obtain ⟨hb, _⟩ := own_blk hown
    rw [made_strz] at hb
    rcases hb with ⟨_, h0⟩ | ⟨g, tail, h1, _, h2⟩
    · cases h0
    · simp only [Option.some.injEq, Addr.mk.injEq, and_true] at h1
      rw [← h1] at h2
      exact ⟨tail, h2⟩
  replace hV := hid hV
  have hs1 := hid r3.out.size
  replace r1 := hid (r1.out.below hbm)
  replace r3 := hid (but_below r3.out hbm r3.out.size)
  have hsz := hid (show w.heap.size ≤ w1.heap.size from hs1.out)
  clear hown hgm hbm
  obtain ⟨g, hg⟩ : ∃ g, w1.heap.size = g := ⟨_, rfl⟩
  rw [hg] at hV hsz ⊢
  clear hg hs1
  obtain ⟨B1, hB1⟩ : ∃ B1, wm.heap.size = B1 := ⟨_, rfl⟩
  have hgB := hid (show g < B1 by rw [← hB1]; exact hV.out.lt)
  have hwB := hid (show w.heap.size ≤ B1 by have := hsz.out; have := hgB.out; omega)
  have hB1' := hid (show B1 ≤ wm.heap.size by omega)
  clear hB1
  go_wp2_with fail
  go_loopw [8, 25] (fun v i wr => ∃ (j : Nat) (pre : List ByteArray) (oj : Option (List UInt8)), j ≤ n ∧ i = .int .i64 j ∧ Hid (pre.length = j ∧ ∀ s ∈ pre, s.size ≤ 2048) ∧ Hid (∀ y o', Res (pTs (n - j)) oj y o' → Res pL o (pre ++ y) o') ∧ (∃ so cap, v = .slice so j cap ∧ Hid (wr.ownsRow B1 9 1 (.slice so j cap) j (strC pre))) ∧ Hid (Blk wr g (strC (List.replicate n E0) ++ tail) 9) ∧ Hid (B1 ≤ wr.heap.size) ∧ Hid (Rd wr b oj) ∧ Hid (But w.heap.size b w wr)) (fun _ i _ => n - (intOf i).toNat)
  case atStart => exact ⟨0, [], o1, by omega, rfl, hid ⟨rfl, by simp⟩, hid (fun y o' hr => hL0.out y o' hr), ⟨none, 0, rfl, hid (World.ownsRow_nil _ _ _ _)⟩, hV, hB1', r1, r3⟩
  case round =>
    clear hV r1 r3 hB1'
    obtain ⟨j, pre, oj, hj, rfl, hpl, hR, ⟨so, cap, rfl, hown⟩, hV, hBs, r1, r3⟩ := hrel
    by_cases hjn : j < n
    · have hji : (j : Int) < (n : Int) := by omega
      have hx : wr.cell? ⟨g, j, none⟩ = some (.string E0) := by
        have := hV.out.cell j (by rw [List.length_append, strC_len, List.length_replicate]; omega)
        rw [this, List.getElem_append_left (by rw [strC_len, List.length_replicate]; exact hjn), strC_get _ _ (by rw [List.length_replicate]; exact hjn), List.getElem_replicate]
      have hst := hid (show pTs (n - j) = pBind pT fun s => pBind (pTs (n - (j + 1))) fun l => pRet (s :: l) by rw [show n - j = (n - (j + 1)) + 1 by omega]; rfl)
      have hc := hid (text_any b oj E0 wr r1.out)
      go_wp2_with fail
      refine hc.out.mono ?_
      rintro e w3 ⟨x, rfl, hxs, o3, g1, g2, g3⟩
      have hne := hid (show ∀ k, (Value.slice so j cap).ownBlock = some k → k ≠ b from fun k hk e => by
        have := hown.out.lt k hk
        have := hblt.out
        have := hwB.out
        omega)
      have hown3 := hid (ownsRow_but hown.out g3 (by
        intro e
        exact hne.out b e rfl))
      have hV3 := hid (hV.out.but g3 hV.out.lt (by have := hblt.out; have := hsz.out; omega))
      have hBs3 := hid (show B1 ≤ w3.heap.size by have := hBs.out; have := g3.size; omega)
      replace r3 := hid (but_trans r3.out g3 r3.out.size)
      replace g1 := hid g1
      replace g2 := hid g2
      clear hc g3 hown hV r1 hx hBs
      obtain ⟨so', cap', W1, hrun, ho, hbl, hkp, hsz3⟩ := push (P := Try.prog) w3 B1 38 9 i0 (.string ⟨#[]⟩) 1 16 Try.underlying38 hi hz0 hz1 hz2 rfl (by decide) _ j _ hown3.out [.string x] rfl (by intro u hu; simp at hu; rw [hu]; rfl) (by unfold maxLen; omega) (by omega) hBs3.out
      have q1 := hid (show Rd W1 b o3 from by
        obtain ⟨s', wr', K', r'⟩ := g1.out
        exact ⟨s', wr', hkp b _ _ K' (by decide), r'⟩)
      have q2 := hid (hV3.out.below hbl hgB.out)
      have q3 := hid (show But w.heap.size b w W1 from but_mix r3.out (hbl.mono hwB.out))
      have q4 := hid (show B1 ≤ W1.heap.size by have := hBs3.out; omega)
      replace hrun := hid hrun
      replace ho := hid ho
      clear hbl hkp hsz3 hown3 hV3 hBs3 r3 g1
      go_wp2_with (at_builtin; refine wpList_push rfl (.tmp 29) (.tmp 33) _ _ rfl _ _ _ _ rfl rfl hrun.out ?_)
      go_roundw
      case rel => exact ⟨j + 1, pre ++ [x], o3, by omega, by go_num, hid ⟨by rw [List.length_append, hpl.out.1]; rfl, fun s hs => by
          rcases List.mem_append.1 hs with hs | hs
          · exact hpl.out.2 s hs
          · rw [List.mem_singleton.1 hs]; exact hxs⟩, hid (fun y o' hr => by
            have := hR.out (x :: y) o' (by rw [hst.out]; exact g2.out.bind (q := fun s => pBind (pTs (n - (j + 1))) fun l => pRet (s :: l)) (hr.bind (q := fun l => pRet (x :: l)) (Res.ret _ _)))
            simpa using this), ⟨_, _, rfl, hid (by rw [strC_append]; exact ho.out)⟩, q2, q4, q1, q3⟩
      case measure => simp [intOf]; omega
    · obtain rfl : j = n := by omega
      have hji : ¬ (j : Int) < (j : Int) := by omega
      have hfin := hid (show RdP w b pL o pre wr from ⟨oj, r1.out, by
        have := hR.out [] oj (by rw [Nat.sub_self]; exact Res.ret [] oj)
        simpa using this, r3.out⟩)
      have hlen := hid hpl.out.1
      have hlr := hid (show lR pre from ⟨by rw [hpl.out.1]; omega, hpl.out.2⟩)
      clear r1 r3 hR hV
      go_wp2_with fail
      go_ret
      refine ⟨so, cap, pre, by rw [hlen.out]; rfl, ?_, hlr.out, hfin.out⟩
      rw [hlen.out]
      exact ownsRow_mono hown.out hwB.out
/-- texts written one behind the other -/
def wTs : List ByteArray → Option (List UInt8) → Option (List UInt8)
  | [], o => o
  | s :: l, o => wTs l (wT s o)
def wL (l : List ByteArray) (o : Option (List UInt8)) : Option (List UInt8) := wTs l (w1 l.length o)
theorem wTs_snoc (s : ByteArray) : ∀ (l : List ByteArray) (o : Option (List UInt8)), wTs (l ++ [s]) o = wT s (wTs l o) := by
  intro l
  induction l with
  | nil => intro o; rfl
  | cons x l ih => intro o; exact ih _
def tot (l : List ByteArray) : Nat := (l.map fun s => 4 + s.size).sum
theorem tot_take (l : List ByteArray) (j : Nat) (h : j < l.length) : tot (l.take (j + 1)) = tot (l.take j) + (4 + l[j].size) := by
  unfold tot
  rw [List.take_succ_eq_append_getElem h, List.map_append, List.sum_append]
  simp only [List.map_cons, List.map_nil, List.sum_cons, List.sum_nil, Nat.add_zero]
theorem tot_le (l : List ByteArray) (j : Nat) : tot (l.take j) ≤ tot l := by
  unfold tot
  have h : l = l.take j ++ l.drop j := (List.take_append_drop j l).symm
  conv => rhs; rw [h]
  rw [List.map_append, List.sum_append]; omega
theorem ownsRow_kp {w w' : World} {b base : Nat} {v : Value} {n : Nat} {xs : List Value} (h : w.ownsRow base 9 1 v n xs) (k : Kept b w w') (hb : b < base) : w'.ownsRow base 9 1 v n xs := by
  obtain ⟨h1, h2⟩ := h
  refine ⟨h1, ?_⟩
  rcases h2 with h2 | ⟨g, cap, cur, hv, hg, hh, r⟩
  · exact .inl h2
  · refine .inr ⟨g, cap, cur, hv, hg, k g _ hh ?_ ?_, r⟩
    · intro e
      have := Option.some.inj e
      omega
    · intro c fz e
      simp only [Obj.cells.injEq] at e
      exact absurd e.2.1 (by decide)
theorem strs_kp {w w' : World} {b : Nat} {v : Value} {l : List ByteArray} (h : StrsV w v l) (hk : ∀ (a : Addr) x, w.cell? a = some x → (∃ s, x = .string s) → w'.cell? a = some x) : StrsV w' v l := by
  obtain ⟨ao, cap, h1, h2, h3, h4, h5, h6⟩ := h
  refine ⟨ao, cap, h1, h2, h3, h4, h5, fun a ha j hj => hk _ _ (h6 a ha j hj) ?_⟩
  rw [strC_get _ _ (by rw [strC_len] at hj; exact hj)]
  exact ⟨_, rfl⟩
set_option maxHeartbeats 8000000 in
theorem wtexts_any (B b n m : Nat) (o : Option (List UInt8)) (l : List ByteArray) (v : Value) (w wB : World) (h : Wr w B b o n m) (hV : StrsV wB v l) (hwB : wB.heap.size = B) (hb0 : Below B wB w) (hlen : l.length ≤ 1048576) (hm : m + 1 + tot l ≤ 90000000) (hBw : B ≤ w.heap.size) :
    Calls Try.prog 39 #[.iface 53 (.pointer (some ⟨b, 0, none⟩)), v] w fun e w' => (∃ so cap, e = .returned (.slice so l.length cap) ∧ w'.ownsRow w.heap.size 9 1 (.slice so l.length cap) l.length (strC l)) ∧ WrP w B b (wL l o) n (m + 1 + tot l) w' := by
  obtain ⟨i0, z0, hi, hz0, rfl, hz1, hz2, hz3⟩ := info_st
  obtain ⟨ao, cp, rfl, _, _⟩ := hV.form
  obtain ⟨N, hN⟩ : ∃ N, l.length = N := ⟨_, rfl⟩
  have hVa := hid (show ∀ W, Below B w W → StrsV W (.slice ao N cp) l from fun W hW => by
    have := hV.below ((hb0.trans hW).mono (by omega))
    rw [hN] at this; exact this)
  have hblt := hid h.lt
  have hge := hid (show B ≤ b from by obtain ⟨_, _, I, _⟩ := h; exact is_ge I)
  have hc := hid (wsmall_any B b n m o (N : Int) w h (by omega) hBw)
  have hNi : (N : Int) ≤ 1048576 := by omega
  have hN' := hid hN
  rw [hN] at hlen ⊢
  have hm' := hid hm
  clear h hV hb0 hwB hm hN
  go_enter Try.func39, Try.ntmps39
  go_wp2_with fail
  refine hc.out.mono ?_
  rintro e w1' ⟨rfl, hW1, hb1, hk1⟩
  have q1 := hid (show Wr w1' B b (wTs (l.take 0) (w1 (N : Int) o)) n (m + 1 + tot (l.take 0)) from hW1.mono (by omega) (by simp [tot]))
  replace hb1 := hid hb1
  replace hk1 := hid hk1
  clear hc hW1
  go_wp2_with fail
  go_loopw [8, 25] (fun v i wr => ∃ j : Nat, j ≤ N ∧ i = .int .i64 j ∧ (∃ so cap, v = .slice so j cap ∧ Hid (wr.ownsRow w.heap.size 9 1 (.slice so j cap) j (strC (l.take j)))) ∧ Hid (Wr wr B b (wTs (l.take j) (w1 (N : Int) o)) n (m + 1 + tot (l.take j))) ∧ Hid (Below B w wr) ∧ Hid (Kept b w wr)) (fun _ i _ => N - (intOf i).toNat)
  case atStart => exact ⟨0, by omega, rfl, ⟨none, 0, rfl, hid (World.ownsRow_nil _ _ _ _)⟩, q1, hb1, hk1⟩
  case round =>
    clear q1 hb1 hk1
    obtain ⟨j, hj, rfl, ⟨so, cap, rfl, hown⟩, hW, hb1, hk1⟩ := hrel
    by_cases hjn : j < N
    · have hji : (j : Int) < (N : Int) := by omega
      have hjl : j < l.length := by rw [hN'.out]; exact hjn
      obtain ⟨b', off, cap', e, -, -, -, hcl⟩ := StrsV.open (hVa.out wr hb1.out) (by omega)
      simp only [Value.slice.injEq] at e
      obtain ⟨rfl, -, -⟩ := e
      have hx := hcl j hjl
      have htk := hid (tot_take l j hjl)
      have htl := hid (tot_le l (j + 1))
      have hsn := hid (show wTs (l.take (j + 1)) (w1 (N : Int) o) = wT l[j] (wTs (l.take j) (w1 (N : Int) o)) by rw [List.take_succ_eq_append_getElem hjl, wTs_snoc])
      have hcs := hid (show strC (l.take (j + 1)) = strC (l.take j) ++ [.string l[j]] by rw [List.take_succ_eq_append_getElem hjl, strC_append]; rfl)
      generalize l[j] = s at hx htk hsn hcs
      have hc := hid (wtext_any B b n _ _ s wr hW.out (by have := htk.out; have := htl.out; have := hm'.out; omega) (by have := hb1.out.size; omega))
      clear hcl
      go_wp2_with fail
      refine hc.out.mono ?_
      rintro e w3 ⟨rfl, hW3, hb3, hk3⟩
      have hown3 := hid (ownsRow_kp hown.out hk3 hblt.out)
      replace hW := hid (show Wr w3 B b (wTs (l.take (j + 1)) (w1 (N : Int) o)) n (m + 1 + tot (l.take (j + 1))) from by rw [hsn.out]; exact hW3.mono (Nat.le_refl _) (by have := htk.out; omega))
      replace hb1 := hid (hb1.out.trans hb3)
      replace hk1 := hid (kept_trans hk1.out hk3)
      have hge3 := hid (show w.heap.size ≤ w3.heap.size from hb1.out.size)
      clear hc hW3 hb3 hk3 hown hx
      obtain ⟨so', cap', W1, hrun, ho, hbl, hkp, -, hsz3⟩ := push2 (P := Try.prog) w3 w.heap.size 38 9 i0 (.string ⟨#[]⟩) 1 16 Try.underlying38 hi hz0 hz1 hz2 rfl (by decide) _ j _ hown3.out [.string s] rfl (by intro u hu; simp at hu; rw [hu]; rfl) (by unfold maxLen; omega) (by omega) hge3.out
      have g1 := hid (show Wr W1 B b (wTs (l.take (j + 1)) (w1 (N : Int) o)) n (m + 1 + tot (l.take (j + 1))) from by
        obtain ⟨l', wr', I, r⟩ := hW.out
        refine ⟨l', wr', I.grown fun k hk => ?_, r⟩
        have hkk : ∃ c t fz, w3.heap[k]? = some (.cells c t fz) ∧ t ≠ 9 := by
          rcases hk with rfl | ⟨c, fz, e⟩
          · obtain ⟨p, hp, hB, v, K, _⟩ := I.at
            exact ⟨_, _, _, K.at', by decide⟩
          · exact ⟨_, _, _, e, by decide⟩
        obtain ⟨c, t, fz, e, ht⟩ := hkk
        rw [e]
        exact hkp k _ e (fun c' e' => by simp only [Obj.cells.injEq] at e'; exact ht e'.2.1))
      have g2 := hid (show Below B w W1 from hb1.out.trans (hbl.mono (by have := hblt.out; have := hge.out; omega)))
      have g3 := hid (show Kept b w W1 from fun k o hk h1 h2 => by
        rw [hbl.block k (Array.getElem?_eq_some_iff.1 hk).1]
        exact hk1.out k o hk h1 h2)
      replace hrun := hid hrun
      replace ho := hid (show W1.ownsRow w.heap.size 9 1 (.slice so' (j + 1) cap') (j + 1) (strC (l.take (j + 1))) from by rw [hcs.out]; exact ho)
      clear hbl hkp hsz3 hown3 hW hb1 hk1
      go_wp2_with (at_builtin; refine wpList_push rfl (.tmp 29) (.tmp 33) _ _ rfl _ _ _ _ rfl rfl hrun.out ?_)
      go_roundw
      case rel => exact ⟨j + 1, by omega, by go_num, ⟨_, _, rfl, ho⟩, g1, g2, g3⟩
      case measure => simp [intOf]; omega
    · obtain rfl : j = N := by omega
      have hji : ¬ (j : Int) < (j : Int) := by omega
      have hall : l.take j = l := List.take_of_length_le (by rw [hN'.out]; exact Nat.le_refl _)
      rw [hall] at hown hW
      have hfin := hid (show WrP w B b (wL l o) n (m + 1 + tot l) wr from ⟨by unfold wL; rw [hN'.out]; exact hW.out, hb1.out, hk1.out⟩)
      clear hW hb1 hk1 hall
      go_wp2_with fail
      go_ret
      exact ⟨⟨so, cap, rfl, hown.out⟩, hfin.out⟩
end Go.Proofs.Ytldlkoiekdlmhaa.Wi
