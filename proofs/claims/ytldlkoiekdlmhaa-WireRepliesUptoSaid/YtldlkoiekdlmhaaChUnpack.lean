/-
  change.Unpack: contract.
-/
import Derived.Test.YtldlkoiekdlmhaaChPack
namespace Go.Proofs.Ytldlkoiekdlmhaa.Wi
open Go.ChangeShapes Go.WideShapes Go.ChangeAt Go.RowKit
open Go.Proofs.Ytldlkoiekdlmhaa.Mem
open Go.Proofs.Ytldlkoiekdlmhaa.Crc hiding hid bt
set_option linter.unusedVariables false
set_option linter.unusedSimpArgs false
set_option maxRecDepth 100000
theorem lB_len (l : List UInt8) : (lB l).2.length ≤ l.length := by
  unfold lB
  rw [List.length_drop]; omega
theorem lC_fit (l : List UInt8) (h : l.length ≤ 16777216) : ((lC l).1.k < 256 ∧ (lC l).1.i.size ≤ 16777216 ∧ (lC l).1.t.size ≤ 16777216 ∧ (lC l).1.ut.size ≤ 16777216 ∧ (lC l).1.ui.size ≤ 16777216) ∧ (lC l).2.length ≤ 16777216 := by
  have h0 := lB_len l
  have h1 := lT_size (lB l).2
  have h2 := lT_size (lT (lB l).2).2
  have h3 := lT_size (lT (lT (lB l).2).2).2
  have h4 := lT_size (lT (lT (lT (lB l).2).2).2).2
  have hb := lB_lt l
  unfold lC
  generalize (lB l).1 = k at *
  generalize (lB l).2 = r0 at *
  generalize lT r0 = p1 at *
  generalize lT p1.2 = p2 at *
  generalize lT p2.2 = p3 at *
  generalize lT p3.2 = p4 at *
  dsimp only
  refine ⟨⟨hb, ?_, ?_, ?_, ?_⟩, ?_⟩ <;> omega
theorem lCs_fit (n : Nat) : ∀ l : List UInt8, l.length ≤ 16777216 → chsF (lCs n l) := by
  induction n with
  | zero => intro l _ c hc; cases hc
  | succ n ih =>
    intro l h c hc
    obtain ⟨f1, f2⟩ := lC_fit l h
    rcases List.mem_cons.1 hc with rfl | hc
    · exact f1
    · exact ih _ f2 c hc
theorem lL_fit (l : List UInt8) (h : l.length ≤ 16777216) : chsF (lL l) := lCs_fit _ _ (by have := lB_len l; omega)
/-- what Unpack answers -/
def UnP (w : World) (s : List UInt8) (e : Ending) (w' : World) : Prop :=
  (∃ so cap l z, e = .returned (.tuple #[.slice so l.length cap, .int .i64 z]) ∧ w'.ownsRow w.heap.size 28 5 (.slice so l.length cap) l.length (chC l) ∧ chsF l ∧ (z = 0 ∧ packR l ∧ packE l = s ∨ z = 14 ∧ l = [] ∧ ∀ l0, packR l0 → packE l0 ≠ s)) ∧ Below w.heap.size w w'
set_option maxHeartbeats 8000000 in
theorem unpack_any (s : ByteArray) (w : World) (hs : s.size ≤ 16777216) :
    Calls Try.prog 81 #[.string s] w fun e w' => UnP w s.data.toList e w' := by
  have hfit := hid (lL_fit s.data.toList (by rw [len_size]; exact hs))
  go_enter Try.func81, Try.ntmps81
  go_upto_region 2 with fail
  have hC := hid (show CR (w.alloc (.cells #[.string s] 133)) w.heap.size s.data.toList from ⟨s, Blk.new w [.string s] 133, hs, rfl⟩)
  have bw := hid ((Below.refl w.heap.size w).alloc (Nat.le_refl _) (.cells #[.string s] 133))
  have hsz := hid (show w.heap.size ≤ (w.alloc (.cells #[.string s] 133)).heap.size by simp)
  generalize w.alloc (.cells #[.string s] 133) = X0 at hC bw hsz ⊢
  have hcall := hid (changes_any w.heap.size s.data.toList X0 hC.out)
  obtain ⟨l, hl⟩ : ∃ l, lL s.data.toList = l := ⟨_, rfl⟩
  rw [hl] at hcall hfit
  have hl' := hid hl
  clear hl hC
  go_wp2_with fail
  refine hcall.out.mono ?_
  rintro e w1 ⟨so, cap, rfl, hown, hB⟩
  have hV := hid (show ChsV w1 (.slice so l.length cap) l from SlV.own hown)
  replace hown := hid (ownsRow_mono hown hsz.out)
  replace bw := hid (bw.out.trans (hB.below (Nat.le_refl _) hsz.out))
  clear hB hcall
  have hp := hid (pack_any l _ w1 hV.out hfit.out)
  obtain ⟨n, hn⟩ : ∃ n, l.length = n := ⟨_, rfl⟩
  rw [hn] at hp ⊢
  replace hn := hid hn
  clear hV
  go_wp2_with fail
  refine hp.out.mono ?_
  rintro e w2 ⟨⟨t, z, rfl, hz⟩, b2⟩
  have hown2 := hid (ownsRow_below hown.out (b2.mono (Nat.le_refl _)))
  replace bw := hid (bw.out.trans (b2.mono bw.out.size))
  clear hp b2 hown
  have hno := hid (show (∀ l0, packR l0 → packE l0 ≠ s.data.toList) → UnP w s.data.toList (.returned (.tuple #[.slice none 0 0, .int .i64 14])) w2 from fun h => ⟨⟨none, 0, [], 14, rfl, World.ownsRow_nil _ _ _ _, fun c hc => (by cases hc), .inr ⟨rfl, rfl, h⟩⟩, bw.out⟩)
  have hread := hid (show ∀ l0, packR l0 → packE l0 = s.data.toList → l = l0 from fun l0 h0 e => by rw [← hl'.out, ← e, lL_E l0 h0])
  rcases hz with ⟨rfl, hR, rfl⟩ | ⟨hz, hR, rfl⟩
  · by_cases he : packE l = s.data.toList
    · have hfin := hid (show UnP w s.data.toList (.returned (.tuple #[.slice so n cap, .int .i64 0])) w2 from ⟨⟨so, cap, l, 0, by rw [hn.out], hown2.out, hfit.out, .inl ⟨rfl, hR, he⟩⟩, bw.out⟩)
      have hbs : bs (packE l) = s := by rw [he, bs_of]
      rw [hbs]
      clear he hR hno hread hbs
      go_wp2_with fail
      go_ret2
      exact hfin.out
    · have hfin := hid (hno.out (fun l0 h0 e => he (by rw [hread.out l0 h0 e]; exact e)))
      have hne : ¬ (bs (packE l)).toList = s.toList := by rw [tl_eq]; intro e; exact he (by rw [← e, bs_list])
      have hne' : ((bs (packE l)).toList == s.toList) = false := by simpa using hne
      generalize bs (packE l) = x at hne hne' ⊢
      clear he hR hno hread
      go_wp2_with fail
      go_ret2
      exact hfin.out
  · have hfin := hid (hno.out (fun l0 h0 e => hR (by rw [hread.out l0 h0 e]; exact h0)))
    have hz' : (z != 0) = true := by simpa using hz
    have hz2 : ¬ z = 0 := hz
    clear hR hno hread
    go_wp2_with fail
    go_ret2
    exact hfin.out
end Go.Proofs.Ytldlkoiekdlmhaa.Wi
