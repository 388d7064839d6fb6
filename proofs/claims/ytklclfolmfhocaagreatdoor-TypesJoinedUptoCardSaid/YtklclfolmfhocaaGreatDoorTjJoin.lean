/-
  types.Join: contract. Written by wip/tjgen.py.
-/
import Derived.Test.YtklclfolmfhocaaGreatDoorTjJoinR
import Derived.Deep.RegionHeld3
import Derived.Deep.RegionWith
namespace Go.Proofs.YtklclfolmfhocaaGreatDoor.Tyt
open Go.ChangeShapes Go.WideShapes Go.ChangeAt Go.RowKit
open Go.Proofs.YtklclfolmfhocaaGreatDoor.Mem
set_option linter.unusedVariables false
set_option linter.unusedSimpArgs false
set_option maxRecDepth 100000
/-- what partOf answers of a type -/
def IsPart (x y : Ty) : Prop := x.of = [] ∧ y = leaf 0 ⟨#[]⟩ ∨ ∃ l, x.of = y :: l
theorem IsPart.er' {x y : Ty} (h : IsPart x y) : PT.part (er x).of = er y := by
  rw [er_of]
  rcases h with ⟨hl, rfl⟩ | ⟨l, hl⟩
  · rw [hl, er_leaf]; rfl
  · rw [hl, erL]; rfl
theorem IsPart.ok' {w : World} {x y : Ty} (h : IsPart x y) (hx : x.ok w) : y.ok w := by
  rcases h with ⟨_, rfl⟩ | ⟨l, hl⟩
  · exact leaf_ok _ _ _ (by decide) (by decide)
  · exact hx.parts.2.2.2.2.2.2.1 y (by rw [hl]; simp)
set_option maxHeartbeats 16000000 in
theorem join_step (a b : Ty) (ha : PT.small (er a)) (hb : PT.small (er b)) (ih5 : a.kind = 5 → b.kind = 5 → ∀ y z, IsPart a y → IsPart b z → Jn y z)
    (ih6 : ∀ (i : Nat) (h1 : i < a.att.length) (h2 : i < b.att.length), Jn a.att[i] b.att[i]) : Jn a b := by
  intro w S hao hbo hS
  have hS' := hid hS
  obtain ⟨ao1, ac1, ao2, ac2, e1, e2, _, _⟩ := hao.forms
  obtain ⟨bo1, bc1, bo2, bc2, g1, g2, _, _⟩ := hbo.forms
  have va := Ty.val_eq e1 e2
  have vb := Ty.val_eq g1 g2
  obtain ⟨ka, hka⟩ : ∃ ka : Int, ((a.kind : Nat) : Int) = ka := ⟨_, rfl⟩
  obtain ⟨kb, hkb⟩ : ∃ kb : Int, ((b.kind : Nat) : Int) = kb := ⟨_, rfl⟩
  rw [hka] at va
  rw [hkb] at vb
  have cTa := hid (show ∀ (W : World) (S' : Nat → Prop), Below w.heap.size w W → (∀ k, W.heap.size ≤ k → S' k) → Calls Tryz.prog 16 #[.agg #[.int .u8 ka, .string a.name, .slice ao1 a.of.length ac1, .slice ao2 a.att.length ac2]] W fun e w' => TB S' (PT.trim (er a)) e w' ∧ Below W.heap.size W w' from fun W S' B h => by
    have := trim_any a ha W S' (hao.below B) h
    rwa [va] at this)
  have cTb := hid (show ∀ (W : World) (S' : Nat → Prop), Below w.heap.size w W → (∀ k, W.heap.size ≤ k → S' k) → Calls Tryz.prog 16 #[.agg #[.int .u8 kb, .string b.name, .slice bo1 b.of.length bc1, .slice bo2 b.att.length bc2]] W fun e w' => TB S' (PT.trim (er b)) e w' ∧ Below W.heap.size W w' from fun W S' B h => by
    have := trim_any b hb W S' (hbo.below B) h
    rwa [vb] at this)
  have cPa := hid (show ∀ (W : World), Below w.heap.size w W → Calls Tryz.prog 18 #[.agg #[.int .u8 ka, .string a.name, .slice ao1 a.of.length ac1, .slice ao2 a.att.length ac2]] W fun e w' => (∃ y : Ty, e = .returned y.val ∧ IsPart a y) ∧ Below W.heap.size W w' from fun W B => by
    have := partOf_any a W (hao.below B)
    rwa [va] at this)
  have cPb := hid (show ∀ (W : World), Below w.heap.size w W → Calls Tryz.prog 18 #[.agg #[.int .u8 kb, .string b.name, .slice bo1 b.of.length bc1, .slice bo2 b.att.length bc2]] W fun e w' => (∃ y : Ty, e = .returned y.val ∧ IsPart b y) ∧ Below W.heap.size W w' from fun W B => by
    have := partOf_any b W (hbo.below B)
    rwa [vb] at this)
  have cR := hid (show ∀ (W : World) (S' : Nat → Prop), Below w.heap.size w W → (∀ k, W.heap.size ≤ k → S' k) → Calls Tryz.prog 20 #[.slice ao2 a.att.length ac2, .slice bo2 b.att.length bc2] W fun e w' => JB S' ((PT.JL (erL a.att) a.an b.an (erL b.att)).map (PT.rcd a.an)) e w' ∧ Below W.heap.size W w' from fun W S' B h => by
    have hl : a.att.length * 88 ≤ 140737488355328 := by have := (PT.small_iff.1 ha).1; rwa [er_att, erL_length] at this
    have := joinrec_step a.an b.an a.att b.att ih6 hl W S' a.av b.av ((hao.below B).attrs) ((hbo.below B).attrs) h
    rwa [e2, g2] at this)
  rw [va, vb]
  have hao' := hid hao
  have hbo' := hid hbo
  have ih5' := hid ih5
  have hna := hid hao.parts.2.1
  have hres := hid (PT.J_eq (er a) (er b))
  rw [er_k, er_k, er_nm, er_nm, er_of, er_of, er_an, er_an, er_att, er_att] at hres
  generalize PT.J (er a) (er b) = JJ at hres ⊢
  have bw0 := hid (Below.refl w.heap.size w)
  replace hka := hid hka
  replace hkb := hid hkb
  have hk256 := hid hao.parts.1
  clear hao hbo hS e1 e2 g1 g2 va vb ih5 ih6 ha hb
  go_enter Tryz.func7, Tryz.ntmps7
  go_upto_region 1 with fail
  have KA := hid (Blk.new w [.int .u8 ka, .string a.name, .slice ao1 a.of.length ac1, .slice ao2 a.att.length ac2] 26)
  have bw1 := hid (bw0.out.alloc (Nat.le_refl _) (.cells #[.int .u8 ka, .string a.name, .slice ao1 a.of.length ac1, .slice ao2 a.att.length ac2] 26))
  have hs1 : w.heap.size + 1 = (w.alloc (.cells #[.int .u8 ka, .string a.name, .slice ao1 a.of.length ac1, .slice ao2 a.att.length ac2] 26)).heap.size := by simp
  clear bw0
  generalize w.alloc (.cells #[.int .u8 ka, .string a.name, .slice ao1 a.of.length ac1, .slice ao2 a.att.length ac2] 26) = X0 at KA bw1 hs1 ⊢
  have KB := hid (Blk.new' X0 [.int .u8 kb, .string b.name, .slice bo1 b.of.length bc1, .slice bo2 b.att.length bc2] 26 (w.heap.size + 1) hs1)
  replace KA := hid (KA.out.alloc (.cells #[.int .u8 kb, .string b.name, .slice bo1 b.of.length bc1, .slice bo2 b.att.length bc2] 26))
  have bw2 := hid (bw1.out.alloc (by omega) (.cells #[.int .u8 kb, .string b.name, .slice bo1 b.of.length bc1, .slice bo2 b.att.length bc2] 26))
  have hs2 : w.heap.size + 2 = (X0.alloc (.cells #[.int .u8 kb, .string b.name, .slice bo1 b.of.length bc1, .slice bo2 b.att.length bc2] 26)).heap.size := by simp; omega
  clear bw1 hs1
  generalize X0.alloc (.cells #[.int .u8 kb, .string b.name, .slice bo1 b.of.length bc1, .slice bo2 b.att.length bc2] 26) = X1 at KA KB bw2 hs2 ⊢
  have R := hid (Blk.new' X1 [.int .u8 0, .string ⟨#[]⟩, .slice none 0 0, .slice none 0 0] 26 (w.heap.size + 2) hs2)
  replace KA := hid (KA.out.alloc (.cells #[.int .u8 0, .string ⟨#[]⟩, .slice none 0 0, .slice none 0 0] 26))
  replace KB := hid (KB.out.alloc (.cells #[.int .u8 0, .string ⟨#[]⟩, .slice none 0 0, .slice none 0 0] 26))
  have bw := hid (bw2.out.alloc (by omega) (.cells #[.int .u8 0, .string ⟨#[]⟩, .slice none 0 0, .slice none 0 0] 26))
  have hsz := hid (show w.heap.size + 3 = (X1.alloc (.cells #[.int .u8 0, .string ⟨#[]⟩, .slice none 0 0, .slice none 0 0] 26)).heap.size by simp; omega)
  clear bw2 hs2
  generalize X1.alloc (.cells #[.int .u8 0, .string ⟨#[]⟩, .slice none 0 0, .slice none 0 0] 26) = X2 at KA KB R bw hsz ⊢
  obtain ⟨rb, hrb⟩ : ∃ rb, w.heap.size + 2 = rb := ⟨_, rfl⟩
  rw [hrb] at R ⊢
  have hB := hid (show w.heap.size + 3 ≤ X2.heap.size ∧ w.heap.size ≤ rb ∧ rb < w.heap.size + 3 by have := hsz.out; omega)
  clear hrb hsz
  by_cases h0 : ka = 0
  · subst h0
    obtain ⟨c0, c1, c2, c3, cf⟩ := four' KA.out
    obtain ⟨u0, u1, u2, u3, uf⟩ := four' KB.out
    go_wp2_with fail
    refine (cTb.out X2 (fun b => S b ∧ b ≠ rb) bw.out (fun b hb => ⟨hS'.out b (by have := hB.out; omega), by have := hB.out; omega⟩)).mono ?_
    rintro e w3 ⟨⟨y, rfl, hy, hyok, hyin⟩, q3⟩
    have R3 := hid (R.out.below q3 R.out.lt)
    have b3 := hid (bw.out.trans (q3.mono bw.out.size))
    obtain ⟨yoo, yoc, yao, yac, ey1, ey2, _, _⟩ := hyok.forms
    have hyv := hid (Ty.val_eq ey1 ey2)
    rw [hyv.out]
    replace hyok := hid hyok
    replace hyin := hid hyin
    have her := hid (show JJ = some (er y) by rw [hres.out, if_pos (by have := hka.out; omega), hy])
    clear q3 R bw hy ey1 ey2 KA KB
    clear c0 c1 c2 c3 cf u0 u1 u2 u3 uf
    have hK := hid (blk_st4 R3.out (.int .u8 (y.kind : Nat)) (.string y.name) (.slice yoo y.of.length yoc) (.slice yao y.att.length yac))
    have hBw := hid (below_st4 b3.out (g := rb) (hB.out.2.1) (.int .u8 (y.kind : Nat)) (.string y.name) (.slice yoo y.of.length yoc) (.slice yao y.att.length yac))
    have hkp := hid (fun b (hb : b ≠ rb) => heap_st4 w3 (rb) (.int .u8 (y.kind : Nat)) (.string y.name) (.slice yoo y.of.length yoc) (.slice yao y.att.length yac) hb)
    obtain ⟨d0, d1, d2, d3, df⟩ := four' R3.out
    go_wp2_with fail
    obtain ⟨q0, q1, q2, q3, qf⟩ := four' hK.out
    exact bodyPost_ret (v := .tuple #[.agg #[.int .u8 (y.kind : Nat), .string y.name, .slice yoo y.of.length yoc, .slice yao y.att.length yac], .int .i64 0]) (by unfold st4 at q0 q1 q2 q3; simp [results, Tryz.results7, go_sem, q0, q1, q2, q3]) rfl ⟨⟨y, 0, by rw [hyv.out], hyok.out.keep (fun b hb => hkp.out b hb.2) hyin.out, hyin.out.mono (fun b hb => hb.1), .inl ⟨her.out, rfl⟩⟩, hBw.out⟩
  by_cases h0b : kb = 0
  · subst h0b
    have q0 := hid (show ¬ a.kind = 0 by have := hka.out; omega)
    obtain ⟨c0, c1, c2, c3, cf⟩ := four' KA.out
    obtain ⟨u0, u1, u2, u3, uf⟩ := four' KB.out
    go_wp2_with fail
    refine (cTa.out X2 (fun b => S b ∧ b ≠ rb) bw.out (fun b hb => ⟨hS'.out b (by have := hB.out; omega), by have := hB.out; omega⟩)).mono ?_
    rintro e w3 ⟨⟨y, rfl, hy, hyok, hyin⟩, q3⟩
    have R3 := hid (R.out.below q3 R.out.lt)
    have b3 := hid (bw.out.trans (q3.mono bw.out.size))
    obtain ⟨yoo, yoc, yao, yac, ey1, ey2, _, _⟩ := hyok.forms
    have hyv := hid (Ty.val_eq ey1 ey2)
    rw [hyv.out]
    replace hyok := hid hyok
    replace hyin := hid hyin
    have her := hid (show JJ = some (er y) by rw [hres.out, if_neg q0.out, if_pos (by have := hkb.out; omega), hy])
    clear q3 R bw hy ey1 ey2 KA KB
    clear c0 c1 c2 c3 cf u0 u1 u2 u3 uf
    have hK := hid (blk_st4 R3.out (.int .u8 (y.kind : Nat)) (.string y.name) (.slice yoo y.of.length yoc) (.slice yao y.att.length yac))
    have hBw := hid (below_st4 b3.out (g := rb) (hB.out.2.1) (.int .u8 (y.kind : Nat)) (.string y.name) (.slice yoo y.of.length yoc) (.slice yao y.att.length yac))
    have hkp := hid (fun b (hb : b ≠ rb) => heap_st4 w3 (rb) (.int .u8 (y.kind : Nat)) (.string y.name) (.slice yoo y.of.length yoc) (.slice yao y.att.length yac) hb)
    obtain ⟨d0, d1, d2, d3, df⟩ := four' R3.out
    go_wp2_with fail
    obtain ⟨q0, q1, q2, q3, qf⟩ := four' hK.out
    exact bodyPost_ret (v := .tuple #[.agg #[.int .u8 (y.kind : Nat), .string y.name, .slice yoo y.of.length yoc, .slice yao y.att.length yac], .int .i64 0]) (by unfold st4 at q0 q1 q2 q3; simp [results, Tryz.results7, go_sem, q0, q1, q2, q3]) rfl ⟨⟨y, 0, by rw [hyv.out], hyok.out.keep (fun b hb => hkp.out b hb.2) hyin.out, hyin.out.mono (fun b hb => hb.1), .inl ⟨her.out, rfl⟩⟩, hBw.out⟩
  have n0 := hid (show ¬ a.kind = 0 by have := hka.out; omega)
  have n0b := hid (show ¬ b.kind = 0 by have := hkb.out; omega)
  replace hres := hid (hres.out.trans ((if_neg n0.out).trans (if_neg n0b.out)))
  by_cases hk : ka = kb
  case neg =>
    have hJn := hid (show JJ = none by rw [hres.out, if_pos (by have := hka.out; have := hkb.out; omega)])
    have hkne : (ka != kb) = true := by simpa using hk
    obtain ⟨c0, c1, c2, c3, cf⟩ := four' KA.out
    obtain ⟨u0, u1, u2, u3, uf⟩ := four' KB.out
    clear KA KB
    have hK := hid (blk_st4 R.out (.int .u8 0) (.string ⟨#[]⟩) (.slice none 0 0) (.slice none 0 0))
    have hBw := hid (below_st4 bw.out (g := rb) (hB.out.2.1) (.int .u8 0) (.string ⟨#[]⟩) (.slice none 0 0) (.slice none 0 0))
    have hkp := hid (fun b (hb : b ≠ rb) => heap_st4 X2 (rb) (.int .u8 0) (.string ⟨#[]⟩) (.slice none 0 0) (.slice none 0 0) hb)
    obtain ⟨d0, d1, d2, d3, df⟩ := four' R.out
    go_wp2_with fail
    obtain ⟨q0, q1, q2, q3, qf⟩ := four' hK.out
    exact bodyPost_ret (v := .tuple #[.agg #[.int .u8 0, .string ⟨#[]⟩, .slice none 0 0, .slice none 0 0], .int .i64 7]) (by unfold st4 at q0 q1 q2 q3; simp [results, Tryz.results7, go_sem, q0, q1, q2, q3]) rfl ⟨⟨leaf 0 ⟨#[]⟩, 7, rfl, leaf_ok _ _ _ (by decide) (by decide), leaf_in _ _ _, .inr ⟨hJn.out, rfl, rfl⟩⟩, hBw.out⟩
  subst hk
  replace hres := hid (hres.out.trans (if_neg (by have := hka.out; have := hkb.out; omega)))
  have h0' : (ka == 0) = false := by simpa using h0
  have hcase : (ka = 1 ∨ ka = 2 ∨ ka = 3) ∨ ka = 4 ∨ ka = 5 ∨ ka = 6 ∨ (¬ ka = 1 ∧ ¬ ka = 2 ∧ ¬ ka = 3 ∧ ¬ ka = 4 ∧ ¬ ka = 5 ∧ ¬ ka = 6) := by omega
  clear h0b h0'
  rcases hcase with hc | rfl | rfl | rfl | ⟨m1, m2, m3, m4, m5, m6⟩
  · have her := hid (show JJ = some (PT.bare a.kind) by rw [hres.out, if_pos (by have := hka.out; omega)])
    have hki : (ka = 1 ∨ ¬ ka = 1) := by omega
    rcases hc with rfl | rfl | rfl
    · skip
      obtain ⟨c0, c1, c2, c3, cf⟩ := four' KA.out
      obtain ⟨u0, u1, u2, u3, uf⟩ := four' KB.out
      clear KA KB hki
      have hK := hid (blk_st4 R.out (.int .u8 1) (.string ⟨#[]⟩) (.slice none 0 0) (.slice none 0 0))
      have hBw := hid (below_st4 bw.out (g := rb) (hB.out.2.1) (.int .u8 1) (.string ⟨#[]⟩) (.slice none 0 0) (.slice none 0 0))
      have hkp := hid (fun b (hb : b ≠ rb) => heap_st4 X2 (rb) (.int .u8 1) (.string ⟨#[]⟩) (.slice none 0 0) (.slice none 0 0) hb)
      obtain ⟨d0, d1, d2, d3, df⟩ := four' R.out
      go_wp2_with fail
      obtain ⟨q0, q1, q2, q3, qf⟩ := four' hK.out
      exact bodyPost_ret (v := .tuple #[.agg #[.int .u8 1, .string ⟨#[]⟩, .slice none 0 0, .slice none 0 0], .int .i64 0]) (by unfold st4 at q0 q1 q2 q3; simp [results, Tryz.results7, go_sem, q0, q1, q2, q3]) rfl ⟨⟨leaf a.kind ⟨#[]⟩, 0, by show _ = Ending.returned (.tuple #[.agg #[.int .u8 ((a.kind : Nat) : Int), .string ⟨#[]⟩, .slice none 0 0, .slice none 0 0], .int .i64 0]); rw [hka.out], leaf_ok _ _ _ hk256.out (by decide), leaf_in _ _ _, .inl ⟨by rw [her.out, er_leaf]; rfl, rfl⟩⟩, hBw.out⟩
    · skip
      obtain ⟨c0, c1, c2, c3, cf⟩ := four' KA.out
      obtain ⟨u0, u1, u2, u3, uf⟩ := four' KB.out
      clear KA KB hki
      have hK := hid (blk_st4 R.out (.int .u8 2) (.string ⟨#[]⟩) (.slice none 0 0) (.slice none 0 0))
      have hBw := hid (below_st4 bw.out (g := rb) (hB.out.2.1) (.int .u8 2) (.string ⟨#[]⟩) (.slice none 0 0) (.slice none 0 0))
      have hkp := hid (fun b (hb : b ≠ rb) => heap_st4 X2 (rb) (.int .u8 2) (.string ⟨#[]⟩) (.slice none 0 0) (.slice none 0 0) hb)
      obtain ⟨d0, d1, d2, d3, df⟩ := four' R.out
      go_wp2_with fail
      obtain ⟨q0, q1, q2, q3, qf⟩ := four' hK.out
      exact bodyPost_ret (v := .tuple #[.agg #[.int .u8 2, .string ⟨#[]⟩, .slice none 0 0, .slice none 0 0], .int .i64 0]) (by unfold st4 at q0 q1 q2 q3; simp [results, Tryz.results7, go_sem, q0, q1, q2, q3]) rfl ⟨⟨leaf a.kind ⟨#[]⟩, 0, by show _ = Ending.returned (.tuple #[.agg #[.int .u8 ((a.kind : Nat) : Int), .string ⟨#[]⟩, .slice none 0 0, .slice none 0 0], .int .i64 0]); rw [hka.out], leaf_ok _ _ _ hk256.out (by decide), leaf_in _ _ _, .inl ⟨by rw [her.out, er_leaf]; rfl, rfl⟩⟩, hBw.out⟩
    · skip
      obtain ⟨c0, c1, c2, c3, cf⟩ := four' KA.out
      obtain ⟨u0, u1, u2, u3, uf⟩ := four' KB.out
      clear KA KB hki
      have hK := hid (blk_st4 R.out (.int .u8 3) (.string ⟨#[]⟩) (.slice none 0 0) (.slice none 0 0))
      have hBw := hid (below_st4 bw.out (g := rb) (hB.out.2.1) (.int .u8 3) (.string ⟨#[]⟩) (.slice none 0 0) (.slice none 0 0))
      have hkp := hid (fun b (hb : b ≠ rb) => heap_st4 X2 (rb) (.int .u8 3) (.string ⟨#[]⟩) (.slice none 0 0) (.slice none 0 0) hb)
      obtain ⟨d0, d1, d2, d3, df⟩ := four' R.out
      go_wp2_with fail
      obtain ⟨q0, q1, q2, q3, qf⟩ := four' hK.out
      exact bodyPost_ret (v := .tuple #[.agg #[.int .u8 3, .string ⟨#[]⟩, .slice none 0 0, .slice none 0 0], .int .i64 0]) (by unfold st4 at q0 q1 q2 q3; simp [results, Tryz.results7, go_sem, q0, q1, q2, q3]) rfl ⟨⟨leaf a.kind ⟨#[]⟩, 0, by show _ = Ending.returned (.tuple #[.agg #[.int .u8 ((a.kind : Nat) : Int), .string ⟨#[]⟩, .slice none 0 0, .slice none 0 0], .int .i64 0]); rw [hka.out], leaf_ok _ _ _ hk256.out (by decide), leaf_in _ _ _, .inl ⟨by rw [her.out, er_leaf]; rfl, rfl⟩⟩, hBw.out⟩
  · by_cases hnm : a.name = b.name
    · have her := hid (show JJ = some (PT.ent a.name) by rw [hres.out, if_neg (by have := hka.out; omega), if_pos (by have := hka.out; omega), if_pos hnm])
      have hnq : (a.name.toList == b.name.toList) = true := by rw [hnm]; simp
      clear hnm
      obtain ⟨c0, c1, c2, c3, cf⟩ := four' KA.out
      obtain ⟨u0, u1, u2, u3, uf⟩ := four' KB.out
      go_wp2_with fail
      refine (entityOf_any a.name _).mono ?_
      rintro e w3 ⟨rfl, q3⟩
      have R3 := hid (R.out.below q3 R.out.lt)
      have b3 := hid (bw.out.trans (q3.mono bw.out.size))
      rw [show (leaf 4 a.name).val = .agg #[.int .u8 4, .string a.name, .slice none 0 0, .slice none 0 0] from rfl]
      clear q3 R bw KA KB hnq
      clear c0 c1 c2 c3 cf u0 u1 u2 u3 uf
      have hK := hid (blk_st4 R3.out (.int .u8 4) (.string a.name) (.slice none 0 0) (.slice none 0 0))
      have hBw := hid (below_st4 b3.out (g := rb) (hB.out.2.1) (.int .u8 4) (.string a.name) (.slice none 0 0) (.slice none 0 0))
      have hkp := hid (fun b (hb : b ≠ rb) => heap_st4 w3 (rb) (.int .u8 4) (.string a.name) (.slice none 0 0) (.slice none 0 0) hb)
      obtain ⟨d0, d1, d2, d3, df⟩ := four' R3.out
      go_wp2_with fail
      obtain ⟨q0, q1, q2, q3, qf⟩ := four' hK.out
      exact bodyPost_ret (v := .tuple #[.agg #[.int .u8 4, .string a.name, .slice none 0 0, .slice none 0 0], .int .i64 0]) (by unfold st4 at q0 q1 q2 q3; simp [results, Tryz.results7, go_sem, q0, q1, q2, q3]) rfl ⟨⟨leaf 4 a.name, 0, rfl, leaf_ok _ _ _ (by decide) hna.out, leaf_in _ _ _, .inl ⟨by rw [her.out, er_leaf]; rfl, rfl⟩⟩, hBw.out⟩
    · have her := hid (show JJ = some (PT.ent ⟨#[]⟩) by rw [hres.out, if_neg (by have := hka.out; omega), if_pos (by have := hka.out; omega), if_neg hnm])
      have hnq : (a.name.toList == b.name.toList) = false := by
        rw [beq_eq_false_iff_ne, ne_eq, ByteArray.toList_eq, ByteArray.toList_eq]
        intro h3
        exact hnm (by
          have h4 := Array.toList_inj.1 h3
          cases hA : a.name; cases hB' : b.name
          rw [hA, hB'] at h4
          simp only at h4
          rw [h4])
      clear hnm
      obtain ⟨c0, c1, c2, c3, cf⟩ := four' KA.out
      obtain ⟨u0, u1, u2, u3, uf⟩ := four' KB.out
      go_wp2_with fail
      refine (entityOf_any ⟨#[]⟩ _).mono ?_
      rintro e w3 ⟨rfl, q3⟩
      have R3 := hid (R.out.below q3 R.out.lt)
      have b3 := hid (bw.out.trans (q3.mono bw.out.size))
      rw [show (leaf 4 ⟨#[]⟩).val = .agg #[.int .u8 4, .string ⟨#[]⟩, .slice none 0 0, .slice none 0 0] from rfl]
      clear q3 R bw KA KB hnq
      clear c0 c1 c2 c3 cf u0 u1 u2 u3 uf
      have hK := hid (blk_st4 R3.out (.int .u8 4) (.string ⟨#[]⟩) (.slice none 0 0) (.slice none 0 0))
      have hBw := hid (below_st4 b3.out (g := rb) (hB.out.2.1) (.int .u8 4) (.string ⟨#[]⟩) (.slice none 0 0) (.slice none 0 0))
      have hkp := hid (fun b (hb : b ≠ rb) => heap_st4 w3 (rb) (.int .u8 4) (.string ⟨#[]⟩) (.slice none 0 0) (.slice none 0 0) hb)
      obtain ⟨d0, d1, d2, d3, df⟩ := four' R3.out
      go_wp2_with fail
      obtain ⟨q0, q1, q2, q3, qf⟩ := four' hK.out
      exact bodyPost_ret (v := .tuple #[.agg #[.int .u8 4, .string ⟨#[]⟩, .slice none 0 0, .slice none 0 0], .int .i64 0]) (by unfold st4 at q0 q1 q2 q3; simp [results, Tryz.results7, go_sem, q0, q1, q2, q3]) rfl ⟨⟨leaf 4 ⟨#[]⟩, 0, rfl, leaf_ok _ _ _ (by decide) (by decide), leaf_in _ _ _, .inl ⟨by rw [her.out, er_leaf]; rfl, rfl⟩⟩, hBw.out⟩
  · skip
    obtain ⟨c0, c1, c2, c3, cf⟩ := four' KA.out
    obtain ⟨u0, u1, u2, u3, uf⟩ := four' KB.out
    go_wp2_with fail
    refine wp_region_held_drew (S := (fun Y => Y.cell? ⟨w.heap.size, 0, none⟩ = some (.int .u8 5) ∧ Y.cell? ⟨w.heap.size, 1, none⟩ = some (.string a.name) ∧ Y.cell? ⟨w.heap.size, 2, none⟩ = some (.slice ao1 a.of.length ac1) ∧ Y.cell? ⟨w.heap.size, 3, none⟩ = some (.slice ao2 a.att.length ac2) ∧ Y.cell? ⟨w.heap.size + 1, 0, none⟩ = some (.int .u8 5) ∧ Y.cell? ⟨w.heap.size + 1, 1, none⟩ = some (.string b.name) ∧ Y.cell? ⟨w.heap.size + 1, 2, none⟩ = some (.slice bo1 b.of.length bc1) ∧ Y.cell? ⟨w.heap.size + 1, 3, none⟩ = some (.slice bo2 b.att.length bc2))) (by kernel_rfl) (by obtain ⟨c0, c1, c2, c3, -⟩ := four' KA.out.drew; obtain ⟨u0, u1, u2, u3, -⟩ := four' KB.out.drew; exact ⟨c0, c1, c2, c3, u0, u1, u2, u3⟩) (fun hHeld => ?_)
    clear c0 c1 c2 c3 cf u0 u1 u2 u3 uf
    have q9 := (Below.refl X2.heap.size X2).drew
    replace KA := hid (KA.out.below q9 KA.out.lt)
    replace KB := hid (KB.out.below q9 KB.out.lt)
    replace R := hid (R.out.below q9 R.out.lt)
    replace hB := hid (show w.heap.size + 3 ≤ X2.drew.heap.size ∧ w.heap.size ≤ rb ∧ rb < w.heap.size + 3 from ⟨Nat.le_trans hB.out.1 q9.size, hB.out.2⟩)
    replace bw := hid (bt bw.out q9)
    clear q9
    generalize X2.drew = Wc at KA KB R hB bw hHeld ⊢
    refine wpAnyH_take (i := 0) (v := ?_) rfl (by kernel_rfl) (by kernel_rfl) (by kernel_rfl) (fun _ _ _ h => h) (Or.inl ⟨by rfl, ?_⟩) (by assumption) ?_; rotate_left 1; (intro w hSw; (try dsimp only at hSw); go_simp; try with_reducible rfl); (try simp only [Act.put, List.getElem_toArray, List.getElem_cons_zero, List.getElem_cons_succ, List.setIfInBounds_toArray, List.set_cons_zero, List.set_cons_succ])
    refine wpAnyH_take (i := 2) (v := ?_) rfl (by kernel_rfl) (by kernel_rfl) (by kernel_rfl) (fun _ _ _ h => h) (Or.inl ⟨by rfl, ?_⟩) (by assumption) ?_; rotate_left 1; (intro w hSw; (try dsimp only at hSw); go_simp; try with_reducible rfl); (try simp only [Act.put, List.getElem_toArray, List.getElem_cons_zero, List.getElem_cons_succ, List.setIfInBounds_toArray, List.set_cons_zero, List.set_cons_succ])
    refine wpAnyH_ready (rs := [1, 8]) (by kernel_rfl) (by simp) ?_
    refine AllReadyH.cons rfl (fun K hK => ?_) ?_
    · skip
      go_simp
      (with_reducible refine (cPa.out _ bw.out).mono ?_)
      rintro e Wc ⟨⟨y1, rfl, hy1⟩, q9⟩
      replace KA := hid (KA.out.below q9 KA.out.lt)
      replace KB := hid (KB.out.below q9 KB.out.lt)
      replace R := hid (R.out.below q9 R.out.lt)
      replace hB := hid (show w.heap.size + 3 ≤ Wc.heap.size ∧ w.heap.size ≤ rb ∧ rb < w.heap.size + 3 from ⟨Nat.le_trans hB.out.1 q9.size, hB.out.2⟩)
      replace bw := hid (bt bw.out q9)
      replace hy1 := hid hy1
      clear q9
      refine hK.out _ _ (by obtain ⟨c0, c1, c2, c3, -⟩ := four' KA.out; obtain ⟨u0, u1, u2, u3, -⟩ := four' KB.out; exact ⟨c0, c1, c2, c3, u0, u1, u2, u3⟩) (fun hHeldN => ?_)
      clear hK K hHeld
      have hHeld := hHeldN
      clear hHeldN
      (try simp only [Act.put, List.getElem_toArray, List.getElem_cons_zero, List.getElem_cons_succ, List.setIfInBounds_toArray, List.set_cons_zero, List.set_cons_succ])
      refine wpAnyH_ready (rs := [3, 8]) (by kernel_rfl) (by simp) ?_
      refine AllReadyH.cons rfl (fun K hK => ?_) ?_
      · skip
        go_simp
        (with_reducible refine (cPb.out _ bw.out).mono ?_)
        rintro e Wc ⟨⟨y2, rfl, hy2⟩, q9⟩
        replace KA := hid (KA.out.below q9 KA.out.lt)
        replace KB := hid (KB.out.below q9 KB.out.lt)
        replace R := hid (R.out.below q9 R.out.lt)
        replace hB := hid (show w.heap.size + 3 ≤ Wc.heap.size ∧ w.heap.size ≤ rb ∧ rb < w.heap.size + 3 from ⟨Nat.le_trans hB.out.1 q9.size, hB.out.2⟩)
        replace bw := hid (bt bw.out q9)
        replace hy2 := hid hy2
        clear q9
        refine hK.out _ _ (by obtain ⟨c0, c1, c2, c3, -⟩ := four' KA.out; obtain ⟨u0, u1, u2, u3, -⟩ := four' KB.out; exact ⟨c0, c1, c2, c3, u0, u1, u2, u3⟩) (fun hHeldN => ?_)
        clear hK K hHeld
        have hHeld := hHeldN
        clear hHeldN
        (try simp only [Act.put, List.getElem_toArray, List.getElem_cons_zero, List.getElem_cons_succ, List.setIfInBounds_toArray, List.set_cons_zero, List.set_cons_succ])
        refine wpAnyH_ready (rs := [4, 8]) (by kernel_rfl) (by simp) ?_
        refine AllReadyH.cons rfl (fun K hK => ?_) ?_
        · skip
          go_simp
          have hJ := hid (ih5'.out (by have := hka.out; omega) (by have := hkb.out; omega) y1 y2 hy1.out hy2.out)
          have hJc := hid (hJ.out Wc (fun b => S b ∧ b ≠ rb) (hy1.out.ok' (hao'.out.below bw.out)) (hy2.out.ok' (hbo'.out.below bw.out)) (fun b hb => ⟨hS'.out b (by have := hB.out; omega), by have := hB.out; omega⟩))
          (with_reducible refine hJc.out.mono ?_)
          rintro e Wc ⟨⟨y, zz, rfl, hyok, hyin, hyz⟩, q9⟩
          obtain ⟨yoo, yoc, yao, yac, ey1, ey2, yl1, yl2⟩ := hyok.forms
          have hyv := hid (Ty.val_eq ey1 ey2)
          rw [Ty.val_eq ey1 ey2]
          replace KA := hid (KA.out.below q9 KA.out.lt)
          replace KB := hid (KB.out.below q9 KB.out.lt)
          replace R := hid (R.out.below q9 R.out.lt)
          replace hB := hid (show w.heap.size + 3 ≤ Wc.heap.size ∧ w.heap.size ≤ rb ∧ rb < w.heap.size + 3 from ⟨Nat.le_trans hB.out.1 q9.size, hB.out.2⟩)
          replace bw := hid (bt bw.out q9)
          replace hyok := hid hyok
          replace hyin := hid (show y.inS (fun b => S b ∧ b ≠ rb) from hyin)
          replace hyz := hid hyz
          clear q9 ey1 ey2 hJ hJc
          refine hK.out _ _ (by obtain ⟨c0, c1, c2, c3, -⟩ := four' KA.out; obtain ⟨u0, u1, u2, u3, -⟩ := four' KB.out; exact ⟨c0, c1, c2, c3, u0, u1, u2, u3⟩) (fun hHeldN => ?_)
          clear hK K hHeld
          have hHeld := hHeldN
          clear hHeldN
          (try simp only [Act.put, List.getElem_toArray, List.getElem_cons_zero, List.getElem_cons_succ, List.setIfInBounds_toArray, List.set_cons_zero, List.set_cons_succ])
          refine wpAnyH_take (i := 5) (v := ?_) rfl (by kernel_rfl) (by kernel_rfl) (by kernel_rfl) (fun _ _ _ h => h) (Or.inl ⟨by rfl, ?_⟩) (by assumption) ?_; rotate_left 1; (intro w hSw; (try dsimp only at hSw); go_simp; try with_reducible rfl); (try simp only [Act.put, List.getElem_toArray, List.getElem_cons_zero, List.getElem_cons_succ, List.setIfInBounds_toArray, List.set_cons_zero, List.set_cons_succ])
          refine wpAnyH_take (i := 6) (v := ?_) rfl (by kernel_rfl) (by kernel_rfl) (by kernel_rfl) (fun _ _ _ h => h) (Or.inl ⟨by rfl, ?_⟩) (by assumption) ?_; rotate_left 1; (intro w hSw; (try dsimp only at hSw); go_simp; try with_reducible rfl); (try simp only [Act.put, List.getElem_toArray, List.getElem_cons_zero, List.getElem_cons_succ, List.setIfInBounds_toArray, List.set_cons_zero, List.set_cons_succ])
          refine wpAnyH_take (i := 7) (v := ?_) rfl (by kernel_rfl) (by kernel_rfl) (by kernel_rfl) (fun _ _ _ h => h) (Or.inl ⟨by rfl, ?_⟩) (by assumption) ?_; rotate_left 1; (intro w hSw; (try dsimp only at hSw); go_simp; try with_reducible rfl); (try simp only [Act.put, List.getElem_toArray, List.getElem_cons_zero, List.getElem_cons_succ, List.setIfInBounds_toArray, List.set_cons_zero, List.set_cons_succ])
          refine wpAnyH_ready (rs := [8]) (by kernel_rfl) (by simp) ?_
          refine AllReadyH.cons rfl (fun K hK => ?_) AllReadyH.nil
          go_simp
          have q9 := (Below.refl Wc.heap.size Wc).alloc (Nat.le_refl _) (.cells #[.int .u8 0, .string ⟨#[]⟩, .slice none 0 0, .slice none 0 0] 26)
          have P6 := hid (Blk.new Wc [.int .u8 0, .string ⟨#[]⟩, .slice none 0 0, .slice none 0 0] 26)
          change Hid (Blk (Wc.alloc (.cells #[.int .u8 0, .string ⟨#[]⟩, .slice none 0 0, .slice none 0 0] 26)) _ _ _) at P6
          have hp6 := hid (show rb < Wc.heap.size ∧ w.heap.size + 3 ≤ Wc.heap.size by have := hB.out; omega)
          have hyin2 := hid (Ty.inS_and hyin.out hyok.out.inS)
          replace hyok := hid (hyok.out.below q9)
          replace hyin := hid (show y.inS (fun b => S b ∧ b ≠ rb ∧ b ≠ Wc.heap.size) from hyin2.out.mono (fun b hb => ⟨hb.1.1, hb.1.2, by have := hb.2; omega⟩))
          clear hyin2
          replace KA := hid (KA.out.below q9 KA.out.lt)
          replace KB := hid (KB.out.below q9 KB.out.lt)
          replace R := hid (R.out.below q9 R.out.lt)
          replace hB := hid (show w.heap.size + 3 ≤ (Wc.alloc (.cells #[.int .u8 0, .string ⟨#[]⟩, .slice none 0 0, .slice none 0 0] 26)).heap.size ∧ w.heap.size ≤ rb ∧ rb < w.heap.size + 3 from ⟨Nat.le_trans hB.out.1 q9.size, hB.out.2⟩)
          replace bw := hid (bt bw.out q9)
          clear q9
          generalize Wc.heap.size = p6 at P6 hp6 hyin ⊢
          generalize Wc.alloc (.cells #[.int .u8 0, .string ⟨#[]⟩, .slice none 0 0, .slice none 0 0] 26) = Wc at KA KB R hB bw P6 hyok ⊢
          refine hK.out _ _ (by obtain ⟨c0, c1, c2, c3, -⟩ := four' KA.out; obtain ⟨u0, u1, u2, u3, -⟩ := four' KB.out; exact ⟨c0, c1, c2, c3, u0, u1, u2, u3⟩) (fun hHeldN => ?_)
          clear hK K hHeld
          have hHeld := hHeldN
          clear hHeldN
          (try simp only [Act.put, List.getElem_toArray, List.getElem_cons_zero, List.getElem_cons_succ, List.setIfInBounds_toArray, List.set_cons_zero, List.set_cons_succ])
          refine wpAnyH_ready (rs := [9]) (by kernel_rfl) (by simp) ?_
          refine AllReadyH.cons rfl (fun K hK => ?_) AllReadyH.nil
          obtain ⟨d0, d1, d2, d3, df⟩ := four' P6.out
          go_simp
          have hkp := hid (show ∀ b, b ≠ p6 → ((((Wc.setCell ⟨p6, 0, none⟩ (.int .u8 (y.kind : Nat))).setCell ⟨p6, 1, none⟩ (.string y.name)).setCell ⟨p6, 2, none⟩ (.slice yoo y.of.length yoc)).setCell ⟨p6, 3, none⟩ (.slice yao y.att.length yac)).heap[b]? = Wc.heap[b]? from fun b hb => heap_st4 Wc p6 (.int .u8 (y.kind : Nat)) (.string y.name) (.slice yoo y.of.length yoc) (.slice yao y.att.length yac) hb)
          have hsz := hid (show ((((Wc.setCell ⟨p6, 0, none⟩ (.int .u8 (y.kind : Nat))).setCell ⟨p6, 1, none⟩ (.string y.name)).setCell ⟨p6, 2, none⟩ (.slice yoo y.of.length yoc)).setCell ⟨p6, 3, none⟩ (.slice yao y.att.length yac)).heap.size = Wc.heap.size by simp)
          replace KA := hid (show Blk ((((Wc.setCell ⟨p6, 0, none⟩ (.int .u8 (y.kind : Nat))).setCell ⟨p6, 1, none⟩ (.string y.name)).setCell ⟨p6, 2, none⟩ (.slice yoo y.of.length yoc)).setCell ⟨p6, 3, none⟩ (.slice yao y.att.length yac)) w.heap.size _ _ from ⟨(hkp.out _ (by have := hp6.out; have := hB.out; omega)).trans KA.out.at'⟩)
          replace KB := hid (show Blk ((((Wc.setCell ⟨p6, 0, none⟩ (.int .u8 (y.kind : Nat))).setCell ⟨p6, 1, none⟩ (.string y.name)).setCell ⟨p6, 2, none⟩ (.slice yoo y.of.length yoc)).setCell ⟨p6, 3, none⟩ (.slice yao y.att.length yac)) (w.heap.size + 1) _ _ from ⟨(hkp.out _ (by have := hp6.out; have := hB.out; omega)).trans KB.out.at'⟩)
          replace R := hid (show Blk ((((Wc.setCell ⟨p6, 0, none⟩ (.int .u8 (y.kind : Nat))).setCell ⟨p6, 1, none⟩ (.string y.name)).setCell ⟨p6, 2, none⟩ (.slice yoo y.of.length yoc)).setCell ⟨p6, 3, none⟩ (.slice yao y.att.length yac)) rb _ _ from ⟨(hkp.out _ (by have := hp6.out; omega)).trans R.out.at'⟩)
          replace P6 := hid (show Blk ((((Wc.setCell ⟨p6, 0, none⟩ (.int .u8 (y.kind : Nat))).setCell ⟨p6, 1, none⟩ (.string y.name)).setCell ⟨p6, 2, none⟩ (.slice yoo y.of.length yoc)).setCell ⟨p6, 3, none⟩ (.slice yao y.att.length yac)) p6 [.int .u8 (y.kind : Nat), .string y.name, .slice yoo y.of.length yoc, .slice yao y.att.length yac] _ from blk_st4 P6.out (.int .u8 (y.kind : Nat)) (.string y.name) (.slice yoo y.of.length yoc) (.slice yao y.att.length yac))
          replace bw := hid (show Below w.heap.size w ((((Wc.setCell ⟨p6, 0, none⟩ (.int .u8 (y.kind : Nat))).setCell ⟨p6, 1, none⟩ (.string y.name)).setCell ⟨p6, 2, none⟩ (.slice yoo y.of.length yoc)).setCell ⟨p6, 3, none⟩ (.slice yao y.att.length yac)) from below_st4 bw.out (g := p6) (by have := hp6.out; omega) (.int .u8 (y.kind : Nat)) (.string y.name) (.slice yoo y.of.length yoc) (.slice yao y.att.length yac))
          replace hyok := hid (show y.ok ((((Wc.setCell ⟨p6, 0, none⟩ (.int .u8 (y.kind : Nat))).setCell ⟨p6, 1, none⟩ (.string y.name)).setCell ⟨p6, 2, none⟩ (.slice yoo y.of.length yoc)).setCell ⟨p6, 3, none⟩ (.slice yao y.att.length yac)) from hyok.out.keep (fun b hb => hkp.out b hb.2.2) hyin.out)
          replace hyin := hid (show y.inS (fun b => S b ∧ b ≠ rb) from hyin.out.mono (fun b hb => ⟨hb.1, hb.2.1⟩))
          replace hB := hid (show w.heap.size + 3 ≤ ((((Wc.setCell ⟨p6, 0, none⟩ (.int .u8 (y.kind : Nat))).setCell ⟨p6, 1, none⟩ (.string y.name)).setCell ⟨p6, 2, none⟩ (.slice yoo y.of.length yoc)).setCell ⟨p6, 3, none⟩ (.slice yao y.att.length yac)).heap.size ∧ w.heap.size ≤ rb ∧ rb < w.heap.size + 3 from by rw [hsz.out]; exact hB.out)
          clear hkp hsz df
          generalize ((((Wc.setCell ⟨p6, 0, none⟩ (.int .u8 (y.kind : Nat))).setCell ⟨p6, 1, none⟩ (.string y.name)).setCell ⟨p6, 2, none⟩ (.slice yoo y.of.length yoc)).setCell ⟨p6, 3, none⟩ (.slice yao y.att.length yac)) = Wc at KA KB R P6 bw hyok hB ⊢
          refine hK.out _ _ (by obtain ⟨c0, c1, c2, c3, -⟩ := four' KA.out; obtain ⟨u0, u1, u2, u3, -⟩ := four' KB.out; exact ⟨c0, c1, c2, c3, u0, u1, u2, u3⟩) (fun hHeldN => ?_)
          clear hK K hHeld
          have hHeld := hHeldN
          clear hHeldN
          (try simp only [Act.put, List.getElem_toArray, List.getElem_cons_zero, List.getElem_cons_succ, List.setIfInBounds_toArray, List.set_cons_zero, List.set_cons_succ])
          clear d0 d1 d2 d3
          refine wpAnyH_take (i := 10) (v := ?_) rfl (by kernel_rfl) (by kernel_rfl) (by kernel_rfl) (fun _ _ _ h => h) (Or.inl ⟨by rfl, ?_⟩) (by assumption) ?_; rotate_left 1; (intro w hSw; (try dsimp only at hSw); go_simp; try with_reducible rfl); (try simp only [Act.put, List.getElem_toArray, List.getElem_cons_zero, List.getElem_cons_succ, List.setIfInBounds_toArray, List.set_cons_zero, List.set_cons_succ])
          refine wpAnyH_done (by kernel_rfl) ?_ _
          clear hHeld
          have hpa := hid (hy1.out.er')
          have hpb := hid (hy2.out.er')
          have hJr := hid (show JJ = (PT.J (er y1) (er y2)).map PT.set by rw [hres.out, if_neg (by have := hka.out; omega), if_neg (by have := hka.out; omega), if_pos (by have := hka.out; omega), PT.JO_part, ← er_of, ← er_of, hpa.out, hpb.out])
          clear KA KB
          rcases hyz.out with ⟨hz, rfl⟩ | ⟨hz, rfl, _⟩
          · have hsc := hid (setOf_any y Wc hyok.out)
            rw [hyv.out] at hsc
            obtain ⟨d0, d1, d2, d3, df⟩ := four' P6.out
            go_wp2_with fail
            refine hsc.out.mono ?_
            rintro e w5 ⟨⟨g, hg, rfl, hok5⟩, q3⟩
            have R5 := hid (R.out.below q3 R.out.lt)
            have b5 := hid (bw.out.trans (q3.mono bw.out.size))
            have hok5' := hid hok5
            have hin5 := hid (show (setTy y g).inS (fun b => S b ∧ b ≠ rb) from setTy_in hyin.out ⟨hS'.out g (by have := hB.out; omega), by have := hB.out; omega⟩)
            rw [show (setTy y g).val = .agg #[.int .u8 5, .string ⟨#[]⟩, .slice (some ⟨g, 0, none⟩) 1 1, .slice none 0 0] from rfl]
            have her := hid (show JJ = some (er (setTy y g)) by rw [er_setTy, hJr.out, hz]; rfl)
            clear hok5 q3 hsc R bw hz hg P6 hyok hyin hyz d0 d1 d2 d3 df
            have hK := hid (blk_st4 R5.out (.int .u8 5) (.string ⟨#[]⟩) (.slice (some ⟨g, 0, none⟩) 1 1) (.slice none 0 0))
            have hBw := hid (below_st4 b5.out (g := rb) (hB.out.2.1) (.int .u8 5) (.string ⟨#[]⟩) (.slice (some ⟨g, 0, none⟩) 1 1) (.slice none 0 0))
            have hkp := hid (fun b (hb : b ≠ rb) => heap_st4 w5 (rb) (.int .u8 5) (.string ⟨#[]⟩) (.slice (some ⟨g, 0, none⟩) 1 1) (.slice none 0 0) hb)
            obtain ⟨d0, d1, d2, d3, df⟩ := four' R5.out
            go_wp2_with fail
            obtain ⟨q0, q1, q2, q3, qf⟩ := four' hK.out
            exact bodyPost_ret (v := .tuple #[.agg #[.int .u8 5, .string ⟨#[]⟩, .slice (some ⟨g, 0, none⟩) 1 1, .slice none 0 0], .int .i64 0]) (by unfold st4 at q0 q1 q2 q3; simp [results, Tryz.results7, go_sem, q0, q1, q2, q3]) rfl ⟨⟨setTy y g, 0, rfl, hok5'.out.keep (fun b hb => hkp.out b hb.2) hin5.out, hin5.out.mono (fun b hb => hb.1), .inl ⟨her.out, rfl⟩⟩, hBw.out⟩
          · have hJn := hid (show JJ = none by rw [hJr.out, hz]; rfl)
            clear hz hyok hyin hyz P6
            have hK := hid (blk_st4 R.out (.int .u8 0) (.string ⟨#[]⟩) (.slice none 0 0) (.slice none 0 0))
            have hBw := hid (below_st4 bw.out (g := rb) (hB.out.2.1) (.int .u8 0) (.string ⟨#[]⟩) (.slice none 0 0) (.slice none 0 0))
            have hkp := hid (fun b (hb : b ≠ rb) => heap_st4 Wc (rb) (.int .u8 0) (.string ⟨#[]⟩) (.slice none 0 0) (.slice none 0 0) hb)
            obtain ⟨d0, d1, d2, d3, df⟩ := four' R.out
            go_wp2_with fail
            obtain ⟨q0, q1, q2, q3, qf⟩ := four' hK.out
            exact bodyPost_ret (v := .tuple #[.agg #[.int .u8 0, .string ⟨#[]⟩, .slice none 0 0, .slice none 0 0], .int .i64 7]) (by unfold st4 at q0 q1 q2 q3; simp [results, Tryz.results7, go_sem, q0, q1, q2, q3]) rfl ⟨⟨leaf 0 ⟨#[]⟩, 7, rfl, leaf_ok _ _ _ (by decide) (by decide), leaf_in _ _ _, .inr ⟨hJn.out, rfl, rfl⟩⟩, hBw.out⟩
        refine AllReadyH.cons rfl (fun K hK => ?_) AllReadyH.nil
        go_simp
        have q9 := (Below.refl Wc.heap.size Wc).alloc (Nat.le_refl _) (.cells #[.int .u8 0, .string ⟨#[]⟩, .slice none 0 0, .slice none 0 0] 26)
        have P6 := hid (Blk.new Wc [.int .u8 0, .string ⟨#[]⟩, .slice none 0 0, .slice none 0 0] 26)
        change Hid (Blk (Wc.alloc (.cells #[.int .u8 0, .string ⟨#[]⟩, .slice none 0 0, .slice none 0 0] 26)) _ _ _) at P6
        have hp6 := hid (show rb < Wc.heap.size ∧ w.heap.size + 3 ≤ Wc.heap.size by have := hB.out; omega)
        replace KA := hid (KA.out.below q9 KA.out.lt)
        replace KB := hid (KB.out.below q9 KB.out.lt)
        replace R := hid (R.out.below q9 R.out.lt)
        replace hB := hid (show w.heap.size + 3 ≤ (Wc.alloc (.cells #[.int .u8 0, .string ⟨#[]⟩, .slice none 0 0, .slice none 0 0] 26)).heap.size ∧ w.heap.size ≤ rb ∧ rb < w.heap.size + 3 from ⟨Nat.le_trans hB.out.1 q9.size, hB.out.2⟩)
        replace bw := hid (bt bw.out q9)
        clear q9
        generalize Wc.heap.size = p6 at P6 hp6 ⊢
        generalize Wc.alloc (.cells #[.int .u8 0, .string ⟨#[]⟩, .slice none 0 0, .slice none 0 0] 26) = Wc at KA KB R hB bw P6 ⊢
        refine hK.out _ _ (by obtain ⟨c0, c1, c2, c3, -⟩ := four' KA.out; obtain ⟨u0, u1, u2, u3, -⟩ := four' KB.out; exact ⟨c0, c1, c2, c3, u0, u1, u2, u3⟩) (fun hHeldN => ?_)
        clear hK K hHeld
        have hHeld := hHeldN
        clear hHeldN
        (try simp only [Act.put, List.getElem_toArray, List.getElem_cons_zero, List.getElem_cons_succ, List.setIfInBounds_toArray, List.set_cons_zero, List.set_cons_succ])
        refine wpAnyH_ready (rs := [4]) (by kernel_rfl) (by simp) ?_
        refine AllReadyH.cons rfl (fun K hK => ?_) AllReadyH.nil
        go_simp
        have hJ := hid (ih5'.out (by have := hka.out; omega) (by have := hkb.out; omega) y1 y2 hy1.out hy2.out)
        have hJc := hid (hJ.out Wc (fun b => S b ∧ b ≠ rb ∧ b ≠ p6) (hy1.out.ok' (hao'.out.below bw.out)) (hy2.out.ok' (hbo'.out.below bw.out)) (fun b hb => ⟨hS'.out b (by have := hB.out; omega), by have := hB.out; omega, by have := P6.out.lt; omega⟩))
        (with_reducible refine hJc.out.mono ?_)
        rintro e Wc ⟨⟨y, zz, rfl, hyok, hyin, hyz⟩, q9⟩
        obtain ⟨yoo, yoc, yao, yac, ey1, ey2, yl1, yl2⟩ := hyok.forms
        have hyv := hid (Ty.val_eq ey1 ey2)
        rw [Ty.val_eq ey1 ey2]
        replace KA := hid (KA.out.below q9 KA.out.lt)
        replace KB := hid (KB.out.below q9 KB.out.lt)
        replace R := hid (R.out.below q9 R.out.lt)
        replace hB := hid (show w.heap.size + 3 ≤ Wc.heap.size ∧ w.heap.size ≤ rb ∧ rb < w.heap.size + 3 from ⟨Nat.le_trans hB.out.1 q9.size, hB.out.2⟩)
        replace bw := hid (bt bw.out q9)
        replace P6 := hid (P6.out.below q9 P6.out.lt)
        replace hyok := hid hyok
        replace hyin := hid (show y.inS (fun b => S b ∧ b ≠ rb ∧ b ≠ p6) from hyin)
        replace hyz := hid hyz
        clear q9 ey1 ey2 hJ hJc
        refine hK.out _ _ (by obtain ⟨c0, c1, c2, c3, -⟩ := four' KA.out; obtain ⟨u0, u1, u2, u3, -⟩ := four' KB.out; exact ⟨c0, c1, c2, c3, u0, u1, u2, u3⟩) (fun hHeldN => ?_)
        clear hK K hHeld
        have hHeld := hHeldN
        clear hHeldN
        (try simp only [Act.put, List.getElem_toArray, List.getElem_cons_zero, List.getElem_cons_succ, List.setIfInBounds_toArray, List.set_cons_zero, List.set_cons_succ])
        refine wpAnyH_take (i := 5) (v := ?_) rfl (by kernel_rfl) (by kernel_rfl) (by kernel_rfl) (fun _ _ _ h => h) (Or.inl ⟨by rfl, ?_⟩) (by assumption) ?_; rotate_left 1; (intro w hSw; (try dsimp only at hSw); go_simp; try with_reducible rfl); (try simp only [Act.put, List.getElem_toArray, List.getElem_cons_zero, List.getElem_cons_succ, List.setIfInBounds_toArray, List.set_cons_zero, List.set_cons_succ])
        refine wpAnyH_take (i := 6) (v := ?_) rfl (by kernel_rfl) (by kernel_rfl) (by kernel_rfl) (fun _ _ _ h => h) (Or.inl ⟨by rfl, ?_⟩) (by assumption) ?_; rotate_left 1; (intro w hSw; (try dsimp only at hSw); go_simp; try with_reducible rfl); (try simp only [Act.put, List.getElem_toArray, List.getElem_cons_zero, List.getElem_cons_succ, List.setIfInBounds_toArray, List.set_cons_zero, List.set_cons_succ])
        refine wpAnyH_take (i := 7) (v := ?_) rfl (by kernel_rfl) (by kernel_rfl) (by kernel_rfl) (fun _ _ _ h => h) (Or.inl ⟨by rfl, ?_⟩) (by assumption) ?_; rotate_left 1; (intro w hSw; (try dsimp only at hSw); go_simp; try with_reducible rfl); (try simp only [Act.put, List.getElem_toArray, List.getElem_cons_zero, List.getElem_cons_succ, List.setIfInBounds_toArray, List.set_cons_zero, List.set_cons_succ])
        refine wpAnyH_ready (rs := [9]) (by kernel_rfl) (by simp) ?_
        refine AllReadyH.cons rfl (fun K hK => ?_) AllReadyH.nil
        obtain ⟨d0, d1, d2, d3, df⟩ := four' P6.out
        go_simp
        have hkp := hid (show ∀ b, b ≠ p6 → ((((Wc.setCell ⟨p6, 0, none⟩ (.int .u8 (y.kind : Nat))).setCell ⟨p6, 1, none⟩ (.string y.name)).setCell ⟨p6, 2, none⟩ (.slice yoo y.of.length yoc)).setCell ⟨p6, 3, none⟩ (.slice yao y.att.length yac)).heap[b]? = Wc.heap[b]? from fun b hb => heap_st4 Wc p6 (.int .u8 (y.kind : Nat)) (.string y.name) (.slice yoo y.of.length yoc) (.slice yao y.att.length yac) hb)
        have hsz := hid (show ((((Wc.setCell ⟨p6, 0, none⟩ (.int .u8 (y.kind : Nat))).setCell ⟨p6, 1, none⟩ (.string y.name)).setCell ⟨p6, 2, none⟩ (.slice yoo y.of.length yoc)).setCell ⟨p6, 3, none⟩ (.slice yao y.att.length yac)).heap.size = Wc.heap.size by simp)
        replace KA := hid (show Blk ((((Wc.setCell ⟨p6, 0, none⟩ (.int .u8 (y.kind : Nat))).setCell ⟨p6, 1, none⟩ (.string y.name)).setCell ⟨p6, 2, none⟩ (.slice yoo y.of.length yoc)).setCell ⟨p6, 3, none⟩ (.slice yao y.att.length yac)) w.heap.size _ _ from ⟨(hkp.out _ (by have := hp6.out; have := hB.out; omega)).trans KA.out.at'⟩)
        replace KB := hid (show Blk ((((Wc.setCell ⟨p6, 0, none⟩ (.int .u8 (y.kind : Nat))).setCell ⟨p6, 1, none⟩ (.string y.name)).setCell ⟨p6, 2, none⟩ (.slice yoo y.of.length yoc)).setCell ⟨p6, 3, none⟩ (.slice yao y.att.length yac)) (w.heap.size + 1) _ _ from ⟨(hkp.out _ (by have := hp6.out; have := hB.out; omega)).trans KB.out.at'⟩)
        replace R := hid (show Blk ((((Wc.setCell ⟨p6, 0, none⟩ (.int .u8 (y.kind : Nat))).setCell ⟨p6, 1, none⟩ (.string y.name)).setCell ⟨p6, 2, none⟩ (.slice yoo y.of.length yoc)).setCell ⟨p6, 3, none⟩ (.slice yao y.att.length yac)) rb _ _ from ⟨(hkp.out _ (by have := hp6.out; omega)).trans R.out.at'⟩)
        replace P6 := hid (show Blk ((((Wc.setCell ⟨p6, 0, none⟩ (.int .u8 (y.kind : Nat))).setCell ⟨p6, 1, none⟩ (.string y.name)).setCell ⟨p6, 2, none⟩ (.slice yoo y.of.length yoc)).setCell ⟨p6, 3, none⟩ (.slice yao y.att.length yac)) p6 [.int .u8 (y.kind : Nat), .string y.name, .slice yoo y.of.length yoc, .slice yao y.att.length yac] _ from blk_st4 P6.out (.int .u8 (y.kind : Nat)) (.string y.name) (.slice yoo y.of.length yoc) (.slice yao y.att.length yac))
        replace bw := hid (show Below w.heap.size w ((((Wc.setCell ⟨p6, 0, none⟩ (.int .u8 (y.kind : Nat))).setCell ⟨p6, 1, none⟩ (.string y.name)).setCell ⟨p6, 2, none⟩ (.slice yoo y.of.length yoc)).setCell ⟨p6, 3, none⟩ (.slice yao y.att.length yac)) from below_st4 bw.out (g := p6) (by have := hp6.out; omega) (.int .u8 (y.kind : Nat)) (.string y.name) (.slice yoo y.of.length yoc) (.slice yao y.att.length yac))
        replace hyok := hid (show y.ok ((((Wc.setCell ⟨p6, 0, none⟩ (.int .u8 (y.kind : Nat))).setCell ⟨p6, 1, none⟩ (.string y.name)).setCell ⟨p6, 2, none⟩ (.slice yoo y.of.length yoc)).setCell ⟨p6, 3, none⟩ (.slice yao y.att.length yac)) from hyok.out.keep (fun b hb => hkp.out b hb.2.2) hyin.out)
        replace hyin := hid (show y.inS (fun b => S b ∧ b ≠ rb) from hyin.out.mono (fun b hb => ⟨hb.1, hb.2.1⟩))
        replace hB := hid (show w.heap.size + 3 ≤ ((((Wc.setCell ⟨p6, 0, none⟩ (.int .u8 (y.kind : Nat))).setCell ⟨p6, 1, none⟩ (.string y.name)).setCell ⟨p6, 2, none⟩ (.slice yoo y.of.length yoc)).setCell ⟨p6, 3, none⟩ (.slice yao y.att.length yac)).heap.size ∧ w.heap.size ≤ rb ∧ rb < w.heap.size + 3 from by rw [hsz.out]; exact hB.out)
        clear hkp hsz df
        generalize ((((Wc.setCell ⟨p6, 0, none⟩ (.int .u8 (y.kind : Nat))).setCell ⟨p6, 1, none⟩ (.string y.name)).setCell ⟨p6, 2, none⟩ (.slice yoo y.of.length yoc)).setCell ⟨p6, 3, none⟩ (.slice yao y.att.length yac)) = Wc at KA KB R P6 bw hyok hB ⊢
        refine hK.out _ _ (by obtain ⟨c0, c1, c2, c3, -⟩ := four' KA.out; obtain ⟨u0, u1, u2, u3, -⟩ := four' KB.out; exact ⟨c0, c1, c2, c3, u0, u1, u2, u3⟩) (fun hHeldN => ?_)
        clear hK K hHeld
        have hHeld := hHeldN
        clear hHeldN
        (try simp only [Act.put, List.getElem_toArray, List.getElem_cons_zero, List.getElem_cons_succ, List.setIfInBounds_toArray, List.set_cons_zero, List.set_cons_succ])
        clear d0 d1 d2 d3
        refine wpAnyH_take (i := 10) (v := ?_) rfl (by kernel_rfl) (by kernel_rfl) (by kernel_rfl) (fun _ _ _ h => h) (Or.inl ⟨by rfl, ?_⟩) (by assumption) ?_; rotate_left 1; (intro w hSw; (try dsimp only at hSw); go_simp; try with_reducible rfl); (try simp only [Act.put, List.getElem_toArray, List.getElem_cons_zero, List.getElem_cons_succ, List.setIfInBounds_toArray, List.set_cons_zero, List.set_cons_succ])
        refine wpAnyH_done (by kernel_rfl) ?_ _
        clear hHeld
        have hpa := hid (hy1.out.er')
        have hpb := hid (hy2.out.er')
        have hJr := hid (show JJ = (PT.J (er y1) (er y2)).map PT.set by rw [hres.out, if_neg (by have := hka.out; omega), if_neg (by have := hka.out; omega), if_pos (by have := hka.out; omega), PT.JO_part, ← er_of, ← er_of, hpa.out, hpb.out])
        clear KA KB
        rcases hyz.out with ⟨hz, rfl⟩ | ⟨hz, rfl, _⟩
        · have hsc := hid (setOf_any y Wc hyok.out)
          rw [hyv.out] at hsc
          obtain ⟨d0, d1, d2, d3, df⟩ := four' P6.out
          go_wp2_with fail
          refine hsc.out.mono ?_
          rintro e w5 ⟨⟨g, hg, rfl, hok5⟩, q3⟩
          have R5 := hid (R.out.below q3 R.out.lt)
          have b5 := hid (bw.out.trans (q3.mono bw.out.size))
          have hok5' := hid hok5
          have hin5 := hid (show (setTy y g).inS (fun b => S b ∧ b ≠ rb) from setTy_in hyin.out ⟨hS'.out g (by have := hB.out; omega), by have := hB.out; omega⟩)
          rw [show (setTy y g).val = .agg #[.int .u8 5, .string ⟨#[]⟩, .slice (some ⟨g, 0, none⟩) 1 1, .slice none 0 0] from rfl]
          have her := hid (show JJ = some (er (setTy y g)) by rw [er_setTy, hJr.out, hz]; rfl)
          clear hok5 q3 hsc R bw hz hg P6 hyok hyin hyz d0 d1 d2 d3 df
          have hK := hid (blk_st4 R5.out (.int .u8 5) (.string ⟨#[]⟩) (.slice (some ⟨g, 0, none⟩) 1 1) (.slice none 0 0))
          have hBw := hid (below_st4 b5.out (g := rb) (hB.out.2.1) (.int .u8 5) (.string ⟨#[]⟩) (.slice (some ⟨g, 0, none⟩) 1 1) (.slice none 0 0))
          have hkp := hid (fun b (hb : b ≠ rb) => heap_st4 w5 (rb) (.int .u8 5) (.string ⟨#[]⟩) (.slice (some ⟨g, 0, none⟩) 1 1) (.slice none 0 0) hb)
          obtain ⟨d0, d1, d2, d3, df⟩ := four' R5.out
          go_wp2_with fail
          obtain ⟨q0, q1, q2, q3, qf⟩ := four' hK.out
          exact bodyPost_ret (v := .tuple #[.agg #[.int .u8 5, .string ⟨#[]⟩, .slice (some ⟨g, 0, none⟩) 1 1, .slice none 0 0], .int .i64 0]) (by unfold st4 at q0 q1 q2 q3; simp [results, Tryz.results7, go_sem, q0, q1, q2, q3]) rfl ⟨⟨setTy y g, 0, rfl, hok5'.out.keep (fun b hb => hkp.out b hb.2) hin5.out, hin5.out.mono (fun b hb => hb.1), .inl ⟨her.out, rfl⟩⟩, hBw.out⟩
        · have hJn := hid (show JJ = none by rw [hJr.out, hz]; rfl)
          clear hz hyok hyin hyz P6
          have hK := hid (blk_st4 R.out (.int .u8 0) (.string ⟨#[]⟩) (.slice none 0 0) (.slice none 0 0))
          have hBw := hid (below_st4 bw.out (g := rb) (hB.out.2.1) (.int .u8 0) (.string ⟨#[]⟩) (.slice none 0 0) (.slice none 0 0))
          have hkp := hid (fun b (hb : b ≠ rb) => heap_st4 Wc (rb) (.int .u8 0) (.string ⟨#[]⟩) (.slice none 0 0) (.slice none 0 0) hb)
          obtain ⟨d0, d1, d2, d3, df⟩ := four' R.out
          go_wp2_with fail
          obtain ⟨q0, q1, q2, q3, qf⟩ := four' hK.out
          exact bodyPost_ret (v := .tuple #[.agg #[.int .u8 0, .string ⟨#[]⟩, .slice none 0 0, .slice none 0 0], .int .i64 7]) (by unfold st4 at q0 q1 q2 q3; simp [results, Tryz.results7, go_sem, q0, q1, q2, q3]) rfl ⟨⟨leaf 0 ⟨#[]⟩, 7, rfl, leaf_ok _ _ _ (by decide) (by decide), leaf_in _ _ _, .inr ⟨hJn.out, rfl, rfl⟩⟩, hBw.out⟩
      refine AllReadyH.cons rfl (fun K hK => ?_) AllReadyH.nil
      go_simp
      have q9 := (Below.refl Wc.heap.size Wc).alloc (Nat.le_refl _) (.cells #[.int .u8 0, .string ⟨#[]⟩, .slice none 0 0, .slice none 0 0] 26)
      have P6 := hid (Blk.new Wc [.int .u8 0, .string ⟨#[]⟩, .slice none 0 0, .slice none 0 0] 26)
      change Hid (Blk (Wc.alloc (.cells #[.int .u8 0, .string ⟨#[]⟩, .slice none 0 0, .slice none 0 0] 26)) _ _ _) at P6
      have hp6 := hid (show rb < Wc.heap.size ∧ w.heap.size + 3 ≤ Wc.heap.size by have := hB.out; omega)
      replace KA := hid (KA.out.below q9 KA.out.lt)
      replace KB := hid (KB.out.below q9 KB.out.lt)
      replace R := hid (R.out.below q9 R.out.lt)
      replace hB := hid (show w.heap.size + 3 ≤ (Wc.alloc (.cells #[.int .u8 0, .string ⟨#[]⟩, .slice none 0 0, .slice none 0 0] 26)).heap.size ∧ w.heap.size ≤ rb ∧ rb < w.heap.size + 3 from ⟨Nat.le_trans hB.out.1 q9.size, hB.out.2⟩)
      replace bw := hid (bt bw.out q9)
      clear q9
      generalize Wc.heap.size = p6 at P6 hp6 ⊢
      generalize Wc.alloc (.cells #[.int .u8 0, .string ⟨#[]⟩, .slice none 0 0, .slice none 0 0] 26) = Wc at KA KB R hB bw P6 ⊢
      refine hK.out _ _ (by obtain ⟨c0, c1, c2, c3, -⟩ := four' KA.out; obtain ⟨u0, u1, u2, u3, -⟩ := four' KB.out; exact ⟨c0, c1, c2, c3, u0, u1, u2, u3⟩) (fun hHeldN => ?_)
      clear hK K hHeld
      have hHeld := hHeldN
      clear hHeldN
      (try simp only [Act.put, List.getElem_toArray, List.getElem_cons_zero, List.getElem_cons_succ, List.setIfInBounds_toArray, List.set_cons_zero, List.set_cons_succ])
      refine wpAnyH_ready (rs := [3]) (by kernel_rfl) (by simp) ?_
      refine AllReadyH.cons rfl (fun K hK => ?_) AllReadyH.nil
      go_simp
      (with_reducible refine (cPb.out _ bw.out).mono ?_)
      rintro e Wc ⟨⟨y2, rfl, hy2⟩, q9⟩
      replace KA := hid (KA.out.below q9 KA.out.lt)
      replace KB := hid (KB.out.below q9 KB.out.lt)
      replace R := hid (R.out.below q9 R.out.lt)
      replace hB := hid (show w.heap.size + 3 ≤ Wc.heap.size ∧ w.heap.size ≤ rb ∧ rb < w.heap.size + 3 from ⟨Nat.le_trans hB.out.1 q9.size, hB.out.2⟩)
      replace bw := hid (bt bw.out q9)
      replace P6 := hid (P6.out.below q9 P6.out.lt)
      replace hy2 := hid hy2
      clear q9
      refine hK.out _ _ (by obtain ⟨c0, c1, c2, c3, -⟩ := four' KA.out; obtain ⟨u0, u1, u2, u3, -⟩ := four' KB.out; exact ⟨c0, c1, c2, c3, u0, u1, u2, u3⟩) (fun hHeldN => ?_)
      clear hK K hHeld
      have hHeld := hHeldN
      clear hHeldN
      (try simp only [Act.put, List.getElem_toArray, List.getElem_cons_zero, List.getElem_cons_succ, List.setIfInBounds_toArray, List.set_cons_zero, List.set_cons_succ])
      refine wpAnyH_ready (rs := [4]) (by kernel_rfl) (by simp) ?_
      refine AllReadyH.cons rfl (fun K hK => ?_) AllReadyH.nil
      go_simp
      have hJ := hid (ih5'.out (by have := hka.out; omega) (by have := hkb.out; omega) y1 y2 hy1.out hy2.out)
      have hJc := hid (hJ.out Wc (fun b => S b ∧ b ≠ rb ∧ b ≠ p6) (hy1.out.ok' (hao'.out.below bw.out)) (hy2.out.ok' (hbo'.out.below bw.out)) (fun b hb => ⟨hS'.out b (by have := hB.out; omega), by have := hB.out; omega, by have := P6.out.lt; omega⟩))
      (with_reducible refine hJc.out.mono ?_)
      rintro e Wc ⟨⟨y, zz, rfl, hyok, hyin, hyz⟩, q9⟩
      obtain ⟨yoo, yoc, yao, yac, ey1, ey2, yl1, yl2⟩ := hyok.forms
      have hyv := hid (Ty.val_eq ey1 ey2)
      rw [Ty.val_eq ey1 ey2]
      replace KA := hid (KA.out.below q9 KA.out.lt)
      replace KB := hid (KB.out.below q9 KB.out.lt)
      replace R := hid (R.out.below q9 R.out.lt)
      replace hB := hid (show w.heap.size + 3 ≤ Wc.heap.size ∧ w.heap.size ≤ rb ∧ rb < w.heap.size + 3 from ⟨Nat.le_trans hB.out.1 q9.size, hB.out.2⟩)
      replace bw := hid (bt bw.out q9)
      replace P6 := hid (P6.out.below q9 P6.out.lt)
      replace hyok := hid hyok
      replace hyin := hid (show y.inS (fun b => S b ∧ b ≠ rb ∧ b ≠ p6) from hyin)
      replace hyz := hid hyz
      clear q9 ey1 ey2 hJ hJc
      refine hK.out _ _ (by obtain ⟨c0, c1, c2, c3, -⟩ := four' KA.out; obtain ⟨u0, u1, u2, u3, -⟩ := four' KB.out; exact ⟨c0, c1, c2, c3, u0, u1, u2, u3⟩) (fun hHeldN => ?_)
      clear hK K hHeld
      have hHeld := hHeldN
      clear hHeldN
      (try simp only [Act.put, List.getElem_toArray, List.getElem_cons_zero, List.getElem_cons_succ, List.setIfInBounds_toArray, List.set_cons_zero, List.set_cons_succ])
      refine wpAnyH_take (i := 5) (v := ?_) rfl (by kernel_rfl) (by kernel_rfl) (by kernel_rfl) (fun _ _ _ h => h) (Or.inl ⟨by rfl, ?_⟩) (by assumption) ?_; rotate_left 1; (intro w hSw; (try dsimp only at hSw); go_simp; try with_reducible rfl); (try simp only [Act.put, List.getElem_toArray, List.getElem_cons_zero, List.getElem_cons_succ, List.setIfInBounds_toArray, List.set_cons_zero, List.set_cons_succ])
      refine wpAnyH_take (i := 6) (v := ?_) rfl (by kernel_rfl) (by kernel_rfl) (by kernel_rfl) (fun _ _ _ h => h) (Or.inl ⟨by rfl, ?_⟩) (by assumption) ?_; rotate_left 1; (intro w hSw; (try dsimp only at hSw); go_simp; try with_reducible rfl); (try simp only [Act.put, List.getElem_toArray, List.getElem_cons_zero, List.getElem_cons_succ, List.setIfInBounds_toArray, List.set_cons_zero, List.set_cons_succ])
      refine wpAnyH_take (i := 7) (v := ?_) rfl (by kernel_rfl) (by kernel_rfl) (by kernel_rfl) (fun _ _ _ h => h) (Or.inl ⟨by rfl, ?_⟩) (by assumption) ?_; rotate_left 1; (intro w hSw; (try dsimp only at hSw); go_simp; try with_reducible rfl); (try simp only [Act.put, List.getElem_toArray, List.getElem_cons_zero, List.getElem_cons_succ, List.setIfInBounds_toArray, List.set_cons_zero, List.set_cons_succ])
      refine wpAnyH_ready (rs := [9]) (by kernel_rfl) (by simp) ?_
      refine AllReadyH.cons rfl (fun K hK => ?_) AllReadyH.nil
      obtain ⟨d0, d1, d2, d3, df⟩ := four' P6.out
      go_simp
      have hkp := hid (show ∀ b, b ≠ p6 → ((((Wc.setCell ⟨p6, 0, none⟩ (.int .u8 (y.kind : Nat))).setCell ⟨p6, 1, none⟩ (.string y.name)).setCell ⟨p6, 2, none⟩ (.slice yoo y.of.length yoc)).setCell ⟨p6, 3, none⟩ (.slice yao y.att.length yac)).heap[b]? = Wc.heap[b]? from fun b hb => heap_st4 Wc p6 (.int .u8 (y.kind : Nat)) (.string y.name) (.slice yoo y.of.length yoc) (.slice yao y.att.length yac) hb)
      have hsz := hid (show ((((Wc.setCell ⟨p6, 0, none⟩ (.int .u8 (y.kind : Nat))).setCell ⟨p6, 1, none⟩ (.string y.name)).setCell ⟨p6, 2, none⟩ (.slice yoo y.of.length yoc)).setCell ⟨p6, 3, none⟩ (.slice yao y.att.length yac)).heap.size = Wc.heap.size by simp)
      replace KA := hid (show Blk ((((Wc.setCell ⟨p6, 0, none⟩ (.int .u8 (y.kind : Nat))).setCell ⟨p6, 1, none⟩ (.string y.name)).setCell ⟨p6, 2, none⟩ (.slice yoo y.of.length yoc)).setCell ⟨p6, 3, none⟩ (.slice yao y.att.length yac)) w.heap.size _ _ from ⟨(hkp.out _ (by have := hp6.out; have := hB.out; omega)).trans KA.out.at'⟩)
      replace KB := hid (show Blk ((((Wc.setCell ⟨p6, 0, none⟩ (.int .u8 (y.kind : Nat))).setCell ⟨p6, 1, none⟩ (.string y.name)).setCell ⟨p6, 2, none⟩ (.slice yoo y.of.length yoc)).setCell ⟨p6, 3, none⟩ (.slice yao y.att.length yac)) (w.heap.size + 1) _ _ from ⟨(hkp.out _ (by have := hp6.out; have := hB.out; omega)).trans KB.out.at'⟩)
      replace R := hid (show Blk ((((Wc.setCell ⟨p6, 0, none⟩ (.int .u8 (y.kind : Nat))).setCell ⟨p6, 1, none⟩ (.string y.name)).setCell ⟨p6, 2, none⟩ (.slice yoo y.of.length yoc)).setCell ⟨p6, 3, none⟩ (.slice yao y.att.length yac)) rb _ _ from ⟨(hkp.out _ (by have := hp6.out; omega)).trans R.out.at'⟩)
      replace P6 := hid (show Blk ((((Wc.setCell ⟨p6, 0, none⟩ (.int .u8 (y.kind : Nat))).setCell ⟨p6, 1, none⟩ (.string y.name)).setCell ⟨p6, 2, none⟩ (.slice yoo y.of.length yoc)).setCell ⟨p6, 3, none⟩ (.slice yao y.att.length yac)) p6 [.int .u8 (y.kind : Nat), .string y.name, .slice yoo y.of.length yoc, .slice yao y.att.length yac] _ from blk_st4 P6.out (.int .u8 (y.kind : Nat)) (.string y.name) (.slice yoo y.of.length yoc) (.slice yao y.att.length yac))
      replace bw := hid (show Below w.heap.size w ((((Wc.setCell ⟨p6, 0, none⟩ (.int .u8 (y.kind : Nat))).setCell ⟨p6, 1, none⟩ (.string y.name)).setCell ⟨p6, 2, none⟩ (.slice yoo y.of.length yoc)).setCell ⟨p6, 3, none⟩ (.slice yao y.att.length yac)) from below_st4 bw.out (g := p6) (by have := hp6.out; omega) (.int .u8 (y.kind : Nat)) (.string y.name) (.slice yoo y.of.length yoc) (.slice yao y.att.length yac))
      replace hyok := hid (show y.ok ((((Wc.setCell ⟨p6, 0, none⟩ (.int .u8 (y.kind : Nat))).setCell ⟨p6, 1, none⟩ (.string y.name)).setCell ⟨p6, 2, none⟩ (.slice yoo y.of.length yoc)).setCell ⟨p6, 3, none⟩ (.slice yao y.att.length yac)) from hyok.out.keep (fun b hb => hkp.out b hb.2.2) hyin.out)
      replace hyin := hid (show y.inS (fun b => S b ∧ b ≠ rb) from hyin.out.mono (fun b hb => ⟨hb.1, hb.2.1⟩))
      replace hB := hid (show w.heap.size + 3 ≤ ((((Wc.setCell ⟨p6, 0, none⟩ (.int .u8 (y.kind : Nat))).setCell ⟨p6, 1, none⟩ (.string y.name)).setCell ⟨p6, 2, none⟩ (.slice yoo y.of.length yoc)).setCell ⟨p6, 3, none⟩ (.slice yao y.att.length yac)).heap.size ∧ w.heap.size ≤ rb ∧ rb < w.heap.size + 3 from by rw [hsz.out]; exact hB.out)
      clear hkp hsz df
      generalize ((((Wc.setCell ⟨p6, 0, none⟩ (.int .u8 (y.kind : Nat))).setCell ⟨p6, 1, none⟩ (.string y.name)).setCell ⟨p6, 2, none⟩ (.slice yoo y.of.length yoc)).setCell ⟨p6, 3, none⟩ (.slice yao y.att.length yac)) = Wc at KA KB R P6 bw hyok hB ⊢
      refine hK.out _ _ (by obtain ⟨c0, c1, c2, c3, -⟩ := four' KA.out; obtain ⟨u0, u1, u2, u3, -⟩ := four' KB.out; exact ⟨c0, c1, c2, c3, u0, u1, u2, u3⟩) (fun hHeldN => ?_)
      clear hK K hHeld
      have hHeld := hHeldN
      clear hHeldN
      (try simp only [Act.put, List.getElem_toArray, List.getElem_cons_zero, List.getElem_cons_succ, List.setIfInBounds_toArray, List.set_cons_zero, List.set_cons_succ])
      clear d0 d1 d2 d3
      refine wpAnyH_take (i := 10) (v := ?_) rfl (by kernel_rfl) (by kernel_rfl) (by kernel_rfl) (fun _ _ _ h => h) (Or.inl ⟨by rfl, ?_⟩) (by assumption) ?_; rotate_left 1; (intro w hSw; (try dsimp only at hSw); go_simp; try with_reducible rfl); (try simp only [Act.put, List.getElem_toArray, List.getElem_cons_zero, List.getElem_cons_succ, List.setIfInBounds_toArray, List.set_cons_zero, List.set_cons_succ])
      refine wpAnyH_done (by kernel_rfl) ?_ _
      clear hHeld
      have hpa := hid (hy1.out.er')
      have hpb := hid (hy2.out.er')
      have hJr := hid (show JJ = (PT.J (er y1) (er y2)).map PT.set by rw [hres.out, if_neg (by have := hka.out; omega), if_neg (by have := hka.out; omega), if_pos (by have := hka.out; omega), PT.JO_part, ← er_of, ← er_of, hpa.out, hpb.out])
      clear KA KB
      rcases hyz.out with ⟨hz, rfl⟩ | ⟨hz, rfl, _⟩
      · have hsc := hid (setOf_any y Wc hyok.out)
        rw [hyv.out] at hsc
        obtain ⟨d0, d1, d2, d3, df⟩ := four' P6.out
        go_wp2_with fail
        refine hsc.out.mono ?_
        rintro e w5 ⟨⟨g, hg, rfl, hok5⟩, q3⟩
        have R5 := hid (R.out.below q3 R.out.lt)
        have b5 := hid (bw.out.trans (q3.mono bw.out.size))
        have hok5' := hid hok5
        have hin5 := hid (show (setTy y g).inS (fun b => S b ∧ b ≠ rb) from setTy_in hyin.out ⟨hS'.out g (by have := hB.out; omega), by have := hB.out; omega⟩)
        rw [show (setTy y g).val = .agg #[.int .u8 5, .string ⟨#[]⟩, .slice (some ⟨g, 0, none⟩) 1 1, .slice none 0 0] from rfl]
        have her := hid (show JJ = some (er (setTy y g)) by rw [er_setTy, hJr.out, hz]; rfl)
        clear hok5 q3 hsc R bw hz hg P6 hyok hyin hyz d0 d1 d2 d3 df
        have hK := hid (blk_st4 R5.out (.int .u8 5) (.string ⟨#[]⟩) (.slice (some ⟨g, 0, none⟩) 1 1) (.slice none 0 0))
        have hBw := hid (below_st4 b5.out (g := rb) (hB.out.2.1) (.int .u8 5) (.string ⟨#[]⟩) (.slice (some ⟨g, 0, none⟩) 1 1) (.slice none 0 0))
        have hkp := hid (fun b (hb : b ≠ rb) => heap_st4 w5 (rb) (.int .u8 5) (.string ⟨#[]⟩) (.slice (some ⟨g, 0, none⟩) 1 1) (.slice none 0 0) hb)
        obtain ⟨d0, d1, d2, d3, df⟩ := four' R5.out
        go_wp2_with fail
        obtain ⟨q0, q1, q2, q3, qf⟩ := four' hK.out
        exact bodyPost_ret (v := .tuple #[.agg #[.int .u8 5, .string ⟨#[]⟩, .slice (some ⟨g, 0, none⟩) 1 1, .slice none 0 0], .int .i64 0]) (by unfold st4 at q0 q1 q2 q3; simp [results, Tryz.results7, go_sem, q0, q1, q2, q3]) rfl ⟨⟨setTy y g, 0, rfl, hok5'.out.keep (fun b hb => hkp.out b hb.2) hin5.out, hin5.out.mono (fun b hb => hb.1), .inl ⟨her.out, rfl⟩⟩, hBw.out⟩
      · have hJn := hid (show JJ = none by rw [hJr.out, hz]; rfl)
        clear hz hyok hyin hyz P6
        have hK := hid (blk_st4 R.out (.int .u8 0) (.string ⟨#[]⟩) (.slice none 0 0) (.slice none 0 0))
        have hBw := hid (below_st4 bw.out (g := rb) (hB.out.2.1) (.int .u8 0) (.string ⟨#[]⟩) (.slice none 0 0) (.slice none 0 0))
        have hkp := hid (fun b (hb : b ≠ rb) => heap_st4 Wc (rb) (.int .u8 0) (.string ⟨#[]⟩) (.slice none 0 0) (.slice none 0 0) hb)
        obtain ⟨d0, d1, d2, d3, df⟩ := four' R.out
        go_wp2_with fail
        obtain ⟨q0, q1, q2, q3, qf⟩ := four' hK.out
        exact bodyPost_ret (v := .tuple #[.agg #[.int .u8 0, .string ⟨#[]⟩, .slice none 0 0, .slice none 0 0], .int .i64 7]) (by unfold st4 at q0 q1 q2 q3; simp [results, Tryz.results7, go_sem, q0, q1, q2, q3]) rfl ⟨⟨leaf 0 ⟨#[]⟩, 7, rfl, leaf_ok _ _ _ (by decide) (by decide), leaf_in _ _ _, .inr ⟨hJn.out, rfl, rfl⟩⟩, hBw.out⟩
    refine AllReadyH.cons rfl (fun K hK => ?_) AllReadyH.nil
    go_simp
    have q9 := (Below.refl Wc.heap.size Wc).alloc (Nat.le_refl _) (.cells #[.int .u8 0, .string ⟨#[]⟩, .slice none 0 0, .slice none 0 0] 26)
    have P6 := hid (Blk.new Wc [.int .u8 0, .string ⟨#[]⟩, .slice none 0 0, .slice none 0 0] 26)
    change Hid (Blk (Wc.alloc (.cells #[.int .u8 0, .string ⟨#[]⟩, .slice none 0 0, .slice none 0 0] 26)) _ _ _) at P6
    have hp6 := hid (show rb < Wc.heap.size ∧ w.heap.size + 3 ≤ Wc.heap.size by have := hB.out; omega)
    replace KA := hid (KA.out.below q9 KA.out.lt)
    replace KB := hid (KB.out.below q9 KB.out.lt)
    replace R := hid (R.out.below q9 R.out.lt)
    replace hB := hid (show w.heap.size + 3 ≤ (Wc.alloc (.cells #[.int .u8 0, .string ⟨#[]⟩, .slice none 0 0, .slice none 0 0] 26)).heap.size ∧ w.heap.size ≤ rb ∧ rb < w.heap.size + 3 from ⟨Nat.le_trans hB.out.1 q9.size, hB.out.2⟩)
    replace bw := hid (bt bw.out q9)
    clear q9
    generalize Wc.heap.size = p6 at P6 hp6 ⊢
    generalize Wc.alloc (.cells #[.int .u8 0, .string ⟨#[]⟩, .slice none 0 0, .slice none 0 0] 26) = Wc at KA KB R hB bw P6 ⊢
    refine hK.out _ _ (by obtain ⟨c0, c1, c2, c3, -⟩ := four' KA.out; obtain ⟨u0, u1, u2, u3, -⟩ := four' KB.out; exact ⟨c0, c1, c2, c3, u0, u1, u2, u3⟩) (fun hHeldN => ?_)
    clear hK K hHeld
    have hHeld := hHeldN
    clear hHeldN
    (try simp only [Act.put, List.getElem_toArray, List.getElem_cons_zero, List.getElem_cons_succ, List.setIfInBounds_toArray, List.set_cons_zero, List.set_cons_succ])
    refine wpAnyH_ready (rs := [1]) (by kernel_rfl) (by simp) ?_
    refine AllReadyH.cons rfl (fun K hK => ?_) AllReadyH.nil
    go_simp
    (with_reducible refine (cPa.out _ bw.out).mono ?_)
    rintro e Wc ⟨⟨y1, rfl, hy1⟩, q9⟩
    replace KA := hid (KA.out.below q9 KA.out.lt)
    replace KB := hid (KB.out.below q9 KB.out.lt)
    replace R := hid (R.out.below q9 R.out.lt)
    replace hB := hid (show w.heap.size + 3 ≤ Wc.heap.size ∧ w.heap.size ≤ rb ∧ rb < w.heap.size + 3 from ⟨Nat.le_trans hB.out.1 q9.size, hB.out.2⟩)
    replace bw := hid (bt bw.out q9)
    replace P6 := hid (P6.out.below q9 P6.out.lt)
    replace hy1 := hid hy1
    clear q9
    refine hK.out _ _ (by obtain ⟨c0, c1, c2, c3, -⟩ := four' KA.out; obtain ⟨u0, u1, u2, u3, -⟩ := four' KB.out; exact ⟨c0, c1, c2, c3, u0, u1, u2, u3⟩) (fun hHeldN => ?_)
    clear hK K hHeld
    have hHeld := hHeldN
    clear hHeldN
    (try simp only [Act.put, List.getElem_toArray, List.getElem_cons_zero, List.getElem_cons_succ, List.setIfInBounds_toArray, List.set_cons_zero, List.set_cons_succ])
    refine wpAnyH_ready (rs := [3]) (by kernel_rfl) (by simp) ?_
    refine AllReadyH.cons rfl (fun K hK => ?_) AllReadyH.nil
    go_simp
    (with_reducible refine (cPb.out _ bw.out).mono ?_)
    rintro e Wc ⟨⟨y2, rfl, hy2⟩, q9⟩
    replace KA := hid (KA.out.below q9 KA.out.lt)
    replace KB := hid (KB.out.below q9 KB.out.lt)
    replace R := hid (R.out.below q9 R.out.lt)
    replace hB := hid (show w.heap.size + 3 ≤ Wc.heap.size ∧ w.heap.size ≤ rb ∧ rb < w.heap.size + 3 from ⟨Nat.le_trans hB.out.1 q9.size, hB.out.2⟩)
    replace bw := hid (bt bw.out q9)
    replace P6 := hid (P6.out.below q9 P6.out.lt)
    replace hy2 := hid hy2
    clear q9
    refine hK.out _ _ (by obtain ⟨c0, c1, c2, c3, -⟩ := four' KA.out; obtain ⟨u0, u1, u2, u3, -⟩ := four' KB.out; exact ⟨c0, c1, c2, c3, u0, u1, u2, u3⟩) (fun hHeldN => ?_)
    clear hK K hHeld
    have hHeld := hHeldN
    clear hHeldN
    (try simp only [Act.put, List.getElem_toArray, List.getElem_cons_zero, List.getElem_cons_succ, List.setIfInBounds_toArray, List.set_cons_zero, List.set_cons_succ])
    refine wpAnyH_ready (rs := [4]) (by kernel_rfl) (by simp) ?_
    refine AllReadyH.cons rfl (fun K hK => ?_) AllReadyH.nil
    go_simp
    have hJ := hid (ih5'.out (by have := hka.out; omega) (by have := hkb.out; omega) y1 y2 hy1.out hy2.out)
    have hJc := hid (hJ.out Wc (fun b => S b ∧ b ≠ rb ∧ b ≠ p6) (hy1.out.ok' (hao'.out.below bw.out)) (hy2.out.ok' (hbo'.out.below bw.out)) (fun b hb => ⟨hS'.out b (by have := hB.out; omega), by have := hB.out; omega, by have := P6.out.lt; omega⟩))
    (with_reducible refine hJc.out.mono ?_)
    rintro e Wc ⟨⟨y, zz, rfl, hyok, hyin, hyz⟩, q9⟩
    obtain ⟨yoo, yoc, yao, yac, ey1, ey2, yl1, yl2⟩ := hyok.forms
    have hyv := hid (Ty.val_eq ey1 ey2)
    rw [Ty.val_eq ey1 ey2]
    replace KA := hid (KA.out.below q9 KA.out.lt)
    replace KB := hid (KB.out.below q9 KB.out.lt)
    replace R := hid (R.out.below q9 R.out.lt)
    replace hB := hid (show w.heap.size + 3 ≤ Wc.heap.size ∧ w.heap.size ≤ rb ∧ rb < w.heap.size + 3 from ⟨Nat.le_trans hB.out.1 q9.size, hB.out.2⟩)
    replace bw := hid (bt bw.out q9)
    replace P6 := hid (P6.out.below q9 P6.out.lt)
    replace hyok := hid hyok
    replace hyin := hid (show y.inS (fun b => S b ∧ b ≠ rb ∧ b ≠ p6) from hyin)
    replace hyz := hid hyz
    clear q9 ey1 ey2 hJ hJc
    refine hK.out _ _ (by obtain ⟨c0, c1, c2, c3, -⟩ := four' KA.out; obtain ⟨u0, u1, u2, u3, -⟩ := four' KB.out; exact ⟨c0, c1, c2, c3, u0, u1, u2, u3⟩) (fun hHeldN => ?_)
    clear hK K hHeld
    have hHeld := hHeldN
    clear hHeldN
    (try simp only [Act.put, List.getElem_toArray, List.getElem_cons_zero, List.getElem_cons_succ, List.setIfInBounds_toArray, List.set_cons_zero, List.set_cons_succ])
    refine wpAnyH_take (i := 5) (v := ?_) rfl (by kernel_rfl) (by kernel_rfl) (by kernel_rfl) (fun _ _ _ h => h) (Or.inl ⟨by rfl, ?_⟩) (by assumption) ?_; rotate_left 1; (intro w hSw; (try dsimp only at hSw); go_simp; try with_reducible rfl); (try simp only [Act.put, List.getElem_toArray, List.getElem_cons_zero, List.getElem_cons_succ, List.setIfInBounds_toArray, List.set_cons_zero, List.set_cons_succ])
    refine wpAnyH_take (i := 6) (v := ?_) rfl (by kernel_rfl) (by kernel_rfl) (by kernel_rfl) (fun _ _ _ h => h) (Or.inl ⟨by rfl, ?_⟩) (by assumption) ?_; rotate_left 1; (intro w hSw; (try dsimp only at hSw); go_simp; try with_reducible rfl); (try simp only [Act.put, List.getElem_toArray, List.getElem_cons_zero, List.getElem_cons_succ, List.setIfInBounds_toArray, List.set_cons_zero, List.set_cons_succ])
    refine wpAnyH_take (i := 7) (v := ?_) rfl (by kernel_rfl) (by kernel_rfl) (by kernel_rfl) (fun _ _ _ h => h) (Or.inl ⟨by rfl, ?_⟩) (by assumption) ?_; rotate_left 1; (intro w hSw; (try dsimp only at hSw); go_simp; try with_reducible rfl); (try simp only [Act.put, List.getElem_toArray, List.getElem_cons_zero, List.getElem_cons_succ, List.setIfInBounds_toArray, List.set_cons_zero, List.set_cons_succ])
    refine wpAnyH_ready (rs := [9]) (by kernel_rfl) (by simp) ?_
    refine AllReadyH.cons rfl (fun K hK => ?_) AllReadyH.nil
    obtain ⟨d0, d1, d2, d3, df⟩ := four' P6.out
    go_simp
    have hkp := hid (show ∀ b, b ≠ p6 → ((((Wc.setCell ⟨p6, 0, none⟩ (.int .u8 (y.kind : Nat))).setCell ⟨p6, 1, none⟩ (.string y.name)).setCell ⟨p6, 2, none⟩ (.slice yoo y.of.length yoc)).setCell ⟨p6, 3, none⟩ (.slice yao y.att.length yac)).heap[b]? = Wc.heap[b]? from fun b hb => heap_st4 Wc p6 (.int .u8 (y.kind : Nat)) (.string y.name) (.slice yoo y.of.length yoc) (.slice yao y.att.length yac) hb)
    have hsz := hid (show ((((Wc.setCell ⟨p6, 0, none⟩ (.int .u8 (y.kind : Nat))).setCell ⟨p6, 1, none⟩ (.string y.name)).setCell ⟨p6, 2, none⟩ (.slice yoo y.of.length yoc)).setCell ⟨p6, 3, none⟩ (.slice yao y.att.length yac)).heap.size = Wc.heap.size by simp)
    replace KA := hid (show Blk ((((Wc.setCell ⟨p6, 0, none⟩ (.int .u8 (y.kind : Nat))).setCell ⟨p6, 1, none⟩ (.string y.name)).setCell ⟨p6, 2, none⟩ (.slice yoo y.of.length yoc)).setCell ⟨p6, 3, none⟩ (.slice yao y.att.length yac)) w.heap.size _ _ from ⟨(hkp.out _ (by have := hp6.out; have := hB.out; omega)).trans KA.out.at'⟩)
    replace KB := hid (show Blk ((((Wc.setCell ⟨p6, 0, none⟩ (.int .u8 (y.kind : Nat))).setCell ⟨p6, 1, none⟩ (.string y.name)).setCell ⟨p6, 2, none⟩ (.slice yoo y.of.length yoc)).setCell ⟨p6, 3, none⟩ (.slice yao y.att.length yac)) (w.heap.size + 1) _ _ from ⟨(hkp.out _ (by have := hp6.out; have := hB.out; omega)).trans KB.out.at'⟩)
    replace R := hid (show Blk ((((Wc.setCell ⟨p6, 0, none⟩ (.int .u8 (y.kind : Nat))).setCell ⟨p6, 1, none⟩ (.string y.name)).setCell ⟨p6, 2, none⟩ (.slice yoo y.of.length yoc)).setCell ⟨p6, 3, none⟩ (.slice yao y.att.length yac)) rb _ _ from ⟨(hkp.out _ (by have := hp6.out; omega)).trans R.out.at'⟩)
    replace P6 := hid (show Blk ((((Wc.setCell ⟨p6, 0, none⟩ (.int .u8 (y.kind : Nat))).setCell ⟨p6, 1, none⟩ (.string y.name)).setCell ⟨p6, 2, none⟩ (.slice yoo y.of.length yoc)).setCell ⟨p6, 3, none⟩ (.slice yao y.att.length yac)) p6 [.int .u8 (y.kind : Nat), .string y.name, .slice yoo y.of.length yoc, .slice yao y.att.length yac] _ from blk_st4 P6.out (.int .u8 (y.kind : Nat)) (.string y.name) (.slice yoo y.of.length yoc) (.slice yao y.att.length yac))
    replace bw := hid (show Below w.heap.size w ((((Wc.setCell ⟨p6, 0, none⟩ (.int .u8 (y.kind : Nat))).setCell ⟨p6, 1, none⟩ (.string y.name)).setCell ⟨p6, 2, none⟩ (.slice yoo y.of.length yoc)).setCell ⟨p6, 3, none⟩ (.slice yao y.att.length yac)) from below_st4 bw.out (g := p6) (by have := hp6.out; omega) (.int .u8 (y.kind : Nat)) (.string y.name) (.slice yoo y.of.length yoc) (.slice yao y.att.length yac))
    replace hyok := hid (show y.ok ((((Wc.setCell ⟨p6, 0, none⟩ (.int .u8 (y.kind : Nat))).setCell ⟨p6, 1, none⟩ (.string y.name)).setCell ⟨p6, 2, none⟩ (.slice yoo y.of.length yoc)).setCell ⟨p6, 3, none⟩ (.slice yao y.att.length yac)) from hyok.out.keep (fun b hb => hkp.out b hb.2.2) hyin.out)
    replace hyin := hid (show y.inS (fun b => S b ∧ b ≠ rb) from hyin.out.mono (fun b hb => ⟨hb.1, hb.2.1⟩))
    replace hB := hid (show w.heap.size + 3 ≤ ((((Wc.setCell ⟨p6, 0, none⟩ (.int .u8 (y.kind : Nat))).setCell ⟨p6, 1, none⟩ (.string y.name)).setCell ⟨p6, 2, none⟩ (.slice yoo y.of.length yoc)).setCell ⟨p6, 3, none⟩ (.slice yao y.att.length yac)).heap.size ∧ w.heap.size ≤ rb ∧ rb < w.heap.size + 3 from by rw [hsz.out]; exact hB.out)
    clear hkp hsz df
    generalize ((((Wc.setCell ⟨p6, 0, none⟩ (.int .u8 (y.kind : Nat))).setCell ⟨p6, 1, none⟩ (.string y.name)).setCell ⟨p6, 2, none⟩ (.slice yoo y.of.length yoc)).setCell ⟨p6, 3, none⟩ (.slice yao y.att.length yac)) = Wc at KA KB R P6 bw hyok hB ⊢
    refine hK.out _ _ (by obtain ⟨c0, c1, c2, c3, -⟩ := four' KA.out; obtain ⟨u0, u1, u2, u3, -⟩ := four' KB.out; exact ⟨c0, c1, c2, c3, u0, u1, u2, u3⟩) (fun hHeldN => ?_)
    clear hK K hHeld
    have hHeld := hHeldN
    clear hHeldN
    (try simp only [Act.put, List.getElem_toArray, List.getElem_cons_zero, List.getElem_cons_succ, List.setIfInBounds_toArray, List.set_cons_zero, List.set_cons_succ])
    clear d0 d1 d2 d3
    refine wpAnyH_take (i := 10) (v := ?_) rfl (by kernel_rfl) (by kernel_rfl) (by kernel_rfl) (fun _ _ _ h => h) (Or.inl ⟨by rfl, ?_⟩) (by assumption) ?_; rotate_left 1; (intro w hSw; (try dsimp only at hSw); go_simp; try with_reducible rfl); (try simp only [Act.put, List.getElem_toArray, List.getElem_cons_zero, List.getElem_cons_succ, List.setIfInBounds_toArray, List.set_cons_zero, List.set_cons_succ])
    refine wpAnyH_done (by kernel_rfl) ?_ _
    clear hHeld
    have hpa := hid (hy1.out.er')
    have hpb := hid (hy2.out.er')
    have hJr := hid (show JJ = (PT.J (er y1) (er y2)).map PT.set by rw [hres.out, if_neg (by have := hka.out; omega), if_neg (by have := hka.out; omega), if_pos (by have := hka.out; omega), PT.JO_part, ← er_of, ← er_of, hpa.out, hpb.out])
    clear KA KB
    rcases hyz.out with ⟨hz, rfl⟩ | ⟨hz, rfl, _⟩
    · have hsc := hid (setOf_any y Wc hyok.out)
      rw [hyv.out] at hsc
      obtain ⟨d0, d1, d2, d3, df⟩ := four' P6.out
      go_wp2_with fail
      refine hsc.out.mono ?_
      rintro e w5 ⟨⟨g, hg, rfl, hok5⟩, q3⟩
      have R5 := hid (R.out.below q3 R.out.lt)
      have b5 := hid (bw.out.trans (q3.mono bw.out.size))
      have hok5' := hid hok5
      have hin5 := hid (show (setTy y g).inS (fun b => S b ∧ b ≠ rb) from setTy_in hyin.out ⟨hS'.out g (by have := hB.out; omega), by have := hB.out; omega⟩)
      rw [show (setTy y g).val = .agg #[.int .u8 5, .string ⟨#[]⟩, .slice (some ⟨g, 0, none⟩) 1 1, .slice none 0 0] from rfl]
      have her := hid (show JJ = some (er (setTy y g)) by rw [er_setTy, hJr.out, hz]; rfl)
      clear hok5 q3 hsc R bw hz hg P6 hyok hyin hyz d0 d1 d2 d3 df
      have hK := hid (blk_st4 R5.out (.int .u8 5) (.string ⟨#[]⟩) (.slice (some ⟨g, 0, none⟩) 1 1) (.slice none 0 0))
      have hBw := hid (below_st4 b5.out (g := rb) (hB.out.2.1) (.int .u8 5) (.string ⟨#[]⟩) (.slice (some ⟨g, 0, none⟩) 1 1) (.slice none 0 0))
      have hkp := hid (fun b (hb : b ≠ rb) => heap_st4 w5 (rb) (.int .u8 5) (.string ⟨#[]⟩) (.slice (some ⟨g, 0, none⟩) 1 1) (.slice none 0 0) hb)
      obtain ⟨d0, d1, d2, d3, df⟩ := four' R5.out
      go_wp2_with fail
      obtain ⟨q0, q1, q2, q3, qf⟩ := four' hK.out
      exact bodyPost_ret (v := .tuple #[.agg #[.int .u8 5, .string ⟨#[]⟩, .slice (some ⟨g, 0, none⟩) 1 1, .slice none 0 0], .int .i64 0]) (by unfold st4 at q0 q1 q2 q3; simp [results, Tryz.results7, go_sem, q0, q1, q2, q3]) rfl ⟨⟨setTy y g, 0, rfl, hok5'.out.keep (fun b hb => hkp.out b hb.2) hin5.out, hin5.out.mono (fun b hb => hb.1), .inl ⟨her.out, rfl⟩⟩, hBw.out⟩
    · have hJn := hid (show JJ = none by rw [hJr.out, hz]; rfl)
      clear hz hyok hyin hyz P6
      have hK := hid (blk_st4 R.out (.int .u8 0) (.string ⟨#[]⟩) (.slice none 0 0) (.slice none 0 0))
      have hBw := hid (below_st4 bw.out (g := rb) (hB.out.2.1) (.int .u8 0) (.string ⟨#[]⟩) (.slice none 0 0) (.slice none 0 0))
      have hkp := hid (fun b (hb : b ≠ rb) => heap_st4 Wc (rb) (.int .u8 0) (.string ⟨#[]⟩) (.slice none 0 0) (.slice none 0 0) hb)
      obtain ⟨d0, d1, d2, d3, df⟩ := four' R.out
      go_wp2_with fail
      obtain ⟨q0, q1, q2, q3, qf⟩ := four' hK.out
      exact bodyPost_ret (v := .tuple #[.agg #[.int .u8 0, .string ⟨#[]⟩, .slice none 0 0, .slice none 0 0], .int .i64 7]) (by unfold st4 at q0 q1 q2 q3; simp [results, Tryz.results7, go_sem, q0, q1, q2, q3]) rfl ⟨⟨leaf 0 ⟨#[]⟩, 7, rfl, leaf_ok _ _ _ (by decide) (by decide), leaf_in _ _ _, .inr ⟨hJn.out, rfl, rfl⟩⟩, hBw.out⟩
  · have hJr := hid (show JJ = (PT.JL (erL a.att) a.an b.an (erL b.att)).map (PT.rcd a.an) by rw [hres.out, if_neg (by have := hka.out; omega), if_neg (by have := hka.out; omega), if_neg (by have := hka.out; omega), if_pos (by have := hka.out; omega)])
    obtain ⟨c0, c1, c2, c3, cf⟩ := four' KA.out
    obtain ⟨u0, u1, u2, u3, uf⟩ := four' KB.out
    go_wp2_with fail
    refine (cR.out X2 (fun b => S b ∧ b ≠ rb) bw.out (fun b hb => ⟨hS'.out b (by have := hB.out; omega), by have := hB.out; omega⟩)).mono ?_
    rintro e w3 ⟨⟨y, zz, rfl, hyok, hyin, hyz⟩, q3⟩
    have R3 := hid (R.out.below q3 R.out.lt)
    have b3 := hid (bw.out.trans (q3.mono bw.out.size))
    obtain ⟨yoo, yoc, yao, yac, ey1, ey2, _, _⟩ := hyok.forms
    have hyv := hid (Ty.val_eq ey1 ey2)
    rw [hyv.out]
    replace hyok := hid hyok
    replace hyin := hid hyin
    rw [← hJr.out] at hyz
    replace hyz := hid hyz
    clear q3 R bw ey1 ey2 KA KB
    clear c0 c1 c2 c3 cf u0 u1 u2 u3 uf
    have hK := hid (blk_st4 R3.out (.int .u8 (y.kind : Nat)) (.string y.name) (.slice yoo y.of.length yoc) (.slice yao y.att.length yac))
    have hBw := hid (below_st4 b3.out (g := rb) (hB.out.2.1) (.int .u8 (y.kind : Nat)) (.string y.name) (.slice yoo y.of.length yoc) (.slice yao y.att.length yac))
    have hkp := hid (fun b (hb : b ≠ rb) => heap_st4 w3 (rb) (.int .u8 (y.kind : Nat)) (.string y.name) (.slice yoo y.of.length yoc) (.slice yao y.att.length yac) hb)
    obtain ⟨d0, d1, d2, d3, df⟩ := four' R3.out
    go_wp2_with fail
    obtain ⟨q0, q1, q2, q3, qf⟩ := four' hK.out
    exact bodyPost_ret (v := .tuple #[.agg #[.int .u8 (y.kind : Nat), .string y.name, .slice yoo y.of.length yoc, .slice yao y.att.length yac], .int .i64 zz]) (by unfold st4 at q0 q1 q2 q3; simp [results, Tryz.results7, go_sem, q0, q1, q2, q3]) rfl ⟨⟨y, zz, by rw [hyv.out], hyok.out.keep (fun b hb => hkp.out b hb.2) hyin.out, hyin.out.mono (fun b hb => hb.1), hyz.out⟩, hBw.out⟩
  · have hJn := hid (show JJ = none by rw [hres.out, if_neg (by have := hka.out; omega), if_neg (by have := hka.out; omega), if_neg (by have := hka.out; omega), if_neg (by have := hka.out; omega)])
    obtain ⟨c0, c1, c2, c3, cf⟩ := four' KA.out
    obtain ⟨u0, u1, u2, u3, uf⟩ := four' KB.out
    clear KA KB
    have hK := hid (blk_st4 R.out (.int .u8 0) (.string ⟨#[]⟩) (.slice none 0 0) (.slice none 0 0))
    have hBw := hid (below_st4 bw.out (g := rb) (hB.out.2.1) (.int .u8 0) (.string ⟨#[]⟩) (.slice none 0 0) (.slice none 0 0))
    have hkp := hid (fun b (hb : b ≠ rb) => heap_st4 X2 (rb) (.int .u8 0) (.string ⟨#[]⟩) (.slice none 0 0) (.slice none 0 0) hb)
    obtain ⟨d0, d1, d2, d3, df⟩ := four' R.out
    go_wp2_with fail
    obtain ⟨q0, q1, q2, q3, qf⟩ := four' hK.out
    exact bodyPost_ret (v := .tuple #[.agg #[.int .u8 0, .string ⟨#[]⟩, .slice none 0 0, .slice none 0 0], .int .i64 7]) (by unfold st4 at q0 q1 q2 q3; simp [results, Tryz.results7, go_sem, q0, q1, q2, q3]) rfl ⟨⟨leaf 0 ⟨#[]⟩, 7, rfl, leaf_ok _ _ _ (by decide) (by decide), leaf_in _ _ _, .inr ⟨hJn.out, rfl, rfl⟩⟩, hBw.out⟩
theorem join_any (a b : Ty) (ha : PT.small (er a)) (hb : PT.small (er b)) : Jn a b := by
  suffices g : ∀ n (a b : Ty), a.size + b.size ≤ n → PT.small (er a) → PT.small (er b) → Jn a b from g _ a b (Nat.le_refl _) ha hb
  have mem : ∀ (l : List Ty) (z : Ty), z ∈ l → er z ∈ erL l := fun l z hz => by rw [erL_map]; exact List.mem_map_of_mem hz
  have sz : PT.small (er (leaf 0 ⟨#[]⟩)) := by rw [er_leaf]; exact PT.small_bare 0
  have l0 : ∀ y : Ty, PT.small (er y) → Jn (leaf 0 ⟨#[]⟩) y := fun y hy => join_step _ y sz hy (fun h => by cases h) (fun i h1 => absurd h1 (by simp [leaf, Ty.att]))
  have r0 : ∀ y : Ty, PT.small (er y) → Jn y (leaf 0 ⟨#[]⟩) := fun y hy => join_step y _ hy sz (fun _ h => by cases h) (fun i _ h1 => absurd h1 (by simp [leaf, Ty.att]))
  intro n
  induction n with
  | zero => intro a b hx; have := a.size_pos; omega
  | succ n ihn =>
    intro a b hx ha hb
    obtain ⟨_, a2, a3⟩ := PT.small_iff.1 ha
    obtain ⟨_, b2, b3⟩ := PT.small_iff.1 hb
    refine join_step a b ha hb (fun _ _ y z hy hz => ?_) (fun i h1 h2 => ihn _ _ (by have := Ty.size_att (List.getElem_mem h1); have := Ty.size_att (List.getElem_mem h2); omega) (a3 _ (by rw [er_att]; exact mem _ _ (List.getElem_mem h1))) (b3 _ (by rw [er_att]; exact mem _ _ (List.getElem_mem h2))))
    rcases hy with ⟨_, rfl⟩ | ⟨l, hl⟩
    · rcases hz with ⟨_, rfl⟩ | ⟨m, hm⟩
      · exact l0 _ sz
      · exact l0 z (b2 _ (by rw [er_of]; exact mem _ _ (by rw [hm]; simp)))
    · have hys : PT.small (er y) := a2 _ (by rw [er_of]; exact mem _ _ (by rw [hl]; simp))
      rcases hz with ⟨_, rfl⟩ | ⟨m, hm⟩
      · exact r0 y hys
      · exact ihn y z (by have := Ty.size_of (x := a) (y := y) (by rw [hl]; simp); have := Ty.size_of (x := b) (y := z) (by rw [hm]; simp); omega) hys (b2 _ (by rw [er_of]; exact mem _ _ (by rw [hm]; simp)))
end Go.Proofs.YtklclfolmfhocaaGreatDoor.Tyt
