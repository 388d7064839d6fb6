/-
  wire's calls: contracts. Written by wip/wiretopgen.py.
-/
import Derived.Test.YtldlkoiekdlmhaaWireRefB
namespace Go.Proofs.Ytldlkoiekdlmhaa.Wi
open Go.ChangeShapes Go.WideShapes Go.ChangeAt Go.RowKit
open Go.Proofs.Ytldlkoiekdlmhaa.Mem
open Go.Proofs.Ytldlkoiekdlmhaa.Lik (Kept)
open Go.Proofs.Ytldlkoiekdlmhaa.Crc hiding hid bt
set_option linter.unusedVariables false
set_option linter.unusedSimpArgs false
set_option maxRecDepth 100000
theorem head11 (s : ByteArray) (h : 11 ≤ s.size) : s.data.toList = s[0] :: ((s.extract 1 9).data.toList ++ (s[9] :: s[10] :: (s.extract 11 s.size).data.toList)) := by
  have key : ∀ (l : List UInt8) (h : 11 ≤ l.length), l = l[0] :: ((l.drop 1).take 8 ++ (l[9] :: l[10] :: l.drop 11)) := by
    intro l h
    match l, h with
    | _ :: _ :: _ :: _ :: _ :: _ :: _ :: _ :: _ :: _ :: _ :: _, _ => rfl
  rw [ext_drop _ _ h, mid_list s 1 8]
  exact key s.data.toList (by rw [len_size]; exact h)
theorem pN8 {x r : ByteArray} {n : Nat} {ok : Bool} (h : NmP x n r ok) (hx : x.size = 8) : x.data.toList = leb 8 n := by
  rcases h.2 with ⟨_, h⟩ | ⟨_, _, _, h⟩
  · have h1 := (pN_of h).1
    have h2 := congrArg List.length h1
    rw [List.length_append, len_size, leb_len, hx] at h2
    have h3 : r.data.toList = [] := List.length_eq_zero_iff.1 (by omega)
    rw [h1, h3, List.append_nil]
  · unfold pN at h
    rw [if_pos (by rw [len_size]; omega)] at h
    cases h
theorem rep_parts {r : Rep} {c0 c9 c10 : UInt8} {n : Nat} {l : List UInt8} (h : repE r = c0 :: (leb 8 n ++ (c9 :: c10 :: l))) : c10.toNat ≤ 1 ∧ l = lE r.ids ++ lE r.errs := by
  unfold repE at h
  have h1 := (List.cons.inj h).2
  have h2 := (List.append_inj h1 (by rw [leb_len, leb_len])).2
  have h3 := (List.cons.inj h2).2
  have h4 := List.cons.inj h3
  refine ⟨?_, h4.2.symm⟩
  rw [← h4.1]
  unfold fl
  split <;> decide
theorem RepP.one {s : List UInt8} {r r2 : Rep} {z z2 : Int} (h : RepP s r z) (g : RepP s r2 z2) : r = r2 ∧ z = z2 := by
  rcases h with ⟨rfl, h1, h2, h3⟩ | ⟨rfl, rfl, hn⟩
  · rcases g with ⟨rfl, g1, g2, g3⟩ | ⟨_, _, gn⟩
    · exact ⟨repE_inj h1 g1 h2 g2 (by rw [h3, g3]), rfl⟩
    · exact absurd h3 (gn _ h1 h2)
  · rcases g with ⟨_, g1, g2, g3⟩ | ⟨rfl, rfl, _⟩
    · exact absurd g3 (hn _ g1 g2)
    · exact ⟨rfl, rfl⟩
set_option maxHeartbeats 16000000 in
theorem readreply_ref (s : ByteArray) (w : World) (hs : s.size ≤ 16777216) :
    Calls Try.prog 17 #[.string s] w fun e w' => (∃ (r : Rep) (so : Option Addr) (sc : Nat) (tp : Option Addr) (tc : Nat) (z : Int), e = .returned (.tuple #[.agg #[.int .i64 r.why, .int .u64 (r.n : Nat), .int .i64 r.place, .bool r.allow, .slice so r.ids.length sc, .slice tp r.errs.length tc], .int .i64 z]) ∧ StrsV w' (.slice so r.ids.length sc) r.ids ∧ StrsV w' (.slice tp r.errs.length tc) r.errs ∧ lR r.ids ∧ lR r.errs ∧ repN r ∧ RepP s.data.toList r z) ∧ Below w.heap.size w w' := by
  go_enter Try.func17, Try.ntmps17
  go_upto_region 1 with fail
  have R := hid (Blk.new w [.int .i64 0, .int .u64 0, .int .i64 0, .bool false, .slice none 0 0, .slice none 0 0] 42)
  have bw := hid ((Below.refl w.heap.size w).alloc (Nat.le_refl _) (.cells #[.int .i64 0, .int .u64 0, .int .i64 0, .bool false, .slice none 0 0, .slice none 0 0] 42))
  change Hid (Blk (w.alloc (.cells #[.int .i64 0, .int .u64 0, .int .i64 0, .bool false, .slice none 0 0, .slice none 0 0] 42)) _ _ _) at R
  generalize w.alloc (.cells #[.int .i64 0, .int .u64 0, .int .i64 0, .bool false, .slice none 0 0, .slice none 0 0] 42) = X at R bw ⊢
  obtain ⟨rb, hr⟩ : ∃ rb, w.heap.size = rb := ⟨_, rfl⟩
  have hrb := hid (show w.heap.size ≤ rb by omega)
  rw [hr] at R ⊢
  clear hr
  by_cases h11 : s.size < 11
  · have hi11 : (s.size : Int) < 11 := by omega
    have hP := hid (show RepP s.data.toList repZ 14 from .inr ⟨rfl, rfl, fun r' hr' hn' e => by
      have := congrArg List.length e
      rw [len_size] at this
      unfold repE at this
      simp only [List.length_cons, List.length_append, leb_len] at this
      omega⟩)
    clear h11 hs
    have F1 := hid (R.out.row [.int .i64 0, .int .u64 0, .int .i64 0, .bool false, .slice none 0 0, .slice none 0 0])
    have F2 := hid (below_row bw.out hrb.out #[.int .i64 0, .int .u64 0, .int .i64 0, .bool false, .slice none 0 0, .slice none 0 0])
    go_upto_region 2 with fail
    refine wp_region_lit ?_
    refine wpList_build0 rfl 42 rfl #[.int .i64 0, .int .u64 0, .int .i64 0, .bool false, .slice none 0 0, .slice none 0 0] (by kernel_rfl) ?_
    refine wpList_store_row rfl 42 (.tmp 2) (.tmp 20) rfl rb #[.int .i64 0, .int .u64 0, .int .i64 0, .bool false, .slice none 0 0, .slice none 0 0] rfl rfl 42 _ R.out.at' (by kernel_rfl) rfl (by simp [Value.oneCell']) ?_
    generalize X.setRow rb #[.int .i64 0, .int .u64 0, .int .i64 0, .bool false, .slice none 0 0, .slice none 0 0] = W3 at F1 F2 ⊢
    go_wp2_with fail
    refine bodyPost_ret (v := .tuple #[.agg #[.int .i64 0, .int .u64 0, .int .i64 0, .bool false, .slice none 0 0, .slice none 0 0], .int .i64 14]) (results_ct Try.results17 _ _ rb 42 _ (0, 0) _ rfl F1.out.at' Try.underlying42 rfl (by kernel_rfl)) rfl ?_
    exact ⟨⟨repZ, none, 0, none, 0, 14, rfl, SlV.nil _, SlV.nil _, ⟨by decide, by simp [repZ]⟩, ⟨by decide, by simp [repZ]⟩, (by show (0 : Nat) < 18446744073709551616; decide), hP.out⟩, F2.out⟩
  have hi11 : ¬ (s.size : Int) < 11 := by omega
  have hpos : 0 < s.size := by omega
  have h9s : 9 < s.size := by omega
  have h10s : 10 < s.size := by omega
  have hl := head11 s (by omega)
  obtain ⟨c0, e0⟩ : ∃ c, s[0] = c := ⟨_, rfl⟩
  obtain ⟨c9, e9⟩ : ∃ c, s[9] = c := ⟨_, rfl⟩
  obtain ⟨c10, e10⟩ : ∃ c, s[10] = c := ⟨_, rfl⟩
  rw [e0, e9, e10] at hl
  have b0 := hid (UInt8.toNat_lt c0)
  have b9 := hid (UInt8.toNat_lt c9)
  have b10 : (10 : Int) < (s.size : Int) := by omega
  have e10' : s[10].toNat = c10.toNat := by rw [e10]
  by_cases hg : 1 < c10.toNat
  · have hgi : (1 : Int) < (s[10].toNat : Int) := by rw [e10]; omega
    have hP := hid (show RepP s.data.toList repZ 14 from .inr ⟨rfl, rfl, fun r' hr' hn' e => by
      obtain ⟨n, hn⟩ : ∃ n, (s.extract 1 9).data.toList = leb 8 n := ⟨num (s.extract 1 9).data.toList, by
        have := leb_num (s.extract 1 9).data.toList
        rw [show (s.extract 1 9).data.toList.length = 8 by rw [mid_list s 1 8, List.length_take, List.length_drop, len_size]; omega] at this
        exact this.symm⟩
      rw [hl, hn] at e
      have := (rep_parts e).1
      omega⟩)
    clear hl e0 e9 e10 e10' hg b0 b9 hs h11
    have F1 := hid (R.out.row [.int .i64 0, .int .u64 0, .int .i64 0, .bool false, .slice none 0 0, .slice none 0 0])
    have F2 := hid (below_row bw.out hrb.out #[.int .i64 0, .int .u64 0, .int .i64 0, .bool false, .slice none 0 0, .slice none 0 0])
    go_upto_region 2 with fail
    refine wp_region_lit ?_
    refine wpList_build0 rfl 42 rfl #[.int .i64 0, .int .u64 0, .int .i64 0, .bool false, .slice none 0 0, .slice none 0 0] (by kernel_rfl) ?_
    refine wpList_store_row rfl 42 (.tmp 2) (.tmp 20) rfl rb #[.int .i64 0, .int .u64 0, .int .i64 0, .bool false, .slice none 0 0, .slice none 0 0] rfl rfl 42 _ R.out.at' (by kernel_rfl) rfl (by simp [Value.oneCell']) ?_
    generalize X.setRow rb #[.int .i64 0, .int .u64 0, .int .i64 0, .bool false, .slice none 0 0, .slice none 0 0] = W3 at F1 F2 ⊢
    go_wp2_with fail
    refine bodyPost_ret (v := .tuple #[.agg #[.int .i64 0, .int .u64 0, .int .i64 0, .bool false, .slice none 0 0, .slice none 0 0], .int .i64 14]) (results_ct Try.results17 _ _ rb 42 _ (0, 0) _ rfl F1.out.at' Try.underlying42 rfl (by kernel_rfl)) rfl ?_
    exact ⟨⟨repZ, none, 0, none, 0, 14, rfl, SlV.nil _, SlV.nil _, ⟨by decide, by simp [repZ]⟩, ⟨by decide, by simp [repZ]⟩, (by show (0 : Nat) < 18446744073709551616; decide), hP.out⟩, F2.out⟩
  have hgi : ¬ (1 : Int) < (s[10].toNat : Int) := by rw [e10]; omega
  have b1 : (1 : Int) ≤ 9 := by decide
  have b2 : (9 : Int) ≤ (s.size : Int) := by omega
  have b3 : (11 : Int) ≤ (s.size : Int) := by omega
  have x8 := hid (show (s.extract 1 9).size = 8 by rw [← len_size, mid_list s 1 8, List.length_take, List.length_drop, len_size]; omega)
  have x11 := hid (show (s.extract 11 s.size).size ≤ 16777216 by rw [← len_size, ext_drop _ _ (by omega), List.length_drop, len_size]; omega)
  replace hl := hid hl
  replace e0 := hid e0
  replace e9 := hid e9
  replace e10 := hid e10
  replace hg := hid hg
  clear e10' hs h11
  go_wp2_with fail
  refine (number_ref (s.extract 1 9) _ (by rw [x8.out]; decide)).mono ?_
  rintro e w1' ⟨⟨n, r0, ok0, rfl, hN⟩, q1⟩
  replace R := hid (R.out.below q1 R.out.lt)
  replace bw := hid (bw.out.trans (q1.mono bw.out.size))
  have hn8 := hid hN.1
  replace hl := hid (show s.data.toList = c0 :: (leb 8 n ++ (c9 :: c10 :: (s.extract 11 s.size).data.toList)) by rw [← pN8 hN x8.out]; exact hl.out)
  have hr1 := hid R.out.lt
  clear q1 hN x8
  go_wp2_with fail
  refine (some_ref (s.extract 11 s.size) _ x11.out).mono ?_
  rintro e w2 ⟨⟨so, sc, a, r1, ok1, rfl, VA, hA⟩, q2⟩
  replace R := hid (R.out.below q2 R.out.lt)
  replace bw := hid (bw.out.trans (q2.mono bw.out.size))
  have xr1 : r1.size ≤ 16777216 := by
    rcases hA with ⟨_, h⟩ | ⟨_, _, _, _, rfl, _⟩
    · have := congrArg List.length (pL_of h).1
      rw [List.length_append, len_size, len_size] at this
      have := x11.out
      omega
    · decide
  replace VA := hid VA
  replace hA := hid hA
  have hr2' := hid R.out.lt
  clear q2 x11
  go_wp2_with fail
  refine (some_ref r1 _ xr1).mono ?_
  rintro e w3 ⟨⟨tp, tc, b, r2, ok2, rfl, VB, hB⟩, q3⟩
  replace R := hid (R.out.below q3 R.out.lt)
  replace bw := hid (bw.out.trans (q3.mono bw.out.size))
  replace VA := hid (ownsRow_below VA.out q3)
  replace VB := hid VB
  replace hB := hid hB
  clear q3 xr1
  have hparts := hid (show ∀ r', repR r' → repN r' → repE r' = s.data.toList → ok1 = true ∧ ok2 = true ∧ r2.toList.isEmpty = true from fun r' hr' hn' e => by
    rw [hl.out] at e
    have hT := (rep_parts e).2
    have p1 := pL_E r'.ids (lE r'.errs) hr'.2.2.1
    rw [← hT] at p1
    rcases hA.out with ⟨h1, h⟩ | ⟨_, _, _, _, _, h⟩
    · rw [p1] at h
      simp only [Option.some.injEq, Prod.mk.injEq] at h
      have p2 := pL_E r'.errs [] hr'.2.2.2
      rw [List.append_nil, h.2] at p2
      rcases hB.out with ⟨h2, g⟩ | ⟨_, _, _, _, _, g⟩
      · rw [p2] at g
        simp only [Option.some.injEq, Prod.mk.injEq] at g
        refine ⟨h1, h2, ?_⟩
        rw [ByteArray.toList_eq, ← g.2]; rfl
      · rw [p2] at g; cases g
    · rw [p1] at h; cases h)
  by_cases hgood : ok1 = true ∧ ok2 = true ∧ r2.toList.isEmpty = true
  case neg =>
    have hP := hid (show RepP s.data.toList repZ 14 from .inr ⟨rfl, rfl, fun r' hr' hn' e => hgood (hparts.out r' hr' hn' e)⟩)
    have hor : ok1 = false ∨ ok1 = true ∧ (ok2 = false ∨ ok2 = true ∧ r2.toList.isEmpty = false) := by
      cases ok1 <;> cases ok2 <;> cases h : r2.toList.isEmpty <;> simp_all
    clear hgood hparts hA hB hl e0 e9 e10 hg b0 b9 VA VB
    rcases hor with rfl | ⟨rfl, rfl | ⟨rfl, hne⟩⟩
    · have F1 := hid (R.out.row [.int .i64 0, .int .u64 0, .int .i64 0, .bool false, .slice none 0 0, .slice none 0 0])
      have F2 := hid (below_row bw.out hrb.out #[.int .i64 0, .int .u64 0, .int .i64 0, .bool false, .slice none 0 0, .slice none 0 0])
      go_upto_region 7 with fail
      refine wp_region_lit ?_
      refine wpList_build0 rfl 42 rfl #[.int .i64 0, .int .u64 0, .int .i64 0, .bool false, .slice none 0 0, .slice none 0 0] (by kernel_rfl) ?_
      refine wpList_store_row rfl 42 (.tmp 2) (.tmp 51) rfl rb #[.int .i64 0, .int .u64 0, .int .i64 0, .bool false, .slice none 0 0, .slice none 0 0] rfl rfl 42 _ R.out.at' (by kernel_rfl) rfl (by simp [Value.oneCell']) ?_
      generalize w3.setRow rb #[.int .i64 0, .int .u64 0, .int .i64 0, .bool false, .slice none 0 0, .slice none 0 0] = W3 at F1 F2 ⊢
      go_wp2_with fail
      refine bodyPost_ret (v := .tuple #[.agg #[.int .i64 0, .int .u64 0, .int .i64 0, .bool false, .slice none 0 0, .slice none 0 0], .int .i64 14]) (results_ct Try.results17 _ _ rb 42 _ (0, 0) _ rfl F1.out.at' Try.underlying42 rfl (by kernel_rfl)) rfl ?_
      exact ⟨⟨repZ, none, 0, none, 0, 14, rfl, SlV.nil _, SlV.nil _, ⟨by decide, by simp [repZ]⟩, ⟨by decide, by simp [repZ]⟩, (by show (0 : Nat) < 18446744073709551616; decide), hP.out⟩, F2.out⟩
    · have F1 := hid (R.out.row [.int .i64 0, .int .u64 0, .int .i64 0, .bool false, .slice none 0 0, .slice none 0 0])
      have F2 := hid (below_row bw.out hrb.out #[.int .i64 0, .int .u64 0, .int .i64 0, .bool false, .slice none 0 0, .slice none 0 0])
      go_upto_region 7 with fail
      refine wp_region_lit ?_
      refine wpList_build0 rfl 42 rfl #[.int .i64 0, .int .u64 0, .int .i64 0, .bool false, .slice none 0 0, .slice none 0 0] (by kernel_rfl) ?_
      refine wpList_store_row rfl 42 (.tmp 2) (.tmp 51) rfl rb #[.int .i64 0, .int .u64 0, .int .i64 0, .bool false, .slice none 0 0, .slice none 0 0] rfl rfl 42 _ R.out.at' (by kernel_rfl) rfl (by simp [Value.oneCell']) ?_
      generalize w3.setRow rb #[.int .i64 0, .int .u64 0, .int .i64 0, .bool false, .slice none 0 0, .slice none 0 0] = W3 at F1 F2 ⊢
      go_wp2_with fail
      refine bodyPost_ret (v := .tuple #[.agg #[.int .i64 0, .int .u64 0, .int .i64 0, .bool false, .slice none 0 0, .slice none 0 0], .int .i64 14]) (results_ct Try.results17 _ _ rb 42 _ (0, 0) _ rfl F1.out.at' Try.underlying42 rfl (by kernel_rfl)) rfl ?_
      exact ⟨⟨repZ, none, 0, none, 0, 14, rfl, SlV.nil _, SlV.nil _, ⟨by decide, by simp [repZ]⟩, ⟨by decide, by simp [repZ]⟩, (by show (0 : Nat) < 18446744073709551616; decide), hP.out⟩, F2.out⟩
    · have F1 := hid (R.out.row [.int .i64 0, .int .u64 0, .int .i64 0, .bool false, .slice none 0 0, .slice none 0 0])
      have F2 := hid (below_row bw.out hrb.out #[.int .i64 0, .int .u64 0, .int .i64 0, .bool false, .slice none 0 0, .slice none 0 0])
      go_upto_region 7 with fail
      refine wp_region_lit ?_
      refine wpList_build0 rfl 42 rfl #[.int .i64 0, .int .u64 0, .int .i64 0, .bool false, .slice none 0 0, .slice none 0 0] (by kernel_rfl) ?_
      refine wpList_store_row rfl 42 (.tmp 2) (.tmp 51) rfl rb #[.int .i64 0, .int .u64 0, .int .i64 0, .bool false, .slice none 0 0, .slice none 0 0] rfl rfl 42 _ R.out.at' (by kernel_rfl) rfl (by simp [Value.oneCell']) ?_
      generalize w3.setRow rb #[.int .i64 0, .int .u64 0, .int .i64 0, .bool false, .slice none 0 0, .slice none 0 0] = W3 at F1 F2 ⊢
      go_wp2_with fail
      refine bodyPost_ret (v := .tuple #[.agg #[.int .i64 0, .int .u64 0, .int .i64 0, .bool false, .slice none 0 0, .slice none 0 0], .int .i64 14]) (results_ct Try.results17 _ _ rb 42 _ (0, 0) _ rfl F1.out.at' Try.underlying42 rfl (by kernel_rfl)) rfl ?_
      exact ⟨⟨repZ, none, 0, none, 0, 14, rfl, SlV.nil _, SlV.nil _, ⟨by decide, by simp [repZ]⟩, ⟨by decide, by simp [repZ]⟩, (by show (0 : Nat) < 18446744073709551616; decide), hP.out⟩, F2.out⟩
  obtain ⟨rfl, rfl, hemp⟩ := hgood
  have hr2 : r2.data.toList = [] := by
    rw [ByteArray.toList_eq, List.isEmpty_iff] at hemp
    exact hemp
  have pa : pL (s.extract 11 s.size).data.toList = some (a, r1.data.toList) := by
    rcases hA.out with ⟨_, h⟩ | ⟨h, _⟩
    · exact h
    · cases h
  have pb : pL r1.data.toList = some (b, []) := by
    rcases hB.out with ⟨_, h⟩ | ⟨h, _⟩
    · rw [hr2] at h; exact h
    · cases h
  have fa := pL_of pa
  have fb := pL_of pb
  rw [fb.1, List.append_nil] at fa
  have hP := hid (show RepP s.data.toList (⟨(c0.toNat : Nat), n, (c9.toNat : Nat), ((c10.toNat : Int) == 1), a, b⟩ : Rep) 0 from .inl ⟨rfl, ⟨⟨by simp, by have := b0.out; show (c0.toNat : Int) ≤ 255; omega⟩, ⟨by simp, by have := b9.out; show (c9.toNat : Int) ≤ 255; omega⟩, fa.2, fb.2⟩, hn8.out, by
    rw [hl.out, fa.1]
    have hfl : fl ((c10.toNat : Int) == 1) = c10 := by
      apply u8_inj
      have := hg.out
      have h01 : c10.toNat = 0 ∨ c10.toNat = 1 := by omega
      rcases h01 with h | h <;> rw [h] <;> rfl
    show UInt8.ofNat ((c0.toNat : Int)).toNat :: (leb 8 n ++ (UInt8.ofNat ((c9.toNat : Int)).toNat :: (fl ((c10.toNat : Int) == 1) :: (lE a ++ lE b)))) = _
    rw [hfl]
    simp⟩)
  have LA := hid fa.2
  have LB := hid fb.2
  have F1 := hid (blk_stL rb 42 [.int .i64 (c0.toNat : Nat), .int .u64 (n : Nat), .int .i64 (c9.toNat : Nat), .bool ((c10.toNat : Int) == 1), .slice so a.length sc, .slice tp b.length tc] w3 [] [.int .i64 0, .int .u64 0, .int .i64 0, .bool false, .slice none 0 0, .slice none 0 0] 0 rfl rfl R.out).drew
  have F2 := hid (bel_stL hrb.out [.int .i64 (c0.toNat : Nat), .int .u64 (n : Nat), .int .i64 (c9.toNat : Nat), .bool ((c10.toNat : Int) == 1), .slice so a.length sc, .slice tp b.length tc] w3 0 bw.out).drew
  have VA2 := hid (show StrsV (stL w3 rb [.int .i64 (c0.toNat : Nat), .int .u64 (n : Nat), .int .i64 (c9.toNat : Nat), .bool ((c10.toNat : Int) == 1), .slice so a.length sc, .slice tp b.length tc] 0).drew (.slice so a.length sc) a from SlV.own (ownsRow_at VA.out fun g hg => heap_stL rb _ w3 0 g (by have := VA.out.lt g hg; have := hr1.out; omega)))
  have VB2 := hid (show StrsV (stL w3 rb [.int .i64 (c0.toNat : Nat), .int .u64 (n : Nat), .int .i64 (c9.toNat : Nat), .bool ((c10.toNat : Int) == 1), .slice so a.length sc, .slice tp b.length tc] 0).drew (.slice tp b.length tc) b from SlV.own (ownsRow_at VB.out fun g hg => heap_stL rb _ w3 0 g (by have := VB.out.lt g hg; have := hr2'.out; omega)))
  clear hA hB pa pb fa fb hl hparts hr2 VA VB hr1 hr2'
  go_upto_region 8 with fail
  have b4 : (9 : Int) < (s.size : Int) := by omega
  have b5 : (0 : Int) < (s.size : Int) := by omega
  obtain ⟨j0, j1, j2, j3, j4, j5, jf⟩ := sixc R.out
  go_region
  go_wp2_with fail
  have hw0 : wrap64 (s[0].toNat : Int) = (c0.toNat : Int) := by rw [e0.out]; have := b0.out; simp only [RowKit.wrap64]; omega
  have hw9 : wrap64 (s[9].toNat : Int) = (c9.toNat : Int) := by rw [e9.out]; have := b9.out; simp only [RowKit.wrap64]; omega
  rw [hw0, hw9, e10.out]
  have hW : ((((((w3.setCell ⟨rb, 0, none⟩ (.int .i64 (c0.toNat : Nat))).setCell ⟨rb, 1, none⟩ (.int .u64 (n : Nat))).setCell ⟨rb, 2, none⟩ (.int .i64 (c9.toNat : Nat))).setCell ⟨rb, 3, none⟩ (.bool ((c10.toNat : Int) == 1))).setCell ⟨rb, 4, none⟩ (.slice so a.length sc)).setCell ⟨rb, 5, none⟩ (.slice tp b.length tc)) = stL w3 rb [.int .i64 (c0.toNat : Nat), .int .u64 (n : Nat), .int .i64 (c9.toNat : Nat), .bool ((c10.toNat : Int) == 1), .slice so a.length sc, .slice tp b.length tc] 0 := rfl
  rw [hW]
  clear hW hw0 hw9 j0 j1 j2 j3 j4 j5 jf R bw
  generalize (stL w3 rb [.int .i64 (c0.toNat : Nat), .int .u64 (n : Nat), .int .i64 (c9.toNat : Nat), .bool ((c10.toNat : Int) == 1), .slice so a.length sc, .slice tp b.length tc] 0).drew = W3 at F1 F2 VA2 VB2 ⊢
  refine bodyPost_ret (v := .tuple #[.agg #[.int .i64 (c0.toNat : Nat), .int .u64 (n : Nat), .int .i64 (c9.toNat : Nat), .bool ((c10.toNat : Int) == 1), .slice so a.length sc, .slice tp b.length tc], .int .i64 0]) (results_ct Try.results17 _ _ rb 42 _ (0, 0) _ rfl F1.out.at' Try.underlying42 rfl (by kernel_rfl)) rfl ?_
  exact ⟨⟨⟨(c0.toNat : Nat), n, (c9.toNat : Nat), ((c10.toNat : Int) == 1), a, b⟩, so, sc, tp, tc, 0, rfl, VA2.out, VB2.out, LA.out, LB.out, hn8.out, hP.out⟩, F2.out⟩
end Go.Proofs.Ytldlkoiekdlmhaa.Wi
