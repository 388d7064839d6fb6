/-
  WireWhole: its walk.
-/
import Derived.Test.YtldlkoiekdlmhaaWireSame
namespace Go.Proofs.Ytldlkoiekdlmhaa.Wi
open Go.ChangeShapes Go.WideShapes Go.ChangeAt Go.RowKit
open Go.Proofs.Ytldlkoiekdlmhaa.Mem
open Go.Proofs.Ytldlkoiekdlmhaa.Crc hiding hid bt
set_option linter.unusedVariables false
set_option linter.unusedSimpArgs false
set_option maxRecDepth 100000
/-- no right request's bytes are the beginning of another one's -/
theorem askE_pre {a b : Ask} {t : List UInt8} (ha : askR a) (hb : askR b) (na : askN a) (nb : askN b) (h : askE b = askE a ++ t) : t = [] := by
  have h1 := pA_E b hb nb [] (fun _ => rfl)
  rw [List.append_nil, h] at h1
  by_cases k2 : a.k = 2
  · have hk : b.k = 2 := by
      have := congrArg List.head? h
      simp only [askE, List.cons_append, List.head?_cons, Option.some.injEq] at this
      have e := congrArg UInt8.toNat this
      rw [UInt8.toNat_ofNat', UInt8.toNat_ofNat', Nat.mod_eq_of_lt (by have := nb.1; omega), Nat.mod_eq_of_lt (by have := na.1; omega)] at e
      omega
    have hca : cR a.c := by have := ha.2.2.1; rwa [if_pos k2] at this
    have hcb : cR b.c := by have := hb.2.2.1; rwa [if_pos hk] at this
    have e1 : askE a = UInt8.ofNat a.k :: (leb 8 a.tx ++ packE [a.c]) := by unfold askE askT; rw [if_pos k2]
    have e2 : askE b = UInt8.ofNat b.k :: (leb 8 b.tx ++ packE [b.c]) := by unfold askE askT; rw [if_pos hk]
    rw [e1, e2, List.cons_append, List.append_assoc] at h
    have h3 := (List.cons.inj h).2
    have h4 := List.append_inj_right h3 (by rw [leb_len, leb_len])
    unfold packE at h4
    rw [List.cons_append] at h4
    have h5 := (List.cons.inj h4).2
    simp only [List.flatMap_cons, List.flatMap_nil, List.append_nil] at h5
    have h6 := pC_chE b.c [] hcb.2 (chR_k hcb.1)
    rw [List.append_nil, h5, pC_chE a.c t hca.2 (chR_k hca.1)] at h6
    simp only [Option.some.injEq, Prod.mk.injEq] at h6
    exact h6.2
  · rw [pA_E a ha na t (fun h => absurd h k2)] at h1
    simp only [Option.some.injEq, Prod.mk.injEq] at h1
    exact h1.2
theorem repE_pre {a b : Rep} {t : List UInt8} (ha : repR a) (hb : repR b) (na : repN a) (nb : repN b) (h : repE b = repE a ++ t) : t = [] := by
  have h1 := pR_E b hb nb []
  rw [List.append_nil, h, pR_E a ha na t] at h1
  simp only [Option.some.injEq, Prod.mk.injEq] at h1
  exact h1.2
theorem ask_len {a : Ask} (h : askR a) : (askE a).length ≤ 20000 := by
  unfold askE askT
  have hp : ∀ c, cR c → (packE [c]).length ≤ 8300 := fun c hc => by
    have := chE_len c hc.2
    simp [packE]; omega
  have hq : qS a → (qE a).length ≤ 16000 := fun ⟨h0, h1, h2, h3, h4, h5, h6⟩ => by
    unfold qE
    simp only [List.length_append, txt_len]; omega
  have hc := h.2.2.1
  have hs := h.2.2.2.2
  rw [List.length_cons]
  split
  · rename_i hk
    rw [if_pos hk] at hc
    have := hp _ hc
    rw [List.length_append, leb_len]; omega
  · split
    · rw [leb_len]; omega
    · split
      · rename_i hk
        rw [if_pos (.inl hk)] at hs
        have := hq hs; omega
      · split
        · rename_i hk
          rw [if_pos (.inr hk)] at hs
          have := hq hs
          rw [List.length_append, leb_len]; omega
        · simp
theorem lE_len {l : List ByteArray} (h : lR l) : (lE l).length ≤ 530000 := by
  unfold lE
  have key : ∀ l : List ByteArray, (∀ s ∈ l, s.size ≤ 2048) → (l.flatMap txt).length ≤ l.length * 2052 := by
    intro l
    induction l with
    | nil => simp
    | cons s l ih =>
      intro h
      have h1 := h s (by simp)
      have h2 := ih (fun x hx => h x (by simp [hx]))
      rw [List.flatMap_cons, List.length_append, txt_len, List.length_cons]; omega
  have h1 := key l h.2
  have h2 := h.1
  rw [List.length_cons]
  have h3 : l.length * 2052 ≤ 255 * 2052 := Nat.mul_le_mul_right _ h2
  omega
theorem rep_len {r : Rep} (h : repR r) : (repE r).length ≤ 1100000 := by
  unfold repE
  have h1 := lE_len h.2.2.1
  have h2 := lE_len h.2.2.2
  simp only [List.length_cons, List.length_append, leb_len]; omega
/-- one byte as a text -/
def b1 (c : Nat) : ByteArray := ⟨#[UInt8.ofNat c]⟩
theorem conv1 (w : World) (g c : Nat) (h : Blk w g [.int .u8 (c : Nat)] 5) : (convert 49 9 (.slice (some ⟨g, 0, none⟩) 1 1)).run Try.prog w = .ok (.string (b1 c)) w := by
  rw [run_convert_bytes_arg w 49 5 Try.underlying49 Try.underlying5 g 0 1 1 [(c : Int)] rfl ?_ 9 Try.underlying9]
  · simp [strOfNums, b1]
  · intro i hi
    obtain rfl : i = 0 := by omega
    simpa using h.cell 0 (by simp)
theorem app_list (a b : ByteArray) : (a ++ b).data.toList = a.data.toList ++ b.data.toList := by simp
/-- what ReadAsk answers of a request's bytes and one more, or cut short -/
theorem more_ask {a a1 : Ask} {c : Nat} {y : Int} (ha : askR a) (na : askN a) (h : AskP (bs (askE a) ++ b1 c).data.toList a1 y) : y = 14 := by
  rcases h with ⟨_, hr, hn, he⟩ | ⟨h, _⟩
  · rw [app_list, bs_list] at he
    have := askE_pre ha hr na hn he
    simp [b1] at this
  · exact h
theorem cut_ask {a a1 : Ask} {n : Nat} {y : Int} (ha : askR a) (na : askN a) (hn0 : n < (askE a).length) (h : AskP ((bs (askE a)).extract 0 n).data.toList a1 y) : y = 14 := by
  rcases h with ⟨_, hr, hn, he⟩ | ⟨h, _⟩
  · rw [ext_take, bs_list] at he
    have e : askE a = askE a1 ++ (askE a).drop n := by rw [he, List.take_append_drop]
    have := askE_pre hr ha hn na e
    have := congrArg List.length this
    rw [List.length_drop] at this
    simp at this; omega
  · exact h
theorem more_rep {a a1 : Rep} {c : Nat} {y : Int} (ha : repR a) (na : repN a) (h : RepP (bs (repE a) ++ b1 c).data.toList a1 y) : y = 14 := by
  rcases h with ⟨_, hr, hn, he⟩ | ⟨h, _⟩
  · rw [app_list, bs_list] at he
    have := repE_pre ha hr na hn he
    simp [b1] at this
  · exact h
theorem cut_rep {a a1 : Rep} {n : Nat} {y : Int} (ha : repR a) (na : repN a) (hn0 : n < (repE a).length) (h : RepP ((bs (repE a)).extract 0 n).data.toList a1 y) : y = 14 := by
  rcases h with ⟨_, hr, hn, he⟩ | ⟨h, _⟩
  · rw [ext_take, bs_list] at he
    have e : repE a = repE a1 ++ (repE a).drop n := by rw [he, List.take_append_drop]
    have := repE_pre hr ha hn na e
    have := congrArg List.length this
    rw [List.length_drop] at this
    simp at this; omega
  · exact h
set_option maxHeartbeats 16000000 in
theorem whole_walk (a : Ask) (r : Rep) (so to : Option Addr) (sc tc : Nat) (at' m : Int) (w : World) (ha : askF a) (hV1 : StrsV w (.slice so r.ids.length sc) r.ids) (hV2 : StrsV w (.slice to r.errs.length tc) r.errs) (hn : repN r) (hl1 : r.ids.length ≤ 1048576) (hl2 : r.errs.length ≤ 1048576) (hm : repT r ≤ 90000000) (hat : (Lit.int .i64 at').wf = true) (hmm : (Lit.int .u8 m).wf = true) :
    Calls Try.prog 6 #[.agg #[.int .u8 (a.k : Nat), .int .u64 (a.tx : Nat), .int .u8 (a.c.k : Nat), .string a.c.i, .string a.c.t, .string a.c.ut, .string a.c.ui, .int .u64 (a.v : Nat), .string a.s0, .string a.s1, .string a.s2, .string a.s3, .string a.s4, .string a.s5, .string a.s6], .agg #[.int .i64 r.why, .int .u64 (r.n : Nat), .int .i64 r.place, .bool r.allow, .slice so r.ids.length sc, .slice to r.errs.length tc], .int .i64 at', .int .u8 m] w fun e w' => e = .returned (.bool true) ∧ Below w.heap.size w w' := by
  obtain ⟨c, rfl, hc256⟩ := nat_u8 hmm
  have hati := bounds_i64 hat
  have v1 := hid (fun W (b : Below w.heap.size w W) => hV1.below b)
  have v2 := hid (fun W (b : Below w.heap.size w W) => hV2.below b)
  clear hat hmm hV1 hV2
  go_enter Try.func6, Try.ntmps6
  go_upto_region 1 with fail
  have K := hid ((Blk.new w [.int .u8 (a.k : Nat), .int .u64 (a.tx : Nat), .int .u8 (a.c.k : Nat), .string a.c.i, .string a.c.t, .string a.c.ut, .string a.c.ui, .int .u64 (a.v : Nat), .string a.s0, .string a.s1, .string a.s2, .string a.s3, .string a.s4, .string a.s5, .string a.s6] 30).alloc (.cells #[.int .i64 r.why, .int .u64 (r.n : Nat), .int .i64 r.place, .bool r.allow, .slice so r.ids.length sc, .slice to r.errs.length tc] 42))
  have J := hid (Blk.new' (w.alloc (.cells #[.int .u8 (a.k : Nat), .int .u64 (a.tx : Nat), .int .u8 (a.c.k : Nat), .string a.c.i, .string a.c.t, .string a.c.ut, .string a.c.ui, .int .u64 (a.v : Nat), .string a.s0, .string a.s1, .string a.s2, .string a.s3, .string a.s4, .string a.s5, .string a.s6] 30)) [.int .i64 r.why, .int .u64 (r.n : Nat), .int .i64 r.place, .bool r.allow, .slice so r.ids.length sc, .slice to r.errs.length tc] 42 (w.heap.size + 1) (by simp))
  have bw := hid (((Below.refl w.heap.size w).alloc (Nat.le_refl _) (.cells #[.int .u8 (a.k : Nat), .int .u64 (a.tx : Nat), .int .u8 (a.c.k : Nat), .string a.c.i, .string a.c.t, .string a.c.ut, .string a.c.ui, .int .u64 (a.v : Nat), .string a.s0, .string a.s1, .string a.s2, .string a.s3, .string a.s4, .string a.s5, .string a.s6] 30)).alloc (by simp) (.cells #[.int .i64 r.why, .int .u64 (r.n : Nat), .int .i64 r.place, .bool r.allow, .slice so r.ids.length sc, .slice to r.errs.length tc] 42))
  change Hid (Blk ((w.alloc (.cells #[.int .u8 (a.k : Nat), .int .u64 (a.tx : Nat), .int .u8 (a.c.k : Nat), .string a.c.i, .string a.c.t, .string a.c.ut, .string a.c.ui, .int .u64 (a.v : Nat), .string a.s0, .string a.s1, .string a.s2, .string a.s3, .string a.s4, .string a.s5, .string a.s6] 30)).alloc (.cells #[.int .i64 r.why, .int .u64 (r.n : Nat), .int .i64 r.place, .bool r.allow, .slice so r.ids.length sc, .slice to r.errs.length tc] 42)) _ _ _) at K
  change Hid (Blk ((w.alloc (.cells #[.int .u8 (a.k : Nat), .int .u64 (a.tx : Nat), .int .u8 (a.c.k : Nat), .string a.c.i, .string a.c.t, .string a.c.ut, .string a.c.ui, .int .u64 (a.v : Nat), .string a.s0, .string a.s1, .string a.s2, .string a.s3, .string a.s4, .string a.s5, .string a.s6] 30)).alloc (.cells #[.int .i64 r.why, .int .u64 (r.n : Nat), .int .i64 r.place, .bool r.allow, .slice so r.ids.length sc, .slice to r.errs.length tc] 42)) _ _ _) at J
  generalize (w.alloc (.cells #[.int .u8 (a.k : Nat), .int .u64 (a.tx : Nat), .int .u8 (a.c.k : Nat), .string a.c.i, .string a.c.t, .string a.c.ut, .string a.c.ui, .int .u64 (a.v : Nat), .string a.s0, .string a.s1, .string a.s2, .string a.s3, .string a.s4, .string a.s5, .string a.s6] 30)).alloc (.cells #[.int .i64 r.why, .int .u64 (r.n : Nat), .int .i64 r.place, .bool r.allow, .slice so r.ids.length sc, .slice to r.errs.length tc] 42) = X at K J bw ⊢
  obtain ⟨pb, hpb⟩ : ∃ pb, w.heap.size = pb := ⟨_, rfl⟩
  obtain ⟨qb, hqb⟩ : ∃ qb, w.heap.size + 1 = qb := ⟨_, rfl⟩
  rw [hqb] at J ⊢
  rw [hpb] at K ⊢
  clear hpb hqb
  go_wp2_with fail
  refine (wlives_any _).mono ?_
  rintro e w1' ⟨rfl, q1⟩
  replace K := hid (K.out.below q1 K.out.lt)
  replace J := hid (J.out.below q1 J.out.lt)
  replace bw := hid (bw.out.trans (q1.mono bw.out.size))
  clear q1
  obtain ⟨k0, k1, k2, k3, k4, k5, k6, k7, k8, k9, k10, k11, k12, k13, k14, kf⟩ := fifteen K.out
  go_wp2_with fail
  refine (writeask_any a w1' ha).mono ?_
  rintro e w2 ⟨⟨s, z, rfl, hz⟩, q2⟩
  replace J := hid (J.out.below q2 J.out.lt)
  replace bw := hid (bw.out.trans (q2.mono bw.out.size))
  replace hz := hid hz
  clear q2 k0 k1 k2 k3 k4 k5 k6 k7 k8 k9 k10 k11 k12 k13 k14 kf K
  by_cases h0 : z = 0
  case neg =>
    have h0b : (z == 0) = false := by simpa using h0
    clear hz
    as_aux_lemma =>
    have vv1 := v1.out w2 bw.out
    have vv2 := v2.out w2 bw.out
    obtain ⟨j0, j1, j2, j3, j4, j5, jf⟩ := sixc J.out
    go_wp2_with fail
    refine (writereply_any r so to sc tc w2 vv1 vv2 hn hl1 hl2 hm).mono ?_
    rintro e w7 ⟨⟨t, y, rfl, hy⟩, q7⟩
    replace bw := hid (bw.out.trans (q7.mono bw.out.size))
    clear q7 j0 j1 j2 j3 j4 j5 jf J vv1 vv2 v1 v2
    rcases hy with ⟨rfl, hr, ht⟩ | ⟨rfl, _, rfl⟩
    case inr =>
      go_wp2_with fail
      go_ret
      exact ⟨rfl, bw.out⟩
    have hlen := rep_len hr
    obtain ⟨M, hM⟩ : ∃ M, (repE r).length = M := ⟨_, rfl⟩
    have htz : t.size = M := by rw [ht, bs_size, hM]
    rw [hM] at hlen
    have h14 := hid (show ∀ r1 y, RepP (t ++ b1 c).data.toList r1 y → y = 14 from fun r1 y h => more_rep hr hn (by rw [← ht]; exact h))
    have hcut := hid (show ∀ (n : Nat) r1 y, n < M → RepP (t.extract 0 n).data.toList r1 y → y = 14 from fun n r1 y hl h => cut_rep hr hn (by rw [hM]; exact hl) (by rw [← ht]; exact h))
    have hMi : (M : Int) ≤ 1100000 := by omega
    clear ht hM hr
    have hsum : ¬ 9223372036854775807 < t.size + 1 := by omega
    have hb1 : (b1 c).size = 1 := rfl
    go_wp2_with fail
    rw [conv1 _ _ _ (Blk.new w7 [.int .u8 (c : Nat)] 5)]
    go_wp2_with fail
    refine (readreply_any (t ++ b1 c) _ (by simp [hb1, htz]; omega)).mono ?_
    rintro e w8 ⟨⟨r1, so1, sc1, to1, tc1, y1, rfl, -, -, -, -, -, hP⟩, q8⟩
    obtain rfl := h14.out r1 y1 hP
    have q9 := q8.mono (show w7.heap.size ≤ _ by simp)
    replace bw := hid ((bw.out.alloc bw.out.size (.cells #[.int .u8 (c : Nat)] 5)).trans (q8.mono (by have := bw.out.size; simp; omega)))
    clear q8 q9 hP h14
    go_upto_region 16 with fail
    replace bw := hid (bw.out.alloc bw.out.size (.cells #[.int .i64 r1.why, .int .u64 (r1.n : Nat), .int .i64 r1.place, .bool r1.allow, .slice so1 r1.ids.length sc1, .slice to1 r1.errs.length tc1] 42))
    generalize w8.alloc (.cells #[.int .i64 r1.why, .int .u64 (r1.n : Nat), .int .i64 r1.place, .bool r1.allow, .slice so1 r1.ids.length sc1, .slice to1 r1.errs.length tc1] 42) = X9 at bw ⊢
    by_cases hB : 0 ≤ at' ∧ at' < (M : Int)
    · obtain ⟨n, rfl⟩ : ∃ n : Nat, at' = n := ⟨at'.toNat, by omega⟩
      have hnM : n < M := by omega
      have hnt : n ≤ t.size := by omega
      have i1 : ¬ (n : Int) < 0 := by omega
      have i2 : ¬ (M : Int) ≤ (n : Int) := by omega
      have i3 : ¬ ((t.size : Nat) : Int) ≤ (n : Int) := by omega
      have i4 : ¬ t.size ≤ n := by omega
      have i5 : (n : Int) ≤ (t.size : Int) := by omega
      go_wp2_with fail
      refine (readreply_any (t.extract 0 n) _ (by rw [← len_size, ext_take, List.length_take, len_size]; omega)).mono ?_
      rintro e w8 ⟨⟨r2, so2, sc2, to2, tc2, y2, rfl, -, -, -, -, -, hP⟩, q8⟩
      obtain rfl := hcut.out n r2 y2 hnM hP
      replace bw := hid (bw.out.trans (q8.mono bw.out.size))
      clear q8 hP hcut
      go_upto_region 19 with fail
      replace bw := hid (bw.out.alloc bw.out.size (.cells #[.int .i64 r2.why, .int .u64 (r2.n : Nat), .int .i64 r2.place, .bool r2.allow, .slice so2 r2.ids.length sc2, .slice to2 r2.errs.length tc2] 42))
      generalize w8.alloc (.cells #[.int .i64 r2.why, .int .u64 (r2.n : Nat), .int .i64 r2.place, .bool r2.allow, .slice so2 r2.ids.length sc2, .slice to2 r2.errs.length tc2] 42) = X10 at bw ⊢
      go_wp2_with fail
      go_ret
      exact ⟨rfl, bw.out⟩
    · have hB2 : at' < 0 ∨ ¬ at' < 0 ∧ (M : Int) ≤ at' := by omega
      clear hB hcut
      rcases hB2 with i1 | ⟨i1, i2⟩
      · go_wp2_with fail
        go_ret
        exact ⟨rfl, bw.out⟩
      · have i3 : ((t.size : Nat) : Int) ≤ at' := by omega
        go_wp2_with fail
        go_ret
        exact ⟨rfl, bw.out⟩
  subst h0
  obtain ⟨hra, hs⟩ : askR a ∧ s = bs (askE a) := by
    rcases hz.out with ⟨_, h, e⟩ | ⟨h, _⟩
    · exact ⟨h, e⟩
    · exact absurd h (by decide)
  clear hz
  have hlen := ask_len hra
  obtain ⟨N, hN⟩ : ∃ N, (askE a).length = N := ⟨_, rfl⟩
  have hsz : s.size = N := by rw [hs, bs_size, hN]
  rw [hN] at hlen
  have h14 := hid (show ∀ a1 y, AskP (s ++ b1 c).data.toList a1 y → y = 14 from fun a1 y h => more_ask hra ha.1 (by rw [← hs]; exact h))
  have hcut := hid (show ∀ (n : Nat) a1 y, n < N → AskP (s.extract 0 n).data.toList a1 y → y = 14 from fun n a1 y hl h => cut_ask hra ha.1 (by rw [hN]; exact hl) (by rw [← hs]; exact h))
  have hNi : (N : Int) ≤ 20000 := by omega
  clear hs hN hra ha
  have hsum : ¬ 9223372036854775807 < s.size + 1 := by omega
  have hb1 : (b1 c).size = 1 := rfl
  go_wp2_with fail
  rw [conv1 _ _ _ (Blk.new w2 [.int .u8 (c : Nat)] 5)]
  go_wp2_with fail
  refine (readask_any (s ++ b1 c) _ (by simp [hb1, hsz]; omega)).mono ?_
  rintro e w3 ⟨⟨a1, y1, rfl, -, hP⟩, q3⟩
  obtain rfl := h14.out a1 y1 hP
  replace J := hid ((J.out.alloc (.cells #[.int .u8 (c : Nat)] 5)).below q3 (J.out.alloc _).lt)
  replace bw := hid ((bw.out.alloc bw.out.size (.cells #[.int .u8 (c : Nat)] 5)).trans (q3.mono (by have := bw.out.size; simp; omega)))
  clear q3 hP h14 hsum
  go_upto_region 6 with fail
  replace J := hid (J.out.alloc (.cells #[.int .u8 (a1.k : Nat), .int .u64 (a1.tx : Nat), .int .u8 (a1.c.k : Nat), .string a1.c.i, .string a1.c.t, .string a1.c.ut, .string a1.c.ui, .int .u64 (a1.v : Nat), .string a1.s0, .string a1.s1, .string a1.s2, .string a1.s3, .string a1.s4, .string a1.s5, .string a1.s6] 30))
  replace bw := hid (bw.out.alloc bw.out.size (.cells #[.int .u8 (a1.k : Nat), .int .u64 (a1.tx : Nat), .int .u8 (a1.c.k : Nat), .string a1.c.i, .string a1.c.t, .string a1.c.ut, .string a1.c.ui, .int .u64 (a1.v : Nat), .string a1.s0, .string a1.s1, .string a1.s2, .string a1.s3, .string a1.s4, .string a1.s5, .string a1.s6] 30))
  generalize w3.alloc (.cells #[.int .u8 (a1.k : Nat), .int .u64 (a1.tx : Nat), .int .u8 (a1.c.k : Nat), .string a1.c.i, .string a1.c.t, .string a1.c.ut, .string a1.c.ui, .int .u64 (a1.v : Nat), .string a1.s0, .string a1.s1, .string a1.s2, .string a1.s3, .string a1.s4, .string a1.s5, .string a1.s6] 30) = X4 at J bw ⊢
  by_cases hB : 0 ≤ at' ∧ at' < (N : Int)
  · obtain ⟨n, rfl⟩ : ∃ n : Nat, at' = n := ⟨at'.toNat, by omega⟩
    have hnM : n < N := by omega
    have hnt : n ≤ s.size := by omega
    have i1 : (0 : Int) ≤ (n : Int) := by omega
    have i2 : (n : Int) < (N : Int) := by omega
    have i3 : (n : Int) < ((s.size : Nat) : Int) := by omega
    have i4 : n < s.size := by omega
    have i5 : (n : Int) ≤ (s.size : Int) := by omega
    go_wp2_with fail
    refine (readask_any (s.extract 0 n) _ (by rw [← len_size, ext_take, List.length_take, len_size]; omega)).mono ?_
    rintro e w5 ⟨⟨a2, y2, rfl, -, hP⟩, q5⟩
    obtain rfl := hcut.out n a2 y2 hnM hP
    replace J := hid (J.out.below q5 J.out.lt)
    replace bw := hid (bw.out.trans (q5.mono bw.out.size))
    clear q5 hP hcut i1 i2 i3 i4 i5
    go_upto_region 10 with fail
    replace J := hid (J.out.alloc (.cells #[.int .u8 (a2.k : Nat), .int .u64 (a2.tx : Nat), .int .u8 (a2.c.k : Nat), .string a2.c.i, .string a2.c.t, .string a2.c.ut, .string a2.c.ui, .int .u64 (a2.v : Nat), .string a2.s0, .string a2.s1, .string a2.s2, .string a2.s3, .string a2.s4, .string a2.s5, .string a2.s6] 30))
    replace bw := hid (bw.out.alloc bw.out.size (.cells #[.int .u8 (a2.k : Nat), .int .u64 (a2.tx : Nat), .int .u8 (a2.c.k : Nat), .string a2.c.i, .string a2.c.t, .string a2.c.ut, .string a2.c.ui, .int .u64 (a2.v : Nat), .string a2.s0, .string a2.s1, .string a2.s2, .string a2.s3, .string a2.s4, .string a2.s5, .string a2.s6] 30))
    generalize w5.alloc (.cells #[.int .u8 (a2.k : Nat), .int .u64 (a2.tx : Nat), .int .u8 (a2.c.k : Nat), .string a2.c.i, .string a2.c.t, .string a2.c.ut, .string a2.c.ui, .int .u64 (a2.v : Nat), .string a2.s0, .string a2.s1, .string a2.s2, .string a2.s3, .string a2.s4, .string a2.s5, .string a2.s6] 30) = X6 at J bw ⊢
    obtain ⟨at', hat'⟩ : ∃ x : Int, (n : Int) = x := ⟨_, rfl⟩
    rw [hat'] at hati hB ⊢
    clear hat' hnM hnt hB hsz hlen hNi
    as_aux_lemma =>
    have vv1 := v1.out X6 bw.out
    have vv2 := v2.out X6 bw.out
    obtain ⟨j0, j1, j2, j3, j4, j5, jf⟩ := sixc J.out
    go_wp2_with fail
    refine (writereply_any r so to sc tc X6 vv1 vv2 hn hl1 hl2 hm).mono ?_
    rintro e w7 ⟨⟨t, y, rfl, hy⟩, q7⟩
    replace bw := hid (bw.out.trans (q7.mono bw.out.size))
    clear q7 j0 j1 j2 j3 j4 j5 jf J vv1 vv2 v1 v2
    rcases hy with ⟨rfl, hr, ht⟩ | ⟨rfl, _, rfl⟩
    case inr =>
      go_wp2_with fail
      go_ret
      exact ⟨rfl, bw.out⟩
    have hlen := rep_len hr
    obtain ⟨M, hM⟩ : ∃ M, (repE r).length = M := ⟨_, rfl⟩
    have htz : t.size = M := by rw [ht, bs_size, hM]
    rw [hM] at hlen
    have h14 := hid (show ∀ r1 y, RepP (t ++ b1 c).data.toList r1 y → y = 14 from fun r1 y h => more_rep hr hn (by rw [← ht]; exact h))
    have hcut := hid (show ∀ (n : Nat) r1 y, n < M → RepP (t.extract 0 n).data.toList r1 y → y = 14 from fun n r1 y hl h => cut_rep hr hn (by rw [hM]; exact hl) (by rw [← ht]; exact h))
    have hMi : (M : Int) ≤ 1100000 := by omega
    clear ht hM hr
    have hsum : ¬ 9223372036854775807 < t.size + 1 := by omega
    have hb1 : (b1 c).size = 1 := rfl
    go_wp2_with fail
    rw [conv1 _ _ _ (Blk.new w7 [.int .u8 (c : Nat)] 5)]
    go_wp2_with fail
    refine (readreply_any (t ++ b1 c) _ (by simp [hb1, htz]; omega)).mono ?_
    rintro e w8 ⟨⟨r1, so1, sc1, to1, tc1, y1, rfl, -, -, -, -, -, hP⟩, q8⟩
    obtain rfl := h14.out r1 y1 hP
    have q9 := q8.mono (show w7.heap.size ≤ _ by simp)
    replace bw := hid ((bw.out.alloc bw.out.size (.cells #[.int .u8 (c : Nat)] 5)).trans (q8.mono (by have := bw.out.size; simp; omega)))
    clear q8 q9 hP h14
    go_upto_region 16 with fail
    replace bw := hid (bw.out.alloc bw.out.size (.cells #[.int .i64 r1.why, .int .u64 (r1.n : Nat), .int .i64 r1.place, .bool r1.allow, .slice so1 r1.ids.length sc1, .slice to1 r1.errs.length tc1] 42))
    generalize w8.alloc (.cells #[.int .i64 r1.why, .int .u64 (r1.n : Nat), .int .i64 r1.place, .bool r1.allow, .slice so1 r1.ids.length sc1, .slice to1 r1.errs.length tc1] 42) = X9 at bw ⊢
    by_cases hB : 0 ≤ at' ∧ at' < (M : Int)
    · obtain ⟨n, rfl⟩ : ∃ n : Nat, at' = n := ⟨at'.toNat, by omega⟩
      have hnM : n < M := by omega
      have hnt : n ≤ t.size := by omega
      have i1 : ¬ (n : Int) < 0 := by omega
      have i2 : ¬ (M : Int) ≤ (n : Int) := by omega
      have i3 : ¬ ((t.size : Nat) : Int) ≤ (n : Int) := by omega
      have i4 : ¬ t.size ≤ n := by omega
      have i5 : (n : Int) ≤ (t.size : Int) := by omega
      go_wp2_with fail
      refine (readreply_any (t.extract 0 n) _ (by rw [← len_size, ext_take, List.length_take, len_size]; omega)).mono ?_
      rintro e w8 ⟨⟨r2, so2, sc2, to2, tc2, y2, rfl, -, -, -, -, -, hP⟩, q8⟩
      obtain rfl := hcut.out n r2 y2 hnM hP
      replace bw := hid (bw.out.trans (q8.mono bw.out.size))
      clear q8 hP hcut
      go_upto_region 19 with fail
      replace bw := hid (bw.out.alloc bw.out.size (.cells #[.int .i64 r2.why, .int .u64 (r2.n : Nat), .int .i64 r2.place, .bool r2.allow, .slice so2 r2.ids.length sc2, .slice to2 r2.errs.length tc2] 42))
      generalize w8.alloc (.cells #[.int .i64 r2.why, .int .u64 (r2.n : Nat), .int .i64 r2.place, .bool r2.allow, .slice so2 r2.ids.length sc2, .slice to2 r2.errs.length tc2] 42) = X10 at bw ⊢
      go_wp2_with fail
      go_ret
      exact ⟨rfl, bw.out⟩
    · have hB2 : at' < 0 ∨ ¬ at' < 0 ∧ (M : Int) ≤ at' := by omega
      clear hB hcut
      rcases hB2 with i1 | ⟨i1, i2⟩
      · go_wp2_with fail
        go_ret
        exact ⟨rfl, bw.out⟩
      · have i3 : ((t.size : Nat) : Int) ≤ at' := by omega
        go_wp2_with fail
        go_ret
        exact ⟨rfl, bw.out⟩
  · have hB2 : ¬ 0 ≤ at' ∨ 0 ≤ at' ∧ ¬ at' < (N : Int) := by omega
    clear hB hcut
    rcases hB2 with i1 | ⟨i1, i2⟩
    · clear hNi hlen hsz
      as_aux_lemma =>
      have vv1 := v1.out X4 bw.out
      have vv2 := v2.out X4 bw.out
      obtain ⟨j0, j1, j2, j3, j4, j5, jf⟩ := sixc J.out
      go_wp2_with fail
      refine (writereply_any r so to sc tc X4 vv1 vv2 hn hl1 hl2 hm).mono ?_
      rintro e w7 ⟨⟨t, y, rfl, hy⟩, q7⟩
      replace bw := hid (bw.out.trans (q7.mono bw.out.size))
      clear q7 j0 j1 j2 j3 j4 j5 jf J vv1 vv2 v1 v2
      rcases hy with ⟨rfl, hr, ht⟩ | ⟨rfl, _, rfl⟩
      case inr =>
        go_wp2_with fail
        go_ret
        exact ⟨rfl, bw.out⟩
      have hlen := rep_len hr
      obtain ⟨M, hM⟩ : ∃ M, (repE r).length = M := ⟨_, rfl⟩
      have htz : t.size = M := by rw [ht, bs_size, hM]
      rw [hM] at hlen
      have h14 := hid (show ∀ r1 y, RepP (t ++ b1 c).data.toList r1 y → y = 14 from fun r1 y h => more_rep hr hn (by rw [← ht]; exact h))
      have hcut := hid (show ∀ (n : Nat) r1 y, n < M → RepP (t.extract 0 n).data.toList r1 y → y = 14 from fun n r1 y hl h => cut_rep hr hn (by rw [hM]; exact hl) (by rw [← ht]; exact h))
      have hMi : (M : Int) ≤ 1100000 := by omega
      clear ht hM hr
      have hsum : ¬ 9223372036854775807 < t.size + 1 := by omega
      have hb1 : (b1 c).size = 1 := rfl
      go_wp2_with fail
      rw [conv1 _ _ _ (Blk.new w7 [.int .u8 (c : Nat)] 5)]
      go_wp2_with fail
      refine (readreply_any (t ++ b1 c) _ (by simp [hb1, htz]; omega)).mono ?_
      rintro e w8 ⟨⟨r1, so1, sc1, to1, tc1, y1, rfl, -, -, -, -, -, hP⟩, q8⟩
      obtain rfl := h14.out r1 y1 hP
      have q9 := q8.mono (show w7.heap.size ≤ _ by simp)
      replace bw := hid ((bw.out.alloc bw.out.size (.cells #[.int .u8 (c : Nat)] 5)).trans (q8.mono (by have := bw.out.size; simp; omega)))
      clear q8 q9 hP h14
      go_upto_region 16 with fail
      replace bw := hid (bw.out.alloc bw.out.size (.cells #[.int .i64 r1.why, .int .u64 (r1.n : Nat), .int .i64 r1.place, .bool r1.allow, .slice so1 r1.ids.length sc1, .slice to1 r1.errs.length tc1] 42))
      generalize w8.alloc (.cells #[.int .i64 r1.why, .int .u64 (r1.n : Nat), .int .i64 r1.place, .bool r1.allow, .slice so1 r1.ids.length sc1, .slice to1 r1.errs.length tc1] 42) = X9 at bw ⊢
      by_cases hB : 0 ≤ at' ∧ at' < (M : Int)
      · exfalso; omega
      · have hB2 : at' < 0 ∨ ¬ at' < 0 ∧ (M : Int) ≤ at' := by omega
        clear hB hcut
        rcases hB2 with i1 | ⟨i1, i2⟩
        · go_wp2_with fail
          go_ret
          exact ⟨rfl, bw.out⟩
        · have i3 : ((t.size : Nat) : Int) ≤ at' := by omega
          go_wp2_with fail
          go_ret
          exact ⟨rfl, bw.out⟩
    · have i3 : ¬ at' < ((s.size : Nat) : Int) := by omega
      clear hlen
      as_aux_lemma =>
      have vv1 := v1.out X4 bw.out
      have vv2 := v2.out X4 bw.out
      obtain ⟨j0, j1, j2, j3, j4, j5, jf⟩ := sixc J.out
      go_wp2_with fail
      refine (writereply_any r so to sc tc X4 vv1 vv2 hn hl1 hl2 hm).mono ?_
      rintro e w7 ⟨⟨t, y, rfl, hy⟩, q7⟩
      replace bw := hid (bw.out.trans (q7.mono bw.out.size))
      clear q7 j0 j1 j2 j3 j4 j5 jf J vv1 vv2 v1 v2
      rcases hy with ⟨rfl, hr, ht⟩ | ⟨rfl, _, rfl⟩
      case inr =>
        go_wp2_with fail
        go_ret
        exact ⟨rfl, bw.out⟩
      have hlen := rep_len hr
      obtain ⟨M, hM⟩ : ∃ M, (repE r).length = M := ⟨_, rfl⟩
      have htz : t.size = M := by rw [ht, bs_size, hM]
      rw [hM] at hlen
      have h14 := hid (show ∀ r1 y, RepP (t ++ b1 c).data.toList r1 y → y = 14 from fun r1 y h => more_rep hr hn (by rw [← ht]; exact h))
      have hcut := hid (show ∀ (n : Nat) r1 y, n < M → RepP (t.extract 0 n).data.toList r1 y → y = 14 from fun n r1 y hl h => cut_rep hr hn (by rw [hM]; exact hl) (by rw [← ht]; exact h))
      have hMi : (M : Int) ≤ 1100000 := by omega
      clear ht hM hr
      have hsum : ¬ 9223372036854775807 < t.size + 1 := by omega
      have hb1 : (b1 c).size = 1 := rfl
      go_wp2_with fail
      rw [conv1 _ _ _ (Blk.new w7 [.int .u8 (c : Nat)] 5)]
      go_wp2_with fail
      refine (readreply_any (t ++ b1 c) _ (by simp [hb1, htz]; omega)).mono ?_
      rintro e w8 ⟨⟨r1, so1, sc1, to1, tc1, y1, rfl, -, -, -, -, -, hP⟩, q8⟩
      obtain rfl := h14.out r1 y1 hP
      have q9 := q8.mono (show w7.heap.size ≤ _ by simp)
      replace bw := hid ((bw.out.alloc bw.out.size (.cells #[.int .u8 (c : Nat)] 5)).trans (q8.mono (by have := bw.out.size; simp; omega)))
      clear q8 q9 hP h14
      go_upto_region 16 with fail
      replace bw := hid (bw.out.alloc bw.out.size (.cells #[.int .i64 r1.why, .int .u64 (r1.n : Nat), .int .i64 r1.place, .bool r1.allow, .slice so1 r1.ids.length sc1, .slice to1 r1.errs.length tc1] 42))
      generalize w8.alloc (.cells #[.int .i64 r1.why, .int .u64 (r1.n : Nat), .int .i64 r1.place, .bool r1.allow, .slice so1 r1.ids.length sc1, .slice to1 r1.errs.length tc1] 42) = X9 at bw ⊢
      by_cases hB : 0 ≤ at' ∧ at' < (M : Int)
      · obtain ⟨n, rfl⟩ : ∃ n : Nat, at' = n := ⟨at'.toNat, by omega⟩
        have hnM : n < M := by omega
        have hnt : n ≤ t.size := by omega
        have i1 : ¬ (n : Int) < 0 := by omega
        have i2 : ¬ (M : Int) ≤ (n : Int) := by omega
        have i3 : ¬ ((t.size : Nat) : Int) ≤ (n : Int) := by omega
        have i4 : ¬ t.size ≤ n := by omega
        have i5 : (n : Int) ≤ (t.size : Int) := by omega
        go_wp2_with fail
        refine (readreply_any (t.extract 0 n) _ (by rw [← len_size, ext_take, List.length_take, len_size]; omega)).mono ?_
        rintro e w8 ⟨⟨r2, so2, sc2, to2, tc2, y2, rfl, -, -, -, -, -, hP⟩, q8⟩
        obtain rfl := hcut.out n r2 y2 hnM hP
        replace bw := hid (bw.out.trans (q8.mono bw.out.size))
        clear q8 hP hcut
        go_upto_region 19 with fail
        replace bw := hid (bw.out.alloc bw.out.size (.cells #[.int .i64 r2.why, .int .u64 (r2.n : Nat), .int .i64 r2.place, .bool r2.allow, .slice so2 r2.ids.length sc2, .slice to2 r2.errs.length tc2] 42))
        generalize w8.alloc (.cells #[.int .i64 r2.why, .int .u64 (r2.n : Nat), .int .i64 r2.place, .bool r2.allow, .slice so2 r2.ids.length sc2, .slice to2 r2.errs.length tc2] 42) = X10 at bw ⊢
        go_wp2_with fail
        go_ret
        exact ⟨rfl, bw.out⟩
      · have hB2 : at' < 0 ∨ ¬ at' < 0 ∧ (M : Int) ≤ at' := by omega
        clear hB hcut
        rcases hB2 with i1 | ⟨i1, i2⟩
        · go_wp2_with fail
          go_ret
          exact ⟨rfl, bw.out⟩
        · have i3 : ((t.size : Nat) : Int) ≤ at' := by omega
          go_wp2_with fail
          go_ret
          exact ⟨rfl, bw.out⟩
end Go.Proofs.Ytldlkoiekdlmhaa.Wi
