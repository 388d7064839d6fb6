/-
  wire's calls: contracts. Written by wip/wiretopgen.py.
-/
import Derived.Test.YtldlkoiekdlmhaaWireAsk2
import Derived.Test.YtldlkoiekdlmhaaWireAsk34
import Derived.Test.YtldlkoiekdlmhaaWireAsk5
import Derived.Test.YtldlkoiekdlmhaaWireAsk6
import Derived.Test.YtldlkoiekdlmhaaWireAsk0
import Derived.Test.YtldlkoiekdlmhaaPkPush2
namespace Go.Proofs.Ytldlkoiekdlmhaa.Wi
open Go.ChangeShapes Go.WideShapes Go.ChangeAt Go.RowKit
open Go.Proofs.Ytldlkoiekdlmhaa.Mem
open Go.Proofs.Ytldlkoiekdlmhaa.Crc hiding hid bt
set_option linter.unusedVariables false
set_option linter.unusedSimpArgs false
set_option maxRecDepth 100000
theorem rask_any (b : Nat) (o : Option (List UInt8)) (w : World) (h : Rd w b o) :
    Calls Try.prog 19 #[.iface 65 (.pointer (some ⟨b, 0, none⟩)), .agg #[.int .u8 0, .int .u64 0, .int .u8 0, .string ⟨#[]⟩, .string ⟨#[]⟩, .string ⟨#[]⟩, .string ⟨#[]⟩, .int .u64 0, .string ⟨#[]⟩, .string ⟨#[]⟩, .string ⟨#[]⟩, .string ⟨#[]⟩, .string ⟨#[]⟩, .string ⟨#[]⟩, .string ⟨#[]⟩]] w fun e w' => ∃ a' : Ask, e = .returned (.agg #[.int .u8 (a'.k : Nat), .int .u64 (a'.tx : Nat), .int .u8 (a'.c.k : Nat), .string a'.c.i, .string a'.c.t, .string a'.c.ut, .string a'.c.ui, .int .u64 (a'.v : Nat), .string a'.s0, .string a'.s1, .string a'.s2, .string a'.s3, .string a'.s4, .string a'.s5, .string a'.s6]) ∧ askF a' ∧ RdP w b pA o a' w' := by
  obtain ⟨s, wr, K, hs, rfl⟩ := h
  obtain ⟨n, hn, hsm⟩ := small_at b s wr hs
  by_cases h2 : n = 2
  · subst h2; exact rask2 b s wr w K hs hsm
  by_cases h3 : n = 3
  · subst h3; exact rask3 b s wr w K hs hsm
  by_cases h4 : n = 4
  · subst h4; exact rask4 b s wr w K hs hsm
  by_cases h5 : n = 5
  · subst h5; exact rask5 b s wr w K hs hsm
  by_cases h6 : n = 6
  · subst h6; exact rask6 b s wr w K hs hsm
  exact rask0 b s wr w K hs n hn h2 h3 h4 h5 h6 hsm
end Go.Proofs.Ytldlkoiekdlmhaa.Wi
namespace Go.Proofs.Ytldlkoiekdlmhaa.Wi
open Go.ChangeShapes Go.WideShapes Go.ChangeAt Go.RowKit
open Go.Proofs.Ytldlkoiekdlmhaa.Mem
open Go.Proofs.Ytldlkoiekdlmhaa.Lik (Kept)
open Go.Proofs.Ytldlkoiekdlmhaa.Crc hiding hid bt
set_option linter.unusedVariables false
set_option linter.unusedSimpArgs false
set_option maxRecDepth 100000
/-- what ReadAsk answers of bytes -/
def AskP (s : List UInt8) (a : Ask) (z : Int) : Prop := z = 0 ∧ askR a ∧ askN a ∧ askE a = s ∨ z = 14 ∧ a = askZ ∧ ∀ a', askR a' → askN a' → askE a' ≠ s
theorem askF_Z : askF askZ := ⟨⟨by decide, by decide, by decide, by decide⟩, chF1_zero, by decide, by decide, by decide, by decide, by decide, by decide, by decide⟩
theorem dn_iff {o : Option (List UInt8)} : dn o = true ↔ o = some [] := by unfold dn; simp
theorem ask_yes {s : List UInt8} {a : Ask} {o : Option (List UInt8)} (h : Res pA (some s) a o) (hd : dn o = true) (h1 : 1 ≤ a.k) (h8 : a.k ≤ 8) : AskP s a 0 := by
  rw [dn_iff] at hd
  obtain ⟨q1, q2⟩ := h
  simp only [Option.bind_some] at q1 q2
  cases hp : pA s with
  | none => rw [hp, hd] at q1; cases q1
  | some r =>
    rw [hp, hd] at q1
    have q3 := q2 r.1 r.2 hp
    have q4 : r.2 = [] := by simpa using q1.symm
    obtain ⟨e, hr, hn⟩ := pA_of (a := a) (t := []) (by rw [hp, show r = (a, []) from Prod.ext q3.symm q4]) h1 h8
    exact .inl ⟨rfl, hr, hn, by rw [e, List.append_nil]⟩
theorem ask_no {s : List UInt8} {a : Ask} {o : Option (List UInt8)} (h : Res pA (some s) a o) (hn : ¬ (dn o = true ∧ 1 ≤ a.k ∧ a.k ≤ 8)) : AskP s askZ 14 := by
  refine .inr ⟨rfl, rfl, fun a' hr hN e => hn ?_⟩
  obtain ⟨q1, q2⟩ := h
  have hp := pA_E a' hr hN [] (fun _ => rfl)
  rw [List.append_nil, e] at hp
  simp only [Option.bind_some] at q1 q2
  rw [hp] at q1
  rw [q2 _ _ hp]
  exact ⟨by rw [dn_iff, q1]; rfl, hr.1⟩
set_option maxHeartbeats 16000000 in
theorem readask_any (s : ByteArray) (w : World) (hs : s.size ≤ 16777216) :
    Calls Try.prog 11 #[.string s] w fun e w' => (∃ (a : Ask) (z : Int), e = .returned (.tuple #[.agg #[.int .u8 (a.k : Nat), .int .u64 (a.tx : Nat), .int .u8 (a.c.k : Nat), .string a.c.i, .string a.c.t, .string a.c.ut, .string a.c.ui, .int .u64 (a.v : Nat), .string a.s0, .string a.s1, .string a.s2, .string a.s3, .string a.s4, .string a.s5, .string a.s6], .int .i64 z]) ∧ askF a ∧ AskP s.data.toList a z) ∧ Below w.heap.size w w' := by
  go_enter Try.func11, Try.ntmps11
  go_upto_region 2 with fail
  have R := hid ((Blk.new w [.int .u8 0, .int .u64 0, .int .u8 0, .string ⟨#[]⟩, .string ⟨#[]⟩, .string ⟨#[]⟩, .string ⟨#[]⟩, .int .u64 0, .string ⟨#[]⟩, .string ⟨#[]⟩, .string ⟨#[]⟩, .string ⟨#[]⟩, .string ⟨#[]⟩, .string ⟨#[]⟩, .string ⟨#[]⟩] 30).alloc (.cells #[.string s, .bool false] 67))
  have D := hid (show Rd ((w.alloc (.cells #[.int .u8 0, .int .u64 0, .int .u8 0, .string ⟨#[]⟩, .string ⟨#[]⟩, .string ⟨#[]⟩, .string ⟨#[]⟩, .int .u64 0, .string ⟨#[]⟩, .string ⟨#[]⟩, .string ⟨#[]⟩, .string ⟨#[]⟩, .string ⟨#[]⟩, .string ⟨#[]⟩, .string ⟨#[]⟩] 30)).alloc (.cells #[.string s, .bool false] 67)) (w.heap.size + 1) (some s.data.toList) from ⟨s, false, Blk.new' _ [.string s, .bool false] 67 _ (by simp), hs, rfl⟩)
  have bw := hid (((Below.refl w.heap.size w).alloc (Nat.le_refl _) (.cells #[.int .u8 0, .int .u64 0, .int .u8 0, .string ⟨#[]⟩, .string ⟨#[]⟩, .string ⟨#[]⟩, .string ⟨#[]⟩, .int .u64 0, .string ⟨#[]⟩, .string ⟨#[]⟩, .string ⟨#[]⟩, .string ⟨#[]⟩, .string ⟨#[]⟩, .string ⟨#[]⟩, .string ⟨#[]⟩] 30)).alloc (by simp) (.cells #[.string s, .bool false] 67))
  change Hid (Blk ((w.alloc (.cells #[.int .u8 0, .int .u64 0, .int .u8 0, .string ⟨#[]⟩, .string ⟨#[]⟩, .string ⟨#[]⟩, .string ⟨#[]⟩, .int .u64 0, .string ⟨#[]⟩, .string ⟨#[]⟩, .string ⟨#[]⟩, .string ⟨#[]⟩, .string ⟨#[]⟩, .string ⟨#[]⟩, .string ⟨#[]⟩] 30)).alloc (.cells #[.string s, .bool false] 67)) _ _ _) at R
  generalize (w.alloc (.cells #[.int .u8 0, .int .u64 0, .int .u8 0, .string ⟨#[]⟩, .string ⟨#[]⟩, .string ⟨#[]⟩, .string ⟨#[]⟩, .int .u64 0, .string ⟨#[]⟩, .string ⟨#[]⟩, .string ⟨#[]⟩, .string ⟨#[]⟩, .string ⟨#[]⟩, .string ⟨#[]⟩, .string ⟨#[]⟩] 30)).alloc (.cells #[.string s, .bool false] 67) = X at R D bw ⊢
  obtain ⟨b, hb⟩ : ∃ b, w.heap.size + 1 = b := ⟨_, rfl⟩
  obtain ⟨rb, hrb⟩ : ∃ rb, w.heap.size = rb := ⟨_, rfl⟩
  rw [hb] at D ⊢
  have hbr := hid (show rb ≠ b ∧ w.heap.size ≤ rb ∧ w.heap.size ≤ b by omega)
  rw [hrb] at R ⊢
  clear hb hrb
  have hc := hid (rask_any b _ X D.out)
  go_wp2_with fail
  refine hc.out.mono ?_
  rintro e w1 ⟨a', rfl, hF, o1, r1, r2, r3⟩
  replace R := hid (R.out.but r3 R.out.lt hbr.out.1)
  replace bw := hid (bw.out.trans (r3.below hbr.out.2.2 bw.out.size))
  replace D := hid r1
  replace r2 := hid r2
  have hk := hF.1.1
  replace hF := hid hF
  clear hc r1 r3
  go_upto_region 3 with fail
  have K := hid (Blk.new w1 [.int .u8 (a'.k : Nat), .int .u64 (a'.tx : Nat), .int .u8 (a'.c.k : Nat), .string a'.c.i, .string a'.c.t, .string a'.c.ut, .string a'.c.ui, .int .u64 (a'.v : Nat), .string a'.s0, .string a'.s1, .string a'.s2, .string a'.s3, .string a'.s4, .string a'.s5, .string a'.s6] 30)
  replace R := hid (R.out.alloc (.cells #[.int .u8 (a'.k : Nat), .int .u64 (a'.tx : Nat), .int .u8 (a'.c.k : Nat), .string a'.c.i, .string a'.c.t, .string a'.c.ut, .string a'.c.ui, .int .u64 (a'.v : Nat), .string a'.s0, .string a'.s1, .string a'.s2, .string a'.s3, .string a'.s4, .string a'.s5, .string a'.s6] 30))
  replace D := hid (D.out.below ((Below.refl _ w1).alloc (Nat.le_refl _) (.cells #[.int .u8 (a'.k : Nat), .int .u64 (a'.tx : Nat), .int .u8 (a'.c.k : Nat), .string a'.c.i, .string a'.c.t, .string a'.c.ut, .string a'.c.ui, .int .u64 (a'.v : Nat), .string a'.s0, .string a'.s1, .string a'.s2, .string a'.s3, .string a'.s4, .string a'.s5, .string a'.s6] 30)))
  replace bw := hid (bw.out.alloc bw.out.size (.cells #[.int .u8 (a'.k : Nat), .int .u64 (a'.tx : Nat), .int .u8 (a'.c.k : Nat), .string a'.c.i, .string a'.c.t, .string a'.c.ut, .string a'.c.ui, .int .u64 (a'.v : Nat), .string a'.s0, .string a'.s1, .string a'.s2, .string a'.s3, .string a'.s4, .string a'.s5, .string a'.s6] 30))
  change Hid (Blk (w1.alloc (.cells #[.int .u8 (a'.k : Nat), .int .u64 (a'.tx : Nat), .int .u8 (a'.c.k : Nat), .string a'.c.i, .string a'.c.t, .string a'.c.ut, .string a'.c.ui, .int .u64 (a'.v : Nat), .string a'.s0, .string a'.s1, .string a'.s2, .string a'.s3, .string a'.s4, .string a'.s5, .string a'.s6] 30)) _ _ _) at K
  generalize w1.alloc (.cells #[.int .u8 (a'.k : Nat), .int .u64 (a'.tx : Nat), .int .u8 (a'.c.k : Nat), .string a'.c.i, .string a'.c.t, .string a'.c.ut, .string a'.c.ui, .int .u64 (a'.v : Nat), .string a'.s0, .string a'.s1, .string a'.s2, .string a'.s3, .string a'.s4, .string a'.s5, .string a'.s6] 30) = X1 at K R D bw ⊢
  obtain ⟨pb, hpb⟩ : ∃ pb, w1.heap.size = pb := ⟨_, rfl⟩
  rw [hpb] at K ⊢
  clear hpb
  have hc := hid (done_any b o1 X1 D.out)
  go_wp2_with fail
  refine hc.out.mono ?_
  rintro e w2 ⟨rfl, b2⟩
  replace K := hid (K.out.below b2 K.out.lt)
  replace R := hid (R.out.below b2 R.out.lt)
  replace bw := hid (bw.out.trans (b2.mono bw.out.size))
  clear b2 hc D
  have hki : (a'.k : Int) < 256 := by omega
  obtain ⟨k0, k1, k2, k3, k4, k5, k6, k7, k8, k9, k10, k11, k12, k13, k14, kf⟩ := fifteen K.out
  by_cases hgood : dn o1 = true ∧ 1 ≤ a'.k ∧ a'.k ≤ 8
  · as_aux_lemma =>
    have hP := hid (ask_yes r2.out hgood.1 hgood.2.1 hgood.2.2)
    have F1 := hid (R.out.row [.int .u8 (a'.k : Nat), .int .u64 (a'.tx : Nat), .int .u8 (a'.c.k : Nat), .string a'.c.i, .string a'.c.t, .string a'.c.ut, .string a'.c.ui, .int .u64 (a'.v : Nat), .string a'.s0, .string a'.s1, .string a'.s2, .string a'.s3, .string a'.s4, .string a'.s5, .string a'.s6])
    have F2 := hid (below_row bw.out hbr.out.2.1 #[.int .u8 (a'.k : Nat), .int .u64 (a'.tx : Nat), .int .u8 (a'.c.k : Nat), .string a'.c.i, .string a'.c.t, .string a'.c.ut, .string a'.c.ui, .int .u64 (a'.v : Nat), .string a'.s0, .string a'.s1, .string a'.s2, .string a'.s3, .string a'.s4, .string a'.s5, .string a'.s6])
    rw [hgood.1]
    have hh := hgood.2
    obtain ⟨kk, hkk⟩ : ∃ kk : Int, (a'.k : Int) = kk := ⟨_, rfl⟩
    have h1 : ¬ kk = 0 := by omega
    have h1b : (kk == 0) = false := by simpa using h1
    have h9 : ¬ (9 : Int) ≤ kk := by omega
    rw [hkk] at k0 K F1 F2 ⊢
    replace hkk := hid hkk
    clear hh
    clear hgood r2 bw hk hki
    go_upto_region 5 with fail
    refine wp_region_lit ?_
    refine wpList_load_row rfl 30 (.tmp 5) rfl pb rfl 30 _ (0, 0) _ K.out.at' Try.underlying30 rfl (by kernel_rfl) ?_
    refine wpList_store_row rfl 30 (.tmp 2) (.tmp 27) rfl rb #[.int .u8 kk, .int .u64 (a'.tx : Nat), .int .u8 (a'.c.k : Nat), .string a'.c.i, .string a'.c.t, .string a'.c.ut, .string a'.c.ui, .int .u64 (a'.v : Nat), .string a'.s0, .string a'.s1, .string a'.s2, .string a'.s3, .string a'.s4, .string a'.s5, .string a'.s6] rfl rfl 30 _ R.out.at' (by kernel_rfl) rfl (by simp [Value.oneCell']) ?_
    generalize w2.setRow rb #[.int .u8 kk, .int .u64 (a'.tx : Nat), .int .u8 (a'.c.k : Nat), .string a'.c.i, .string a'.c.t, .string a'.c.ut, .string a'.c.ui, .int .u64 (a'.v : Nat), .string a'.s0, .string a'.s1, .string a'.s2, .string a'.s3, .string a'.s4, .string a'.s5, .string a'.s6] = W3 at F1 F2 ⊢
    go_wp2_with fail
    refine bodyPost_ret (v := .tuple #[.agg #[.int .u8 kk, .int .u64 (a'.tx : Nat), .int .u8 (a'.c.k : Nat), .string a'.c.i, .string a'.c.t, .string a'.c.ut, .string a'.c.ui, .int .u64 (a'.v : Nat), .string a'.s0, .string a'.s1, .string a'.s2, .string a'.s3, .string a'.s4, .string a'.s5, .string a'.s6], .int .i64 0]) (results_ct Try.results11 _ _ rb 30 _ (0, 0) _ rfl F1.out.at' Try.underlying30 rfl (by kernel_rfl)) rfl ?_
    exact ⟨⟨a', 0, by rw [hkk.out], hF.out, hP.out⟩, F2.out⟩
  · have hP := hid (ask_no r2.out hgood)
    have F1 := hid (R.out.row [.int .u8 0, .int .u64 0, .int .u8 0, .string ⟨#[]⟩, .string ⟨#[]⟩, .string ⟨#[]⟩, .string ⟨#[]⟩, .int .u64 0, .string ⟨#[]⟩, .string ⟨#[]⟩, .string ⟨#[]⟩, .string ⟨#[]⟩, .string ⟨#[]⟩, .string ⟨#[]⟩, .string ⟨#[]⟩])
    have F2 := hid (below_row bw.out hbr.out.2.1 #[.int .u8 0, .int .u64 0, .int .u8 0, .string ⟨#[]⟩, .string ⟨#[]⟩, .string ⟨#[]⟩, .string ⟨#[]⟩, .int .u64 0, .string ⟨#[]⟩, .string ⟨#[]⟩, .string ⟨#[]⟩, .string ⟨#[]⟩, .string ⟨#[]⟩, .string ⟨#[]⟩, .string ⟨#[]⟩])
    cases hd : dn o1 with
    | false =>
      clear hgood r2 K bw hk hki hd
      as_aux_lemma =>
      go_upto_region 4 with fail
      refine wp_region_lit ?_
      refine wpList_build0 rfl 30 rfl #[.int .u8 0, .int .u64 0, .int .u8 0, .string ⟨#[]⟩, .string ⟨#[]⟩, .string ⟨#[]⟩, .string ⟨#[]⟩, .int .u64 0, .string ⟨#[]⟩, .string ⟨#[]⟩, .string ⟨#[]⟩, .string ⟨#[]⟩, .string ⟨#[]⟩, .string ⟨#[]⟩, .string ⟨#[]⟩] (by kernel_rfl) ?_
      refine wpList_store_row rfl 30 (.tmp 2) (.tmp 26) rfl rb #[.int .u8 0, .int .u64 0, .int .u8 0, .string ⟨#[]⟩, .string ⟨#[]⟩, .string ⟨#[]⟩, .string ⟨#[]⟩, .int .u64 0, .string ⟨#[]⟩, .string ⟨#[]⟩, .string ⟨#[]⟩, .string ⟨#[]⟩, .string ⟨#[]⟩, .string ⟨#[]⟩, .string ⟨#[]⟩] rfl rfl 30 _ R.out.at' (by kernel_rfl) rfl (by simp [Value.oneCell']) ?_
      generalize w2.setRow rb #[.int .u8 0, .int .u64 0, .int .u8 0, .string ⟨#[]⟩, .string ⟨#[]⟩, .string ⟨#[]⟩, .string ⟨#[]⟩, .int .u64 0, .string ⟨#[]⟩, .string ⟨#[]⟩, .string ⟨#[]⟩, .string ⟨#[]⟩, .string ⟨#[]⟩, .string ⟨#[]⟩, .string ⟨#[]⟩] = W3 at F1 F2 ⊢
      go_wp2_with fail
      refine bodyPost_ret (v := .tuple #[.agg #[.int .u8 0, .int .u64 0, .int .u8 0, .string ⟨#[]⟩, .string ⟨#[]⟩, .string ⟨#[]⟩, .string ⟨#[]⟩, .int .u64 0, .string ⟨#[]⟩, .string ⟨#[]⟩, .string ⟨#[]⟩, .string ⟨#[]⟩, .string ⟨#[]⟩, .string ⟨#[]⟩, .string ⟨#[]⟩], .int .i64 14]) (results_ct Try.results11 _ _ rb 30 _ (0, 0) _ rfl F1.out.at' Try.underlying30 rfl (by kernel_rfl)) rfl ?_
      exact ⟨⟨askZ, 14, rfl, askF_Z, hP.out⟩, F2.out⟩
    | true =>
      have h1 : (a'.k : Int) = 0 ∨ ¬ (a'.k : Int) = 0 ∧ (9 : Int) ≤ (a'.k : Int) := by
        by_cases h0 : a'.k = 0
        · left; omega
        · right; exact ⟨by omega, by have : ¬ (1 ≤ a'.k ∧ a'.k ≤ 8) := fun h => hgood ⟨hd, h⟩; omega⟩
      obtain ⟨kk, hkk⟩ : ∃ kk : Int, (a'.k : Int) = kk := ⟨_, rfl⟩
      rw [hkk] at k0 h1 ⊢
      clear hgood r2 K bw hk hki hd hkk
      rcases h1 with h1 | ⟨h1, h2⟩
      · subst h1
        as_aux_lemma =>
        go_upto_region 4 with fail
        refine wp_region_lit ?_
        refine wpList_build0 rfl 30 rfl #[.int .u8 0, .int .u64 0, .int .u8 0, .string ⟨#[]⟩, .string ⟨#[]⟩, .string ⟨#[]⟩, .string ⟨#[]⟩, .int .u64 0, .string ⟨#[]⟩, .string ⟨#[]⟩, .string ⟨#[]⟩, .string ⟨#[]⟩, .string ⟨#[]⟩, .string ⟨#[]⟩, .string ⟨#[]⟩] (by kernel_rfl) ?_
        refine wpList_store_row rfl 30 (.tmp 2) (.tmp 26) rfl rb #[.int .u8 0, .int .u64 0, .int .u8 0, .string ⟨#[]⟩, .string ⟨#[]⟩, .string ⟨#[]⟩, .string ⟨#[]⟩, .int .u64 0, .string ⟨#[]⟩, .string ⟨#[]⟩, .string ⟨#[]⟩, .string ⟨#[]⟩, .string ⟨#[]⟩, .string ⟨#[]⟩, .string ⟨#[]⟩] rfl rfl 30 _ R.out.at' (by kernel_rfl) rfl (by simp [Value.oneCell']) ?_
        generalize w2.setRow rb #[.int .u8 0, .int .u64 0, .int .u8 0, .string ⟨#[]⟩, .string ⟨#[]⟩, .string ⟨#[]⟩, .string ⟨#[]⟩, .int .u64 0, .string ⟨#[]⟩, .string ⟨#[]⟩, .string ⟨#[]⟩, .string ⟨#[]⟩, .string ⟨#[]⟩, .string ⟨#[]⟩, .string ⟨#[]⟩] = W3 at F1 F2 ⊢
        go_wp2_with fail
        refine bodyPost_ret (v := .tuple #[.agg #[.int .u8 0, .int .u64 0, .int .u8 0, .string ⟨#[]⟩, .string ⟨#[]⟩, .string ⟨#[]⟩, .string ⟨#[]⟩, .int .u64 0, .string ⟨#[]⟩, .string ⟨#[]⟩, .string ⟨#[]⟩, .string ⟨#[]⟩, .string ⟨#[]⟩, .string ⟨#[]⟩, .string ⟨#[]⟩], .int .i64 14]) (results_ct Try.results11 _ _ rb 30 _ (0, 0) _ rfl F1.out.at' Try.underlying30 rfl (by kernel_rfl)) rfl ?_
        exact ⟨⟨askZ, 14, rfl, askF_Z, hP.out⟩, F2.out⟩
      · have h1b : (kk == 0) = false := by simpa using h1
        as_aux_lemma =>
        go_upto_region 4 with fail
        refine wp_region_lit ?_
        refine wpList_build0 rfl 30 rfl #[.int .u8 0, .int .u64 0, .int .u8 0, .string ⟨#[]⟩, .string ⟨#[]⟩, .string ⟨#[]⟩, .string ⟨#[]⟩, .int .u64 0, .string ⟨#[]⟩, .string ⟨#[]⟩, .string ⟨#[]⟩, .string ⟨#[]⟩, .string ⟨#[]⟩, .string ⟨#[]⟩, .string ⟨#[]⟩] (by kernel_rfl) ?_
        refine wpList_store_row rfl 30 (.tmp 2) (.tmp 26) rfl rb #[.int .u8 0, .int .u64 0, .int .u8 0, .string ⟨#[]⟩, .string ⟨#[]⟩, .string ⟨#[]⟩, .string ⟨#[]⟩, .int .u64 0, .string ⟨#[]⟩, .string ⟨#[]⟩, .string ⟨#[]⟩, .string ⟨#[]⟩, .string ⟨#[]⟩, .string ⟨#[]⟩, .string ⟨#[]⟩] rfl rfl 30 _ R.out.at' (by kernel_rfl) rfl (by simp [Value.oneCell']) ?_
        generalize w2.setRow rb #[.int .u8 0, .int .u64 0, .int .u8 0, .string ⟨#[]⟩, .string ⟨#[]⟩, .string ⟨#[]⟩, .string ⟨#[]⟩, .int .u64 0, .string ⟨#[]⟩, .string ⟨#[]⟩, .string ⟨#[]⟩, .string ⟨#[]⟩, .string ⟨#[]⟩, .string ⟨#[]⟩, .string ⟨#[]⟩] = W3 at F1 F2 ⊢
        go_wp2_with fail
        refine bodyPost_ret (v := .tuple #[.agg #[.int .u8 0, .int .u64 0, .int .u8 0, .string ⟨#[]⟩, .string ⟨#[]⟩, .string ⟨#[]⟩, .string ⟨#[]⟩, .int .u64 0, .string ⟨#[]⟩, .string ⟨#[]⟩, .string ⟨#[]⟩, .string ⟨#[]⟩, .string ⟨#[]⟩, .string ⟨#[]⟩, .string ⟨#[]⟩], .int .i64 14]) (results_ct Try.results11 _ _ rb 30 _ (0, 0) _ rfl F1.out.at' Try.underlying30 rfl (by kernel_rfl)) rfl ?_
        exact ⟨⟨askZ, 14, rfl, askF_Z, hP.out⟩, F2.out⟩
end Go.Proofs.Ytldlkoiekdlmhaa.Wi
