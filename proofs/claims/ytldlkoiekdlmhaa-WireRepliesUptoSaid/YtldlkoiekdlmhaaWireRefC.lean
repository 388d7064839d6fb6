/-
  wire's calls: contracts. Written by wip/wiretopgen.py.
-/
import Derived.Test.YtldlkoiekdlmhaaWireRefB
import Derived.Deep.RegionHeld3
import Derived.Deep.RegionWith
import Derived.WalkArith
namespace Go.Proofs.Ytldlkoiekdlmhaa.Wi
open Go.ChangeShapes Go.WideShapes Go.ChangeAt Go.RowKit
open Go.Proofs.Ytldlkoiekdlmhaa.Mem
open Go.Proofs.Ytldlkoiekdlmhaa.Lik (Kept)
open Go.Proofs.Ytldlkoiekdlmhaa.Crc hiding hid bt
set_option linter.unusedVariables false
set_option linter.unusedSimpArgs false
set_option maxRecDepth 100000
theorem wpAnyH_mono {P : Program} {md : Region.Mode} {ops : Array Oper} {Q : Exit → Act → World → Prop} {S0 S1 : World → Prop} (h : ∀ w, S1 w → S0 w) :
    ∀ {fuel : Nat} {listed : Array Bool} {a : Act} {w : World}, wpAnyH P md ops Q S1 fuel listed a w → wpAnyH P md ops Q S0 fuel listed a w
  | 0, _, _, _, H => H
  | fuel + 1, _, _, _, H => ⟨H.1, fun i hi => wpOp_mono (fun a' w' h' => ⟨h _ h'.1, wpAnyH_mono h h'.2⟩) (H.2 i hi)⟩
theorem lE_max {l : List ByteArray} (h : lR l) : (lE l).length ≤ 600000 := by
  unfold lE
  have key : ∀ l : List ByteArray, (∀ s ∈ l, s.size ≤ 2048) → (l.flatMap txt).length ≤ l.length * 2052 := by
    intro l
    induction l with
    | nil => simp
    | cons s l ih =>
      intro h
      have h1 := h s (by simp)
      have h2 := ih (fun x hx => h x (by simp [hx]))
      rw [List.flatMap_cons, List.length_append, txt_len, List.length_cons]; omega
  have h1 := key l h.2
  have h2 := h.1
  rw [List.length_cons]
  have h3 : l.length * 2052 ≤ 255 * 2052 := Nat.mul_le_mul_right _ h2
  omega
theorem TxP.iff {l : List ByteArray} {t : ByteArray} {ok : Bool} (h : TxP l t ok) : ok = true ↔ lR l := by
  constructor
  · intro e
    rcases h with ⟨_, h, _⟩ | ⟨h, _⟩
    · exact h
    · rw [e] at h; cases h
  · intro e
    rcases h with ⟨h, _⟩ | ⟨_, h, _⟩
    · exact h
    · exact absurd e h
set_option maxHeartbeats 8000000 in
theorem writereply_ref (r : Rep) (so tp : Option Addr) (sc tc : Nat) (w : World) (hV1 : StrsV w (.slice so r.ids.length sc) r.ids) (hV2 : StrsV w (.slice tp r.errs.length tc) r.errs) (hn : repN r) (hl1 : r.ids.length ≤ 1048576) (hl2 : r.errs.length ≤ 1048576) (hm : repT r ≤ 90000000) :
    Calls Try.prog 15 #[.agg #[.int .i64 r.why, .int .u64 (r.n : Nat), .int .i64 r.place, .bool r.allow, .slice so r.ids.length sc, .slice tp r.errs.length tc]] w fun e w' => (∃ (s : ByteArray) (z : Int), e = .returned (.tuple #[.string s, .int .i64 z]) ∧ RepW r s z) ∧ Below w.heap.size w w' := by
  have v1 := hid (fun W (b : Below w.heap.size w W) => hV1.below b)
  have v2 := hid (fun W (b : Below w.heap.size w W) => hV2.below b)
  clear hV1 hV2
  go_enter Try.func15, Try.ntmps15
  go_upto_region 1 with fail
  have K := hid (Blk.new w [.int .i64 r.why, .int .u64 (r.n : Nat), .int .i64 r.place, .bool r.allow, .slice so r.ids.length sc, .slice tp r.errs.length tc] 42)
  have bw := hid ((Below.refl w.heap.size w).alloc (Nat.le_refl _) (.cells #[.int .i64 r.why, .int .u64 (r.n : Nat), .int .i64 r.place, .bool r.allow, .slice so r.ids.length sc, .slice tp r.errs.length tc] 42))
  change Hid (Blk (w.alloc (.cells #[.int .i64 r.why, .int .u64 (r.n : Nat), .int .i64 r.place, .bool r.allow, .slice so r.ids.length sc, .slice tp r.errs.length tc] 42)) _ _ _) at K
  generalize w.alloc (.cells #[.int .i64 r.why, .int .u64 (r.n : Nat), .int .i64 r.place, .bool r.allow, .slice so r.ids.length sc, .slice tp r.errs.length tc] 42) = X at K bw ⊢
  obtain ⟨pb, hpb⟩ : ∃ pb, w.heap.size = pb := ⟨_, rfl⟩
  rw [hpb] at K ⊢
  clear hpb
  obtain ⟨k0, k1, k2, k3, k4, k5, kf⟩ := sixc K.out
  go_wp2_with fail
  refine (texts_ref r.ids _ X (v1.out X bw.out) hl1 (by unfold repT at hm; omega)).mono ?_
  rintro e w1' ⟨⟨t1, ok1, rfl, h1⟩, q1⟩
  replace K := hid (K.out.below q1 K.out.lt)
  replace bw := hid (bw.out.trans (q1.mono bw.out.size))
  replace h1 := hid h1
  clear q1 k0 k1 k2 k3 k4 k5 kf
  obtain ⟨k0, k1, k2, k3, k4, k5, kf⟩ := sixc K.out
  go_wp2_with fail
  refine (texts_ref r.errs _ w1' (v2.out w1' bw.out) hl2 (by unfold repT at hm; omega)).mono ?_
  rintro e w2 ⟨⟨t2, ok2, rfl, h2⟩, q2⟩
  replace K := hid (K.out.below q2 K.out.lt)
  replace bw := hid (bw.out.trans (q2.mono bw.out.size))
  replace h2 := hid h2
  clear q2 k0 k1 k2 k3 k4 k5 kf v1 v2
  obtain ⟨k0, k1, k2, k3, k4, k5, kf⟩ := sixc K.out
  have h1b := hid h1.out.iff
  have h2b := hid h2.out.iff
  by_cases hr : repR r
  case neg =>
    have hfin := hid (show RepW r ⟨#[]⟩ 14 from .inr ⟨rfl, hr, rfl⟩)
    have hor : ok1 = false ∨ ok1 = true ∧ (ok2 = false ∨ ok2 = true ∧ (r.why < 0 ∨ ¬ r.why < 0 ∧ (255 < r.why ∨ ¬ 255 < r.why ∧ (r.place < 0 ∨ ¬ r.place < 0 ∧ 255 < r.place)))) := by
      have h1c := h1b.out
      have h2c := h2b.out
      by_cases c1 : ok1 = true
      · refine .inr ⟨c1, ?_⟩
        by_cases c2 : ok2 = true
        · refine .inr ⟨c2, ?_⟩
          have c3 : ¬ ((0 ≤ r.why ∧ r.why ≤ 255) ∧ (0 ≤ r.place ∧ r.place ≤ 255)) := fun h => hr ⟨h.1, h.2, h1c.1 c1, h2c.1 c2⟩
          omega
        · exact .inl (by simpa using c2)
      · exact .inl (by simpa using c1)
    clear hr h1b h2b h1 h2 hn hl1 hl2 hm
    rcases hor with rfl | ⟨rfl, rfl | ⟨rfl, c1 | ⟨c1, c2 | ⟨c2, c3 | ⟨c3, c4⟩⟩⟩⟩⟩
    · go_wp2_with fail
      go_ret2
      exact ⟨⟨_, _, rfl, hfin.out⟩, bw.out⟩
    · go_wp2_with fail
      go_ret2
      exact ⟨⟨_, _, rfl, hfin.out⟩, bw.out⟩
    · go_wp2_with fail
      go_ret2
      exact ⟨⟨_, _, rfl, hfin.out⟩, bw.out⟩
    · go_wp2_with fail
      go_ret2
      exact ⟨⟨_, _, rfl, hfin.out⟩, bw.out⟩
    · go_wp2_with fail
      go_ret2
      exact ⟨⟨_, _, rfl, hfin.out⟩, bw.out⟩
    · go_wp2_with fail
      go_ret2
      exact ⟨⟨_, _, rfl, hfin.out⟩, bw.out⟩
  obtain ⟨rfl, ht1⟩ : ok1 = true ∧ t1 = bs (lE r.ids) := by
    rcases h1.out with ⟨h, _, h'⟩ | ⟨_, h, _⟩
    · exact ⟨h, h'⟩
    · exact absurd hr.2.2.1 h
  obtain ⟨rfl, ht2⟩ : ok2 = true ∧ t2 = bs (lE r.errs) := by
    rcases h2.out with ⟨h, _, h'⟩ | ⟨_, h, _⟩
    · exact ⟨h, h'⟩
    · exact absurd hr.2.2.2 h
  have c1 : ¬ r.why < 0 := by have := hr.1; omega
  have c2 : ¬ 255 < r.why := by have := hr.1; omega
  have c3 : ¬ r.place < 0 := by have := hr.2.1; omega
  have c4 : ¬ 255 < r.place := by have := hr.2.1; omega
  clear h1 h2 h1b h2b hl1 hl2 hm
  have hfin := hid (show RepW r (bs (repE r)) 0 from .inl ⟨rfl, hr, rfl⟩)
  obtain ⟨y, hy⟩ : ∃ y : Nat, r.why = y := ⟨r.why.toNat, by omega⟩
  obtain ⟨q, hq⟩ : ∃ q : Nat, r.place = q := ⟨r.place.toNat, by omega⟩
  have hy8 : y < 256 := by omega
  have hq8 : q < 256 := by omega
  obtain ⟨N, hN⟩ : ∃ N, r.n = N := ⟨_, rfl⟩
  obtain ⟨al, hal⟩ : ∃ al, r.allow = al := ⟨_, rfl⟩
  have hE := hid (show bs (repE r) = bs [UInt8.ofNat y] ++ bs (leb 8 N) ++ bs [UInt8.ofNat q, fl al] ++ t1 ++ t2 by
    rw [ht1, ht2, app_bs, app_bs, app_bs, app_bs]
    unfold repE
    rw [hy, hq, hN, hal]
    congr 1 <;> simp)
  have hz1 : t1.size ≤ 600000 := by rw [ht1, bs_size]; exact lE_max hr.2.2.1
  have hz2 : t2.size ≤ 600000 := by rw [ht2, bs_size]; exact lE_max hr.2.2.2
  have hnn : N < 18446744073709551616 := by rw [← hN]; exact hn
  rw [hy, hq, hN, hal] at K
  rw [hy] at k0 c1 c2
  rw [hN] at k1
  rw [hq] at k2 c3 c4
  rw [hal] at k3
  clear hr hn hy hq hN hal ht1 ht2
  replace hfin := hid (show RepW r (bs [UInt8.ofNat y] ++ bs (leb 8 N) ++ bs [UInt8.ofNat q, fl al] ++ t1 ++ t2) 0 by rw [← hE.out]; exact hfin.out)
  clear hE
  have hc1 : ∀ (b : Nat) (W' : World), W'.cell? ⟨b, 0, none⟩ = some (.int .u8 y) → (convert 49 9 (.slice (some ⟨b, 0, none⟩) 1 1)).run Try.prog W' = .ok (.string (bs [UInt8.ofNat y])) W' := fun b W' c0 =>
    (run_convert_bytes_arg W' 49 5 Try.underlying49 Try.underlying5 b 0 1 1 [(y : Int)] rfl (fun i hi => match i, hi with
      | 0, _ => c0) 9 Try.underlying9).trans rfl
  have hc2 : ∀ (x : Nat) (b : Nat) (W' : World), W'.cell? ⟨b, 0, none⟩ = some (.int .u8 q) → W'.cell? ⟨b, 1, none⟩ = some (.int .u8 x) → (convert 49 9 (.slice (some ⟨b, 0, none⟩) 2 2)).run Try.prog W' = .ok (.string (bs [UInt8.ofNat q, UInt8.ofNat x])) W' := fun x b W' c0 c1 =>
    (run_convert_bytes_arg W' 49 5 Try.underlying49 Try.underlying5 b 0 2 2 [(q : Int), (x : Int)] rfl (fun i hi => match i, hi with
      | 0, _ => c0
      | 1, _ => c1) 9 Try.underlying9).trans rfl
  have hput := hid (fun W => refput64_any N W hnn)
  have hw1 : IntKind.u8.wrap (y : Int) = (y : Int) := by rw [IntWalk.u8_in _ (by omega)]
  have hw2 : IntKind.u8.wrap (q : Int) = (q : Int) := by rw [IntWalk.u8_in _ (by omega)]
  obtain ⟨B1, hB1⟩ : ∃ B, bs [UInt8.ofNat y] = B := ⟨_, rfl⟩
  obtain ⟨PU, hPU⟩ : ∃ B, bs (leb 8 N) = B := ⟨_, rfl⟩
  have s1 : B1.size = 1 := by rw [← hB1]; rfl
  have s2 : PU.size = 8 := by rw [← hPU, bs_size, leb_len]
  rw [show (⟨(leb 8 N).toArray⟩ : ByteArray) = PU from hPU] at hput
  rw [hB1] at hc1 hfin
  rw [hPU] at hfin
  clear hB1 hPU
  have u1 : ¬ 9223372036854775807 < 11 + t1.size := by omega
  have u2 : ¬ 9223372036854775807 < 11 + t1.size + t2.size := by omega
  clear hz1 hz2 hy8 hq8 hnn
  cases al with
  | false =>
    obtain ⟨B2, hB2⟩ : ∃ B, bs [UInt8.ofNat q, fl false] = B := ⟨_, rfl⟩
    have s3 : B2.size = 2 := by rw [← hB2]; rfl
    have hcq : ∀ (b : Nat) (W' : World), W'.cell? ⟨b, 0, none⟩ = some (.int .u8 q) → W'.cell? ⟨b, 1, none⟩ = some (.int .u8 0) → (convert 49 9 (.slice (some ⟨b, 0, none⟩) 2 2)).run Try.prog W' = .ok (.string B2) W' := by
      rw [← hB2]
      exact fun b => hc2 0 b
    rw [hB2] at hfin
    clear hB2 hc2
    go_wp2_with fail
    have KK := hid K.out.drew
    replace bw := hid bw.out.drew
    clear K k0 k1 k2 k3 k4 k5 kf
    obtain ⟨d0, d1, d2, d3, d4, d5, df⟩ := sixc KK.out
    refine wp_region_held_drew (S := (fun W : World => (W.cell? ⟨pb, 0, none⟩ = some (.int .i64 y) ∧ W.cell? ⟨pb, 1, none⟩ = some (.int .u64 N) ∧ W.cell? ⟨pb, 2, none⟩ = some (.int .i64 q)))) (by kernel_rfl) ⟨d0, d1, d2⟩ (fun hHeld => ?_)
    clear d0 d1 d2 d3 d4 d5 df
    generalize w2.drew = w0 at KK bw hHeld ⊢
    refine wpAnyH_take (i := 0) (v := ?_) rfl (by kernel_rfl) (by kernel_rfl) (by kernel_rfl) (fun _ _ _ h => h) (Or.inl ⟨by rfl, ?_⟩) (by assumption) ?_; rotate_left 1; (intro w hSw; (try dsimp only at hSw); go_simp; try with_reducible rfl); (try simp only [Act.put, List.getElem_toArray, List.getElem_cons_zero, List.getElem_cons_succ, List.setIfInBounds_toArray, List.set_cons_zero, List.set_cons_succ])
    refine wpAnyH_take (i := 1) (v := ?_) rfl (by kernel_rfl) (by kernel_rfl) (by kernel_rfl) (fun _ _ _ h => h) (Or.inl ⟨by rfl, ?_⟩) (by assumption) ?_; rotate_left 1; (intro w hSw; (try dsimp only at hSw); go_simp; try with_reducible rfl); (try simp only [Act.put, List.getElem_toArray, List.getElem_cons_zero, List.getElem_cons_succ, List.setIfInBounds_toArray, List.set_cons_zero, List.set_cons_succ])
    refine wpAnyH_take (i := 2) (v := ?_) rfl (by kernel_rfl) (by kernel_rfl) (by kernel_rfl) (fun _ _ _ h => h) (Or.inl ⟨by rfl, ?_⟩) (by assumption) ?_; rotate_left 1; (intro w hSw; (try dsimp only at hSw); go_simp; try with_reducible rfl); (try simp only [Act.put, List.getElem_toArray, List.getElem_cons_zero, List.getElem_cons_succ, List.setIfInBounds_toArray, List.set_cons_zero, List.set_cons_succ])
    refine wpAnyH_take (i := 5) (v := ?_) rfl (by kernel_rfl) (by kernel_rfl) (by kernel_rfl) (fun _ _ _ h => h) (Or.inl ⟨by rfl, ?_⟩) (by assumption) ?_; rotate_left 1; (intro w hSw; (try dsimp only at hSw); go_simp; try with_reducible rfl); (try simp only [Act.put, List.getElem_toArray, List.getElem_cons_zero, List.getElem_cons_succ, List.setIfInBounds_toArray, List.set_cons_zero, List.set_cons_succ])
    refine wpAnyH_take (i := 6) (v := ?_) rfl (by kernel_rfl) (by kernel_rfl) (by kernel_rfl) (fun _ _ _ h => h) (Or.inl ⟨by rfl, ?_⟩) (by assumption) ?_; rotate_left 1; (intro w hSw; (try dsimp only at hSw); go_simp; try with_reducible rfl); (try simp only [Act.put, List.getElem_toArray, List.getElem_cons_zero, List.getElem_cons_succ, List.setIfInBounds_toArray, List.set_cons_zero, List.set_cons_succ])
    refine wpAnyH_take (i := 9) (v := ?_) rfl (by kernel_rfl) (by kernel_rfl) (by kernel_rfl) (fun _ _ _ h => h) (Or.inl ⟨by rfl, ?_⟩) (by assumption) ?_; rotate_left 1; (intro w hSw; (try dsimp only at hSw); go_simp; try with_reducible rfl); (try simp only [Act.put, List.getElem_toArray, List.getElem_cons_zero, List.getElem_cons_succ, List.setIfInBounds_toArray, List.set_cons_zero, List.set_cons_succ])
    refine wpAnyH_take (i := 10) (v := ?_) rfl (by kernel_rfl) (by kernel_rfl) (by kernel_rfl) (fun _ _ _ h => h) (Or.inl ⟨by rfl, ?_⟩) (by assumption) ?_; rotate_left 1; (intro w hSw; (try dsimp only at hSw); go_simp; try with_reducible rfl); (try simp only [Act.put, List.getElem_toArray, List.getElem_cons_zero, List.getElem_cons_succ, List.setIfInBounds_toArray, List.set_cons_zero, List.set_cons_succ])
    refine wpAnyH_take (i := 11) (v := ?_) rfl (by kernel_rfl) (by kernel_rfl) (by kernel_rfl) (fun _ _ _ h => h) (Or.inl ⟨by rfl, ?_⟩) (by assumption) ?_; rotate_left 1; (intro w hSw; (try dsimp only at hSw); go_simp; try with_reducible rfl); (try simp only [Act.put, List.getElem_toArray, List.getElem_cons_zero, List.getElem_cons_succ, List.setIfInBounds_toArray, List.set_cons_zero, List.set_cons_succ])
    refine wpAnyH_take (i := 12) (v := ?_) rfl (by kernel_rfl) (by kernel_rfl) (by kernel_rfl) (fun _ _ _ h => h) (Or.inl ⟨by rfl, ?_⟩) (by assumption) ?_; rotate_left 1; (intro w hSw; (try dsimp only at hSw); go_simp; try with_reducible rfl); (try simp only [Act.put, List.getElem_toArray, List.getElem_cons_zero, List.getElem_cons_succ, List.setIfInBounds_toArray, List.set_cons_zero, List.set_cons_succ])
    refine wpAnyH_take (i := 16) (v := ?_) rfl (by kernel_rfl) (by kernel_rfl) (by kernel_rfl) (fun _ _ _ h => h) (Or.inl ⟨by rfl, ?_⟩) (by assumption) ?_; rotate_left 1; (intro w hSw; (try dsimp only at hSw); go_simp; try with_reducible rfl); (try simp only [Act.put, List.getElem_toArray, List.getElem_cons_zero, List.getElem_cons_succ, List.setIfInBounds_toArray, List.set_cons_zero, List.set_cons_succ])
    refine wpAnyH_take (i := 18) (v := ?_) rfl (by kernel_rfl) (by kernel_rfl) (by kernel_rfl) (fun _ _ _ h => h) (Or.inl ⟨by rfl, ?_⟩) (by assumption) ?_; rotate_left 1; (intro w hSw; (try dsimp only at hSw); go_simp; try with_reducible rfl); (try simp only [Act.put, List.getElem_toArray, List.getElem_cons_zero, List.getElem_cons_succ, List.setIfInBounds_toArray, List.set_cons_zero, List.set_cons_succ])
    refine wpAnyH_ready (rs := [3, 7, 13]) (by kernel_rfl) (by simp) ?_
    refine AllReadyH.cons rfl (fun K hK => ?_) ?_
    · skip
      go_simp
      have Q3 := hid (Blk.new w0 [.int .u8 y] 5)
      replace KK := hid (KK.out.alloc (.cells #[.int .u8 y] 5))
      replace bw := hid (bw.out.alloc bw.out.size (.cells #[.int .u8 y] 5))
      change Hid (Blk (w0.alloc (.cells #[.int .u8 y] 5)) _ _ _) at Q3
      obtain ⟨g1, hg1⟩ : ∃ g, w0.heap.size = g := ⟨_, rfl⟩
      rw [hg1] at Q3 ⊢
      clear hg1
      generalize w0.alloc (.cells #[.int .u8 y] 5) = w0b at KK bw Q3 ⊢
      obtain ⟨d0, d1, d2, d3, d4, d5, df⟩ := sixc KK.out
      have e0 := Q3.out.cell 0 (by simp)
      refine hK.out _ _ ⟨d0, d1, d2⟩ (fun hHeldN => ?_)
      clear hK K hHeld
      have hHeld := hHeldN
      clear hHeldN
      (try simp only [Act.put, List.getElem_toArray, List.getElem_cons_zero, List.getElem_cons_succ, List.setIfInBounds_toArray, List.set_cons_zero, List.set_cons_succ])
      have hcv1 := hc1 g1
      refine wpAnyH_mono (S1 := (fun W : World => ((W.cell? ⟨pb, 0, none⟩ = some (.int .i64 y) ∧ W.cell? ⟨pb, 1, none⟩ = some (.int .u64 N) ∧ W.cell? ⟨pb, 2, none⟩ = some (.int .i64 q)) ∧ W.cell? ⟨g1, 0, none⟩ = some (.int .u8 y)))) (fun _ h => h.1) ?_
      have hHeld1 : (fun W : World => ((W.cell? ⟨pb, 0, none⟩ = some (.int .i64 y) ∧ W.cell? ⟨pb, 1, none⟩ = some (.int .u64 N) ∧ W.cell? ⟨pb, 2, none⟩ = some (.int .i64 q)) ∧ W.cell? ⟨g1, 0, none⟩ = some (.int .u8 y))) w0b := ⟨⟨d0, d1, d2⟩, e0⟩
      clear hHeld
      have hHeld := hHeld1
      clear hHeld1
      clear d0 d1 d2 d3 d4 d5 df e0
      refine wpAnyH_take (i := 4) (v := ?_) rfl (by kernel_rfl) (by kernel_rfl) (by kernel_rfl) (fun _ _ _ h => h) (Or.inl ⟨by rfl, ?_⟩) (by assumption) ?_; rotate_left 1; (intro w hSw; (try dsimp only at hSw); go_simp; try with_reducible rfl); (try simp only [Act.put, List.getElem_toArray, List.getElem_cons_zero, List.getElem_cons_succ, List.setIfInBounds_toArray, List.set_cons_zero, List.set_cons_succ])
      refine wpAnyH_ready (rs := [7, 13]) (by kernel_rfl) (by simp) ?_
      refine AllReadyH.cons rfl (fun K hK => ?_) ?_
      · skip
        go_simp
        (with_reducible refine (hput.out _).mono ?_)
        rintro e w0ba ⟨rfl, b1⟩
        go_wp2_with fail
        replace KK := hid (KK.out.below b1 KK.out.lt)
        replace bw := hid (bw.out.trans (b1.mono bw.out.size))
        replace Q3 := hid (Q3.out.below b1 Q3.out.lt)
        clear b1
        obtain ⟨d0, d1, d2, d3, d4, d5, df⟩ := sixc KK.out
        have e0 := Q3.out.cell 0 (by simp)
        refine hK.out _ _ ⟨⟨d0, d1, d2⟩, e0⟩ (fun hHeldN => ?_)
        clear hK K hHeld
        have hHeld := hHeldN
        clear hHeldN
        (try simp only [Act.put, List.getElem_toArray, List.getElem_cons_zero, List.getElem_cons_succ, List.setIfInBounds_toArray, List.set_cons_zero, List.set_cons_succ])
        clear d0 d1 d2 d3 d4 d5 df e0
        refine wpAnyH_take (i := 8) (v := ?_) rfl (by kernel_rfl) (by kernel_rfl) (by kernel_rfl) (fun _ _ _ h => h) (Or.inl ⟨by rfl, ?_⟩) (by assumption) ?_; rotate_left 1; (intro w hSw; (try dsimp only at hSw); go_simp; try with_reducible rfl); (try simp only [Act.put, List.getElem_toArray, List.getElem_cons_zero, List.getElem_cons_succ, List.setIfInBounds_toArray, List.set_cons_zero, List.set_cons_succ])
        refine wpAnyH_ready (rs := [13]) (by kernel_rfl) (by simp) ?_
        refine AllReadyH.cons rfl (fun K hK => ?_) AllReadyH.nil
        go_simp
        have Q13 := hid (Blk.new w0ba [.int .u8 q, .int .u8 0] 5)
        replace KK := hid (KK.out.alloc (.cells #[.int .u8 q, .int .u8 0] 5))
        replace bw := hid (bw.out.alloc bw.out.size (.cells #[.int .u8 q, .int .u8 0] 5))
        replace Q3 := hid (Q3.out.alloc (.cells #[.int .u8 q, .int .u8 0] 5))
        change Hid (Blk (w0ba.alloc (.cells #[.int .u8 q, .int .u8 0] 5)) _ _ _) at Q13
        obtain ⟨g2, hg2⟩ : ∃ g, w0ba.heap.size = g := ⟨_, rfl⟩
        rw [hg2] at Q13 ⊢
        clear hg2
        generalize w0ba.alloc (.cells #[.int .u8 q, .int .u8 0] 5) = w0bac at KK bw Q3 Q13 ⊢
        obtain ⟨d0, d1, d2, d3, d4, d5, df⟩ := sixc KK.out
        have e0 := Q3.out.cell 0 (by simp)
        have f0 := Q13.out.cell 0 (by simp)
        have f1 := Q13.out.cell 1 (by simp)
        refine hK.out _ _ ⟨⟨d0, d1, d2⟩, e0⟩ (fun hHeldN => ?_)
        clear hK K hHeld
        have hHeld := hHeldN
        clear hHeldN
        (try simp only [Act.put, List.getElem_toArray, List.getElem_cons_zero, List.getElem_cons_succ, List.setIfInBounds_toArray, List.set_cons_zero, List.set_cons_succ])
        have hcv2 := hcq g2
        refine wpAnyH_mono (S1 := (fun W : World => (((W.cell? ⟨pb, 0, none⟩ = some (.int .i64 y) ∧ W.cell? ⟨pb, 1, none⟩ = some (.int .u64 N) ∧ W.cell? ⟨pb, 2, none⟩ = some (.int .i64 q)) ∧ W.cell? ⟨g1, 0, none⟩ = some (.int .u8 y)) ∧ W.cell? ⟨g2, 0, none⟩ = some (.int .u8 q) ∧ W.cell? ⟨g2, 1, none⟩ = some (.int .u8 0)))) (fun _ h => h.1) ?_
        have hHeld1 : (fun W : World => (((W.cell? ⟨pb, 0, none⟩ = some (.int .i64 y) ∧ W.cell? ⟨pb, 1, none⟩ = some (.int .u64 N) ∧ W.cell? ⟨pb, 2, none⟩ = some (.int .i64 q)) ∧ W.cell? ⟨g1, 0, none⟩ = some (.int .u8 y)) ∧ W.cell? ⟨g2, 0, none⟩ = some (.int .u8 q) ∧ W.cell? ⟨g2, 1, none⟩ = some (.int .u8 0))) w0bac := ⟨⟨⟨d0, d1, d2⟩, e0⟩, f0, f1⟩
        clear hHeld
        have hHeld := hHeld1
        clear hHeld1
        clear d0 d1 d2 d3 d4 d5 df e0 f0 f1
        refine wpAnyH_take (i := 14) (v := ?_) rfl (by kernel_rfl) (by kernel_rfl) (by kernel_rfl) (fun _ _ _ h => h) (Or.inl ⟨by rfl, ?_⟩) (by assumption) ?_; rotate_left 1; (intro w hSw; (try dsimp only at hSw); go_simp; try with_reducible rfl); (try simp only [Act.put, List.getElem_toArray, List.getElem_cons_zero, List.getElem_cons_succ, List.setIfInBounds_toArray, List.set_cons_zero, List.set_cons_succ])
        refine wpAnyH_take (i := 15) (v := ?_) rfl (by kernel_rfl) (by kernel_rfl) (by kernel_rfl) (fun _ _ _ h => h) (Or.inl ⟨by rfl, ?_⟩) (by assumption) ?_; rotate_left 1; (intro w hSw; (try dsimp only at hSw); go_simp; try with_reducible rfl); (try simp only [Act.put, List.getElem_toArray, List.getElem_cons_zero, List.getElem_cons_succ, List.setIfInBounds_toArray, List.set_cons_zero, List.set_cons_succ])
        refine wpAnyH_take (i := 17) (v := ?_) rfl (by kernel_rfl) (by kernel_rfl) (by kernel_rfl) (fun _ _ _ h => h) (Or.inl ⟨by rfl, ?_⟩) (by assumption) ?_; rotate_left 1; (intro w hSw; (try dsimp only at hSw); go_simp; try with_reducible rfl); (try simp only [Act.put, List.getElem_toArray, List.getElem_cons_zero, List.getElem_cons_succ, List.setIfInBounds_toArray, List.set_cons_zero, List.set_cons_succ])
        refine wpAnyH_take (i := 19) (v := ?_) rfl (by kernel_rfl) (by kernel_rfl) (by kernel_rfl) (fun _ _ _ h => h) (Or.inl ⟨by rfl, ?_⟩) (by assumption) ?_; rotate_left 1; (intro w hSw; (try dsimp only at hSw); go_simp; try with_reducible rfl); (try simp only [Act.put, List.getElem_toArray, List.getElem_cons_zero, List.getElem_cons_succ, List.setIfInBounds_toArray, List.set_cons_zero, List.set_cons_succ])
        refine wpAnyH_take (i := 20) (v := ?_) rfl (by kernel_rfl) (by kernel_rfl) (by kernel_rfl) (fun _ _ _ h => h) (Or.inl ⟨by rfl, ?_⟩) (by assumption) ?_; rotate_left 1; (intro w hSw; (try dsimp only at hSw); go_simp; try with_reducible rfl); (try simp only [Act.put, List.getElem_toArray, List.getElem_cons_zero, List.getElem_cons_succ, List.setIfInBounds_toArray, List.set_cons_zero, List.set_cons_succ])
        refine wpAnyH_take (i := 21) (v := ?_) rfl (by kernel_rfl) (by kernel_rfl) (by kernel_rfl) (fun _ _ _ h => h) (Or.inl ⟨by rfl, ?_⟩) (by assumption) ?_; rotate_left 1; (intro w hSw; (try dsimp only at hSw); go_simp; try with_reducible rfl); (try simp only [Act.put, List.getElem_toArray, List.getElem_cons_zero, List.getElem_cons_succ, List.setIfInBounds_toArray, List.set_cons_zero, List.set_cons_succ])
        refine wpAnyH_done (by kernel_rfl) ?_ _
        clear hHeld
        go_wp2_with fail
        go_ret2
        exact ⟨⟨_, _, rfl, hfin.out⟩, bw.out⟩
      refine AllReadyH.cons rfl (fun K hK => ?_) AllReadyH.nil
      go_simp
      have Q13 := hid (Blk.new w0b [.int .u8 q, .int .u8 0] 5)
      replace KK := hid (KK.out.alloc (.cells #[.int .u8 q, .int .u8 0] 5))
      replace bw := hid (bw.out.alloc bw.out.size (.cells #[.int .u8 q, .int .u8 0] 5))
      replace Q3 := hid (Q3.out.alloc (.cells #[.int .u8 q, .int .u8 0] 5))
      change Hid (Blk (w0b.alloc (.cells #[.int .u8 q, .int .u8 0] 5)) _ _ _) at Q13
      obtain ⟨g2, hg2⟩ : ∃ g, w0b.heap.size = g := ⟨_, rfl⟩
      rw [hg2] at Q13 ⊢
      clear hg2
      generalize w0b.alloc (.cells #[.int .u8 q, .int .u8 0] 5) = w0bc at KK bw Q3 Q13 ⊢
      obtain ⟨d0, d1, d2, d3, d4, d5, df⟩ := sixc KK.out
      have e0 := Q3.out.cell 0 (by simp)
      have f0 := Q13.out.cell 0 (by simp)
      have f1 := Q13.out.cell 1 (by simp)
      refine hK.out _ _ ⟨⟨d0, d1, d2⟩, e0⟩ (fun hHeldN => ?_)
      clear hK K hHeld
      have hHeld := hHeldN
      clear hHeldN
      (try simp only [Act.put, List.getElem_toArray, List.getElem_cons_zero, List.getElem_cons_succ, List.setIfInBounds_toArray, List.set_cons_zero, List.set_cons_succ])
      have hcv2 := hcq g2
      refine wpAnyH_mono (S1 := (fun W : World => (((W.cell? ⟨pb, 0, none⟩ = some (.int .i64 y) ∧ W.cell? ⟨pb, 1, none⟩ = some (.int .u64 N) ∧ W.cell? ⟨pb, 2, none⟩ = some (.int .i64 q)) ∧ W.cell? ⟨g1, 0, none⟩ = some (.int .u8 y)) ∧ W.cell? ⟨g2, 0, none⟩ = some (.int .u8 q) ∧ W.cell? ⟨g2, 1, none⟩ = some (.int .u8 0)))) (fun _ h => h.1) ?_
      have hHeld1 : (fun W : World => (((W.cell? ⟨pb, 0, none⟩ = some (.int .i64 y) ∧ W.cell? ⟨pb, 1, none⟩ = some (.int .u64 N) ∧ W.cell? ⟨pb, 2, none⟩ = some (.int .i64 q)) ∧ W.cell? ⟨g1, 0, none⟩ = some (.int .u8 y)) ∧ W.cell? ⟨g2, 0, none⟩ = some (.int .u8 q) ∧ W.cell? ⟨g2, 1, none⟩ = some (.int .u8 0))) w0bc := ⟨⟨⟨d0, d1, d2⟩, e0⟩, f0, f1⟩
      clear hHeld
      have hHeld := hHeld1
      clear hHeld1
      clear d0 d1 d2 d3 d4 d5 df e0 f0 f1
      refine wpAnyH_take (i := 14) (v := ?_) rfl (by kernel_rfl) (by kernel_rfl) (by kernel_rfl) (fun _ _ _ h => h) (Or.inl ⟨by rfl, ?_⟩) (by assumption) ?_; rotate_left 1; (intro w hSw; (try dsimp only at hSw); go_simp; try with_reducible rfl); (try simp only [Act.put, List.getElem_toArray, List.getElem_cons_zero, List.getElem_cons_succ, List.setIfInBounds_toArray, List.set_cons_zero, List.set_cons_succ])
      refine wpAnyH_ready (rs := [7]) (by kernel_rfl) (by simp) ?_
      refine AllReadyH.cons rfl (fun K hK => ?_) AllReadyH.nil
      go_simp
      (with_reducible refine (hput.out _).mono ?_)
      rintro e w0bca ⟨rfl, b1⟩
      go_wp2_with fail
      replace KK := hid (KK.out.below b1 KK.out.lt)
      replace bw := hid (bw.out.trans (b1.mono bw.out.size))
      replace Q3 := hid (Q3.out.below b1 Q3.out.lt)
      replace Q13 := hid (Q13.out.below b1 Q13.out.lt)
      clear b1
      obtain ⟨d0, d1, d2, d3, d4, d5, df⟩ := sixc KK.out
      have e0 := Q3.out.cell 0 (by simp)
      have f0 := Q13.out.cell 0 (by simp)
      have f1 := Q13.out.cell 1 (by simp)
      refine hK.out _ _ ⟨⟨⟨d0, d1, d2⟩, e0⟩, f0, f1⟩ (fun hHeldN => ?_)
      clear hK K hHeld
      have hHeld := hHeldN
      clear hHeldN
      (try simp only [Act.put, List.getElem_toArray, List.getElem_cons_zero, List.getElem_cons_succ, List.setIfInBounds_toArray, List.set_cons_zero, List.set_cons_succ])
      clear d0 d1 d2 d3 d4 d5 df e0 f0 f1
      refine wpAnyH_take (i := 8) (v := ?_) rfl (by kernel_rfl) (by kernel_rfl) (by kernel_rfl) (fun _ _ _ h => h) (Or.inl ⟨by rfl, ?_⟩) (by assumption) ?_; rotate_left 1; (intro w hSw; (try dsimp only at hSw); go_simp; try with_reducible rfl); (try simp only [Act.put, List.getElem_toArray, List.getElem_cons_zero, List.getElem_cons_succ, List.setIfInBounds_toArray, List.set_cons_zero, List.set_cons_succ])
      refine wpAnyH_take (i := 15) (v := ?_) rfl (by kernel_rfl) (by kernel_rfl) (by kernel_rfl) (fun _ _ _ h => h) (Or.inl ⟨by rfl, ?_⟩) (by assumption) ?_; rotate_left 1; (intro w hSw; (try dsimp only at hSw); go_simp; try with_reducible rfl); (try simp only [Act.put, List.getElem_toArray, List.getElem_cons_zero, List.getElem_cons_succ, List.setIfInBounds_toArray, List.set_cons_zero, List.set_cons_succ])
      refine wpAnyH_take (i := 17) (v := ?_) rfl (by kernel_rfl) (by kernel_rfl) (by kernel_rfl) (fun _ _ _ h => h) (Or.inl ⟨by rfl, ?_⟩) (by assumption) ?_; rotate_left 1; (intro w hSw; (try dsimp only at hSw); go_simp; try with_reducible rfl); (try simp only [Act.put, List.getElem_toArray, List.getElem_cons_zero, List.getElem_cons_succ, List.setIfInBounds_toArray, List.set_cons_zero, List.set_cons_succ])
      refine wpAnyH_take (i := 19) (v := ?_) rfl (by kernel_rfl) (by kernel_rfl) (by kernel_rfl) (fun _ _ _ h => h) (Or.inl ⟨by rfl, ?_⟩) (by assumption) ?_; rotate_left 1; (intro w hSw; (try dsimp only at hSw); go_simp; try with_reducible rfl); (try simp only [Act.put, List.getElem_toArray, List.getElem_cons_zero, List.getElem_cons_succ, List.setIfInBounds_toArray, List.set_cons_zero, List.set_cons_succ])
      refine wpAnyH_take (i := 20) (v := ?_) rfl (by kernel_rfl) (by kernel_rfl) (by kernel_rfl) (fun _ _ _ h => h) (Or.inl ⟨by rfl, ?_⟩) (by assumption) ?_; rotate_left 1; (intro w hSw; (try dsimp only at hSw); go_simp; try with_reducible rfl); (try simp only [Act.put, List.getElem_toArray, List.getElem_cons_zero, List.getElem_cons_succ, List.setIfInBounds_toArray, List.set_cons_zero, List.set_cons_succ])
      refine wpAnyH_take (i := 21) (v := ?_) rfl (by kernel_rfl) (by kernel_rfl) (by kernel_rfl) (fun _ _ _ h => h) (Or.inl ⟨by rfl, ?_⟩) (by assumption) ?_; rotate_left 1; (intro w hSw; (try dsimp only at hSw); go_simp; try with_reducible rfl); (try simp only [Act.put, List.getElem_toArray, List.getElem_cons_zero, List.getElem_cons_succ, List.setIfInBounds_toArray, List.set_cons_zero, List.set_cons_succ])
      refine wpAnyH_done (by kernel_rfl) ?_ _
      clear hHeld
      go_wp2_with fail
      go_ret2
      exact ⟨⟨_, _, rfl, hfin.out⟩, bw.out⟩
    refine AllReadyH.cons rfl (fun K hK => ?_) ?_
    · skip
      go_simp
      (with_reducible refine (hput.out _).mono ?_)
      rintro e w0a ⟨rfl, b1⟩
      go_wp2_with fail
      replace KK := hid (KK.out.below b1 KK.out.lt)
      replace bw := hid (bw.out.trans (b1.mono bw.out.size))
      clear b1
      obtain ⟨d0, d1, d2, d3, d4, d5, df⟩ := sixc KK.out
      refine hK.out _ _ ⟨d0, d1, d2⟩ (fun hHeldN => ?_)
      clear hK K hHeld
      have hHeld := hHeldN
      clear hHeldN
      (try simp only [Act.put, List.getElem_toArray, List.getElem_cons_zero, List.getElem_cons_succ, List.setIfInBounds_toArray, List.set_cons_zero, List.set_cons_succ])
      clear d0 d1 d2 d3 d4 d5 df
      refine wpAnyH_ready (rs := [3, 13]) (by kernel_rfl) (by simp) ?_
      refine AllReadyH.cons rfl (fun K hK => ?_) ?_
      · skip
        go_simp
        have Q3 := hid (Blk.new w0a [.int .u8 y] 5)
        replace KK := hid (KK.out.alloc (.cells #[.int .u8 y] 5))
        replace bw := hid (bw.out.alloc bw.out.size (.cells #[.int .u8 y] 5))
        change Hid (Blk (w0a.alloc (.cells #[.int .u8 y] 5)) _ _ _) at Q3
        obtain ⟨g1, hg1⟩ : ∃ g, w0a.heap.size = g := ⟨_, rfl⟩
        rw [hg1] at Q3 ⊢
        clear hg1
        generalize w0a.alloc (.cells #[.int .u8 y] 5) = w0ab at KK bw Q3 ⊢
        obtain ⟨d0, d1, d2, d3, d4, d5, df⟩ := sixc KK.out
        have e0 := Q3.out.cell 0 (by simp)
        refine hK.out _ _ ⟨d0, d1, d2⟩ (fun hHeldN => ?_)
        clear hK K hHeld
        have hHeld := hHeldN
        clear hHeldN
        (try simp only [Act.put, List.getElem_toArray, List.getElem_cons_zero, List.getElem_cons_succ, List.setIfInBounds_toArray, List.set_cons_zero, List.set_cons_succ])
        have hcv1 := hc1 g1
        refine wpAnyH_mono (S1 := (fun W : World => ((W.cell? ⟨pb, 0, none⟩ = some (.int .i64 y) ∧ W.cell? ⟨pb, 1, none⟩ = some (.int .u64 N) ∧ W.cell? ⟨pb, 2, none⟩ = some (.int .i64 q)) ∧ W.cell? ⟨g1, 0, none⟩ = some (.int .u8 y)))) (fun _ h => h.1) ?_
        have hHeld1 : (fun W : World => ((W.cell? ⟨pb, 0, none⟩ = some (.int .i64 y) ∧ W.cell? ⟨pb, 1, none⟩ = some (.int .u64 N) ∧ W.cell? ⟨pb, 2, none⟩ = some (.int .i64 q)) ∧ W.cell? ⟨g1, 0, none⟩ = some (.int .u8 y))) w0ab := ⟨⟨d0, d1, d2⟩, e0⟩
        clear hHeld
        have hHeld := hHeld1
        clear hHeld1
        clear d0 d1 d2 d3 d4 d5 df e0
        refine wpAnyH_take (i := 4) (v := ?_) rfl (by kernel_rfl) (by kernel_rfl) (by kernel_rfl) (fun _ _ _ h => h) (Or.inl ⟨by rfl, ?_⟩) (by assumption) ?_; rotate_left 1; (intro w hSw; (try dsimp only at hSw); go_simp; try with_reducible rfl); (try simp only [Act.put, List.getElem_toArray, List.getElem_cons_zero, List.getElem_cons_succ, List.setIfInBounds_toArray, List.set_cons_zero, List.set_cons_succ])
        refine wpAnyH_take (i := 8) (v := ?_) rfl (by kernel_rfl) (by kernel_rfl) (by kernel_rfl) (fun _ _ _ h => h) (Or.inl ⟨by rfl, ?_⟩) (by assumption) ?_; rotate_left 1; (intro w hSw; (try dsimp only at hSw); go_simp; try with_reducible rfl); (try simp only [Act.put, List.getElem_toArray, List.getElem_cons_zero, List.getElem_cons_succ, List.setIfInBounds_toArray, List.set_cons_zero, List.set_cons_succ])
        refine wpAnyH_ready (rs := [13]) (by kernel_rfl) (by simp) ?_
        refine AllReadyH.cons rfl (fun K hK => ?_) AllReadyH.nil
        go_simp
        have Q13 := hid (Blk.new w0ab [.int .u8 q, .int .u8 0] 5)
        replace KK := hid (KK.out.alloc (.cells #[.int .u8 q, .int .u8 0] 5))
        replace bw := hid (bw.out.alloc bw.out.size (.cells #[.int .u8 q, .int .u8 0] 5))
        replace Q3 := hid (Q3.out.alloc (.cells #[.int .u8 q, .int .u8 0] 5))
        change Hid (Blk (w0ab.alloc (.cells #[.int .u8 q, .int .u8 0] 5)) _ _ _) at Q13
        obtain ⟨g2, hg2⟩ : ∃ g, w0ab.heap.size = g := ⟨_, rfl⟩
        rw [hg2] at Q13 ⊢
        clear hg2
        generalize w0ab.alloc (.cells #[.int .u8 q, .int .u8 0] 5) = w0abc at KK bw Q3 Q13 ⊢
        obtain ⟨d0, d1, d2, d3, d4, d5, df⟩ := sixc KK.out
        have e0 := Q3.out.cell 0 (by simp)
        have f0 := Q13.out.cell 0 (by simp)
        have f1 := Q13.out.cell 1 (by simp)
        refine hK.out _ _ ⟨⟨d0, d1, d2⟩, e0⟩ (fun hHeldN => ?_)
        clear hK K hHeld
        have hHeld := hHeldN
        clear hHeldN
        (try simp only [Act.put, List.getElem_toArray, List.getElem_cons_zero, List.getElem_cons_succ, List.setIfInBounds_toArray, List.set_cons_zero, List.set_cons_succ])
        have hcv2 := hcq g2
        refine wpAnyH_mono (S1 := (fun W : World => (((W.cell? ⟨pb, 0, none⟩ = some (.int .i64 y) ∧ W.cell? ⟨pb, 1, none⟩ = some (.int .u64 N) ∧ W.cell? ⟨pb, 2, none⟩ = some (.int .i64 q)) ∧ W.cell? ⟨g1, 0, none⟩ = some (.int .u8 y)) ∧ W.cell? ⟨g2, 0, none⟩ = some (.int .u8 q) ∧ W.cell? ⟨g2, 1, none⟩ = some (.int .u8 0)))) (fun _ h => h.1) ?_
        have hHeld1 : (fun W : World => (((W.cell? ⟨pb, 0, none⟩ = some (.int .i64 y) ∧ W.cell? ⟨pb, 1, none⟩ = some (.int .u64 N) ∧ W.cell? ⟨pb, 2, none⟩ = some (.int .i64 q)) ∧ W.cell? ⟨g1, 0, none⟩ = some (.int .u8 y)) ∧ W.cell? ⟨g2, 0, none⟩ = some (.int .u8 q) ∧ W.cell? ⟨g2, 1, none⟩ = some (.int .u8 0))) w0abc := ⟨⟨⟨d0, d1, d2⟩, e0⟩, f0, f1⟩
        clear hHeld
        have hHeld := hHeld1
        clear hHeld1
        clear d0 d1 d2 d3 d4 d5 df e0 f0 f1
        refine wpAnyH_take (i := 14) (v := ?_) rfl (by kernel_rfl) (by kernel_rfl) (by kernel_rfl) (fun _ _ _ h => h) (Or.inl ⟨by rfl, ?_⟩) (by assumption) ?_; rotate_left 1; (intro w hSw; (try dsimp only at hSw); go_simp; try with_reducible rfl); (try simp only [Act.put, List.getElem_toArray, List.getElem_cons_zero, List.getElem_cons_succ, List.setIfInBounds_toArray, List.set_cons_zero, List.set_cons_succ])
        refine wpAnyH_take (i := 15) (v := ?_) rfl (by kernel_rfl) (by kernel_rfl) (by kernel_rfl) (fun _ _ _ h => h) (Or.inl ⟨by rfl, ?_⟩) (by assumption) ?_; rotate_left 1; (intro w hSw; (try dsimp only at hSw); go_simp; try with_reducible rfl); (try simp only [Act.put, List.getElem_toArray, List.getElem_cons_zero, List.getElem_cons_succ, List.setIfInBounds_toArray, List.set_cons_zero, List.set_cons_succ])
        refine wpAnyH_take (i := 17) (v := ?_) rfl (by kernel_rfl) (by kernel_rfl) (by kernel_rfl) (fun _ _ _ h => h) (Or.inl ⟨by rfl, ?_⟩) (by assumption) ?_; rotate_left 1; (intro w hSw; (try dsimp only at hSw); go_simp; try with_reducible rfl); (try simp only [Act.put, List.getElem_toArray, List.getElem_cons_zero, List.getElem_cons_succ, List.setIfInBounds_toArray, List.set_cons_zero, List.set_cons_succ])
        refine wpAnyH_take (i := 19) (v := ?_) rfl (by kernel_rfl) (by kernel_rfl) (by kernel_rfl) (fun _ _ _ h => h) (Or.inl ⟨by rfl, ?_⟩) (by assumption) ?_; rotate_left 1; (intro w hSw; (try dsimp only at hSw); go_simp; try with_reducible rfl); (try simp only [Act.put, List.getElem_toArray, List.getElem_cons_zero, List.getElem_cons_succ, List.setIfInBounds_toArray, List.set_cons_zero, List.set_cons_succ])
        refine wpAnyH_take (i := 20) (v := ?_) rfl (by kernel_rfl) (by kernel_rfl) (by kernel_rfl) (fun _ _ _ h => h) (Or.inl ⟨by rfl, ?_⟩) (by assumption) ?_; rotate_left 1; (intro w hSw; (try dsimp only at hSw); go_simp; try with_reducible rfl); (try simp only [Act.put, List.getElem_toArray, List.getElem_cons_zero, List.getElem_cons_succ, List.setIfInBounds_toArray, List.set_cons_zero, List.set_cons_succ])
        refine wpAnyH_take (i := 21) (v := ?_) rfl (by kernel_rfl) (by kernel_rfl) (by kernel_rfl) (fun _ _ _ h => h) (Or.inl ⟨by rfl, ?_⟩) (by assumption) ?_; rotate_left 1; (intro w hSw; (try dsimp only at hSw); go_simp; try with_reducible rfl); (try simp only [Act.put, List.getElem_toArray, List.getElem_cons_zero, List.getElem_cons_succ, List.setIfInBounds_toArray, List.set_cons_zero, List.set_cons_succ])
        refine wpAnyH_done (by kernel_rfl) ?_ _
        clear hHeld
        go_wp2_with fail
        go_ret2
        exact ⟨⟨_, _, rfl, hfin.out⟩, bw.out⟩
      refine AllReadyH.cons rfl (fun K hK => ?_) AllReadyH.nil
      go_simp
      have Q13 := hid (Blk.new w0a [.int .u8 q, .int .u8 0] 5)
      replace KK := hid (KK.out.alloc (.cells #[.int .u8 q, .int .u8 0] 5))
      replace bw := hid (bw.out.alloc bw.out.size (.cells #[.int .u8 q, .int .u8 0] 5))
      change Hid (Blk (w0a.alloc (.cells #[.int .u8 q, .int .u8 0] 5)) _ _ _) at Q13
      obtain ⟨g2, hg2⟩ : ∃ g, w0a.heap.size = g := ⟨_, rfl⟩
      rw [hg2] at Q13 ⊢
      clear hg2
      generalize w0a.alloc (.cells #[.int .u8 q, .int .u8 0] 5) = w0ac at KK bw Q13 ⊢
      obtain ⟨d0, d1, d2, d3, d4, d5, df⟩ := sixc KK.out
      have f0 := Q13.out.cell 0 (by simp)
      have f1 := Q13.out.cell 1 (by simp)
      refine hK.out _ _ ⟨d0, d1, d2⟩ (fun hHeldN => ?_)
      clear hK K hHeld
      have hHeld := hHeldN
      clear hHeldN
      (try simp only [Act.put, List.getElem_toArray, List.getElem_cons_zero, List.getElem_cons_succ, List.setIfInBounds_toArray, List.set_cons_zero, List.set_cons_succ])
      have hcv2 := hcq g2
      refine wpAnyH_mono (S1 := (fun W : World => ((W.cell? ⟨pb, 0, none⟩ = some (.int .i64 y) ∧ W.cell? ⟨pb, 1, none⟩ = some (.int .u64 N) ∧ W.cell? ⟨pb, 2, none⟩ = some (.int .i64 q)) ∧ W.cell? ⟨g2, 0, none⟩ = some (.int .u8 q) ∧ W.cell? ⟨g2, 1, none⟩ = some (.int .u8 0)))) (fun _ h => h.1) ?_
      have hHeld1 : (fun W : World => ((W.cell? ⟨pb, 0, none⟩ = some (.int .i64 y) ∧ W.cell? ⟨pb, 1, none⟩ = some (.int .u64 N) ∧ W.cell? ⟨pb, 2, none⟩ = some (.int .i64 q)) ∧ W.cell? ⟨g2, 0, none⟩ = some (.int .u8 q) ∧ W.cell? ⟨g2, 1, none⟩ = some (.int .u8 0))) w0ac := ⟨⟨d0, d1, d2⟩, f0, f1⟩
      clear hHeld
      have hHeld := hHeld1
      clear hHeld1
      clear d0 d1 d2 d3 d4 d5 df f0 f1
      refine wpAnyH_take (i := 14) (v := ?_) rfl (by kernel_rfl) (by kernel_rfl) (by kernel_rfl) (fun _ _ _ h => h) (Or.inl ⟨by rfl, ?_⟩) (by assumption) ?_; rotate_left 1; (intro w hSw; (try dsimp only at hSw); go_simp; try with_reducible rfl); (try simp only [Act.put, List.getElem_toArray, List.getElem_cons_zero, List.getElem_cons_succ, List.setIfInBounds_toArray, List.set_cons_zero, List.set_cons_succ])
      refine wpAnyH_ready (rs := [3]) (by kernel_rfl) (by simp) ?_
      refine AllReadyH.cons rfl (fun K hK => ?_) AllReadyH.nil
      go_simp
      have Q3 := hid (Blk.new w0ac [.int .u8 y] 5)
      replace KK := hid (KK.out.alloc (.cells #[.int .u8 y] 5))
      replace bw := hid (bw.out.alloc bw.out.size (.cells #[.int .u8 y] 5))
      replace Q13 := hid (Q13.out.alloc (.cells #[.int .u8 y] 5))
      change Hid (Blk (w0ac.alloc (.cells #[.int .u8 y] 5)) _ _ _) at Q3
      obtain ⟨g1, hg1⟩ : ∃ g, w0ac.heap.size = g := ⟨_, rfl⟩
      rw [hg1] at Q3 ⊢
      clear hg1
      generalize w0ac.alloc (.cells #[.int .u8 y] 5) = w0acb at KK bw Q13 Q3 ⊢
      obtain ⟨d0, d1, d2, d3, d4, d5, df⟩ := sixc KK.out
      have f0 := Q13.out.cell 0 (by simp)
      have f1 := Q13.out.cell 1 (by simp)
      have e0 := Q3.out.cell 0 (by simp)
      refine hK.out _ _ ⟨⟨d0, d1, d2⟩, f0, f1⟩ (fun hHeldN => ?_)
      clear hK K hHeld
      have hHeld := hHeldN
      clear hHeldN
      (try simp only [Act.put, List.getElem_toArray, List.getElem_cons_zero, List.getElem_cons_succ, List.setIfInBounds_toArray, List.set_cons_zero, List.set_cons_succ])
      have hcv1 := hc1 g1
      refine wpAnyH_mono (S1 := (fun W : World => (((W.cell? ⟨pb, 0, none⟩ = some (.int .i64 y) ∧ W.cell? ⟨pb, 1, none⟩ = some (.int .u64 N) ∧ W.cell? ⟨pb, 2, none⟩ = some (.int .i64 q)) ∧ W.cell? ⟨g2, 0, none⟩ = some (.int .u8 q) ∧ W.cell? ⟨g2, 1, none⟩ = some (.int .u8 0)) ∧ W.cell? ⟨g1, 0, none⟩ = some (.int .u8 y)))) (fun _ h => h.1) ?_
      have hHeld1 : (fun W : World => (((W.cell? ⟨pb, 0, none⟩ = some (.int .i64 y) ∧ W.cell? ⟨pb, 1, none⟩ = some (.int .u64 N) ∧ W.cell? ⟨pb, 2, none⟩ = some (.int .i64 q)) ∧ W.cell? ⟨g2, 0, none⟩ = some (.int .u8 q) ∧ W.cell? ⟨g2, 1, none⟩ = some (.int .u8 0)) ∧ W.cell? ⟨g1, 0, none⟩ = some (.int .u8 y))) w0acb := ⟨⟨⟨d0, d1, d2⟩, f0, f1⟩, e0⟩
      clear hHeld
      have hHeld := hHeld1
      clear hHeld1
      clear d0 d1 d2 d3 d4 d5 df e0 f0 f1
      refine wpAnyH_take (i := 4) (v := ?_) rfl (by kernel_rfl) (by kernel_rfl) (by kernel_rfl) (fun _ _ _ h => h) (Or.inl ⟨by rfl, ?_⟩) (by assumption) ?_; rotate_left 1; (intro w hSw; (try dsimp only at hSw); go_simp; try with_reducible rfl); (try simp only [Act.put, List.getElem_toArray, List.getElem_cons_zero, List.getElem_cons_succ, List.setIfInBounds_toArray, List.set_cons_zero, List.set_cons_succ])
      refine wpAnyH_take (i := 8) (v := ?_) rfl (by kernel_rfl) (by kernel_rfl) (by kernel_rfl) (fun _ _ _ h => h) (Or.inl ⟨by rfl, ?_⟩) (by assumption) ?_; rotate_left 1; (intro w hSw; (try dsimp only at hSw); go_simp; try with_reducible rfl); (try simp only [Act.put, List.getElem_toArray, List.getElem_cons_zero, List.getElem_cons_succ, List.setIfInBounds_toArray, List.set_cons_zero, List.set_cons_succ])
      refine wpAnyH_take (i := 15) (v := ?_) rfl (by kernel_rfl) (by kernel_rfl) (by kernel_rfl) (fun _ _ _ h => h) (Or.inl ⟨by rfl, ?_⟩) (by assumption) ?_; rotate_left 1; (intro w hSw; (try dsimp only at hSw); go_simp; try with_reducible rfl); (try simp only [Act.put, List.getElem_toArray, List.getElem_cons_zero, List.getElem_cons_succ, List.setIfInBounds_toArray, List.set_cons_zero, List.set_cons_succ])
      refine wpAnyH_take (i := 17) (v := ?_) rfl (by kernel_rfl) (by kernel_rfl) (by kernel_rfl) (fun _ _ _ h => h) (Or.inl ⟨by rfl, ?_⟩) (by assumption) ?_; rotate_left 1; (intro w hSw; (try dsimp only at hSw); go_simp; try with_reducible rfl); (try simp only [Act.put, List.getElem_toArray, List.getElem_cons_zero, List.getElem_cons_succ, List.setIfInBounds_toArray, List.set_cons_zero, List.set_cons_succ])
      refine wpAnyH_take (i := 19) (v := ?_) rfl (by kernel_rfl) (by kernel_rfl) (by kernel_rfl) (fun _ _ _ h => h) (Or.inl ⟨by rfl, ?_⟩) (by assumption) ?_; rotate_left 1; (intro w hSw; (try dsimp only at hSw); go_simp; try with_reducible rfl); (try simp only [Act.put, List.getElem_toArray, List.getElem_cons_zero, List.getElem_cons_succ, List.setIfInBounds_toArray, List.set_cons_zero, List.set_cons_succ])
      refine wpAnyH_take (i := 20) (v := ?_) rfl (by kernel_rfl) (by kernel_rfl) (by kernel_rfl) (fun _ _ _ h => h) (Or.inl ⟨by rfl, ?_⟩) (by assumption) ?_; rotate_left 1; (intro w hSw; (try dsimp only at hSw); go_simp; try with_reducible rfl); (try simp only [Act.put, List.getElem_toArray, List.getElem_cons_zero, List.getElem_cons_succ, List.setIfInBounds_toArray, List.set_cons_zero, List.set_cons_succ])
      refine wpAnyH_take (i := 21) (v := ?_) rfl (by kernel_rfl) (by kernel_rfl) (by kernel_rfl) (fun _ _ _ h => h) (Or.inl ⟨by rfl, ?_⟩) (by assumption) ?_; rotate_left 1; (intro w hSw; (try dsimp only at hSw); go_simp; try with_reducible rfl); (try simp only [Act.put, List.getElem_toArray, List.getElem_cons_zero, List.getElem_cons_succ, List.setIfInBounds_toArray, List.set_cons_zero, List.set_cons_succ])
      refine wpAnyH_done (by kernel_rfl) ?_ _
      clear hHeld
      go_wp2_with fail
      go_ret2
      exact ⟨⟨_, _, rfl, hfin.out⟩, bw.out⟩
    refine AllReadyH.cons rfl (fun K hK => ?_) AllReadyH.nil
    go_simp
    have Q13 := hid (Blk.new w0 [.int .u8 q, .int .u8 0] 5)
    replace KK := hid (KK.out.alloc (.cells #[.int .u8 q, .int .u8 0] 5))
    replace bw := hid (bw.out.alloc bw.out.size (.cells #[.int .u8 q, .int .u8 0] 5))
    change Hid (Blk (w0.alloc (.cells #[.int .u8 q, .int .u8 0] 5)) _ _ _) at Q13
    obtain ⟨g2, hg2⟩ : ∃ g, w0.heap.size = g := ⟨_, rfl⟩
    rw [hg2] at Q13 ⊢
    clear hg2
    generalize w0.alloc (.cells #[.int .u8 q, .int .u8 0] 5) = w0c at KK bw Q13 ⊢
    obtain ⟨d0, d1, d2, d3, d4, d5, df⟩ := sixc KK.out
    have f0 := Q13.out.cell 0 (by simp)
    have f1 := Q13.out.cell 1 (by simp)
    refine hK.out _ _ ⟨d0, d1, d2⟩ (fun hHeldN => ?_)
    clear hK K hHeld
    have hHeld := hHeldN
    clear hHeldN
    (try simp only [Act.put, List.getElem_toArray, List.getElem_cons_zero, List.getElem_cons_succ, List.setIfInBounds_toArray, List.set_cons_zero, List.set_cons_succ])
    have hcv2 := hcq g2
    refine wpAnyH_mono (S1 := (fun W : World => ((W.cell? ⟨pb, 0, none⟩ = some (.int .i64 y) ∧ W.cell? ⟨pb, 1, none⟩ = some (.int .u64 N) ∧ W.cell? ⟨pb, 2, none⟩ = some (.int .i64 q)) ∧ W.cell? ⟨g2, 0, none⟩ = some (.int .u8 q) ∧ W.cell? ⟨g2, 1, none⟩ = some (.int .u8 0)))) (fun _ h => h.1) ?_
    have hHeld1 : (fun W : World => ((W.cell? ⟨pb, 0, none⟩ = some (.int .i64 y) ∧ W.cell? ⟨pb, 1, none⟩ = some (.int .u64 N) ∧ W.cell? ⟨pb, 2, none⟩ = some (.int .i64 q)) ∧ W.cell? ⟨g2, 0, none⟩ = some (.int .u8 q) ∧ W.cell? ⟨g2, 1, none⟩ = some (.int .u8 0))) w0c := ⟨⟨d0, d1, d2⟩, f0, f1⟩
    clear hHeld
    have hHeld := hHeld1
    clear hHeld1
    clear d0 d1 d2 d3 d4 d5 df f0 f1
    refine wpAnyH_take (i := 14) (v := ?_) rfl (by kernel_rfl) (by kernel_rfl) (by kernel_rfl) (fun _ _ _ h => h) (Or.inl ⟨by rfl, ?_⟩) (by assumption) ?_; rotate_left 1; (intro w hSw; (try dsimp only at hSw); go_simp; try with_reducible rfl); (try simp only [Act.put, List.getElem_toArray, List.getElem_cons_zero, List.getElem_cons_succ, List.setIfInBounds_toArray, List.set_cons_zero, List.set_cons_succ])
    refine wpAnyH_ready (rs := [3, 7]) (by kernel_rfl) (by simp) ?_
    refine AllReadyH.cons rfl (fun K hK => ?_) ?_
    · skip
      go_simp
      have Q3 := hid (Blk.new w0c [.int .u8 y] 5)
      replace KK := hid (KK.out.alloc (.cells #[.int .u8 y] 5))
      replace bw := hid (bw.out.alloc bw.out.size (.cells #[.int .u8 y] 5))
      replace Q13 := hid (Q13.out.alloc (.cells #[.int .u8 y] 5))
      change Hid (Blk (w0c.alloc (.cells #[.int .u8 y] 5)) _ _ _) at Q3
      obtain ⟨g1, hg1⟩ : ∃ g, w0c.heap.size = g := ⟨_, rfl⟩
      rw [hg1] at Q3 ⊢
      clear hg1
      generalize w0c.alloc (.cells #[.int .u8 y] 5) = w0cb at KK bw Q13 Q3 ⊢
      obtain ⟨d0, d1, d2, d3, d4, d5, df⟩ := sixc KK.out
      have f0 := Q13.out.cell 0 (by simp)
      have f1 := Q13.out.cell 1 (by simp)
      have e0 := Q3.out.cell 0 (by simp)
      refine hK.out _ _ ⟨⟨d0, d1, d2⟩, f0, f1⟩ (fun hHeldN => ?_)
      clear hK K hHeld
      have hHeld := hHeldN
      clear hHeldN
      (try simp only [Act.put, List.getElem_toArray, List.getElem_cons_zero, List.getElem_cons_succ, List.setIfInBounds_toArray, List.set_cons_zero, List.set_cons_succ])
      have hcv1 := hc1 g1
      refine wpAnyH_mono (S1 := (fun W : World => (((W.cell? ⟨pb, 0, none⟩ = some (.int .i64 y) ∧ W.cell? ⟨pb, 1, none⟩ = some (.int .u64 N) ∧ W.cell? ⟨pb, 2, none⟩ = some (.int .i64 q)) ∧ W.cell? ⟨g2, 0, none⟩ = some (.int .u8 q) ∧ W.cell? ⟨g2, 1, none⟩ = some (.int .u8 0)) ∧ W.cell? ⟨g1, 0, none⟩ = some (.int .u8 y)))) (fun _ h => h.1) ?_
      have hHeld1 : (fun W : World => (((W.cell? ⟨pb, 0, none⟩ = some (.int .i64 y) ∧ W.cell? ⟨pb, 1, none⟩ = some (.int .u64 N) ∧ W.cell? ⟨pb, 2, none⟩ = some (.int .i64 q)) ∧ W.cell? ⟨g2, 0, none⟩ = some (.int .u8 q) ∧ W.cell? ⟨g2, 1, none⟩ = some (.int .u8 0)) ∧ W.cell? ⟨g1, 0, none⟩ = some (.int .u8 y))) w0cb := ⟨⟨⟨d0, d1, d2⟩, f0, f1⟩, e0⟩
      clear hHeld
      have hHeld := hHeld1
      clear hHeld1
      clear d0 d1 d2 d3 d4 d5 df e0 f0 f1
      refine wpAnyH_take (i := 4) (v := ?_) rfl (by kernel_rfl) (by kernel_rfl) (by kernel_rfl) (fun _ _ _ h => h) (Or.inl ⟨by rfl, ?_⟩) (by assumption) ?_; rotate_left 1; (intro w hSw; (try dsimp only at hSw); go_simp; try with_reducible rfl); (try simp only [Act.put, List.getElem_toArray, List.getElem_cons_zero, List.getElem_cons_succ, List.setIfInBounds_toArray, List.set_cons_zero, List.set_cons_succ])
      refine wpAnyH_ready (rs := [7]) (by kernel_rfl) (by simp) ?_
      refine AllReadyH.cons rfl (fun K hK => ?_) AllReadyH.nil
      go_simp
      (with_reducible refine (hput.out _).mono ?_)
      rintro e w0cba ⟨rfl, b1⟩
      go_wp2_with fail
      replace KK := hid (KK.out.below b1 KK.out.lt)
      replace bw := hid (bw.out.trans (b1.mono bw.out.size))
      replace Q13 := hid (Q13.out.below b1 Q13.out.lt)
      replace Q3 := hid (Q3.out.below b1 Q3.out.lt)
      clear b1
      obtain ⟨d0, d1, d2, d3, d4, d5, df⟩ := sixc KK.out
      have f0 := Q13.out.cell 0 (by simp)
      have f1 := Q13.out.cell 1 (by simp)
      have e0 := Q3.out.cell 0 (by simp)
      refine hK.out _ _ ⟨⟨⟨d0, d1, d2⟩, f0, f1⟩, e0⟩ (fun hHeldN => ?_)
      clear hK K hHeld
      have hHeld := hHeldN
      clear hHeldN
      (try simp only [Act.put, List.getElem_toArray, List.getElem_cons_zero, List.getElem_cons_succ, List.setIfInBounds_toArray, List.set_cons_zero, List.set_cons_succ])
      clear d0 d1 d2 d3 d4 d5 df e0 f0 f1
      refine wpAnyH_take (i := 8) (v := ?_) rfl (by kernel_rfl) (by kernel_rfl) (by kernel_rfl) (fun _ _ _ h => h) (Or.inl ⟨by rfl, ?_⟩) (by assumption) ?_; rotate_left 1; (intro w hSw; (try dsimp only at hSw); go_simp; try with_reducible rfl); (try simp only [Act.put, List.getElem_toArray, List.getElem_cons_zero, List.getElem_cons_succ, List.setIfInBounds_toArray, List.set_cons_zero, List.set_cons_succ])
      refine wpAnyH_take (i := 15) (v := ?_) rfl (by kernel_rfl) (by kernel_rfl) (by kernel_rfl) (fun _ _ _ h => h) (Or.inl ⟨by rfl, ?_⟩) (by assumption) ?_; rotate_left 1; (intro w hSw; (try dsimp only at hSw); go_simp; try with_reducible rfl); (try simp only [Act.put, List.getElem_toArray, List.getElem_cons_zero, List.getElem_cons_succ, List.setIfInBounds_toArray, List.set_cons_zero, List.set_cons_succ])
      refine wpAnyH_take (i := 17) (v := ?_) rfl (by kernel_rfl) (by kernel_rfl) (by kernel_rfl) (fun _ _ _ h => h) (Or.inl ⟨by rfl, ?_⟩) (by assumption) ?_; rotate_left 1; (intro w hSw; (try dsimp only at hSw); go_simp; try with_reducible rfl); (try simp only [Act.put, List.getElem_toArray, List.getElem_cons_zero, List.getElem_cons_succ, List.setIfInBounds_toArray, List.set_cons_zero, List.set_cons_succ])
      refine wpAnyH_take (i := 19) (v := ?_) rfl (by kernel_rfl) (by kernel_rfl) (by kernel_rfl) (fun _ _ _ h => h) (Or.inl ⟨by rfl, ?_⟩) (by assumption) ?_; rotate_left 1; (intro w hSw; (try dsimp only at hSw); go_simp; try with_reducible rfl); (try simp only [Act.put, List.getElem_toArray, List.getElem_cons_zero, List.getElem_cons_succ, List.setIfInBounds_toArray, List.set_cons_zero, List.set_cons_succ])
      refine wpAnyH_take (i := 20) (v := ?_) rfl (by kernel_rfl) (by kernel_rfl) (by kernel_rfl) (fun _ _ _ h => h) (Or.inl ⟨by rfl, ?_⟩) (by assumption) ?_; rotate_left 1; (intro w hSw; (try dsimp only at hSw); go_simp; try with_reducible rfl); (try simp only [Act.put, List.getElem_toArray, List.getElem_cons_zero, List.getElem_cons_succ, List.setIfInBounds_toArray, List.set_cons_zero, List.set_cons_succ])
      refine wpAnyH_take (i := 21) (v := ?_) rfl (by kernel_rfl) (by kernel_rfl) (by kernel_rfl) (fun _ _ _ h => h) (Or.inl ⟨by rfl, ?_⟩) (by assumption) ?_; rotate_left 1; (intro w hSw; (try dsimp only at hSw); go_simp; try with_reducible rfl); (try simp only [Act.put, List.getElem_toArray, List.getElem_cons_zero, List.getElem_cons_succ, List.setIfInBounds_toArray, List.set_cons_zero, List.set_cons_succ])
      refine wpAnyH_done (by kernel_rfl) ?_ _
      clear hHeld
      go_wp2_with fail
      go_ret2
      exact ⟨⟨_, _, rfl, hfin.out⟩, bw.out⟩
    refine AllReadyH.cons rfl (fun K hK => ?_) AllReadyH.nil
    go_simp
    (with_reducible refine (hput.out _).mono ?_)
    rintro e w0ca ⟨rfl, b1⟩
    go_wp2_with fail
    replace KK := hid (KK.out.below b1 KK.out.lt)
    replace bw := hid (bw.out.trans (b1.mono bw.out.size))
    replace Q13 := hid (Q13.out.below b1 Q13.out.lt)
    clear b1
    obtain ⟨d0, d1, d2, d3, d4, d5, df⟩ := sixc KK.out
    have f0 := Q13.out.cell 0 (by simp)
    have f1 := Q13.out.cell 1 (by simp)
    refine hK.out _ _ ⟨⟨d0, d1, d2⟩, f0, f1⟩ (fun hHeldN => ?_)
    clear hK K hHeld
    have hHeld := hHeldN
    clear hHeldN
    (try simp only [Act.put, List.getElem_toArray, List.getElem_cons_zero, List.getElem_cons_succ, List.setIfInBounds_toArray, List.set_cons_zero, List.set_cons_succ])
    clear d0 d1 d2 d3 d4 d5 df f0 f1
    refine wpAnyH_ready (rs := [3]) (by kernel_rfl) (by simp) ?_
    refine AllReadyH.cons rfl (fun K hK => ?_) AllReadyH.nil
    go_simp
    have Q3 := hid (Blk.new w0ca [.int .u8 y] 5)
    replace KK := hid (KK.out.alloc (.cells #[.int .u8 y] 5))
    replace bw := hid (bw.out.alloc bw.out.size (.cells #[.int .u8 y] 5))
    replace Q13 := hid (Q13.out.alloc (.cells #[.int .u8 y] 5))
    change Hid (Blk (w0ca.alloc (.cells #[.int .u8 y] 5)) _ _ _) at Q3
    obtain ⟨g1, hg1⟩ : ∃ g, w0ca.heap.size = g := ⟨_, rfl⟩
    rw [hg1] at Q3 ⊢
    clear hg1
    generalize w0ca.alloc (.cells #[.int .u8 y] 5) = w0cab at KK bw Q13 Q3 ⊢
    obtain ⟨d0, d1, d2, d3, d4, d5, df⟩ := sixc KK.out
    have f0 := Q13.out.cell 0 (by simp)
    have f1 := Q13.out.cell 1 (by simp)
    have e0 := Q3.out.cell 0 (by simp)
    refine hK.out _ _ ⟨⟨d0, d1, d2⟩, f0, f1⟩ (fun hHeldN => ?_)
    clear hK K hHeld
    have hHeld := hHeldN
    clear hHeldN
    (try simp only [Act.put, List.getElem_toArray, List.getElem_cons_zero, List.getElem_cons_succ, List.setIfInBounds_toArray, List.set_cons_zero, List.set_cons_succ])
    have hcv1 := hc1 g1
    refine wpAnyH_mono (S1 := (fun W : World => (((W.cell? ⟨pb, 0, none⟩ = some (.int .i64 y) ∧ W.cell? ⟨pb, 1, none⟩ = some (.int .u64 N) ∧ W.cell? ⟨pb, 2, none⟩ = some (.int .i64 q)) ∧ W.cell? ⟨g2, 0, none⟩ = some (.int .u8 q) ∧ W.cell? ⟨g2, 1, none⟩ = some (.int .u8 0)) ∧ W.cell? ⟨g1, 0, none⟩ = some (.int .u8 y)))) (fun _ h => h.1) ?_
    have hHeld1 : (fun W : World => (((W.cell? ⟨pb, 0, none⟩ = some (.int .i64 y) ∧ W.cell? ⟨pb, 1, none⟩ = some (.int .u64 N) ∧ W.cell? ⟨pb, 2, none⟩ = some (.int .i64 q)) ∧ W.cell? ⟨g2, 0, none⟩ = some (.int .u8 q) ∧ W.cell? ⟨g2, 1, none⟩ = some (.int .u8 0)) ∧ W.cell? ⟨g1, 0, none⟩ = some (.int .u8 y))) w0cab := ⟨⟨⟨d0, d1, d2⟩, f0, f1⟩, e0⟩
    clear hHeld
    have hHeld := hHeld1
    clear hHeld1
    clear d0 d1 d2 d3 d4 d5 df e0 f0 f1
    refine wpAnyH_take (i := 4) (v := ?_) rfl (by kernel_rfl) (by kernel_rfl) (by kernel_rfl) (fun _ _ _ h => h) (Or.inl ⟨by rfl, ?_⟩) (by assumption) ?_; rotate_left 1; (intro w hSw; (try dsimp only at hSw); go_simp; try with_reducible rfl); (try simp only [Act.put, List.getElem_toArray, List.getElem_cons_zero, List.getElem_cons_succ, List.setIfInBounds_toArray, List.set_cons_zero, List.set_cons_succ])
    refine wpAnyH_take (i := 8) (v := ?_) rfl (by kernel_rfl) (by kernel_rfl) (by kernel_rfl) (fun _ _ _ h => h) (Or.inl ⟨by rfl, ?_⟩) (by assumption) ?_; rotate_left 1; (intro w hSw; (try dsimp only at hSw); go_simp; try with_reducible rfl); (try simp only [Act.put, List.getElem_toArray, List.getElem_cons_zero, List.getElem_cons_succ, List.setIfInBounds_toArray, List.set_cons_zero, List.set_cons_succ])
    refine wpAnyH_take (i := 15) (v := ?_) rfl (by kernel_rfl) (by kernel_rfl) (by kernel_rfl) (fun _ _ _ h => h) (Or.inl ⟨by rfl, ?_⟩) (by assumption) ?_; rotate_left 1; (intro w hSw; (try dsimp only at hSw); go_simp; try with_reducible rfl); (try simp only [Act.put, List.getElem_toArray, List.getElem_cons_zero, List.getElem_cons_succ, List.setIfInBounds_toArray, List.set_cons_zero, List.set_cons_succ])
    refine wpAnyH_take (i := 17) (v := ?_) rfl (by kernel_rfl) (by kernel_rfl) (by kernel_rfl) (fun _ _ _ h => h) (Or.inl ⟨by rfl, ?_⟩) (by assumption) ?_; rotate_left 1; (intro w hSw; (try dsimp only at hSw); go_simp; try with_reducible rfl); (try simp only [Act.put, List.getElem_toArray, List.getElem_cons_zero, List.getElem_cons_succ, List.setIfInBounds_toArray, List.set_cons_zero, List.set_cons_succ])
    refine wpAnyH_take (i := 19) (v := ?_) rfl (by kernel_rfl) (by kernel_rfl) (by kernel_rfl) (fun _ _ _ h => h) (Or.inl ⟨by rfl, ?_⟩) (by assumption) ?_; rotate_left 1; (intro w hSw; (try dsimp only at hSw); go_simp; try with_reducible rfl); (try simp only [Act.put, List.getElem_toArray, List.getElem_cons_zero, List.getElem_cons_succ, List.setIfInBounds_toArray, List.set_cons_zero, List.set_cons_succ])
    refine wpAnyH_take (i := 20) (v := ?_) rfl (by kernel_rfl) (by kernel_rfl) (by kernel_rfl) (fun _ _ _ h => h) (Or.inl ⟨by rfl, ?_⟩) (by assumption) ?_; rotate_left 1; (intro w hSw; (try dsimp only at hSw); go_simp; try with_reducible rfl); (try simp only [Act.put, List.getElem_toArray, List.getElem_cons_zero, List.getElem_cons_succ, List.setIfInBounds_toArray, List.set_cons_zero, List.set_cons_succ])
    refine wpAnyH_take (i := 21) (v := ?_) rfl (by kernel_rfl) (by kernel_rfl) (by kernel_rfl) (fun _ _ _ h => h) (Or.inl ⟨by rfl, ?_⟩) (by assumption) ?_; rotate_left 1; (intro w hSw; (try dsimp only at hSw); go_simp; try with_reducible rfl); (try simp only [Act.put, List.getElem_toArray, List.getElem_cons_zero, List.getElem_cons_succ, List.setIfInBounds_toArray, List.set_cons_zero, List.set_cons_succ])
    refine wpAnyH_done (by kernel_rfl) ?_ _
    clear hHeld
    go_wp2_with fail
    go_ret2
    exact ⟨⟨_, _, rfl, hfin.out⟩, bw.out⟩
  | true =>
    obtain ⟨B2, hB2⟩ : ∃ B, bs [UInt8.ofNat q, fl true] = B := ⟨_, rfl⟩
    have s3 : B2.size = 2 := by rw [← hB2]; rfl
    have hcq : ∀ (b : Nat) (W' : World), W'.cell? ⟨b, 0, none⟩ = some (.int .u8 q) → W'.cell? ⟨b, 1, none⟩ = some (.int .u8 1) → (convert 49 9 (.slice (some ⟨b, 0, none⟩) 2 2)).run Try.prog W' = .ok (.string B2) W' := by
      rw [← hB2]
      exact fun b => hc2 1 b
    rw [hB2] at hfin
    clear hB2 hc2
    go_wp2_with fail
    have KK := hid K.out.drew
    replace bw := hid bw.out.drew
    clear K k0 k1 k2 k3 k4 k5 kf
    obtain ⟨d0, d1, d2, d3, d4, d5, df⟩ := sixc KK.out
    refine wp_region_held_drew (S := (fun W : World => (W.cell? ⟨pb, 0, none⟩ = some (.int .i64 y) ∧ W.cell? ⟨pb, 1, none⟩ = some (.int .u64 N) ∧ W.cell? ⟨pb, 2, none⟩ = some (.int .i64 q)))) (by kernel_rfl) ⟨d0, d1, d2⟩ (fun hHeld => ?_)
    clear d0 d1 d2 d3 d4 d5 df
    generalize w2.drew = w0 at KK bw hHeld ⊢
    refine wpAnyH_take (i := 0) (v := ?_) rfl (by kernel_rfl) (by kernel_rfl) (by kernel_rfl) (fun _ _ _ h => h) (Or.inl ⟨by rfl, ?_⟩) (by assumption) ?_; rotate_left 1; (intro w hSw; (try dsimp only at hSw); go_simp; try with_reducible rfl); (try simp only [Act.put, List.getElem_toArray, List.getElem_cons_zero, List.getElem_cons_succ, List.setIfInBounds_toArray, List.set_cons_zero, List.set_cons_succ])
    refine wpAnyH_take (i := 1) (v := ?_) rfl (by kernel_rfl) (by kernel_rfl) (by kernel_rfl) (fun _ _ _ h => h) (Or.inl ⟨by rfl, ?_⟩) (by assumption) ?_; rotate_left 1; (intro w hSw; (try dsimp only at hSw); go_simp; try with_reducible rfl); (try simp only [Act.put, List.getElem_toArray, List.getElem_cons_zero, List.getElem_cons_succ, List.setIfInBounds_toArray, List.set_cons_zero, List.set_cons_succ])
    refine wpAnyH_take (i := 2) (v := ?_) rfl (by kernel_rfl) (by kernel_rfl) (by kernel_rfl) (fun _ _ _ h => h) (Or.inl ⟨by rfl, ?_⟩) (by assumption) ?_; rotate_left 1; (intro w hSw; (try dsimp only at hSw); go_simp; try with_reducible rfl); (try simp only [Act.put, List.getElem_toArray, List.getElem_cons_zero, List.getElem_cons_succ, List.setIfInBounds_toArray, List.set_cons_zero, List.set_cons_succ])
    refine wpAnyH_take (i := 5) (v := ?_) rfl (by kernel_rfl) (by kernel_rfl) (by kernel_rfl) (fun _ _ _ h => h) (Or.inl ⟨by rfl, ?_⟩) (by assumption) ?_; rotate_left 1; (intro w hSw; (try dsimp only at hSw); go_simp; try with_reducible rfl); (try simp only [Act.put, List.getElem_toArray, List.getElem_cons_zero, List.getElem_cons_succ, List.setIfInBounds_toArray, List.set_cons_zero, List.set_cons_succ])
    refine wpAnyH_take (i := 6) (v := ?_) rfl (by kernel_rfl) (by kernel_rfl) (by kernel_rfl) (fun _ _ _ h => h) (Or.inl ⟨by rfl, ?_⟩) (by assumption) ?_; rotate_left 1; (intro w hSw; (try dsimp only at hSw); go_simp; try with_reducible rfl); (try simp only [Act.put, List.getElem_toArray, List.getElem_cons_zero, List.getElem_cons_succ, List.setIfInBounds_toArray, List.set_cons_zero, List.set_cons_succ])
    refine wpAnyH_take (i := 9) (v := ?_) rfl (by kernel_rfl) (by kernel_rfl) (by kernel_rfl) (fun _ _ _ h => h) (Or.inl ⟨by rfl, ?_⟩) (by assumption) ?_; rotate_left 1; (intro w hSw; (try dsimp only at hSw); go_simp; try with_reducible rfl); (try simp only [Act.put, List.getElem_toArray, List.getElem_cons_zero, List.getElem_cons_succ, List.setIfInBounds_toArray, List.set_cons_zero, List.set_cons_succ])
    refine wpAnyH_take (i := 10) (v := ?_) rfl (by kernel_rfl) (by kernel_rfl) (by kernel_rfl) (fun _ _ _ h => h) (Or.inl ⟨by rfl, ?_⟩) (by assumption) ?_; rotate_left 1; (intro w hSw; (try dsimp only at hSw); go_simp; try with_reducible rfl); (try simp only [Act.put, List.getElem_toArray, List.getElem_cons_zero, List.getElem_cons_succ, List.setIfInBounds_toArray, List.set_cons_zero, List.set_cons_succ])
    refine wpAnyH_take (i := 11) (v := ?_) rfl (by kernel_rfl) (by kernel_rfl) (by kernel_rfl) (fun _ _ _ h => h) (Or.inl ⟨by rfl, ?_⟩) (by assumption) ?_; rotate_left 1; (intro w hSw; (try dsimp only at hSw); go_simp; try with_reducible rfl); (try simp only [Act.put, List.getElem_toArray, List.getElem_cons_zero, List.getElem_cons_succ, List.setIfInBounds_toArray, List.set_cons_zero, List.set_cons_succ])
    refine wpAnyH_take (i := 12) (v := ?_) rfl (by kernel_rfl) (by kernel_rfl) (by kernel_rfl) (fun _ _ _ h => h) (Or.inl ⟨by rfl, ?_⟩) (by assumption) ?_; rotate_left 1; (intro w hSw; (try dsimp only at hSw); go_simp; try with_reducible rfl); (try simp only [Act.put, List.getElem_toArray, List.getElem_cons_zero, List.getElem_cons_succ, List.setIfInBounds_toArray, List.set_cons_zero, List.set_cons_succ])
    refine wpAnyH_take (i := 16) (v := ?_) rfl (by kernel_rfl) (by kernel_rfl) (by kernel_rfl) (fun _ _ _ h => h) (Or.inl ⟨by rfl, ?_⟩) (by assumption) ?_; rotate_left 1; (intro w hSw; (try dsimp only at hSw); go_simp; try with_reducible rfl); (try simp only [Act.put, List.getElem_toArray, List.getElem_cons_zero, List.getElem_cons_succ, List.setIfInBounds_toArray, List.set_cons_zero, List.set_cons_succ])
    refine wpAnyH_take (i := 18) (v := ?_) rfl (by kernel_rfl) (by kernel_rfl) (by kernel_rfl) (fun _ _ _ h => h) (Or.inl ⟨by rfl, ?_⟩) (by assumption) ?_; rotate_left 1; (intro w hSw; (try dsimp only at hSw); go_simp; try with_reducible rfl); (try simp only [Act.put, List.getElem_toArray, List.getElem_cons_zero, List.getElem_cons_succ, List.setIfInBounds_toArray, List.set_cons_zero, List.set_cons_succ])
    refine wpAnyH_ready (rs := [3, 7, 13]) (by kernel_rfl) (by simp) ?_
    refine AllReadyH.cons rfl (fun K hK => ?_) ?_
    · skip
      go_simp
      have Q3 := hid (Blk.new w0 [.int .u8 y] 5)
      replace KK := hid (KK.out.alloc (.cells #[.int .u8 y] 5))
      replace bw := hid (bw.out.alloc bw.out.size (.cells #[.int .u8 y] 5))
      change Hid (Blk (w0.alloc (.cells #[.int .u8 y] 5)) _ _ _) at Q3
      obtain ⟨g1, hg1⟩ : ∃ g, w0.heap.size = g := ⟨_, rfl⟩
      rw [hg1] at Q3 ⊢
      clear hg1
      generalize w0.alloc (.cells #[.int .u8 y] 5) = w0b at KK bw Q3 ⊢
      obtain ⟨d0, d1, d2, d3, d4, d5, df⟩ := sixc KK.out
      have e0 := Q3.out.cell 0 (by simp)
      refine hK.out _ _ ⟨d0, d1, d2⟩ (fun hHeldN => ?_)
      clear hK K hHeld
      have hHeld := hHeldN
      clear hHeldN
      (try simp only [Act.put, List.getElem_toArray, List.getElem_cons_zero, List.getElem_cons_succ, List.setIfInBounds_toArray, List.set_cons_zero, List.set_cons_succ])
      have hcv1 := hc1 g1
      refine wpAnyH_mono (S1 := (fun W : World => ((W.cell? ⟨pb, 0, none⟩ = some (.int .i64 y) ∧ W.cell? ⟨pb, 1, none⟩ = some (.int .u64 N) ∧ W.cell? ⟨pb, 2, none⟩ = some (.int .i64 q)) ∧ W.cell? ⟨g1, 0, none⟩ = some (.int .u8 y)))) (fun _ h => h.1) ?_
      have hHeld1 : (fun W : World => ((W.cell? ⟨pb, 0, none⟩ = some (.int .i64 y) ∧ W.cell? ⟨pb, 1, none⟩ = some (.int .u64 N) ∧ W.cell? ⟨pb, 2, none⟩ = some (.int .i64 q)) ∧ W.cell? ⟨g1, 0, none⟩ = some (.int .u8 y))) w0b := ⟨⟨d0, d1, d2⟩, e0⟩
      clear hHeld
      have hHeld := hHeld1
      clear hHeld1
      clear d0 d1 d2 d3 d4 d5 df e0
      refine wpAnyH_take (i := 4) (v := ?_) rfl (by kernel_rfl) (by kernel_rfl) (by kernel_rfl) (fun _ _ _ h => h) (Or.inl ⟨by rfl, ?_⟩) (by assumption) ?_; rotate_left 1; (intro w hSw; (try dsimp only at hSw); go_simp; try with_reducible rfl); (try simp only [Act.put, List.getElem_toArray, List.getElem_cons_zero, List.getElem_cons_succ, List.setIfInBounds_toArray, List.set_cons_zero, List.set_cons_succ])
      refine wpAnyH_ready (rs := [7, 13]) (by kernel_rfl) (by simp) ?_
      refine AllReadyH.cons rfl (fun K hK => ?_) ?_
      · skip
        go_simp
        (with_reducible refine (hput.out _).mono ?_)
        rintro e w0ba ⟨rfl, b1⟩
        go_wp2_with fail
        replace KK := hid (KK.out.below b1 KK.out.lt)
        replace bw := hid (bw.out.trans (b1.mono bw.out.size))
        replace Q3 := hid (Q3.out.below b1 Q3.out.lt)
        clear b1
        obtain ⟨d0, d1, d2, d3, d4, d5, df⟩ := sixc KK.out
        have e0 := Q3.out.cell 0 (by simp)
        refine hK.out _ _ ⟨⟨d0, d1, d2⟩, e0⟩ (fun hHeldN => ?_)
        clear hK K hHeld
        have hHeld := hHeldN
        clear hHeldN
        (try simp only [Act.put, List.getElem_toArray, List.getElem_cons_zero, List.getElem_cons_succ, List.setIfInBounds_toArray, List.set_cons_zero, List.set_cons_succ])
        clear d0 d1 d2 d3 d4 d5 df e0
        refine wpAnyH_take (i := 8) (v := ?_) rfl (by kernel_rfl) (by kernel_rfl) (by kernel_rfl) (fun _ _ _ h => h) (Or.inl ⟨by rfl, ?_⟩) (by assumption) ?_; rotate_left 1; (intro w hSw; (try dsimp only at hSw); go_simp; try with_reducible rfl); (try simp only [Act.put, List.getElem_toArray, List.getElem_cons_zero, List.getElem_cons_succ, List.setIfInBounds_toArray, List.set_cons_zero, List.set_cons_succ])
        refine wpAnyH_ready (rs := [13]) (by kernel_rfl) (by simp) ?_
        refine AllReadyH.cons rfl (fun K hK => ?_) AllReadyH.nil
        go_simp
        have Q13 := hid (Blk.new w0ba [.int .u8 q, .int .u8 1] 5)
        replace KK := hid (KK.out.alloc (.cells #[.int .u8 q, .int .u8 1] 5))
        replace bw := hid (bw.out.alloc bw.out.size (.cells #[.int .u8 q, .int .u8 1] 5))
        replace Q3 := hid (Q3.out.alloc (.cells #[.int .u8 q, .int .u8 1] 5))
        change Hid (Blk (w0ba.alloc (.cells #[.int .u8 q, .int .u8 1] 5)) _ _ _) at Q13
        obtain ⟨g2, hg2⟩ : ∃ g, w0ba.heap.size = g := ⟨_, rfl⟩
        rw [hg2] at Q13 ⊢
        clear hg2
        generalize w0ba.alloc (.cells #[.int .u8 q, .int .u8 1] 5) = w0bac at KK bw Q3 Q13 ⊢
        obtain ⟨d0, d1, d2, d3, d4, d5, df⟩ := sixc KK.out
        have e0 := Q3.out.cell 0 (by simp)
        have f0 := Q13.out.cell 0 (by simp)
        have f1 := Q13.out.cell 1 (by simp)
        refine hK.out _ _ ⟨⟨d0, d1, d2⟩, e0⟩ (fun hHeldN => ?_)
        clear hK K hHeld
        have hHeld := hHeldN
        clear hHeldN
        (try simp only [Act.put, List.getElem_toArray, List.getElem_cons_zero, List.getElem_cons_succ, List.setIfInBounds_toArray, List.set_cons_zero, List.set_cons_succ])
        have hcv2 := hcq g2
        refine wpAnyH_mono (S1 := (fun W : World => (((W.cell? ⟨pb, 0, none⟩ = some (.int .i64 y) ∧ W.cell? ⟨pb, 1, none⟩ = some (.int .u64 N) ∧ W.cell? ⟨pb, 2, none⟩ = some (.int .i64 q)) ∧ W.cell? ⟨g1, 0, none⟩ = some (.int .u8 y)) ∧ W.cell? ⟨g2, 0, none⟩ = some (.int .u8 q) ∧ W.cell? ⟨g2, 1, none⟩ = some (.int .u8 1)))) (fun _ h => h.1) ?_
        have hHeld1 : (fun W : World => (((W.cell? ⟨pb, 0, none⟩ = some (.int .i64 y) ∧ W.cell? ⟨pb, 1, none⟩ = some (.int .u64 N) ∧ W.cell? ⟨pb, 2, none⟩ = some (.int .i64 q)) ∧ W.cell? ⟨g1, 0, none⟩ = some (.int .u8 y)) ∧ W.cell? ⟨g2, 0, none⟩ = some (.int .u8 q) ∧ W.cell? ⟨g2, 1, none⟩ = some (.int .u8 1))) w0bac := ⟨⟨⟨d0, d1, d2⟩, e0⟩, f0, f1⟩
        clear hHeld
        have hHeld := hHeld1
        clear hHeld1
        clear d0 d1 d2 d3 d4 d5 df e0 f0 f1
        refine wpAnyH_take (i := 14) (v := ?_) rfl (by kernel_rfl) (by kernel_rfl) (by kernel_rfl) (fun _ _ _ h => h) (Or.inl ⟨by rfl, ?_⟩) (by assumption) ?_; rotate_left 1; (intro w hSw; (try dsimp only at hSw); go_simp; try with_reducible rfl); (try simp only [Act.put, List.getElem_toArray, List.getElem_cons_zero, List.getElem_cons_succ, List.setIfInBounds_toArray, List.set_cons_zero, List.set_cons_succ])
        refine wpAnyH_take (i := 15) (v := ?_) rfl (by kernel_rfl) (by kernel_rfl) (by kernel_rfl) (fun _ _ _ h => h) (Or.inl ⟨by rfl, ?_⟩) (by assumption) ?_; rotate_left 1; (intro w hSw; (try dsimp only at hSw); go_simp; try with_reducible rfl); (try simp only [Act.put, List.getElem_toArray, List.getElem_cons_zero, List.getElem_cons_succ, List.setIfInBounds_toArray, List.set_cons_zero, List.set_cons_succ])
        refine wpAnyH_take (i := 17) (v := ?_) rfl (by kernel_rfl) (by kernel_rfl) (by kernel_rfl) (fun _ _ _ h => h) (Or.inl ⟨by rfl, ?_⟩) (by assumption) ?_; rotate_left 1; (intro w hSw; (try dsimp only at hSw); go_simp; try with_reducible rfl); (try simp only [Act.put, List.getElem_toArray, List.getElem_cons_zero, List.getElem_cons_succ, List.setIfInBounds_toArray, List.set_cons_zero, List.set_cons_succ])
        refine wpAnyH_take (i := 19) (v := ?_) rfl (by kernel_rfl) (by kernel_rfl) (by kernel_rfl) (fun _ _ _ h => h) (Or.inl ⟨by rfl, ?_⟩) (by assumption) ?_; rotate_left 1; (intro w hSw; (try dsimp only at hSw); go_simp; try with_reducible rfl); (try simp only [Act.put, List.getElem_toArray, List.getElem_cons_zero, List.getElem_cons_succ, List.setIfInBounds_toArray, List.set_cons_zero, List.set_cons_succ])
        refine wpAnyH_take (i := 20) (v := ?_) rfl (by kernel_rfl) (by kernel_rfl) (by kernel_rfl) (fun _ _ _ h => h) (Or.inl ⟨by rfl, ?_⟩) (by assumption) ?_; rotate_left 1; (intro w hSw; (try dsimp only at hSw); go_simp; try with_reducible rfl); (try simp only [Act.put, List.getElem_toArray, List.getElem_cons_zero, List.getElem_cons_succ, List.setIfInBounds_toArray, List.set_cons_zero, List.set_cons_succ])
        refine wpAnyH_take (i := 21) (v := ?_) rfl (by kernel_rfl) (by kernel_rfl) (by kernel_rfl) (fun _ _ _ h => h) (Or.inl ⟨by rfl, ?_⟩) (by assumption) ?_; rotate_left 1; (intro w hSw; (try dsimp only at hSw); go_simp; try with_reducible rfl); (try simp only [Act.put, List.getElem_toArray, List.getElem_cons_zero, List.getElem_cons_succ, List.setIfInBounds_toArray, List.set_cons_zero, List.set_cons_succ])
        refine wpAnyH_done (by kernel_rfl) ?_ _
        clear hHeld
        go_wp2_with fail
        go_ret2
        exact ⟨⟨_, _, rfl, hfin.out⟩, bw.out⟩
      refine AllReadyH.cons rfl (fun K hK => ?_) AllReadyH.nil
      go_simp
      have Q13 := hid (Blk.new w0b [.int .u8 q, .int .u8 1] 5)
      replace KK := hid (KK.out.alloc (.cells #[.int .u8 q, .int .u8 1] 5))
      replace bw := hid (bw.out.alloc bw.out.size (.cells #[.int .u8 q, .int .u8 1] 5))
      replace Q3 := hid (Q3.out.alloc (.cells #[.int .u8 q, .int .u8 1] 5))
      change Hid (Blk (w0b.alloc (.cells #[.int .u8 q, .int .u8 1] 5)) _ _ _) at Q13
      obtain ⟨g2, hg2⟩ : ∃ g, w0b.heap.size = g := ⟨_, rfl⟩
      rw [hg2] at Q13 ⊢
      clear hg2
      generalize w0b.alloc (.cells #[.int .u8 q, .int .u8 1] 5) = w0bc at KK bw Q3 Q13 ⊢
      obtain ⟨d0, d1, d2, d3, d4, d5, df⟩ := sixc KK.out
      have e0 := Q3.out.cell 0 (by simp)
      have f0 := Q13.out.cell 0 (by simp)
      have f1 := Q13.out.cell 1 (by simp)
      refine hK.out _ _ ⟨⟨d0, d1, d2⟩, e0⟩ (fun hHeldN => ?_)
      clear hK K hHeld
      have hHeld := hHeldN
      clear hHeldN
      (try simp only [Act.put, List.getElem_toArray, List.getElem_cons_zero, List.getElem_cons_succ, List.setIfInBounds_toArray, List.set_cons_zero, List.set_cons_succ])
      have hcv2 := hcq g2
      refine wpAnyH_mono (S1 := (fun W : World => (((W.cell? ⟨pb, 0, none⟩ = some (.int .i64 y) ∧ W.cell? ⟨pb, 1, none⟩ = some (.int .u64 N) ∧ W.cell? ⟨pb, 2, none⟩ = some (.int .i64 q)) ∧ W.cell? ⟨g1, 0, none⟩ = some (.int .u8 y)) ∧ W.cell? ⟨g2, 0, none⟩ = some (.int .u8 q) ∧ W.cell? ⟨g2, 1, none⟩ = some (.int .u8 1)))) (fun _ h => h.1) ?_
      have hHeld1 : (fun W : World => (((W.cell? ⟨pb, 0, none⟩ = some (.int .i64 y) ∧ W.cell? ⟨pb, 1, none⟩ = some (.int .u64 N) ∧ W.cell? ⟨pb, 2, none⟩ = some (.int .i64 q)) ∧ W.cell? ⟨g1, 0, none⟩ = some (.int .u8 y)) ∧ W.cell? ⟨g2, 0, none⟩ = some (.int .u8 q) ∧ W.cell? ⟨g2, 1, none⟩ = some (.int .u8 1))) w0bc := ⟨⟨⟨d0, d1, d2⟩, e0⟩, f0, f1⟩
      clear hHeld
      have hHeld := hHeld1
      clear hHeld1
      clear d0 d1 d2 d3 d4 d5 df e0 f0 f1
      refine wpAnyH_take (i := 14) (v := ?_) rfl (by kernel_rfl) (by kernel_rfl) (by kernel_rfl) (fun _ _ _ h => h) (Or.inl ⟨by rfl, ?_⟩) (by assumption) ?_; rotate_left 1; (intro w hSw; (try dsimp only at hSw); go_simp; try with_reducible rfl); (try simp only [Act.put, List.getElem_toArray, List.getElem_cons_zero, List.getElem_cons_succ, List.setIfInBounds_toArray, List.set_cons_zero, List.set_cons_succ])
      refine wpAnyH_ready (rs := [7]) (by kernel_rfl) (by simp) ?_
      refine AllReadyH.cons rfl (fun K hK => ?_) AllReadyH.nil
      go_simp
      (with_reducible refine (hput.out _).mono ?_)
      rintro e w0bca ⟨rfl, b1⟩
      go_wp2_with fail
      replace KK := hid (KK.out.below b1 KK.out.lt)
      replace bw := hid (bw.out.trans (b1.mono bw.out.size))
      replace Q3 := hid (Q3.out.below b1 Q3.out.lt)
      replace Q13 := hid (Q13.out.below b1 Q13.out.lt)
      clear b1
      obtain ⟨d0, d1, d2, d3, d4, d5, df⟩ := sixc KK.out
      have e0 := Q3.out.cell 0 (by simp)
      have f0 := Q13.out.cell 0 (by simp)
      have f1 := Q13.out.cell 1 (by simp)
      refine hK.out _ _ ⟨⟨⟨d0, d1, d2⟩, e0⟩, f0, f1⟩ (fun hHeldN => ?_)
      clear hK K hHeld
      have hHeld := hHeldN
      clear hHeldN
      (try simp only [Act.put, List.getElem_toArray, List.getElem_cons_zero, List.getElem_cons_succ, List.setIfInBounds_toArray, List.set_cons_zero, List.set_cons_succ])
      clear d0 d1 d2 d3 d4 d5 df e0 f0 f1
      refine wpAnyH_take (i := 8) (v := ?_) rfl (by kernel_rfl) (by kernel_rfl) (by kernel_rfl) (fun _ _ _ h => h) (Or.inl ⟨by rfl, ?_⟩) (by assumption) ?_; rotate_left 1; (intro w hSw; (try dsimp only at hSw); go_simp; try with_reducible rfl); (try simp only [Act.put, List.getElem_toArray, List.getElem_cons_zero, List.getElem_cons_succ, List.setIfInBounds_toArray, List.set_cons_zero, List.set_cons_succ])
      refine wpAnyH_take (i := 15) (v := ?_) rfl (by kernel_rfl) (by kernel_rfl) (by kernel_rfl) (fun _ _ _ h => h) (Or.inl ⟨by rfl, ?_⟩) (by assumption) ?_; rotate_left 1; (intro w hSw; (try dsimp only at hSw); go_simp; try with_reducible rfl); (try simp only [Act.put, List.getElem_toArray, List.getElem_cons_zero, List.getElem_cons_succ, List.setIfInBounds_toArray, List.set_cons_zero, List.set_cons_succ])
      refine wpAnyH_take (i := 17) (v := ?_) rfl (by kernel_rfl) (by kernel_rfl) (by kernel_rfl) (fun _ _ _ h => h) (Or.inl ⟨by rfl, ?_⟩) (by assumption) ?_; rotate_left 1; (intro w hSw; (try dsimp only at hSw); go_simp; try with_reducible rfl); (try simp only [Act.put, List.getElem_toArray, List.getElem_cons_zero, List.getElem_cons_succ, List.setIfInBounds_toArray, List.set_cons_zero, List.set_cons_succ])
      refine wpAnyH_take (i := 19) (v := ?_) rfl (by kernel_rfl) (by kernel_rfl) (by kernel_rfl) (fun _ _ _ h => h) (Or.inl ⟨by rfl, ?_⟩) (by assumption) ?_; rotate_left 1; (intro w hSw; (try dsimp only at hSw); go_simp; try with_reducible rfl); (try simp only [Act.put, List.getElem_toArray, List.getElem_cons_zero, List.getElem_cons_succ, List.setIfInBounds_toArray, List.set_cons_zero, List.set_cons_succ])
      refine wpAnyH_take (i := 20) (v := ?_) rfl (by kernel_rfl) (by kernel_rfl) (by kernel_rfl) (fun _ _ _ h => h) (Or.inl ⟨by rfl, ?_⟩) (by assumption) ?_; rotate_left 1; (intro w hSw; (try dsimp only at hSw); go_simp; try with_reducible rfl); (try simp only [Act.put, List.getElem_toArray, List.getElem_cons_zero, List.getElem_cons_succ, List.setIfInBounds_toArray, List.set_cons_zero, List.set_cons_succ])
      refine wpAnyH_take (i := 21) (v := ?_) rfl (by kernel_rfl) (by kernel_rfl) (by kernel_rfl) (fun _ _ _ h => h) (Or.inl ⟨by rfl, ?_⟩) (by assumption) ?_; rotate_left 1; (intro w hSw; (try dsimp only at hSw); go_simp; try with_reducible rfl); (try simp only [Act.put, List.getElem_toArray, List.getElem_cons_zero, List.getElem_cons_succ, List.setIfInBounds_toArray, List.set_cons_zero, List.set_cons_succ])
      refine wpAnyH_done (by kernel_rfl) ?_ _
      clear hHeld
      go_wp2_with fail
      go_ret2
      exact ⟨⟨_, _, rfl, hfin.out⟩, bw.out⟩
    refine AllReadyH.cons rfl (fun K hK => ?_) ?_
    · skip
      go_simp
      (with_reducible refine (hput.out _).mono ?_)
      rintro e w0a ⟨rfl, b1⟩
      go_wp2_with fail
      replace KK := hid (KK.out.below b1 KK.out.lt)
      replace bw := hid (bw.out.trans (b1.mono bw.out.size))
      clear b1
      obtain ⟨d0, d1, d2, d3, d4, d5, df⟩ := sixc KK.out
      refine hK.out _ _ ⟨d0, d1, d2⟩ (fun hHeldN => ?_)
      clear hK K hHeld
      have hHeld := hHeldN
      clear hHeldN
      (try simp only [Act.put, List.getElem_toArray, List.getElem_cons_zero, List.getElem_cons_succ, List.setIfInBounds_toArray, List.set_cons_zero, List.set_cons_succ])
      clear d0 d1 d2 d3 d4 d5 df
      refine wpAnyH_ready (rs := [3, 13]) (by kernel_rfl) (by simp) ?_
      refine AllReadyH.cons rfl (fun K hK => ?_) ?_
      · skip
        go_simp
        have Q3 := hid (Blk.new w0a [.int .u8 y] 5)
        replace KK := hid (KK.out.alloc (.cells #[.int .u8 y] 5))
        replace bw := hid (bw.out.alloc bw.out.size (.cells #[.int .u8 y] 5))
        change Hid (Blk (w0a.alloc (.cells #[.int .u8 y] 5)) _ _ _) at Q3
        obtain ⟨g1, hg1⟩ : ∃ g, w0a.heap.size = g := ⟨_, rfl⟩
        rw [hg1] at Q3 ⊢
        clear hg1
        generalize w0a.alloc (.cells #[.int .u8 y] 5) = w0ab at KK bw Q3 ⊢
        obtain ⟨d0, d1, d2, d3, d4, d5, df⟩ := sixc KK.out
        have e0 := Q3.out.cell 0 (by simp)
        refine hK.out _ _ ⟨d0, d1, d2⟩ (fun hHeldN => ?_)
        clear hK K hHeld
        have hHeld := hHeldN
        clear hHeldN
        (try simp only [Act.put, List.getElem_toArray, List.getElem_cons_zero, List.getElem_cons_succ, List.setIfInBounds_toArray, List.set_cons_zero, List.set_cons_succ])
        have hcv1 := hc1 g1
        refine wpAnyH_mono (S1 := (fun W : World => ((W.cell? ⟨pb, 0, none⟩ = some (.int .i64 y) ∧ W.cell? ⟨pb, 1, none⟩ = some (.int .u64 N) ∧ W.cell? ⟨pb, 2, none⟩ = some (.int .i64 q)) ∧ W.cell? ⟨g1, 0, none⟩ = some (.int .u8 y)))) (fun _ h => h.1) ?_
        have hHeld1 : (fun W : World => ((W.cell? ⟨pb, 0, none⟩ = some (.int .i64 y) ∧ W.cell? ⟨pb, 1, none⟩ = some (.int .u64 N) ∧ W.cell? ⟨pb, 2, none⟩ = some (.int .i64 q)) ∧ W.cell? ⟨g1, 0, none⟩ = some (.int .u8 y))) w0ab := ⟨⟨d0, d1, d2⟩, e0⟩
        clear hHeld
        have hHeld := hHeld1
        clear hHeld1
        clear d0 d1 d2 d3 d4 d5 df e0
        refine wpAnyH_take (i := 4) (v := ?_) rfl (by kernel_rfl) (by kernel_rfl) (by kernel_rfl) (fun _ _ _ h => h) (Or.inl ⟨by rfl, ?_⟩) (by assumption) ?_; rotate_left 1; (intro w hSw; (try dsimp only at hSw); go_simp; try with_reducible rfl); (try simp only [Act.put, List.getElem_toArray, List.getElem_cons_zero, List.getElem_cons_succ, List.setIfInBounds_toArray, List.set_cons_zero, List.set_cons_succ])
        refine wpAnyH_take (i := 8) (v := ?_) rfl (by kernel_rfl) (by kernel_rfl) (by kernel_rfl) (fun _ _ _ h => h) (Or.inl ⟨by rfl, ?_⟩) (by assumption) ?_; rotate_left 1; (intro w hSw; (try dsimp only at hSw); go_simp; try with_reducible rfl); (try simp only [Act.put, List.getElem_toArray, List.getElem_cons_zero, List.getElem_cons_succ, List.setIfInBounds_toArray, List.set_cons_zero, List.set_cons_succ])
        refine wpAnyH_ready (rs := [13]) (by kernel_rfl) (by simp) ?_
        refine AllReadyH.cons rfl (fun K hK => ?_) AllReadyH.nil
        go_simp
        have Q13 := hid (Blk.new w0ab [.int .u8 q, .int .u8 1] 5)
        replace KK := hid (KK.out.alloc (.cells #[.int .u8 q, .int .u8 1] 5))
        replace bw := hid (bw.out.alloc bw.out.size (.cells #[.int .u8 q, .int .u8 1] 5))
        replace Q3 := hid (Q3.out.alloc (.cells #[.int .u8 q, .int .u8 1] 5))
        change Hid (Blk (w0ab.alloc (.cells #[.int .u8 q, .int .u8 1] 5)) _ _ _) at Q13
        obtain ⟨g2, hg2⟩ : ∃ g, w0ab.heap.size = g := ⟨_, rfl⟩
        rw [hg2] at Q13 ⊢
        clear hg2
        generalize w0ab.alloc (.cells #[.int .u8 q, .int .u8 1] 5) = w0abc at KK bw Q3 Q13 ⊢
        obtain ⟨d0, d1, d2, d3, d4, d5, df⟩ := sixc KK.out
        have e0 := Q3.out.cell 0 (by simp)
        have f0 := Q13.out.cell 0 (by simp)
        have f1 := Q13.out.cell 1 (by simp)
        refine hK.out _ _ ⟨⟨d0, d1, d2⟩, e0⟩ (fun hHeldN => ?_)
        clear hK K hHeld
        have hHeld := hHeldN
        clear hHeldN
        (try simp only [Act.put, List.getElem_toArray, List.getElem_cons_zero, List.getElem_cons_succ, List.setIfInBounds_toArray, List.set_cons_zero, List.set_cons_succ])
        have hcv2 := hcq g2
        refine wpAnyH_mono (S1 := (fun W : World => (((W.cell? ⟨pb, 0, none⟩ = some (.int .i64 y) ∧ W.cell? ⟨pb, 1, none⟩ = some (.int .u64 N) ∧ W.cell? ⟨pb, 2, none⟩ = some (.int .i64 q)) ∧ W.cell? ⟨g1, 0, none⟩ = some (.int .u8 y)) ∧ W.cell? ⟨g2, 0, none⟩ = some (.int .u8 q) ∧ W.cell? ⟨g2, 1, none⟩ = some (.int .u8 1)))) (fun _ h => h.1) ?_
        have hHeld1 : (fun W : World => (((W.cell? ⟨pb, 0, none⟩ = some (.int .i64 y) ∧ W.cell? ⟨pb, 1, none⟩ = some (.int .u64 N) ∧ W.cell? ⟨pb, 2, none⟩ = some (.int .i64 q)) ∧ W.cell? ⟨g1, 0, none⟩ = some (.int .u8 y)) ∧ W.cell? ⟨g2, 0, none⟩ = some (.int .u8 q) ∧ W.cell? ⟨g2, 1, none⟩ = some (.int .u8 1))) w0abc := ⟨⟨⟨d0, d1, d2⟩, e0⟩, f0, f1⟩
        clear hHeld
        have hHeld := hHeld1
        clear hHeld1
        clear d0 d1 d2 d3 d4 d5 df e0 f0 f1
        refine wpAnyH_take (i := 14) (v := ?_) rfl (by kernel_rfl) (by kernel_rfl) (by kernel_rfl) (fun _ _ _ h => h) (Or.inl ⟨by rfl, ?_⟩) (by assumption) ?_; rotate_left 1; (intro w hSw; (try dsimp only at hSw); go_simp; try with_reducible rfl); (try simp only [Act.put, List.getElem_toArray, List.getElem_cons_zero, List.getElem_cons_succ, List.setIfInBounds_toArray, List.set_cons_zero, List.set_cons_succ])
        refine wpAnyH_take (i := 15) (v := ?_) rfl (by kernel_rfl) (by kernel_rfl) (by kernel_rfl) (fun _ _ _ h => h) (Or.inl ⟨by rfl, ?_⟩) (by assumption) ?_; rotate_left 1; (intro w hSw; (try dsimp only at hSw); go_simp; try with_reducible rfl); (try simp only [Act.put, List.getElem_toArray, List.getElem_cons_zero, List.getElem_cons_succ, List.setIfInBounds_toArray, List.set_cons_zero, List.set_cons_succ])
        refine wpAnyH_take (i := 17) (v := ?_) rfl (by kernel_rfl) (by kernel_rfl) (by kernel_rfl) (fun _ _ _ h => h) (Or.inl ⟨by rfl, ?_⟩) (by assumption) ?_; rotate_left 1; (intro w hSw; (try dsimp only at hSw); go_simp; try with_reducible rfl); (try simp only [Act.put, List.getElem_toArray, List.getElem_cons_zero, List.getElem_cons_succ, List.setIfInBounds_toArray, List.set_cons_zero, List.set_cons_succ])
        refine wpAnyH_take (i := 19) (v := ?_) rfl (by kernel_rfl) (by kernel_rfl) (by kernel_rfl) (fun _ _ _ h => h) (Or.inl ⟨by rfl, ?_⟩) (by assumption) ?_; rotate_left 1; (intro w hSw; (try dsimp only at hSw); go_simp; try with_reducible rfl); (try simp only [Act.put, List.getElem_toArray, List.getElem_cons_zero, List.getElem_cons_succ, List.setIfInBounds_toArray, List.set_cons_zero, List.set_cons_succ])
        refine wpAnyH_take (i := 20) (v := ?_) rfl (by kernel_rfl) (by kernel_rfl) (by kernel_rfl) (fun _ _ _ h => h) (Or.inl ⟨by rfl, ?_⟩) (by assumption) ?_; rotate_left 1; (intro w hSw; (try dsimp only at hSw); go_simp; try with_reducible rfl); (try simp only [Act.put, List.getElem_toArray, List.getElem_cons_zero, List.getElem_cons_succ, List.setIfInBounds_toArray, List.set_cons_zero, List.set_cons_succ])
        refine wpAnyH_take (i := 21) (v := ?_) rfl (by kernel_rfl) (by kernel_rfl) (by kernel_rfl) (fun _ _ _ h => h) (Or.inl ⟨by rfl, ?_⟩) (by assumption) ?_; rotate_left 1; (intro w hSw; (try dsimp only at hSw); go_simp; try with_reducible rfl); (try simp only [Act.put, List.getElem_toArray, List.getElem_cons_zero, List.getElem_cons_succ, List.setIfInBounds_toArray, List.set_cons_zero, List.set_cons_succ])
        refine wpAnyH_done (by kernel_rfl) ?_ _
        clear hHeld
        go_wp2_with fail
        go_ret2
        exact ⟨⟨_, _, rfl, hfin.out⟩, bw.out⟩
      refine AllReadyH.cons rfl (fun K hK => ?_) AllReadyH.nil
      go_simp
      have Q13 := hid (Blk.new w0a [.int .u8 q, .int .u8 1] 5)
      replace KK := hid (KK.out.alloc (.cells #[.int .u8 q, .int .u8 1] 5))
      replace bw := hid (bw.out.alloc bw.out.size (.cells #[.int .u8 q, .int .u8 1] 5))
      change Hid (Blk (w0a.alloc (.cells #[.int .u8 q, .int .u8 1] 5)) _ _ _) at Q13
      obtain ⟨g2, hg2⟩ : ∃ g, w0a.heap.size = g := ⟨_, rfl⟩
      rw [hg2] at Q13 ⊢
      clear hg2
      generalize w0a.alloc (.cells #[.int .u8 q, .int .u8 1] 5) = w0ac at KK bw Q13 ⊢
      obtain ⟨d0, d1, d2, d3, d4, d5, df⟩ := sixc KK.out
      have f0 := Q13.out.cell 0 (by simp)
      have f1 := Q13.out.cell 1 (by simp)
      refine hK.out _ _ ⟨d0, d1, d2⟩ (fun hHeldN => ?_)
      clear hK K hHeld
      have hHeld := hHeldN
      clear hHeldN
      (try simp only [Act.put, List.getElem_toArray, List.getElem_cons_zero, List.getElem_cons_succ, List.setIfInBounds_toArray, List.set_cons_zero, List.set_cons_succ])
      have hcv2 := hcq g2
      refine wpAnyH_mono (S1 := (fun W : World => ((W.cell? ⟨pb, 0, none⟩ = some (.int .i64 y) ∧ W.cell? ⟨pb, 1, none⟩ = some (.int .u64 N) ∧ W.cell? ⟨pb, 2, none⟩ = some (.int .i64 q)) ∧ W.cell? ⟨g2, 0, none⟩ = some (.int .u8 q) ∧ W.cell? ⟨g2, 1, none⟩ = some (.int .u8 1)))) (fun _ h => h.1) ?_
      have hHeld1 : (fun W : World => ((W.cell? ⟨pb, 0, none⟩ = some (.int .i64 y) ∧ W.cell? ⟨pb, 1, none⟩ = some (.int .u64 N) ∧ W.cell? ⟨pb, 2, none⟩ = some (.int .i64 q)) ∧ W.cell? ⟨g2, 0, none⟩ = some (.int .u8 q) ∧ W.cell? ⟨g2, 1, none⟩ = some (.int .u8 1))) w0ac := ⟨⟨d0, d1, d2⟩, f0, f1⟩
      clear hHeld
      have hHeld := hHeld1
      clear hHeld1
      clear d0 d1 d2 d3 d4 d5 df f0 f1
      refine wpAnyH_take (i := 14) (v := ?_) rfl (by kernel_rfl) (by kernel_rfl) (by kernel_rfl) (fun _ _ _ h => h) (Or.inl ⟨by rfl, ?_⟩) (by assumption) ?_; rotate_left 1; (intro w hSw; (try dsimp only at hSw); go_simp; try with_reducible rfl); (try simp only [Act.put, List.getElem_toArray, List.getElem_cons_zero, List.getElem_cons_succ, List.setIfInBounds_toArray, List.set_cons_zero, List.set_cons_succ])
      refine wpAnyH_ready (rs := [3]) (by kernel_rfl) (by simp) ?_
      refine AllReadyH.cons rfl (fun K hK => ?_) AllReadyH.nil
      go_simp
      have Q3 := hid (Blk.new w0ac [.int .u8 y] 5)
      replace KK := hid (KK.out.alloc (.cells #[.int .u8 y] 5))
      replace bw := hid (bw.out.alloc bw.out.size (.cells #[.int .u8 y] 5))
      replace Q13 := hid (Q13.out.alloc (.cells #[.int .u8 y] 5))
      change Hid (Blk (w0ac.alloc (.cells #[.int .u8 y] 5)) _ _ _) at Q3
      obtain ⟨g1, hg1⟩ : ∃ g, w0ac.heap.size = g := ⟨_, rfl⟩
      rw [hg1] at Q3 ⊢
      clear hg1
      generalize w0ac.alloc (.cells #[.int .u8 y] 5) = w0acb at KK bw Q13 Q3 ⊢
      obtain ⟨d0, d1, d2, d3, d4, d5, df⟩ := sixc KK.out
      have f0 := Q13.out.cell 0 (by simp)
      have f1 := Q13.out.cell 1 (by simp)
      have e0 := Q3.out.cell 0 (by simp)
      refine hK.out _ _ ⟨⟨d0, d1, d2⟩, f0, f1⟩ (fun hHeldN => ?_)
      clear hK K hHeld
      have hHeld := hHeldN
      clear hHeldN
      (try simp only [Act.put, List.getElem_toArray, List.getElem_cons_zero, List.getElem_cons_succ, List.setIfInBounds_toArray, List.set_cons_zero, List.set_cons_succ])
      have hcv1 := hc1 g1
      refine wpAnyH_mono (S1 := (fun W : World => (((W.cell? ⟨pb, 0, none⟩ = some (.int .i64 y) ∧ W.cell? ⟨pb, 1, none⟩ = some (.int .u64 N) ∧ W.cell? ⟨pb, 2, none⟩ = some (.int .i64 q)) ∧ W.cell? ⟨g2, 0, none⟩ = some (.int .u8 q) ∧ W.cell? ⟨g2, 1, none⟩ = some (.int .u8 1)) ∧ W.cell? ⟨g1, 0, none⟩ = some (.int .u8 y)))) (fun _ h => h.1) ?_
      have hHeld1 : (fun W : World => (((W.cell? ⟨pb, 0, none⟩ = some (.int .i64 y) ∧ W.cell? ⟨pb, 1, none⟩ = some (.int .u64 N) ∧ W.cell? ⟨pb, 2, none⟩ = some (.int .i64 q)) ∧ W.cell? ⟨g2, 0, none⟩ = some (.int .u8 q) ∧ W.cell? ⟨g2, 1, none⟩ = some (.int .u8 1)) ∧ W.cell? ⟨g1, 0, none⟩ = some (.int .u8 y))) w0acb := ⟨⟨⟨d0, d1, d2⟩, f0, f1⟩, e0⟩
      clear hHeld
      have hHeld := hHeld1
      clear hHeld1
      clear d0 d1 d2 d3 d4 d5 df e0 f0 f1
      refine wpAnyH_take (i := 4) (v := ?_) rfl (by kernel_rfl) (by kernel_rfl) (by kernel_rfl) (fun _ _ _ h => h) (Or.inl ⟨by rfl, ?_⟩) (by assumption) ?_; rotate_left 1; (intro w hSw; (try dsimp only at hSw); go_simp; try with_reducible rfl); (try simp only [Act.put, List.getElem_toArray, List.getElem_cons_zero, List.getElem_cons_succ, List.setIfInBounds_toArray, List.set_cons_zero, List.set_cons_succ])
      refine wpAnyH_take (i := 8) (v := ?_) rfl (by kernel_rfl) (by kernel_rfl) (by kernel_rfl) (fun _ _ _ h => h) (Or.inl ⟨by rfl, ?_⟩) (by assumption) ?_; rotate_left 1; (intro w hSw; (try dsimp only at hSw); go_simp; try with_reducible rfl); (try simp only [Act.put, List.getElem_toArray, List.getElem_cons_zero, List.getElem_cons_succ, List.setIfInBounds_toArray, List.set_cons_zero, List.set_cons_succ])
      refine wpAnyH_take (i := 15) (v := ?_) rfl (by kernel_rfl) (by kernel_rfl) (by kernel_rfl) (fun _ _ _ h => h) (Or.inl ⟨by rfl, ?_⟩) (by assumption) ?_; rotate_left 1; (intro w hSw; (try dsimp only at hSw); go_simp; try with_reducible rfl); (try simp only [Act.put, List.getElem_toArray, List.getElem_cons_zero, List.getElem_cons_succ, List.setIfInBounds_toArray, List.set_cons_zero, List.set_cons_succ])
      refine wpAnyH_take (i := 17) (v := ?_) rfl (by kernel_rfl) (by kernel_rfl) (by kernel_rfl) (fun _ _ _ h => h) (Or.inl ⟨by rfl, ?_⟩) (by assumption) ?_; rotate_left 1; (intro w hSw; (try dsimp only at hSw); go_simp; try with_reducible rfl); (try simp only [Act.put, List.getElem_toArray, List.getElem_cons_zero, List.getElem_cons_succ, List.setIfInBounds_toArray, List.set_cons_zero, List.set_cons_succ])
      refine wpAnyH_take (i := 19) (v := ?_) rfl (by kernel_rfl) (by kernel_rfl) (by kernel_rfl) (fun _ _ _ h => h) (Or.inl ⟨by rfl, ?_⟩) (by assumption) ?_; rotate_left 1; (intro w hSw; (try dsimp only at hSw); go_simp; try with_reducible rfl); (try simp only [Act.put, List.getElem_toArray, List.getElem_cons_zero, List.getElem_cons_succ, List.setIfInBounds_toArray, List.set_cons_zero, List.set_cons_succ])
      refine wpAnyH_take (i := 20) (v := ?_) rfl (by kernel_rfl) (by kernel_rfl) (by kernel_rfl) (fun _ _ _ h => h) (Or.inl ⟨by rfl, ?_⟩) (by assumption) ?_; rotate_left 1; (intro w hSw; (try dsimp only at hSw); go_simp; try with_reducible rfl); (try simp only [Act.put, List.getElem_toArray, List.getElem_cons_zero, List.getElem_cons_succ, List.setIfInBounds_toArray, List.set_cons_zero, List.set_cons_succ])
      refine wpAnyH_take (i := 21) (v := ?_) rfl (by kernel_rfl) (by kernel_rfl) (by kernel_rfl) (fun _ _ _ h => h) (Or.inl ⟨by rfl, ?_⟩) (by assumption) ?_; rotate_left 1; (intro w hSw; (try dsimp only at hSw); go_simp; try with_reducible rfl); (try simp only [Act.put, List.getElem_toArray, List.getElem_cons_zero, List.getElem_cons_succ, List.setIfInBounds_toArray, List.set_cons_zero, List.set_cons_succ])
      refine wpAnyH_done (by kernel_rfl) ?_ _
      clear hHeld
      go_wp2_with fail
      go_ret2
      exact ⟨⟨_, _, rfl, hfin.out⟩, bw.out⟩
    refine AllReadyH.cons rfl (fun K hK => ?_) AllReadyH.nil
    go_simp
    have Q13 := hid (Blk.new w0 [.int .u8 q, .int .u8 1] 5)
    replace KK := hid (KK.out.alloc (.cells #[.int .u8 q, .int .u8 1] 5))
    replace bw := hid (bw.out.alloc bw.out.size (.cells #[.int .u8 q, .int .u8 1] 5))
    change Hid (Blk (w0.alloc (.cells #[.int .u8 q, .int .u8 1] 5)) _ _ _) at Q13
    obtain ⟨g2, hg2⟩ : ∃ g, w0.heap.size = g := ⟨_, rfl⟩
    rw [hg2] at Q13 ⊢
    clear hg2
    generalize w0.alloc (.cells #[.int .u8 q, .int .u8 1] 5) = w0c at KK bw Q13 ⊢
    obtain ⟨d0, d1, d2, d3, d4, d5, df⟩ := sixc KK.out
    have f0 := Q13.out.cell 0 (by simp)
    have f1 := Q13.out.cell 1 (by simp)
    refine hK.out _ _ ⟨d0, d1, d2⟩ (fun hHeldN => ?_)
    clear hK K hHeld
    have hHeld := hHeldN
    clear hHeldN
    (try simp only [Act.put, List.getElem_toArray, List.getElem_cons_zero, List.getElem_cons_succ, List.setIfInBounds_toArray, List.set_cons_zero, List.set_cons_succ])
    have hcv2 := hcq g2
    refine wpAnyH_mono (S1 := (fun W : World => ((W.cell? ⟨pb, 0, none⟩ = some (.int .i64 y) ∧ W.cell? ⟨pb, 1, none⟩ = some (.int .u64 N) ∧ W.cell? ⟨pb, 2, none⟩ = some (.int .i64 q)) ∧ W.cell? ⟨g2, 0, none⟩ = some (.int .u8 q) ∧ W.cell? ⟨g2, 1, none⟩ = some (.int .u8 1)))) (fun _ h => h.1) ?_
    have hHeld1 : (fun W : World => ((W.cell? ⟨pb, 0, none⟩ = some (.int .i64 y) ∧ W.cell? ⟨pb, 1, none⟩ = some (.int .u64 N) ∧ W.cell? ⟨pb, 2, none⟩ = some (.int .i64 q)) ∧ W.cell? ⟨g2, 0, none⟩ = some (.int .u8 q) ∧ W.cell? ⟨g2, 1, none⟩ = some (.int .u8 1))) w0c := ⟨⟨d0, d1, d2⟩, f0, f1⟩
    clear hHeld
    have hHeld := hHeld1
    clear hHeld1
    clear d0 d1 d2 d3 d4 d5 df f0 f1
    refine wpAnyH_take (i := 14) (v := ?_) rfl (by kernel_rfl) (by kernel_rfl) (by kernel_rfl) (fun _ _ _ h => h) (Or.inl ⟨by rfl, ?_⟩) (by assumption) ?_; rotate_left 1; (intro w hSw; (try dsimp only at hSw); go_simp; try with_reducible rfl); (try simp only [Act.put, List.getElem_toArray, List.getElem_cons_zero, List.getElem_cons_succ, List.setIfInBounds_toArray, List.set_cons_zero, List.set_cons_succ])
    refine wpAnyH_ready (rs := [3, 7]) (by kernel_rfl) (by simp) ?_
    refine AllReadyH.cons rfl (fun K hK => ?_) ?_
    · skip
      go_simp
      have Q3 := hid (Blk.new w0c [.int .u8 y] 5)
      replace KK := hid (KK.out.alloc (.cells #[.int .u8 y] 5))
      replace bw := hid (bw.out.alloc bw.out.size (.cells #[.int .u8 y] 5))
      replace Q13 := hid (Q13.out.alloc (.cells #[.int .u8 y] 5))
      change Hid (Blk (w0c.alloc (.cells #[.int .u8 y] 5)) _ _ _) at Q3
      obtain ⟨g1, hg1⟩ : ∃ g, w0c.heap.size = g := ⟨_, rfl⟩
      rw [hg1] at Q3 ⊢
      clear hg1
      generalize w0c.alloc (.cells #[.int .u8 y] 5) = w0cb at KK bw Q13 Q3 ⊢
      obtain ⟨d0, d1, d2, d3, d4, d5, df⟩ := sixc KK.out
      have f0 := Q13.out.cell 0 (by simp)
      have f1 := Q13.out.cell 1 (by simp)
      have e0 := Q3.out.cell 0 (by simp)
      refine hK.out _ _ ⟨⟨d0, d1, d2⟩, f0, f1⟩ (fun hHeldN => ?_)
      clear hK K hHeld
      have hHeld := hHeldN
      clear hHeldN
      (try simp only [Act.put, List.getElem_toArray, List.getElem_cons_zero, List.getElem_cons_succ, List.setIfInBounds_toArray, List.set_cons_zero, List.set_cons_succ])
      have hcv1 := hc1 g1
      refine wpAnyH_mono (S1 := (fun W : World => (((W.cell? ⟨pb, 0, none⟩ = some (.int .i64 y) ∧ W.cell? ⟨pb, 1, none⟩ = some (.int .u64 N) ∧ W.cell? ⟨pb, 2, none⟩ = some (.int .i64 q)) ∧ W.cell? ⟨g2, 0, none⟩ = some (.int .u8 q) ∧ W.cell? ⟨g2, 1, none⟩ = some (.int .u8 1)) ∧ W.cell? ⟨g1, 0, none⟩ = some (.int .u8 y)))) (fun _ h => h.1) ?_
      have hHeld1 : (fun W : World => (((W.cell? ⟨pb, 0, none⟩ = some (.int .i64 y) ∧ W.cell? ⟨pb, 1, none⟩ = some (.int .u64 N) ∧ W.cell? ⟨pb, 2, none⟩ = some (.int .i64 q)) ∧ W.cell? ⟨g2, 0, none⟩ = some (.int .u8 q) ∧ W.cell? ⟨g2, 1, none⟩ = some (.int .u8 1)) ∧ W.cell? ⟨g1, 0, none⟩ = some (.int .u8 y))) w0cb := ⟨⟨⟨d0, d1, d2⟩, f0, f1⟩, e0⟩
      clear hHeld
      have hHeld := hHeld1
      clear hHeld1
      clear d0 d1 d2 d3 d4 d5 df e0 f0 f1
      refine wpAnyH_take (i := 4) (v := ?_) rfl (by kernel_rfl) (by kernel_rfl) (by kernel_rfl) (fun _ _ _ h => h) (Or.inl ⟨by rfl, ?_⟩) (by assumption) ?_; rotate_left 1; (intro w hSw; (try dsimp only at hSw); go_simp; try with_reducible rfl); (try simp only [Act.put, List.getElem_toArray, List.getElem_cons_zero, List.getElem_cons_succ, List.setIfInBounds_toArray, List.set_cons_zero, List.set_cons_succ])
      refine wpAnyH_ready (rs := [7]) (by kernel_rfl) (by simp) ?_
      refine AllReadyH.cons rfl (fun K hK => ?_) AllReadyH.nil
      go_simp
      (with_reducible refine (hput.out _).mono ?_)
      rintro e w0cba ⟨rfl, b1⟩
      go_wp2_with fail
      replace KK := hid (KK.out.below b1 KK.out.lt)
      replace bw := hid (bw.out.trans (b1.mono bw.out.size))
      replace Q13 := hid (Q13.out.below b1 Q13.out.lt)
      replace Q3 := hid (Q3.out.below b1 Q3.out.lt)
      clear b1
      obtain ⟨d0, d1, d2, d3, d4, d5, df⟩ := sixc KK.out
      have f0 := Q13.out.cell 0 (by simp)
      have f1 := Q13.out.cell 1 (by simp)
      have e0 := Q3.out.cell 0 (by simp)
      refine hK.out _ _ ⟨⟨⟨d0, d1, d2⟩, f0, f1⟩, e0⟩ (fun hHeldN => ?_)
      clear hK K hHeld
      have hHeld := hHeldN
      clear hHeldN
      (try simp only [Act.put, List.getElem_toArray, List.getElem_cons_zero, List.getElem_cons_succ, List.setIfInBounds_toArray, List.set_cons_zero, List.set_cons_succ])
      clear d0 d1 d2 d3 d4 d5 df e0 f0 f1
      refine wpAnyH_take (i := 8) (v := ?_) rfl (by kernel_rfl) (by kernel_rfl) (by kernel_rfl) (fun _ _ _ h => h) (Or.inl ⟨by rfl, ?_⟩) (by assumption) ?_; rotate_left 1; (intro w hSw; (try dsimp only at hSw); go_simp; try with_reducible rfl); (try simp only [Act.put, List.getElem_toArray, List.getElem_cons_zero, List.getElem_cons_succ, List.setIfInBounds_toArray, List.set_cons_zero, List.set_cons_succ])
      refine wpAnyH_take (i := 15) (v := ?_) rfl (by kernel_rfl) (by kernel_rfl) (by kernel_rfl) (fun _ _ _ h => h) (Or.inl ⟨by rfl, ?_⟩) (by assumption) ?_; rotate_left 1; (intro w hSw; (try dsimp only at hSw); go_simp; try with_reducible rfl); (try simp only [Act.put, List.getElem_toArray, List.getElem_cons_zero, List.getElem_cons_succ, List.setIfInBounds_toArray, List.set_cons_zero, List.set_cons_succ])
      refine wpAnyH_take (i := 17) (v := ?_) rfl (by kernel_rfl) (by kernel_rfl) (by kernel_rfl) (fun _ _ _ h => h) (Or.inl ⟨by rfl, ?_⟩) (by assumption) ?_; rotate_left 1; (intro w hSw; (try dsimp only at hSw); go_simp; try with_reducible rfl); (try simp only [Act.put, List.getElem_toArray, List.getElem_cons_zero, List.getElem_cons_succ, List.setIfInBounds_toArray, List.set_cons_zero, List.set_cons_succ])
      refine wpAnyH_take (i := 19) (v := ?_) rfl (by kernel_rfl) (by kernel_rfl) (by kernel_rfl) (fun _ _ _ h => h) (Or.inl ⟨by rfl, ?_⟩) (by assumption) ?_; rotate_left 1; (intro w hSw; (try dsimp only at hSw); go_simp; try with_reducible rfl); (try simp only [Act.put, List.getElem_toArray, List.getElem_cons_zero, List.getElem_cons_succ, List.setIfInBounds_toArray, List.set_cons_zero, List.set_cons_succ])
      refine wpAnyH_take (i := 20) (v := ?_) rfl (by kernel_rfl) (by kernel_rfl) (by kernel_rfl) (fun _ _ _ h => h) (Or.inl ⟨by rfl, ?_⟩) (by assumption) ?_; rotate_left 1; (intro w hSw; (try dsimp only at hSw); go_simp; try with_reducible rfl); (try simp only [Act.put, List.getElem_toArray, List.getElem_cons_zero, List.getElem_cons_succ, List.setIfInBounds_toArray, List.set_cons_zero, List.set_cons_succ])
      refine wpAnyH_take (i := 21) (v := ?_) rfl (by kernel_rfl) (by kernel_rfl) (by kernel_rfl) (fun _ _ _ h => h) (Or.inl ⟨by rfl, ?_⟩) (by assumption) ?_; rotate_left 1; (intro w hSw; (try dsimp only at hSw); go_simp; try with_reducible rfl); (try simp only [Act.put, List.getElem_toArray, List.getElem_cons_zero, List.getElem_cons_succ, List.setIfInBounds_toArray, List.set_cons_zero, List.set_cons_succ])
      refine wpAnyH_done (by kernel_rfl) ?_ _
      clear hHeld
      go_wp2_with fail
      go_ret2
      exact ⟨⟨_, _, rfl, hfin.out⟩, bw.out⟩
    refine AllReadyH.cons rfl (fun K hK => ?_) AllReadyH.nil
    go_simp
    (with_reducible refine (hput.out _).mono ?_)
    rintro e w0ca ⟨rfl, b1⟩
    go_wp2_with fail
    replace KK := hid (KK.out.below b1 KK.out.lt)
    replace bw := hid (bw.out.trans (b1.mono bw.out.size))
    replace Q13 := hid (Q13.out.below b1 Q13.out.lt)
    clear b1
    obtain ⟨d0, d1, d2, d3, d4, d5, df⟩ := sixc KK.out
    have f0 := Q13.out.cell 0 (by simp)
    have f1 := Q13.out.cell 1 (by simp)
    refine hK.out _ _ ⟨⟨d0, d1, d2⟩, f0, f1⟩ (fun hHeldN => ?_)
    clear hK K hHeld
    have hHeld := hHeldN
    clear hHeldN
    (try simp only [Act.put, List.getElem_toArray, List.getElem_cons_zero, List.getElem_cons_succ, List.setIfInBounds_toArray, List.set_cons_zero, List.set_cons_succ])
    clear d0 d1 d2 d3 d4 d5 df f0 f1
    refine wpAnyH_ready (rs := [3]) (by kernel_rfl) (by simp) ?_
    refine AllReadyH.cons rfl (fun K hK => ?_) AllReadyH.nil
    go_simp
    have Q3 := hid (Blk.new w0ca [.int .u8 y] 5)
    replace KK := hid (KK.out.alloc (.cells #[.int .u8 y] 5))
    replace bw := hid (bw.out.alloc bw.out.size (.cells #[.int .u8 y] 5))
    replace Q13 := hid (Q13.out.alloc (.cells #[.int .u8 y] 5))
    change Hid (Blk (w0ca.alloc (.cells #[.int .u8 y] 5)) _ _ _) at Q3
    obtain ⟨g1, hg1⟩ : ∃ g, w0ca.heap.size = g := ⟨_, rfl⟩
    rw [hg1] at Q3 ⊢
    clear hg1
    generalize w0ca.alloc (.cells #[.int .u8 y] 5) = w0cab at KK bw Q13 Q3 ⊢
    obtain ⟨d0, d1, d2, d3, d4, d5, df⟩ := sixc KK.out
    have f0 := Q13.out.cell 0 (by simp)
    have f1 := Q13.out.cell 1 (by simp)
    have e0 := Q3.out.cell 0 (by simp)
    refine hK.out _ _ ⟨⟨d0, d1, d2⟩, f0, f1⟩ (fun hHeldN => ?_)
    clear hK K hHeld
    have hHeld := hHeldN
    clear hHeldN
    (try simp only [Act.put, List.getElem_toArray, List.getElem_cons_zero, List.getElem_cons_succ, List.setIfInBounds_toArray, List.set_cons_zero, List.set_cons_succ])
    have hcv1 := hc1 g1
    refine wpAnyH_mono (S1 := (fun W : World => (((W.cell? ⟨pb, 0, none⟩ = some (.int .i64 y) ∧ W.cell? ⟨pb, 1, none⟩ = some (.int .u64 N) ∧ W.cell? ⟨pb, 2, none⟩ = some (.int .i64 q)) ∧ W.cell? ⟨g2, 0, none⟩ = some (.int .u8 q) ∧ W.cell? ⟨g2, 1, none⟩ = some (.int .u8 1)) ∧ W.cell? ⟨g1, 0, none⟩ = some (.int .u8 y)))) (fun _ h => h.1) ?_
    have hHeld1 : (fun W : World => (((W.cell? ⟨pb, 0, none⟩ = some (.int .i64 y) ∧ W.cell? ⟨pb, 1, none⟩ = some (.int .u64 N) ∧ W.cell? ⟨pb, 2, none⟩ = some (.int .i64 q)) ∧ W.cell? ⟨g2, 0, none⟩ = some (.int .u8 q) ∧ W.cell? ⟨g2, 1, none⟩ = some (.int .u8 1)) ∧ W.cell? ⟨g1, 0, none⟩ = some (.int .u8 y))) w0cab := ⟨⟨⟨d0, d1, d2⟩, f0, f1⟩, e0⟩
    clear hHeld
    have hHeld := hHeld1
    clear hHeld1
    clear d0 d1 d2 d3 d4 d5 df e0 f0 f1
    refine wpAnyH_take (i := 4) (v := ?_) rfl (by kernel_rfl) (by kernel_rfl) (by kernel_rfl) (fun _ _ _ h => h) (Or.inl ⟨by rfl, ?_⟩) (by assumption) ?_; rotate_left 1; (intro w hSw; (try dsimp only at hSw); go_simp; try with_reducible rfl); (try simp only [Act.put, List.getElem_toArray, List.getElem_cons_zero, List.getElem_cons_succ, List.setIfInBounds_toArray, List.set_cons_zero, List.set_cons_succ])
    refine wpAnyH_take (i := 8) (v := ?_) rfl (by kernel_rfl) (by kernel_rfl) (by kernel_rfl) (fun _ _ _ h => h) (Or.inl ⟨by rfl, ?_⟩) (by assumption) ?_; rotate_left 1; (intro w hSw; (try dsimp only at hSw); go_simp; try with_reducible rfl); (try simp only [Act.put, List.getElem_toArray, List.getElem_cons_zero, List.getElem_cons_succ, List.setIfInBounds_toArray, List.set_cons_zero, List.set_cons_succ])
    refine wpAnyH_take (i := 15) (v := ?_) rfl (by kernel_rfl) (by kernel_rfl) (by kernel_rfl) (fun _ _ _ h => h) (Or.inl ⟨by rfl, ?_⟩) (by assumption) ?_; rotate_left 1; (intro w hSw; (try dsimp only at hSw); go_simp; try with_reducible rfl); (try simp only [Act.put, List.getElem_toArray, List.getElem_cons_zero, List.getElem_cons_succ, List.setIfInBounds_toArray, List.set_cons_zero, List.set_cons_succ])
    refine wpAnyH_take (i := 17) (v := ?_) rfl (by kernel_rfl) (by kernel_rfl) (by kernel_rfl) (fun _ _ _ h => h) (Or.inl ⟨by rfl, ?_⟩) (by assumption) ?_; rotate_left 1; (intro w hSw; (try dsimp only at hSw); go_simp; try with_reducible rfl); (try simp only [Act.put, List.getElem_toArray, List.getElem_cons_zero, List.getElem_cons_succ, List.setIfInBounds_toArray, List.set_cons_zero, List.set_cons_succ])
    refine wpAnyH_take (i := 19) (v := ?_) rfl (by kernel_rfl) (by kernel_rfl) (by kernel_rfl) (fun _ _ _ h => h) (Or.inl ⟨by rfl, ?_⟩) (by assumption) ?_; rotate_left 1; (intro w hSw; (try dsimp only at hSw); go_simp; try with_reducible rfl); (try simp only [Act.put, List.getElem_toArray, List.getElem_cons_zero, List.getElem_cons_succ, List.setIfInBounds_toArray, List.set_cons_zero, List.set_cons_succ])
    refine wpAnyH_take (i := 20) (v := ?_) rfl (by kernel_rfl) (by kernel_rfl) (by kernel_rfl) (fun _ _ _ h => h) (Or.inl ⟨by rfl, ?_⟩) (by assumption) ?_; rotate_left 1; (intro w hSw; (try dsimp only at hSw); go_simp; try with_reducible rfl); (try simp only [Act.put, List.getElem_toArray, List.getElem_cons_zero, List.getElem_cons_succ, List.setIfInBounds_toArray, List.set_cons_zero, List.set_cons_succ])
    refine wpAnyH_take (i := 21) (v := ?_) rfl (by kernel_rfl) (by kernel_rfl) (by kernel_rfl) (fun _ _ _ h => h) (Or.inl ⟨by rfl, ?_⟩) (by assumption) ?_; rotate_left 1; (intro w hSw; (try dsimp only at hSw); go_simp; try with_reducible rfl); (try simp only [Act.put, List.getElem_toArray, List.getElem_cons_zero, List.getElem_cons_succ, List.setIfInBounds_toArray, List.set_cons_zero, List.set_cons_succ])
    refine wpAnyH_done (by kernel_rfl) ?_ _
    clear hHeld
    go_wp2_with fail
    go_ret2
    exact ⟨⟨_, _, rfl, hfin.out⟩, bw.out⟩
end Go.Proofs.Ytldlkoiekdlmhaa.Wi
