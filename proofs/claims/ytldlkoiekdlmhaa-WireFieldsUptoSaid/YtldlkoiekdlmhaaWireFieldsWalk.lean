/-
  wire's calls: contracts. Written by wip/wiretopgen.py.
-/
import Derived.Test.YtldlkoiekdlmhaaWireRefI
import Derived.Test.YtldlkoiekdlmhaaPkWireRefK
import Derived.Deep.RegionHeld3
import Derived.Deep.RegionWith
import Derived.BigRegion
namespace Go.Proofs.Ytldlkoiekdlmhaa.Wi
open Go.ChangeShapes Go.WideShapes Go.ChangeAt Go.RowKit
open Go.Proofs.Ytldlkoiekdlmhaa.Mem
open Go.Proofs.Ytldlkoiekdlmhaa.Lik (Kept)
open Go.Proofs.Ytldlkoiekdlmhaa.Crc hiding hid bt
set_option linter.unusedVariables false
set_option linter.unusedSimpArgs false
set_option maxRecDepth 100000
theorem fields_x {a : Ask} {n : Nat} (hr : askR a) (hn : n ≠ 0) : askR { a with tx := n } ↔ a.k = 2 ∨ a.k = 3 ∨ a.k = 4 := by
  obtain ⟨h1, h2, h3, h4, h5⟩ := hr
  constructor
  · rintro ⟨_, g, _⟩
    by_cases h : a.k = 2 ∨ a.k = 3 ∨ a.k = 4
    · exact h
    · exact absurd (g (by show a.k ≠ 2; omega) (by show a.k ≠ 3; omega) (by show a.k ≠ 4; omega)) hn
  · intro h
    exact ⟨h1, fun g2 g3 g4 => absurd h (by have : a.k ≠ 2 := g2; have : a.k ≠ 3 := g3; have : a.k ≠ 4 := g4; omega), h3, h4, h5⟩
theorem fields_y {a : Ask} {n : Nat} (hr : askR a) (hn : n ≠ 0) : askR { a with v := n } ↔ a.k = 6 := by
  obtain ⟨h1, h2, h3, h4, h5⟩ := hr
  constructor
  · rintro ⟨_, _, _, g, _⟩
    by_cases h : a.k = 6
    · exact h
    · exact absurd (g h) hn
  · intro h
    exact ⟨h1, h2, h3, fun g => absurd h g, h5⟩
theorem fields_z {a : Ask} (hr : askR a) : askR { a with s6 := ⟨#[123, 125]⟩ } ↔ a.k = 5 ∨ a.k = 6 := by
  obtain ⟨h1, h2, h3, h4, h5⟩ := hr
  constructor
  · rintro ⟨_, _, _, _, g⟩
    by_cases h : a.k = 5 ∨ a.k = 6
    · exact h
    · rw [if_neg (by show ¬ (a.k = 5 ∨ a.k = 6); exact h)] at g
      have := g.2.2.2.2.2.2
      exact absurd this (show ¬ ((⟨#[123, 125]⟩ : ByteArray) = E0) by decide)
  · intro h
    rw [if_pos h] at h5
    refine ⟨h1, h2, h3, h4, ?_⟩
    rw [if_pos (by show a.k = 5 ∨ a.k = 6; exact h)]
    obtain ⟨q0, q1, q2, q3, q4, q5, q6⟩ := h5
    exact ⟨q0, q1, q2, q3, q4, q5, (show (2 : Nat) ≤ 2048 by decide)⟩
theorem AskW.iff {a : Ask} {s : ByteArray} {z : Int} (h : AskW a s z) : z = 0 ↔ askR a := by
  rcases h with ⟨rfl, hr, _⟩ | ⟨rfl, hr, _⟩
  · exact ⟨fun _ => hr, fun _ => rfl⟩
  · exact ⟨fun h => absurd h (by decide), fun h => absurd h hr⟩
theorem exec_load_row {P : Program} {o : Oper} {a : Act} {w : World} (ty : TypeId) (x : Operand) (ho : o.op = .load ty x)
    (g : Nat) (hx : a.eval x = .pointer (some ⟨g, 0, none⟩)) (t : TypeId) (cs : Array Value) (fr : Nat × Nat) (d : TypeDesc) (hg : w.heap[g]? = some (.cells cs t fr))
    (hu : P.underlying ty = some d) (hd : (match d with | .struct _ | .array _ _ => true | _ => false) = true) (hi : (P.info? ty).map (·.size) = some cs.size) : (execOp a.eval o).run P w = .ok (.value (.agg cs)) w := by
  unfold execOp
  simp only [ho, hx, Instr.loadAt, Instr.sureAddr, Sem.run_bind, Sem.run_pure, Result.andThen_ok, run_loadVar_row w g t ty cs fr d hg hu hd hi]
theorem merge {F G : Nat → Nat → Nat → World → Prop} {T : Prop} (h : (∀ p q r W, F p q r W → G p q r W) → T) (k : ∀ p q r W, F p q r W → G p q r W) : T := h k
set_option maxHeartbeats 16000000 in
theorem fields_walk (a : Ask) (n : Nat) (w : World) (ha : askF a) (hn64 : n < 18446744073709551616) : Calls Try.prog 8 #[.agg #[.int .u8 (a.k : Nat), .int .u64 (a.tx : Nat), .int .u8 (a.c.k : Nat), .string a.c.i, .string a.c.t, .string a.c.ut, .string a.c.ui, .int .u64 (a.v : Nat), .string a.s0, .string a.s1, .string a.s2, .string a.s3, .string a.s4, .string a.s5, .string a.s6], .int .u64 (n : Nat)] w fun e w' => e = .returned (.bool true) ∧ Below w.heap.size w w' := by
  go_enter Try.func8, Try.ntmps8
  go_upto_region 1 with fail
  have K := hid (Blk.new w [.int .u8 (a.k : Nat), .int .u64 (a.tx : Nat), .int .u8 (a.c.k : Nat), .string a.c.i, .string a.c.t, .string a.c.ut, .string a.c.ui, .int .u64 (a.v : Nat), .string a.s0, .string a.s1, .string a.s2, .string a.s3, .string a.s4, .string a.s5, .string a.s6] 30)
  have bw := hid ((Below.refl w.heap.size w).alloc (Nat.le_refl _) (.cells #[.int .u8 (a.k : Nat), .int .u64 (a.tx : Nat), .int .u8 (a.c.k : Nat), .string a.c.i, .string a.c.t, .string a.c.ut, .string a.c.ui, .int .u64 (a.v : Nat), .string a.s0, .string a.s1, .string a.s2, .string a.s3, .string a.s4, .string a.s5, .string a.s6] 30))
  change Hid (Blk (w.alloc (.cells #[.int .u8 (a.k : Nat), .int .u64 (a.tx : Nat), .int .u8 (a.c.k : Nat), .string a.c.i, .string a.c.t, .string a.c.ut, .string a.c.ui, .int .u64 (a.v : Nat), .string a.s0, .string a.s1, .string a.s2, .string a.s3, .string a.s4, .string a.s5, .string a.s6] 30)) _ _ _) at K
  generalize w.alloc (.cells #[.int .u8 (a.k : Nat), .int .u64 (a.tx : Nat), .int .u8 (a.c.k : Nat), .string a.c.i, .string a.c.t, .string a.c.ut, .string a.c.ui, .int .u64 (a.v : Nat), .string a.s0, .string a.s1, .string a.s2, .string a.s3, .string a.s4, .string a.s5, .string a.s6] 30) = X at K bw ⊢
  obtain ⟨pb, hpb⟩ : ∃ pb, w.heap.size = pb := ⟨_, rfl⟩
  rw [hpb] at K ⊢
  clear hpb
  go_wp2_with fail
  refine (wlives_any _).mono ?_
  rintro e w1' ⟨rfl, b1⟩
  replace K := hid (K.out.below b1 K.out.lt)
  replace bw := hid (bw.out.trans (b1.mono bw.out.size))
  clear b1
  obtain ⟨k0, k1, k2, k3, k4, k5, k6, k7, k8, k9, k10, k11, k12, k13, k14, kf⟩ := fifteen K.out
  go_wp2_with fail
  refine (writeask_any a _ ha).mono ?_
  rintro e w2 ⟨⟨x, z, rfl, hz⟩, b2⟩
  replace K := hid (K.out.below b2 K.out.lt)
  replace bw := hid (bw.out.trans (b2.mono bw.out.size))
  clear b2 k0 k1 k2 k3 k4 k5 k6 k7 k8 k9 k10 k11 k12 k13 k14 kf
  by_cases h0 : z = 0
  case neg =>
    clear hz K
    go_wp2_with fail
    go_ret
    exact ⟨rfl, bw.out⟩
  subst h0
  have hr := hid (hz.iff.1 rfl)
  clear hz
  by_cases hn : n = 0
  · subst hn
    clear K hr
    go_wp2_with fail
    go_ret
    exact ⟨rfl, bw.out⟩
  have hni : ¬ (n : Int) = 0 := by omega
  have hX := hid (fields_x hr.out hn)
  have hR8 := hid hr.out.1
  have hY := hid (fields_y hr.out hn)
  have hZ := hid (fields_z hr.out)
  have hXF := hid (show askF { a with tx := n } from ⟨⟨ha.1.1, hn64, ha.1.2.2.1, ha.1.2.2.2⟩, ha.2⟩)
  have hYF := hid (show askF { a with v := n } from ⟨⟨ha.1.1, ha.1.2.1, hn64, ha.1.2.2.2⟩, ha.2⟩)
  have hZF := hid (show askF { a with s6 := ⟨#[123, 125]⟩ } from ⟨ha.1, ha.2.1, ha.2.2.1, ha.2.2.2.1, ha.2.2.2.2.1, ha.2.2.2.2.2.1, ha.2.2.2.2.2.2.1, ha.2.2.2.2.2.2.2.1, by show (2 : Nat) ≤ 1048576; decide⟩)
  clear hr hn
  obtain ⟨k0, k1, k2, k3, k4, k5, k6, k7, k8, k9, k10, k11, k12, k13, k14, kf⟩ := fifteen K.out
  go_wp2_with fail
  clear k0 k1 k2 k3 k4 k5 k6 k7 k8 k9 k10 k11 k12 k13 k14 kf
  apply merge (F := fun p7 p8 p9 W => Blk W p7 [.int .u8 (a.k : Nat), .int .u64 (a.tx : Nat), .int .u8 (a.c.k : Nat), .string a.c.i, .string a.c.t, .string a.c.ut, .string a.c.ui, .int .u64 (a.v : Nat), .string a.s0, .string a.s1, .string a.s2, .string a.s3, .string a.s4, .string a.s5, .string a.s6] 30 ∧ Blk W p8 [.int .u8 (a.k : Nat), .int .u64 (a.tx : Nat), .int .u8 (a.c.k : Nat), .string a.c.i, .string a.c.t, .string a.c.ut, .string a.c.ui, .int .u64 (a.v : Nat), .string a.s0, .string a.s1, .string a.s2, .string a.s3, .string a.s4, .string a.s5, .string a.s6] 30 ∧ Blk W p9 [.int .u8 (a.k : Nat), .int .u64 (a.tx : Nat), .int .u8 (a.c.k : Nat), .string a.c.i, .string a.c.t, .string a.c.ut, .string a.c.ui, .int .u64 (a.v : Nat), .string a.s0, .string a.s1, .string a.s2, .string a.s3, .string a.s4, .string a.s5, .string a.s6] 30 ∧ Blk W pb [.int .u8 (a.k : Nat), .int .u64 (a.tx : Nat), .int .u8 (a.c.k : Nat), .string a.c.i, .string a.c.t, .string a.c.ut, .string a.c.ui, .int .u64 (a.v : Nat), .string a.s0, .string a.s1, .string a.s2, .string a.s3, .string a.s4, .string a.s5, .string a.s6] 30 ∧ (p7 ≠ p8 ∧ p7 ≠ p9 ∧ p8 ≠ p9) ∧ (pb ≠ p7 ∧ pb ≠ p8 ∧ pb ≠ p9) ∧ (w.heap.size ≤ p7 ∧ w.heap.size ≤ p8 ∧ w.heap.size ≤ p9) ∧ Below w.heap.size w W)
  · intro key
    refine wp_region_held_drew (S := (fun Y => Y.heap[pb]? = some (.cells #[.int .u8 (a.k : Nat), .int .u64 (a.tx : Nat), .int .u8 (a.c.k : Nat), .string a.c.i, .string a.c.t, .string a.c.ut, .string a.c.ui, .int .u64 (a.v : Nat), .string a.s0, .string a.s1, .string a.s2, .string a.s3, .string a.s4, .string a.s5, .string a.s6] 30 (0, 0)))) (by kernel_rfl) (show w2.drew.heap[pb]? = _ from K.out.at') (fun hHeld => ?_)
    replace K := hid K.out.drew
    replace bw := hid bw.out.drew
    generalize w2.drew = Wc at K bw hHeld ⊢
    refine wpAnyH_take (i := 0) (v := .agg #[.int .u8 (a.k : Nat), .int .u64 (a.tx : Nat), .int .u8 (a.c.k : Nat), .string a.c.i, .string a.c.t, .string a.c.ut, .string a.c.ui, .int .u64 (a.v : Nat), .string a.s0, .string a.s1, .string a.s2, .string a.s3, .string a.s4, .string a.s5, .string a.s6]) rfl (by kernel_rfl) (by kernel_rfl) (by kernel_rfl) (fun _ _ _ h => h) (Or.inl ⟨by rfl, fun Y hY => exec_load_row 30 (.tmp 2) rfl pb rfl _ _ _ _ hY Try.underlying30 rfl (by kernel_rfl)⟩) (by assumption) ?_
    (try simp only [Act.put, List.getElem_toArray, List.getElem_cons_zero, List.getElem_cons_succ, List.setIfInBounds_toArray, List.set_cons_zero, List.set_cons_succ])
    refine wpAnyH_take (i := 1) (v := .agg #[.int .u8 (a.k : Nat), .int .u64 (a.tx : Nat), .int .u8 (a.c.k : Nat), .string a.c.i, .string a.c.t, .string a.c.ut, .string a.c.ui, .int .u64 (a.v : Nat), .string a.s0, .string a.s1, .string a.s2, .string a.s3, .string a.s4, .string a.s5, .string a.s6]) rfl (by kernel_rfl) (by kernel_rfl) (by kernel_rfl) (fun _ _ _ h => h) (Or.inl ⟨by rfl, fun Y hY => exec_load_row 30 (.tmp 2) rfl pb rfl _ _ _ _ hY Try.underlying30 rfl (by kernel_rfl)⟩) (by assumption) ?_
    (try simp only [Act.put, List.getElem_toArray, List.getElem_cons_zero, List.getElem_cons_succ, List.setIfInBounds_toArray, List.set_cons_zero, List.set_cons_succ])
    refine wpAnyH_take (i := 2) (v := .agg #[.int .u8 (a.k : Nat), .int .u64 (a.tx : Nat), .int .u8 (a.c.k : Nat), .string a.c.i, .string a.c.t, .string a.c.ut, .string a.c.ui, .int .u64 (a.v : Nat), .string a.s0, .string a.s1, .string a.s2, .string a.s3, .string a.s4, .string a.s5, .string a.s6]) rfl (by kernel_rfl) (by kernel_rfl) (by kernel_rfl) (fun _ _ _ h => h) (Or.inl ⟨by rfl, fun Y hY => exec_load_row 30 (.tmp 2) rfl pb rfl _ _ _ _ hY Try.underlying30 rfl (by kernel_rfl)⟩) (by assumption) ?_
    (try simp only [Act.put, List.getElem_toArray, List.getElem_cons_zero, List.getElem_cons_succ, List.setIfInBounds_toArray, List.set_cons_zero, List.set_cons_succ])
    refine wpAnyH_ready (rs := [3, 4, 5]) (by kernel_rfl) (by simp) ?_
    refine AllReadyH.cons rfl (fun K' hK => ?_) ?_
    · skip
      go_simp
      have P7 := hid (Blk.new Wc [.int .u8 0, .int .u64 0, .int .u8 0, .string ⟨#[]⟩, .string ⟨#[]⟩, .string ⟨#[]⟩, .string ⟨#[]⟩, .int .u64 0, .string ⟨#[]⟩, .string ⟨#[]⟩, .string ⟨#[]⟩, .string ⟨#[]⟩, .string ⟨#[]⟩, .string ⟨#[]⟩, .string ⟨#[]⟩] 30)
      change Hid (Blk (Wc.alloc (.cells #[.int .u8 0, .int .u64 0, .int .u8 0, .string ⟨#[]⟩, .string ⟨#[]⟩, .string ⟨#[]⟩, .string ⟨#[]⟩, .int .u64 0, .string ⟨#[]⟩, .string ⟨#[]⟩, .string ⟨#[]⟩, .string ⟨#[]⟩, .string ⟨#[]⟩, .string ⟨#[]⟩, .string ⟨#[]⟩] 30)) _ _ _) at P7
      have B7 := hid (show pb ≠ Wc.heap.size ∧ w.heap.size ≤ Wc.heap.size by have := K.out.lt; have := bw.out.size; omega)
      replace K := hid (K.out.alloc (.cells #[.int .u8 0, .int .u64 0, .int .u8 0, .string ⟨#[]⟩, .string ⟨#[]⟩, .string ⟨#[]⟩, .string ⟨#[]⟩, .int .u64 0, .string ⟨#[]⟩, .string ⟨#[]⟩, .string ⟨#[]⟩, .string ⟨#[]⟩, .string ⟨#[]⟩, .string ⟨#[]⟩, .string ⟨#[]⟩] 30))
      replace bw := hid (bw.out.alloc bw.out.size (.cells #[.int .u8 0, .int .u64 0, .int .u8 0, .string ⟨#[]⟩, .string ⟨#[]⟩, .string ⟨#[]⟩, .string ⟨#[]⟩, .int .u64 0, .string ⟨#[]⟩, .string ⟨#[]⟩, .string ⟨#[]⟩, .string ⟨#[]⟩, .string ⟨#[]⟩, .string ⟨#[]⟩, .string ⟨#[]⟩] 30))
      generalize Wc.heap.size = p7 at P7 B7 ⊢
      generalize Wc.alloc (.cells #[.int .u8 0, .int .u64 0, .int .u8 0, .string ⟨#[]⟩, .string ⟨#[]⟩, .string ⟨#[]⟩, .string ⟨#[]⟩, .int .u64 0, .string ⟨#[]⟩, .string ⟨#[]⟩, .string ⟨#[]⟩, .string ⟨#[]⟩, .string ⟨#[]⟩, .string ⟨#[]⟩, .string ⟨#[]⟩] 30) = Wc at K bw P7 ⊢
      refine hK.out _ _ (show Wc.heap[pb]? = _ from K.out.at') (fun hHeldN => ?_)
      clear hK K' hHeld
      have hHeld := hHeldN
      clear hHeldN
      (try simp only [Act.put, List.getElem_toArray, List.getElem_cons_zero, List.getElem_cons_succ, List.setIfInBounds_toArray, List.set_cons_zero, List.set_cons_succ])
      refine wpAnyH_ready (rs := [4, 5]) (by kernel_rfl) (by simp) ?_
      refine AllReadyH.cons rfl (fun K' hK => ?_) ?_
      · skip
        go_simp
        have P8 := hid (Blk.new Wc [.int .u8 0, .int .u64 0, .int .u8 0, .string ⟨#[]⟩, .string ⟨#[]⟩, .string ⟨#[]⟩, .string ⟨#[]⟩, .int .u64 0, .string ⟨#[]⟩, .string ⟨#[]⟩, .string ⟨#[]⟩, .string ⟨#[]⟩, .string ⟨#[]⟩, .string ⟨#[]⟩, .string ⟨#[]⟩] 30)
        change Hid (Blk (Wc.alloc (.cells #[.int .u8 0, .int .u64 0, .int .u8 0, .string ⟨#[]⟩, .string ⟨#[]⟩, .string ⟨#[]⟩, .string ⟨#[]⟩, .int .u64 0, .string ⟨#[]⟩, .string ⟨#[]⟩, .string ⟨#[]⟩, .string ⟨#[]⟩, .string ⟨#[]⟩, .string ⟨#[]⟩, .string ⟨#[]⟩] 30)) _ _ _) at P8
        have B8 := hid (show pb ≠ Wc.heap.size ∧ w.heap.size ≤ Wc.heap.size by have := K.out.lt; have := bw.out.size; omega)
        have d78 := hid (show p7 ≠ Wc.heap.size by have := P7.out.lt; omega)
        replace P7 := hid (P7.out.alloc (.cells #[.int .u8 0, .int .u64 0, .int .u8 0, .string ⟨#[]⟩, .string ⟨#[]⟩, .string ⟨#[]⟩, .string ⟨#[]⟩, .int .u64 0, .string ⟨#[]⟩, .string ⟨#[]⟩, .string ⟨#[]⟩, .string ⟨#[]⟩, .string ⟨#[]⟩, .string ⟨#[]⟩, .string ⟨#[]⟩] 30))
        replace K := hid (K.out.alloc (.cells #[.int .u8 0, .int .u64 0, .int .u8 0, .string ⟨#[]⟩, .string ⟨#[]⟩, .string ⟨#[]⟩, .string ⟨#[]⟩, .int .u64 0, .string ⟨#[]⟩, .string ⟨#[]⟩, .string ⟨#[]⟩, .string ⟨#[]⟩, .string ⟨#[]⟩, .string ⟨#[]⟩, .string ⟨#[]⟩] 30))
        replace bw := hid (bw.out.alloc bw.out.size (.cells #[.int .u8 0, .int .u64 0, .int .u8 0, .string ⟨#[]⟩, .string ⟨#[]⟩, .string ⟨#[]⟩, .string ⟨#[]⟩, .int .u64 0, .string ⟨#[]⟩, .string ⟨#[]⟩, .string ⟨#[]⟩, .string ⟨#[]⟩, .string ⟨#[]⟩, .string ⟨#[]⟩, .string ⟨#[]⟩] 30))
        generalize Wc.heap.size = p8 at P8 B8 d78 ⊢
        generalize Wc.alloc (.cells #[.int .u8 0, .int .u64 0, .int .u8 0, .string ⟨#[]⟩, .string ⟨#[]⟩, .string ⟨#[]⟩, .string ⟨#[]⟩, .int .u64 0, .string ⟨#[]⟩, .string ⟨#[]⟩, .string ⟨#[]⟩, .string ⟨#[]⟩, .string ⟨#[]⟩, .string ⟨#[]⟩, .string ⟨#[]⟩] 30) = Wc at K bw P7 P8 ⊢
        refine hK.out _ _ (show Wc.heap[pb]? = _ from K.out.at') (fun hHeldN => ?_)
        clear hK K' hHeld
        have hHeld := hHeldN
        clear hHeldN
        (try simp only [Act.put, List.getElem_toArray, List.getElem_cons_zero, List.getElem_cons_succ, List.setIfInBounds_toArray, List.set_cons_zero, List.set_cons_succ])
        refine wpAnyH_ready (rs := [5]) (by kernel_rfl) (by simp) ?_
        refine AllReadyH.cons rfl (fun K' hK => ?_) AllReadyH.nil
        go_simp
        have P9 := hid (Blk.new Wc [.int .u8 0, .int .u64 0, .int .u8 0, .string ⟨#[]⟩, .string ⟨#[]⟩, .string ⟨#[]⟩, .string ⟨#[]⟩, .int .u64 0, .string ⟨#[]⟩, .string ⟨#[]⟩, .string ⟨#[]⟩, .string ⟨#[]⟩, .string ⟨#[]⟩, .string ⟨#[]⟩, .string ⟨#[]⟩] 30)
        change Hid (Blk (Wc.alloc (.cells #[.int .u8 0, .int .u64 0, .int .u8 0, .string ⟨#[]⟩, .string ⟨#[]⟩, .string ⟨#[]⟩, .string ⟨#[]⟩, .int .u64 0, .string ⟨#[]⟩, .string ⟨#[]⟩, .string ⟨#[]⟩, .string ⟨#[]⟩, .string ⟨#[]⟩, .string ⟨#[]⟩, .string ⟨#[]⟩] 30)) _ _ _) at P9
        have B9 := hid (show pb ≠ Wc.heap.size ∧ w.heap.size ≤ Wc.heap.size by have := K.out.lt; have := bw.out.size; omega)
        have d79 := hid (show p7 ≠ Wc.heap.size by have := P7.out.lt; omega)
        have d89 := hid (show p8 ≠ Wc.heap.size by have := P8.out.lt; omega)
        replace P7 := hid (P7.out.alloc (.cells #[.int .u8 0, .int .u64 0, .int .u8 0, .string ⟨#[]⟩, .string ⟨#[]⟩, .string ⟨#[]⟩, .string ⟨#[]⟩, .int .u64 0, .string ⟨#[]⟩, .string ⟨#[]⟩, .string ⟨#[]⟩, .string ⟨#[]⟩, .string ⟨#[]⟩, .string ⟨#[]⟩, .string ⟨#[]⟩] 30))
        replace P8 := hid (P8.out.alloc (.cells #[.int .u8 0, .int .u64 0, .int .u8 0, .string ⟨#[]⟩, .string ⟨#[]⟩, .string ⟨#[]⟩, .string ⟨#[]⟩, .int .u64 0, .string ⟨#[]⟩, .string ⟨#[]⟩, .string ⟨#[]⟩, .string ⟨#[]⟩, .string ⟨#[]⟩, .string ⟨#[]⟩, .string ⟨#[]⟩] 30))
        replace K := hid (K.out.alloc (.cells #[.int .u8 0, .int .u64 0, .int .u8 0, .string ⟨#[]⟩, .string ⟨#[]⟩, .string ⟨#[]⟩, .string ⟨#[]⟩, .int .u64 0, .string ⟨#[]⟩, .string ⟨#[]⟩, .string ⟨#[]⟩, .string ⟨#[]⟩, .string ⟨#[]⟩, .string ⟨#[]⟩, .string ⟨#[]⟩] 30))
        replace bw := hid (bw.out.alloc bw.out.size (.cells #[.int .u8 0, .int .u64 0, .int .u8 0, .string ⟨#[]⟩, .string ⟨#[]⟩, .string ⟨#[]⟩, .string ⟨#[]⟩, .int .u64 0, .string ⟨#[]⟩, .string ⟨#[]⟩, .string ⟨#[]⟩, .string ⟨#[]⟩, .string ⟨#[]⟩, .string ⟨#[]⟩, .string ⟨#[]⟩] 30))
        generalize Wc.heap.size = p9 at P9 B9 d79 d89 ⊢
        generalize Wc.alloc (.cells #[.int .u8 0, .int .u64 0, .int .u8 0, .string ⟨#[]⟩, .string ⟨#[]⟩, .string ⟨#[]⟩, .string ⟨#[]⟩, .int .u64 0, .string ⟨#[]⟩, .string ⟨#[]⟩, .string ⟨#[]⟩, .string ⟨#[]⟩, .string ⟨#[]⟩, .string ⟨#[]⟩, .string ⟨#[]⟩] 30) = Wc at K bw P7 P8 P9 ⊢
        have D := hid (show (p7 ≠ p8 ∧ p7 ≠ p9 ∧ p8 ≠ p9) by have := d78.out; have := d79.out; have := d89.out; omega)
        refine hK.out _ _ (show Wc.heap[pb]? = _ from K.out.at') (fun hHeldN => ?_)
        clear hK K' hHeld
        have hHeld := hHeldN
        clear hHeldN
        (try simp only [Act.put, List.getElem_toArray, List.getElem_cons_zero, List.getElem_cons_succ, List.setIfInBounds_toArray, List.set_cons_zero, List.set_cons_succ])
        refine wpAnyH_ready (rs := [6]) (by kernel_rfl) (by simp) ?_
        refine AllReadyH.cons rfl (fun K' hK => ?_) AllReadyH.nil
        rw [if_pos (by rfl)]
        refine wp_store_row 30 (.tmp 7) (.tmp 33) rfl p7 #[.int .u8 (a.k : Nat), .int .u64 (a.tx : Nat), .int .u8 (a.c.k : Nat), .string a.c.i, .string a.c.t, .string a.c.ut, .string a.c.ui, .int .u64 (a.v : Nat), .string a.s0, .string a.s1, .string a.s2, .string a.s3, .string a.s4, .string a.s5, .string a.s6] rfl rfl 30 _ P7.out.at' (by kernel_rfl) rfl (by simp [Value.oneCell']) ?_
        have K2 := hid (show Blk (Wc.setRow p7 #[.int .u8 (a.k : Nat), .int .u64 (a.tx : Nat), .int .u8 (a.c.k : Nat), .string a.c.i, .string a.c.t, .string a.c.ut, .string a.c.ui, .int .u64 (a.v : Nat), .string a.s0, .string a.s1, .string a.s2, .string a.s3, .string a.s4, .string a.s5, .string a.s6]) pb _ _ from K.out.rowOther (by have := B7.out; omega) _)
        have N8 := hid (show Blk (Wc.setRow p7 #[.int .u8 (a.k : Nat), .int .u64 (a.tx : Nat), .int .u8 (a.c.k : Nat), .string a.c.i, .string a.c.t, .string a.c.ut, .string a.c.ui, .int .u64 (a.v : Nat), .string a.s0, .string a.s1, .string a.s2, .string a.s3, .string a.s4, .string a.s5, .string a.s6]) p8 _ _ from P8.out.rowOther (by have := D.out; omega) _)
        have N9 := hid (show Blk (Wc.setRow p7 #[.int .u8 (a.k : Nat), .int .u64 (a.tx : Nat), .int .u8 (a.c.k : Nat), .string a.c.i, .string a.c.t, .string a.c.ut, .string a.c.ui, .int .u64 (a.v : Nat), .string a.s0, .string a.s1, .string a.s2, .string a.s3, .string a.s4, .string a.s5, .string a.s6]) p9 _ _ from P9.out.rowOther (by have := D.out; omega) _)
        have N7 := hid (show Blk (Wc.setRow p7 #[.int .u8 (a.k : Nat), .int .u64 (a.tx : Nat), .int .u8 (a.c.k : Nat), .string a.c.i, .string a.c.t, .string a.c.ut, .string a.c.ui, .int .u64 (a.v : Nat), .string a.s0, .string a.s1, .string a.s2, .string a.s3, .string a.s4, .string a.s5, .string a.s6]) p7 _ _ from P7.out.row [.int .u8 (a.k : Nat), .int .u64 (a.tx : Nat), .int .u8 (a.c.k : Nat), .string a.c.i, .string a.c.t, .string a.c.ut, .string a.c.ui, .int .u64 (a.v : Nat), .string a.s0, .string a.s1, .string a.s2, .string a.s3, .string a.s4, .string a.s5, .string a.s6])
        have b2 := hid (below_row bw.out (show w.heap.size ≤ p7 by have := B7.out; omega) #[.int .u8 (a.k : Nat), .int .u64 (a.tx : Nat), .int .u8 (a.c.k : Nat), .string a.c.i, .string a.c.t, .string a.c.ut, .string a.c.ui, .int .u64 (a.v : Nat), .string a.s0, .string a.s1, .string a.s2, .string a.s3, .string a.s4, .string a.s5, .string a.s6])
        replace K := K2
        replace bw := b2
        replace P7 := N7
        replace P8 := N8
        replace P9 := N9
        clear K2 b2 N7 N8 N9
        generalize Wc.setRow p7 #[.int .u8 (a.k : Nat), .int .u64 (a.tx : Nat), .int .u8 (a.c.k : Nat), .string a.c.i, .string a.c.t, .string a.c.ut, .string a.c.ui, .int .u64 (a.v : Nat), .string a.s0, .string a.s1, .string a.s2, .string a.s3, .string a.s4, .string a.s5, .string a.s6] = Wc at K bw P7 P8 P9 ⊢
        refine hK.out _ _ (show Wc.heap[pb]? = _ from K.out.at') (fun hHeldN => ?_)
        clear hK K' hHeld
        have hHeld := hHeldN
        clear hHeldN
        (try simp only [Act.put, List.getElem_toArray, List.getElem_cons_zero, List.getElem_cons_succ, List.setIfInBounds_toArray, List.set_cons_zero, List.set_cons_succ])
        refine wpAnyH_ready (rs := [7]) (by kernel_rfl) (by simp) ?_
        refine AllReadyH.cons rfl (fun K' hK => ?_) AllReadyH.nil
        rw [if_pos (by rfl)]
        refine wp_store_row 30 (.tmp 8) (.tmp 34) rfl p8 #[.int .u8 (a.k : Nat), .int .u64 (a.tx : Nat), .int .u8 (a.c.k : Nat), .string a.c.i, .string a.c.t, .string a.c.ut, .string a.c.ui, .int .u64 (a.v : Nat), .string a.s0, .string a.s1, .string a.s2, .string a.s3, .string a.s4, .string a.s5, .string a.s6] rfl rfl 30 _ P8.out.at' (by kernel_rfl) rfl (by simp [Value.oneCell']) ?_
        have K2 := hid (show Blk (Wc.setRow p8 #[.int .u8 (a.k : Nat), .int .u64 (a.tx : Nat), .int .u8 (a.c.k : Nat), .string a.c.i, .string a.c.t, .string a.c.ut, .string a.c.ui, .int .u64 (a.v : Nat), .string a.s0, .string a.s1, .string a.s2, .string a.s3, .string a.s4, .string a.s5, .string a.s6]) pb _ _ from K.out.rowOther (by have := B8.out; omega) _)
        have N7 := hid (show Blk (Wc.setRow p8 #[.int .u8 (a.k : Nat), .int .u64 (a.tx : Nat), .int .u8 (a.c.k : Nat), .string a.c.i, .string a.c.t, .string a.c.ut, .string a.c.ui, .int .u64 (a.v : Nat), .string a.s0, .string a.s1, .string a.s2, .string a.s3, .string a.s4, .string a.s5, .string a.s6]) p7 _ _ from P7.out.rowOther (by have := D.out; omega) _)
        have N9 := hid (show Blk (Wc.setRow p8 #[.int .u8 (a.k : Nat), .int .u64 (a.tx : Nat), .int .u8 (a.c.k : Nat), .string a.c.i, .string a.c.t, .string a.c.ut, .string a.c.ui, .int .u64 (a.v : Nat), .string a.s0, .string a.s1, .string a.s2, .string a.s3, .string a.s4, .string a.s5, .string a.s6]) p9 _ _ from P9.out.rowOther (by have := D.out; omega) _)
        have N8 := hid (show Blk (Wc.setRow p8 #[.int .u8 (a.k : Nat), .int .u64 (a.tx : Nat), .int .u8 (a.c.k : Nat), .string a.c.i, .string a.c.t, .string a.c.ut, .string a.c.ui, .int .u64 (a.v : Nat), .string a.s0, .string a.s1, .string a.s2, .string a.s3, .string a.s4, .string a.s5, .string a.s6]) p8 _ _ from P8.out.row [.int .u8 (a.k : Nat), .int .u64 (a.tx : Nat), .int .u8 (a.c.k : Nat), .string a.c.i, .string a.c.t, .string a.c.ut, .string a.c.ui, .int .u64 (a.v : Nat), .string a.s0, .string a.s1, .string a.s2, .string a.s3, .string a.s4, .string a.s5, .string a.s6])
        have b2 := hid (below_row bw.out (show w.heap.size ≤ p8 by have := B8.out; omega) #[.int .u8 (a.k : Nat), .int .u64 (a.tx : Nat), .int .u8 (a.c.k : Nat), .string a.c.i, .string a.c.t, .string a.c.ut, .string a.c.ui, .int .u64 (a.v : Nat), .string a.s0, .string a.s1, .string a.s2, .string a.s3, .string a.s4, .string a.s5, .string a.s6])
        replace K := K2
        replace bw := b2
        replace P7 := N7
        replace P8 := N8
        replace P9 := N9
        clear K2 b2 N7 N8 N9
        generalize Wc.setRow p8 #[.int .u8 (a.k : Nat), .int .u64 (a.tx : Nat), .int .u8 (a.c.k : Nat), .string a.c.i, .string a.c.t, .string a.c.ut, .string a.c.ui, .int .u64 (a.v : Nat), .string a.s0, .string a.s1, .string a.s2, .string a.s3, .string a.s4, .string a.s5, .string a.s6] = Wc at K bw P7 P8 P9 ⊢
        refine hK.out _ _ (show Wc.heap[pb]? = _ from K.out.at') (fun hHeldN => ?_)
        clear hK K' hHeld
        have hHeld := hHeldN
        clear hHeldN
        (try simp only [Act.put, List.getElem_toArray, List.getElem_cons_zero, List.getElem_cons_succ, List.setIfInBounds_toArray, List.set_cons_zero, List.set_cons_succ])
        refine wpAnyH_ready (rs := [8]) (by kernel_rfl) (by simp) ?_
        refine AllReadyH.cons rfl (fun K' hK => ?_) AllReadyH.nil
        rw [if_pos (by rfl)]
        refine wp_store_row 30 (.tmp 9) (.tmp 35) rfl p9 #[.int .u8 (a.k : Nat), .int .u64 (a.tx : Nat), .int .u8 (a.c.k : Nat), .string a.c.i, .string a.c.t, .string a.c.ut, .string a.c.ui, .int .u64 (a.v : Nat), .string a.s0, .string a.s1, .string a.s2, .string a.s3, .string a.s4, .string a.s5, .string a.s6] rfl rfl 30 _ P9.out.at' (by kernel_rfl) rfl (by simp [Value.oneCell']) ?_
        have K2 := hid (show Blk (Wc.setRow p9 #[.int .u8 (a.k : Nat), .int .u64 (a.tx : Nat), .int .u8 (a.c.k : Nat), .string a.c.i, .string a.c.t, .string a.c.ut, .string a.c.ui, .int .u64 (a.v : Nat), .string a.s0, .string a.s1, .string a.s2, .string a.s3, .string a.s4, .string a.s5, .string a.s6]) pb _ _ from K.out.rowOther (by have := B9.out; omega) _)
        have N7 := hid (show Blk (Wc.setRow p9 #[.int .u8 (a.k : Nat), .int .u64 (a.tx : Nat), .int .u8 (a.c.k : Nat), .string a.c.i, .string a.c.t, .string a.c.ut, .string a.c.ui, .int .u64 (a.v : Nat), .string a.s0, .string a.s1, .string a.s2, .string a.s3, .string a.s4, .string a.s5, .string a.s6]) p7 _ _ from P7.out.rowOther (by have := D.out; omega) _)
        have N8 := hid (show Blk (Wc.setRow p9 #[.int .u8 (a.k : Nat), .int .u64 (a.tx : Nat), .int .u8 (a.c.k : Nat), .string a.c.i, .string a.c.t, .string a.c.ut, .string a.c.ui, .int .u64 (a.v : Nat), .string a.s0, .string a.s1, .string a.s2, .string a.s3, .string a.s4, .string a.s5, .string a.s6]) p8 _ _ from P8.out.rowOther (by have := D.out; omega) _)
        have N9 := hid (show Blk (Wc.setRow p9 #[.int .u8 (a.k : Nat), .int .u64 (a.tx : Nat), .int .u8 (a.c.k : Nat), .string a.c.i, .string a.c.t, .string a.c.ut, .string a.c.ui, .int .u64 (a.v : Nat), .string a.s0, .string a.s1, .string a.s2, .string a.s3, .string a.s4, .string a.s5, .string a.s6]) p9 _ _ from P9.out.row [.int .u8 (a.k : Nat), .int .u64 (a.tx : Nat), .int .u8 (a.c.k : Nat), .string a.c.i, .string a.c.t, .string a.c.ut, .string a.c.ui, .int .u64 (a.v : Nat), .string a.s0, .string a.s1, .string a.s2, .string a.s3, .string a.s4, .string a.s5, .string a.s6])
        have b2 := hid (below_row bw.out (show w.heap.size ≤ p9 by have := B9.out; omega) #[.int .u8 (a.k : Nat), .int .u64 (a.tx : Nat), .int .u8 (a.c.k : Nat), .string a.c.i, .string a.c.t, .string a.c.ut, .string a.c.ui, .int .u64 (a.v : Nat), .string a.s0, .string a.s1, .string a.s2, .string a.s3, .string a.s4, .string a.s5, .string a.s6])
        replace K := K2
        replace bw := b2
        replace P7 := N7
        replace P8 := N8
        replace P9 := N9
        clear K2 b2 N7 N8 N9
        generalize Wc.setRow p9 #[.int .u8 (a.k : Nat), .int .u64 (a.tx : Nat), .int .u8 (a.c.k : Nat), .string a.c.i, .string a.c.t, .string a.c.ut, .string a.c.ui, .int .u64 (a.v : Nat), .string a.s0, .string a.s1, .string a.s2, .string a.s3, .string a.s4, .string a.s5, .string a.s6] = Wc at K bw P7 P8 P9 ⊢
        refine hK.out _ _ (show Wc.heap[pb]? = _ from K.out.at') (fun hHeldN => ?_)
        clear hK K' hHeld
        have hHeld := hHeldN
        clear hHeldN
        (try simp only [Act.put, List.getElem_toArray, List.getElem_cons_zero, List.getElem_cons_succ, List.setIfInBounds_toArray, List.set_cons_zero, List.set_cons_succ])
        refine wpAnyH_done (by kernel_rfl) ?_ _
        exact key p7 p8 p9 Wc ⟨P7.out, P8.out, P9.out, K.out, ⟨by have := D.out; omega, by have := D.out; omega, by have := D.out; omega⟩, ⟨by have := B7.out; omega, by have := B8.out; omega, by have := B9.out; omega⟩, ⟨by have := B7.out; omega, by have := B8.out; omega, by have := B9.out; omega⟩, bw.out⟩
      refine AllReadyH.cons rfl (fun K' hK => ?_) AllReadyH.nil
      go_simp
      have P9 := hid (Blk.new Wc [.int .u8 0, .int .u64 0, .int .u8 0, .string ⟨#[]⟩, .string ⟨#[]⟩, .string ⟨#[]⟩, .string ⟨#[]⟩, .int .u64 0, .string ⟨#[]⟩, .string ⟨#[]⟩, .string ⟨#[]⟩, .string ⟨#[]⟩, .string ⟨#[]⟩, .string ⟨#[]⟩, .string ⟨#[]⟩] 30)
      change Hid (Blk (Wc.alloc (.cells #[.int .u8 0, .int .u64 0, .int .u8 0, .string ⟨#[]⟩, .string ⟨#[]⟩, .string ⟨#[]⟩, .string ⟨#[]⟩, .int .u64 0, .string ⟨#[]⟩, .string ⟨#[]⟩, .string ⟨#[]⟩, .string ⟨#[]⟩, .string ⟨#[]⟩, .string ⟨#[]⟩, .string ⟨#[]⟩] 30)) _ _ _) at P9
      have B9 := hid (show pb ≠ Wc.heap.size ∧ w.heap.size ≤ Wc.heap.size by have := K.out.lt; have := bw.out.size; omega)
      have d79 := hid (show p7 ≠ Wc.heap.size by have := P7.out.lt; omega)
      replace P7 := hid (P7.out.alloc (.cells #[.int .u8 0, .int .u64 0, .int .u8 0, .string ⟨#[]⟩, .string ⟨#[]⟩, .string ⟨#[]⟩, .string ⟨#[]⟩, .int .u64 0, .string ⟨#[]⟩, .string ⟨#[]⟩, .string ⟨#[]⟩, .string ⟨#[]⟩, .string ⟨#[]⟩, .string ⟨#[]⟩, .string ⟨#[]⟩] 30))
      replace K := hid (K.out.alloc (.cells #[.int .u8 0, .int .u64 0, .int .u8 0, .string ⟨#[]⟩, .string ⟨#[]⟩, .string ⟨#[]⟩, .string ⟨#[]⟩, .int .u64 0, .string ⟨#[]⟩, .string ⟨#[]⟩, .string ⟨#[]⟩, .string ⟨#[]⟩, .string ⟨#[]⟩, .string ⟨#[]⟩, .string ⟨#[]⟩] 30))
      replace bw := hid (bw.out.alloc bw.out.size (.cells #[.int .u8 0, .int .u64 0, .int .u8 0, .string ⟨#[]⟩, .string ⟨#[]⟩, .string ⟨#[]⟩, .string ⟨#[]⟩, .int .u64 0, .string ⟨#[]⟩, .string ⟨#[]⟩, .string ⟨#[]⟩, .string ⟨#[]⟩, .string ⟨#[]⟩, .string ⟨#[]⟩, .string ⟨#[]⟩] 30))
      generalize Wc.heap.size = p9 at P9 B9 d79 ⊢
      generalize Wc.alloc (.cells #[.int .u8 0, .int .u64 0, .int .u8 0, .string ⟨#[]⟩, .string ⟨#[]⟩, .string ⟨#[]⟩, .string ⟨#[]⟩, .int .u64 0, .string ⟨#[]⟩, .string ⟨#[]⟩, .string ⟨#[]⟩, .string ⟨#[]⟩, .string ⟨#[]⟩, .string ⟨#[]⟩, .string ⟨#[]⟩] 30) = Wc at K bw P7 P9 ⊢
      refine hK.out _ _ (show Wc.heap[pb]? = _ from K.out.at') (fun hHeldN => ?_)
      clear hK K' hHeld
      have hHeld := hHeldN
      clear hHeldN
      (try simp only [Act.put, List.getElem_toArray, List.getElem_cons_zero, List.getElem_cons_succ, List.setIfInBounds_toArray, List.set_cons_zero, List.set_cons_succ])
      refine wpAnyH_ready (rs := [4]) (by kernel_rfl) (by simp) ?_
      refine AllReadyH.cons rfl (fun K' hK => ?_) AllReadyH.nil
      go_simp
      have P8 := hid (Blk.new Wc [.int .u8 0, .int .u64 0, .int .u8 0, .string ⟨#[]⟩, .string ⟨#[]⟩, .string ⟨#[]⟩, .string ⟨#[]⟩, .int .u64 0, .string ⟨#[]⟩, .string ⟨#[]⟩, .string ⟨#[]⟩, .string ⟨#[]⟩, .string ⟨#[]⟩, .string ⟨#[]⟩, .string ⟨#[]⟩] 30)
      change Hid (Blk (Wc.alloc (.cells #[.int .u8 0, .int .u64 0, .int .u8 0, .string ⟨#[]⟩, .string ⟨#[]⟩, .string ⟨#[]⟩, .string ⟨#[]⟩, .int .u64 0, .string ⟨#[]⟩, .string ⟨#[]⟩, .string ⟨#[]⟩, .string ⟨#[]⟩, .string ⟨#[]⟩, .string ⟨#[]⟩, .string ⟨#[]⟩] 30)) _ _ _) at P8
      have B8 := hid (show pb ≠ Wc.heap.size ∧ w.heap.size ≤ Wc.heap.size by have := K.out.lt; have := bw.out.size; omega)
      have d78 := hid (show p7 ≠ Wc.heap.size by have := P7.out.lt; omega)
      have d98 := hid (show p9 ≠ Wc.heap.size by have := P9.out.lt; omega)
      replace P7 := hid (P7.out.alloc (.cells #[.int .u8 0, .int .u64 0, .int .u8 0, .string ⟨#[]⟩, .string ⟨#[]⟩, .string ⟨#[]⟩, .string ⟨#[]⟩, .int .u64 0, .string ⟨#[]⟩, .string ⟨#[]⟩, .string ⟨#[]⟩, .string ⟨#[]⟩, .string ⟨#[]⟩, .string ⟨#[]⟩, .string ⟨#[]⟩] 30))
      replace P9 := hid (P9.out.alloc (.cells #[.int .u8 0, .int .u64 0, .int .u8 0, .string ⟨#[]⟩, .string ⟨#[]⟩, .string ⟨#[]⟩, .string ⟨#[]⟩, .int .u64 0, .string ⟨#[]⟩, .string ⟨#[]⟩, .string ⟨#[]⟩, .string ⟨#[]⟩, .string ⟨#[]⟩, .string ⟨#[]⟩, .string ⟨#[]⟩] 30))
      replace K := hid (K.out.alloc (.cells #[.int .u8 0, .int .u64 0, .int .u8 0, .string ⟨#[]⟩, .string ⟨#[]⟩, .string ⟨#[]⟩, .string ⟨#[]⟩, .int .u64 0, .string ⟨#[]⟩, .string ⟨#[]⟩, .string ⟨#[]⟩, .string ⟨#[]⟩, .string ⟨#[]⟩, .string ⟨#[]⟩, .string ⟨#[]⟩] 30))
      replace bw := hid (bw.out.alloc bw.out.size (.cells #[.int .u8 0, .int .u64 0, .int .u8 0, .string ⟨#[]⟩, .string ⟨#[]⟩, .string ⟨#[]⟩, .string ⟨#[]⟩, .int .u64 0, .string ⟨#[]⟩, .string ⟨#[]⟩, .string ⟨#[]⟩, .string ⟨#[]⟩, .string ⟨#[]⟩, .string ⟨#[]⟩, .string ⟨#[]⟩] 30))
      generalize Wc.heap.size = p8 at P8 B8 d78 d98 ⊢
      generalize Wc.alloc (.cells #[.int .u8 0, .int .u64 0, .int .u8 0, .string ⟨#[]⟩, .string ⟨#[]⟩, .string ⟨#[]⟩, .string ⟨#[]⟩, .int .u64 0, .string ⟨#[]⟩, .string ⟨#[]⟩, .string ⟨#[]⟩, .string ⟨#[]⟩, .string ⟨#[]⟩, .string ⟨#[]⟩, .string ⟨#[]⟩] 30) = Wc at K bw P7 P8 P9 ⊢
      have D := hid (show (p7 ≠ p8 ∧ p7 ≠ p9 ∧ p8 ≠ p9) by have := d79.out; have := d78.out; have := d98.out; omega)
      refine hK.out _ _ (show Wc.heap[pb]? = _ from K.out.at') (fun hHeldN => ?_)
      clear hK K' hHeld
      have hHeld := hHeldN
      clear hHeldN
      (try simp only [Act.put, List.getElem_toArray, List.getElem_cons_zero, List.getElem_cons_succ, List.setIfInBounds_toArray, List.set_cons_zero, List.set_cons_succ])
      refine wpAnyH_ready (rs := [6]) (by kernel_rfl) (by simp) ?_
      refine AllReadyH.cons rfl (fun K' hK => ?_) AllReadyH.nil
      rw [if_pos (by rfl)]
      refine wp_store_row 30 (.tmp 7) (.tmp 33) rfl p7 #[.int .u8 (a.k : Nat), .int .u64 (a.tx : Nat), .int .u8 (a.c.k : Nat), .string a.c.i, .string a.c.t, .string a.c.ut, .string a.c.ui, .int .u64 (a.v : Nat), .string a.s0, .string a.s1, .string a.s2, .string a.s3, .string a.s4, .string a.s5, .string a.s6] rfl rfl 30 _ P7.out.at' (by kernel_rfl) rfl (by simp [Value.oneCell']) ?_
      have K2 := hid (show Blk (Wc.setRow p7 #[.int .u8 (a.k : Nat), .int .u64 (a.tx : Nat), .int .u8 (a.c.k : Nat), .string a.c.i, .string a.c.t, .string a.c.ut, .string a.c.ui, .int .u64 (a.v : Nat), .string a.s0, .string a.s1, .string a.s2, .string a.s3, .string a.s4, .string a.s5, .string a.s6]) pb _ _ from K.out.rowOther (by have := B7.out; omega) _)
      have N8 := hid (show Blk (Wc.setRow p7 #[.int .u8 (a.k : Nat), .int .u64 (a.tx : Nat), .int .u8 (a.c.k : Nat), .string a.c.i, .string a.c.t, .string a.c.ut, .string a.c.ui, .int .u64 (a.v : Nat), .string a.s0, .string a.s1, .string a.s2, .string a.s3, .string a.s4, .string a.s5, .string a.s6]) p8 _ _ from P8.out.rowOther (by have := D.out; omega) _)
      have N9 := hid (show Blk (Wc.setRow p7 #[.int .u8 (a.k : Nat), .int .u64 (a.tx : Nat), .int .u8 (a.c.k : Nat), .string a.c.i, .string a.c.t, .string a.c.ut, .string a.c.ui, .int .u64 (a.v : Nat), .string a.s0, .string a.s1, .string a.s2, .string a.s3, .string a.s4, .string a.s5, .string a.s6]) p9 _ _ from P9.out.rowOther (by have := D.out; omega) _)
      have N7 := hid (show Blk (Wc.setRow p7 #[.int .u8 (a.k : Nat), .int .u64 (a.tx : Nat), .int .u8 (a.c.k : Nat), .string a.c.i, .string a.c.t, .string a.c.ut, .string a.c.ui, .int .u64 (a.v : Nat), .string a.s0, .string a.s1, .string a.s2, .string a.s3, .string a.s4, .string a.s5, .string a.s6]) p7 _ _ from P7.out.row [.int .u8 (a.k : Nat), .int .u64 (a.tx : Nat), .int .u8 (a.c.k : Nat), .string a.c.i, .string a.c.t, .string a.c.ut, .string a.c.ui, .int .u64 (a.v : Nat), .string a.s0, .string a.s1, .string a.s2, .string a.s3, .string a.s4, .string a.s5, .string a.s6])
      have b2 := hid (below_row bw.out (show w.heap.size ≤ p7 by have := B7.out; omega) #[.int .u8 (a.k : Nat), .int .u64 (a.tx : Nat), .int .u8 (a.c.k : Nat), .string a.c.i, .string a.c.t, .string a.c.ut, .string a.c.ui, .int .u64 (a.v : Nat), .string a.s0, .string a.s1, .string a.s2, .string a.s3, .string a.s4, .string a.s5, .string a.s6])
      replace K := K2
      replace bw := b2
      replace P7 := N7
      replace P8 := N8
      replace P9 := N9
      clear K2 b2 N7 N8 N9
      generalize Wc.setRow p7 #[.int .u8 (a.k : Nat), .int .u64 (a.tx : Nat), .int .u8 (a.c.k : Nat), .string a.c.i, .string a.c.t, .string a.c.ut, .string a.c.ui, .int .u64 (a.v : Nat), .string a.s0, .string a.s1, .string a.s2, .string a.s3, .string a.s4, .string a.s5, .string a.s6] = Wc at K bw P7 P8 P9 ⊢
      refine hK.out _ _ (show Wc.heap[pb]? = _ from K.out.at') (fun hHeldN => ?_)
      clear hK K' hHeld
      have hHeld := hHeldN
      clear hHeldN
      (try simp only [Act.put, List.getElem_toArray, List.getElem_cons_zero, List.getElem_cons_succ, List.setIfInBounds_toArray, List.set_cons_zero, List.set_cons_succ])
      refine wpAnyH_ready (rs := [7]) (by kernel_rfl) (by simp) ?_
      refine AllReadyH.cons rfl (fun K' hK => ?_) AllReadyH.nil
      rw [if_pos (by rfl)]
      refine wp_store_row 30 (.tmp 8) (.tmp 34) rfl p8 #[.int .u8 (a.k : Nat), .int .u64 (a.tx : Nat), .int .u8 (a.c.k : Nat), .string a.c.i, .string a.c.t, .string a.c.ut, .string a.c.ui, .int .u64 (a.v : Nat), .string a.s0, .string a.s1, .string a.s2, .string a.s3, .string a.s4, .string a.s5, .string a.s6] rfl rfl 30 _ P8.out.at' (by kernel_rfl) rfl (by simp [Value.oneCell']) ?_
      have K2 := hid (show Blk (Wc.setRow p8 #[.int .u8 (a.k : Nat), .int .u64 (a.tx : Nat), .int .u8 (a.c.k : Nat), .string a.c.i, .string a.c.t, .string a.c.ut, .string a.c.ui, .int .u64 (a.v : Nat), .string a.s0, .string a.s1, .string a.s2, .string a.s3, .string a.s4, .string a.s5, .string a.s6]) pb _ _ from K.out.rowOther (by have := B8.out; omega) _)
      have N7 := hid (show Blk (Wc.setRow p8 #[.int .u8 (a.k : Nat), .int .u64 (a.tx : Nat), .int .u8 (a.c.k : Nat), .string a.c.i, .string a.c.t, .string a.c.ut, .string a.c.ui, .int .u64 (a.v : Nat), .string a.s0, .string a.s1, .string a.s2, .string a.s3, .string a.s4, .string a.s5, .string a.s6]) p7 _ _ from P7.out.rowOther (by have := D.out; omega) _)
      have N9 := hid (show Blk (Wc.setRow p8 #[.int .u8 (a.k : Nat), .int .u64 (a.tx : Nat), .int .u8 (a.c.k : Nat), .string a.c.i, .string a.c.t, .string a.c.ut, .string a.c.ui, .int .u64 (a.v : Nat), .string a.s0, .string a.s1, .string a.s2, .string a.s3, .string a.s4, .string a.s5, .string a.s6]) p9 _ _ from P9.out.rowOther (by have := D.out; omega) _)
      have N8 := hid (show Blk (Wc.setRow p8 #[.int .u8 (a.k : Nat), .int .u64 (a.tx : Nat), .int .u8 (a.c.k : Nat), .string a.c.i, .string a.c.t, .string a.c.ut, .string a.c.ui, .int .u64 (a.v : Nat), .string a.s0, .string a.s1, .string a.s2, .string a.s3, .string a.s4, .string a.s5, .string a.s6]) p8 _ _ from P8.out.row [.int .u8 (a.k : Nat), .int .u64 (a.tx : Nat), .int .u8 (a.c.k : Nat), .string a.c.i, .string a.c.t, .string a.c.ut, .string a.c.ui, .int .u64 (a.v : Nat), .string a.s0, .string a.s1, .string a.s2, .string a.s3, .string a.s4, .string a.s5, .string a.s6])
      have b2 := hid (below_row bw.out (show w.heap.size ≤ p8 by have := B8.out; omega) #[.int .u8 (a.k : Nat), .int .u64 (a.tx : Nat), .int .u8 (a.c.k : Nat), .string a.c.i, .string a.c.t, .string a.c.ut, .string a.c.ui, .int .u64 (a.v : Nat), .string a.s0, .string a.s1, .string a.s2, .string a.s3, .string a.s4, .string a.s5, .string a.s6])
      replace K := K2
      replace bw := b2
      replace P7 := N7
      replace P8 := N8
      replace P9 := N9
      clear K2 b2 N7 N8 N9
      generalize Wc.setRow p8 #[.int .u8 (a.k : Nat), .int .u64 (a.tx : Nat), .int .u8 (a.c.k : Nat), .string a.c.i, .string a.c.t, .string a.c.ut, .string a.c.ui, .int .u64 (a.v : Nat), .string a.s0, .string a.s1, .string a.s2, .string a.s3, .string a.s4, .string a.s5, .string a.s6] = Wc at K bw P7 P8 P9 ⊢
      refine hK.out _ _ (show Wc.heap[pb]? = _ from K.out.at') (fun hHeldN => ?_)
      clear hK K' hHeld
      have hHeld := hHeldN
      clear hHeldN
      (try simp only [Act.put, List.getElem_toArray, List.getElem_cons_zero, List.getElem_cons_succ, List.setIfInBounds_toArray, List.set_cons_zero, List.set_cons_succ])
      refine wpAnyH_ready (rs := [8]) (by kernel_rfl) (by simp) ?_
      refine AllReadyH.cons rfl (fun K' hK => ?_) AllReadyH.nil
      rw [if_pos (by rfl)]
      refine wp_store_row 30 (.tmp 9) (.tmp 35) rfl p9 #[.int .u8 (a.k : Nat), .int .u64 (a.tx : Nat), .int .u8 (a.c.k : Nat), .string a.c.i, .string a.c.t, .string a.c.ut, .string a.c.ui, .int .u64 (a.v : Nat), .string a.s0, .string a.s1, .string a.s2, .string a.s3, .string a.s4, .string a.s5, .string a.s6] rfl rfl 30 _ P9.out.at' (by kernel_rfl) rfl (by simp [Value.oneCell']) ?_
      have K2 := hid (show Blk (Wc.setRow p9 #[.int .u8 (a.k : Nat), .int .u64 (a.tx : Nat), .int .u8 (a.c.k : Nat), .string a.c.i, .string a.c.t, .string a.c.ut, .string a.c.ui, .int .u64 (a.v : Nat), .string a.s0, .string a.s1, .string a.s2, .string a.s3, .string a.s4, .string a.s5, .string a.s6]) pb _ _ from K.out.rowOther (by have := B9.out; omega) _)
      have N7 := hid (show Blk (Wc.setRow p9 #[.int .u8 (a.k : Nat), .int .u64 (a.tx : Nat), .int .u8 (a.c.k : Nat), .string a.c.i, .string a.c.t, .string a.c.ut, .string a.c.ui, .int .u64 (a.v : Nat), .string a.s0, .string a.s1, .string a.s2, .string a.s3, .string a.s4, .string a.s5, .string a.s6]) p7 _ _ from P7.out.rowOther (by have := D.out; omega) _)
      have N8 := hid (show Blk (Wc.setRow p9 #[.int .u8 (a.k : Nat), .int .u64 (a.tx : Nat), .int .u8 (a.c.k : Nat), .string a.c.i, .string a.c.t, .string a.c.ut, .string a.c.ui, .int .u64 (a.v : Nat), .string a.s0, .string a.s1, .string a.s2, .string a.s3, .string a.s4, .string a.s5, .string a.s6]) p8 _ _ from P8.out.rowOther (by have := D.out; omega) _)
      have N9 := hid (show Blk (Wc.setRow p9 #[.int .u8 (a.k : Nat), .int .u64 (a.tx : Nat), .int .u8 (a.c.k : Nat), .string a.c.i, .string a.c.t, .string a.c.ut, .string a.c.ui, .int .u64 (a.v : Nat), .string a.s0, .string a.s1, .string a.s2, .string a.s3, .string a.s4, .string a.s5, .string a.s6]) p9 _ _ from P9.out.row [.int .u8 (a.k : Nat), .int .u64 (a.tx : Nat), .int .u8 (a.c.k : Nat), .string a.c.i, .string a.c.t, .string a.c.ut, .string a.c.ui, .int .u64 (a.v : Nat), .string a.s0, .string a.s1, .string a.s2, .string a.s3, .string a.s4, .string a.s5, .string a.s6])
      have b2 := hid (below_row bw.out (show w.heap.size ≤ p9 by have := B9.out; omega) #[.int .u8 (a.k : Nat), .int .u64 (a.tx : Nat), .int .u8 (a.c.k : Nat), .string a.c.i, .string a.c.t, .string a.c.ut, .string a.c.ui, .int .u64 (a.v : Nat), .string a.s0, .string a.s1, .string a.s2, .string a.s3, .string a.s4, .string a.s5, .string a.s6])
      replace K := K2
      replace bw := b2
      replace P7 := N7
      replace P8 := N8
      replace P9 := N9
      clear K2 b2 N7 N8 N9
      generalize Wc.setRow p9 #[.int .u8 (a.k : Nat), .int .u64 (a.tx : Nat), .int .u8 (a.c.k : Nat), .string a.c.i, .string a.c.t, .string a.c.ut, .string a.c.ui, .int .u64 (a.v : Nat), .string a.s0, .string a.s1, .string a.s2, .string a.s3, .string a.s4, .string a.s5, .string a.s6] = Wc at K bw P7 P8 P9 ⊢
      refine hK.out _ _ (show Wc.heap[pb]? = _ from K.out.at') (fun hHeldN => ?_)
      clear hK K' hHeld
      have hHeld := hHeldN
      clear hHeldN
      (try simp only [Act.put, List.getElem_toArray, List.getElem_cons_zero, List.getElem_cons_succ, List.setIfInBounds_toArray, List.set_cons_zero, List.set_cons_succ])
      refine wpAnyH_done (by kernel_rfl) ?_ _
      exact key p7 p8 p9 Wc ⟨P7.out, P8.out, P9.out, K.out, ⟨by have := D.out; omega, by have := D.out; omega, by have := D.out; omega⟩, ⟨by have := B7.out; omega, by have := B8.out; omega, by have := B9.out; omega⟩, ⟨by have := B7.out; omega, by have := B8.out; omega, by have := B9.out; omega⟩, bw.out⟩
    refine AllReadyH.cons rfl (fun K' hK => ?_) ?_
    · skip
      go_simp
      have P8 := hid (Blk.new Wc [.int .u8 0, .int .u64 0, .int .u8 0, .string ⟨#[]⟩, .string ⟨#[]⟩, .string ⟨#[]⟩, .string ⟨#[]⟩, .int .u64 0, .string ⟨#[]⟩, .string ⟨#[]⟩, .string ⟨#[]⟩, .string ⟨#[]⟩, .string ⟨#[]⟩, .string ⟨#[]⟩, .string ⟨#[]⟩] 30)
      change Hid (Blk (Wc.alloc (.cells #[.int .u8 0, .int .u64 0, .int .u8 0, .string ⟨#[]⟩, .string ⟨#[]⟩, .string ⟨#[]⟩, .string ⟨#[]⟩, .int .u64 0, .string ⟨#[]⟩, .string ⟨#[]⟩, .string ⟨#[]⟩, .string ⟨#[]⟩, .string ⟨#[]⟩, .string ⟨#[]⟩, .string ⟨#[]⟩] 30)) _ _ _) at P8
      have B8 := hid (show pb ≠ Wc.heap.size ∧ w.heap.size ≤ Wc.heap.size by have := K.out.lt; have := bw.out.size; omega)
      replace K := hid (K.out.alloc (.cells #[.int .u8 0, .int .u64 0, .int .u8 0, .string ⟨#[]⟩, .string ⟨#[]⟩, .string ⟨#[]⟩, .string ⟨#[]⟩, .int .u64 0, .string ⟨#[]⟩, .string ⟨#[]⟩, .string ⟨#[]⟩, .string ⟨#[]⟩, .string ⟨#[]⟩, .string ⟨#[]⟩, .string ⟨#[]⟩] 30))
      replace bw := hid (bw.out.alloc bw.out.size (.cells #[.int .u8 0, .int .u64 0, .int .u8 0, .string ⟨#[]⟩, .string ⟨#[]⟩, .string ⟨#[]⟩, .string ⟨#[]⟩, .int .u64 0, .string ⟨#[]⟩, .string ⟨#[]⟩, .string ⟨#[]⟩, .string ⟨#[]⟩, .string ⟨#[]⟩, .string ⟨#[]⟩, .string ⟨#[]⟩] 30))
      generalize Wc.heap.size = p8 at P8 B8 ⊢
      generalize Wc.alloc (.cells #[.int .u8 0, .int .u64 0, .int .u8 0, .string ⟨#[]⟩, .string ⟨#[]⟩, .string ⟨#[]⟩, .string ⟨#[]⟩, .int .u64 0, .string ⟨#[]⟩, .string ⟨#[]⟩, .string ⟨#[]⟩, .string ⟨#[]⟩, .string ⟨#[]⟩, .string ⟨#[]⟩, .string ⟨#[]⟩] 30) = Wc at K bw P8 ⊢
      refine hK.out _ _ (show Wc.heap[pb]? = _ from K.out.at') (fun hHeldN => ?_)
      clear hK K' hHeld
      have hHeld := hHeldN
      clear hHeldN
      (try simp only [Act.put, List.getElem_toArray, List.getElem_cons_zero, List.getElem_cons_succ, List.setIfInBounds_toArray, List.set_cons_zero, List.set_cons_succ])
      refine wpAnyH_ready (rs := [3, 5]) (by kernel_rfl) (by simp) ?_
      refine AllReadyH.cons rfl (fun K' hK => ?_) ?_
      · skip
        go_simp
        have P7 := hid (Blk.new Wc [.int .u8 0, .int .u64 0, .int .u8 0, .string ⟨#[]⟩, .string ⟨#[]⟩, .string ⟨#[]⟩, .string ⟨#[]⟩, .int .u64 0, .string ⟨#[]⟩, .string ⟨#[]⟩, .string ⟨#[]⟩, .string ⟨#[]⟩, .string ⟨#[]⟩, .string ⟨#[]⟩, .string ⟨#[]⟩] 30)
        change Hid (Blk (Wc.alloc (.cells #[.int .u8 0, .int .u64 0, .int .u8 0, .string ⟨#[]⟩, .string ⟨#[]⟩, .string ⟨#[]⟩, .string ⟨#[]⟩, .int .u64 0, .string ⟨#[]⟩, .string ⟨#[]⟩, .string ⟨#[]⟩, .string ⟨#[]⟩, .string ⟨#[]⟩, .string ⟨#[]⟩, .string ⟨#[]⟩] 30)) _ _ _) at P7
        have B7 := hid (show pb ≠ Wc.heap.size ∧ w.heap.size ≤ Wc.heap.size by have := K.out.lt; have := bw.out.size; omega)
        have d87 := hid (show p8 ≠ Wc.heap.size by have := P8.out.lt; omega)
        replace P8 := hid (P8.out.alloc (.cells #[.int .u8 0, .int .u64 0, .int .u8 0, .string ⟨#[]⟩, .string ⟨#[]⟩, .string ⟨#[]⟩, .string ⟨#[]⟩, .int .u64 0, .string ⟨#[]⟩, .string ⟨#[]⟩, .string ⟨#[]⟩, .string ⟨#[]⟩, .string ⟨#[]⟩, .string ⟨#[]⟩, .string ⟨#[]⟩] 30))
        replace K := hid (K.out.alloc (.cells #[.int .u8 0, .int .u64 0, .int .u8 0, .string ⟨#[]⟩, .string ⟨#[]⟩, .string ⟨#[]⟩, .string ⟨#[]⟩, .int .u64 0, .string ⟨#[]⟩, .string ⟨#[]⟩, .string ⟨#[]⟩, .string ⟨#[]⟩, .string ⟨#[]⟩, .string ⟨#[]⟩, .string ⟨#[]⟩] 30))
        replace bw := hid (bw.out.alloc bw.out.size (.cells #[.int .u8 0, .int .u64 0, .int .u8 0, .string ⟨#[]⟩, .string ⟨#[]⟩, .string ⟨#[]⟩, .string ⟨#[]⟩, .int .u64 0, .string ⟨#[]⟩, .string ⟨#[]⟩, .string ⟨#[]⟩, .string ⟨#[]⟩, .string ⟨#[]⟩, .string ⟨#[]⟩, .string ⟨#[]⟩] 30))
        generalize Wc.heap.size = p7 at P7 B7 d87 ⊢
        generalize Wc.alloc (.cells #[.int .u8 0, .int .u64 0, .int .u8 0, .string ⟨#[]⟩, .string ⟨#[]⟩, .string ⟨#[]⟩, .string ⟨#[]⟩, .int .u64 0, .string ⟨#[]⟩, .string ⟨#[]⟩, .string ⟨#[]⟩, .string ⟨#[]⟩, .string ⟨#[]⟩, .string ⟨#[]⟩, .string ⟨#[]⟩] 30) = Wc at K bw P7 P8 ⊢
        refine hK.out _ _ (show Wc.heap[pb]? = _ from K.out.at') (fun hHeldN => ?_)
        clear hK K' hHeld
        have hHeld := hHeldN
        clear hHeldN
        (try simp only [Act.put, List.getElem_toArray, List.getElem_cons_zero, List.getElem_cons_succ, List.setIfInBounds_toArray, List.set_cons_zero, List.set_cons_succ])
        refine wpAnyH_ready (rs := [5]) (by kernel_rfl) (by simp) ?_
        refine AllReadyH.cons rfl (fun K' hK => ?_) AllReadyH.nil
        go_simp
        have P9 := hid (Blk.new Wc [.int .u8 0, .int .u64 0, .int .u8 0, .string ⟨#[]⟩, .string ⟨#[]⟩, .string ⟨#[]⟩, .string ⟨#[]⟩, .int .u64 0, .string ⟨#[]⟩, .string ⟨#[]⟩, .string ⟨#[]⟩, .string ⟨#[]⟩, .string ⟨#[]⟩, .string ⟨#[]⟩, .string ⟨#[]⟩] 30)
        change Hid (Blk (Wc.alloc (.cells #[.int .u8 0, .int .u64 0, .int .u8 0, .string ⟨#[]⟩, .string ⟨#[]⟩, .string ⟨#[]⟩, .string ⟨#[]⟩, .int .u64 0, .string ⟨#[]⟩, .string ⟨#[]⟩, .string ⟨#[]⟩, .string ⟨#[]⟩, .string ⟨#[]⟩, .string ⟨#[]⟩, .string ⟨#[]⟩] 30)) _ _ _) at P9
        have B9 := hid (show pb ≠ Wc.heap.size ∧ w.heap.size ≤ Wc.heap.size by have := K.out.lt; have := bw.out.size; omega)
        have d89 := hid (show p8 ≠ Wc.heap.size by have := P8.out.lt; omega)
        have d79 := hid (show p7 ≠ Wc.heap.size by have := P7.out.lt; omega)
        replace P8 := hid (P8.out.alloc (.cells #[.int .u8 0, .int .u64 0, .int .u8 0, .string ⟨#[]⟩, .string ⟨#[]⟩, .string ⟨#[]⟩, .string ⟨#[]⟩, .int .u64 0, .string ⟨#[]⟩, .string ⟨#[]⟩, .string ⟨#[]⟩, .string ⟨#[]⟩, .string ⟨#[]⟩, .string ⟨#[]⟩, .string ⟨#[]⟩] 30))
        replace P7 := hid (P7.out.alloc (.cells #[.int .u8 0, .int .u64 0, .int .u8 0, .string ⟨#[]⟩, .string ⟨#[]⟩, .string ⟨#[]⟩, .string ⟨#[]⟩, .int .u64 0, .string ⟨#[]⟩, .string ⟨#[]⟩, .string ⟨#[]⟩, .string ⟨#[]⟩, .string ⟨#[]⟩, .string ⟨#[]⟩, .string ⟨#[]⟩] 30))
        replace K := hid (K.out.alloc (.cells #[.int .u8 0, .int .u64 0, .int .u8 0, .string ⟨#[]⟩, .string ⟨#[]⟩, .string ⟨#[]⟩, .string ⟨#[]⟩, .int .u64 0, .string ⟨#[]⟩, .string ⟨#[]⟩, .string ⟨#[]⟩, .string ⟨#[]⟩, .string ⟨#[]⟩, .string ⟨#[]⟩, .string ⟨#[]⟩] 30))
        replace bw := hid (bw.out.alloc bw.out.size (.cells #[.int .u8 0, .int .u64 0, .int .u8 0, .string ⟨#[]⟩, .string ⟨#[]⟩, .string ⟨#[]⟩, .string ⟨#[]⟩, .int .u64 0, .string ⟨#[]⟩, .string ⟨#[]⟩, .string ⟨#[]⟩, .string ⟨#[]⟩, .string ⟨#[]⟩, .string ⟨#[]⟩, .string ⟨#[]⟩] 30))
        generalize Wc.heap.size = p9 at P9 B9 d89 d79 ⊢
        generalize Wc.alloc (.cells #[.int .u8 0, .int .u64 0, .int .u8 0, .string ⟨#[]⟩, .string ⟨#[]⟩, .string ⟨#[]⟩, .string ⟨#[]⟩, .int .u64 0, .string ⟨#[]⟩, .string ⟨#[]⟩, .string ⟨#[]⟩, .string ⟨#[]⟩, .string ⟨#[]⟩, .string ⟨#[]⟩, .string ⟨#[]⟩] 30) = Wc at K bw P7 P8 P9 ⊢
        have D := hid (show (p7 ≠ p8 ∧ p7 ≠ p9 ∧ p8 ≠ p9) by have := d87.out; have := d89.out; have := d79.out; omega)
        refine hK.out _ _ (show Wc.heap[pb]? = _ from K.out.at') (fun hHeldN => ?_)
        clear hK K' hHeld
        have hHeld := hHeldN
        clear hHeldN
        (try simp only [Act.put, List.getElem_toArray, List.getElem_cons_zero, List.getElem_cons_succ, List.setIfInBounds_toArray, List.set_cons_zero, List.set_cons_succ])
        refine wpAnyH_ready (rs := [6]) (by kernel_rfl) (by simp) ?_
        refine AllReadyH.cons rfl (fun K' hK => ?_) AllReadyH.nil
        rw [if_pos (by rfl)]
        refine wp_store_row 30 (.tmp 7) (.tmp 33) rfl p7 #[.int .u8 (a.k : Nat), .int .u64 (a.tx : Nat), .int .u8 (a.c.k : Nat), .string a.c.i, .string a.c.t, .string a.c.ut, .string a.c.ui, .int .u64 (a.v : Nat), .string a.s0, .string a.s1, .string a.s2, .string a.s3, .string a.s4, .string a.s5, .string a.s6] rfl rfl 30 _ P7.out.at' (by kernel_rfl) rfl (by simp [Value.oneCell']) ?_
        have K2 := hid (show Blk (Wc.setRow p7 #[.int .u8 (a.k : Nat), .int .u64 (a.tx : Nat), .int .u8 (a.c.k : Nat), .string a.c.i, .string a.c.t, .string a.c.ut, .string a.c.ui, .int .u64 (a.v : Nat), .string a.s0, .string a.s1, .string a.s2, .string a.s3, .string a.s4, .string a.s5, .string a.s6]) pb _ _ from K.out.rowOther (by have := B7.out; omega) _)
        have N8 := hid (show Blk (Wc.setRow p7 #[.int .u8 (a.k : Nat), .int .u64 (a.tx : Nat), .int .u8 (a.c.k : Nat), .string a.c.i, .string a.c.t, .string a.c.ut, .string a.c.ui, .int .u64 (a.v : Nat), .string a.s0, .string a.s1, .string a.s2, .string a.s3, .string a.s4, .string a.s5, .string a.s6]) p8 _ _ from P8.out.rowOther (by have := D.out; omega) _)
        have N9 := hid (show Blk (Wc.setRow p7 #[.int .u8 (a.k : Nat), .int .u64 (a.tx : Nat), .int .u8 (a.c.k : Nat), .string a.c.i, .string a.c.t, .string a.c.ut, .string a.c.ui, .int .u64 (a.v : Nat), .string a.s0, .string a.s1, .string a.s2, .string a.s3, .string a.s4, .string a.s5, .string a.s6]) p9 _ _ from P9.out.rowOther (by have := D.out; omega) _)
        have N7 := hid (show Blk (Wc.setRow p7 #[.int .u8 (a.k : Nat), .int .u64 (a.tx : Nat), .int .u8 (a.c.k : Nat), .string a.c.i, .string a.c.t, .string a.c.ut, .string a.c.ui, .int .u64 (a.v : Nat), .string a.s0, .string a.s1, .string a.s2, .string a.s3, .string a.s4, .string a.s5, .string a.s6]) p7 _ _ from P7.out.row [.int .u8 (a.k : Nat), .int .u64 (a.tx : Nat), .int .u8 (a.c.k : Nat), .string a.c.i, .string a.c.t, .string a.c.ut, .string a.c.ui, .int .u64 (a.v : Nat), .string a.s0, .string a.s1, .string a.s2, .string a.s3, .string a.s4, .string a.s5, .string a.s6])
        have b2 := hid (below_row bw.out (show w.heap.size ≤ p7 by have := B7.out; omega) #[.int .u8 (a.k : Nat), .int .u64 (a.tx : Nat), .int .u8 (a.c.k : Nat), .string a.c.i, .string a.c.t, .string a.c.ut, .string a.c.ui, .int .u64 (a.v : Nat), .string a.s0, .string a.s1, .string a.s2, .string a.s3, .string a.s4, .string a.s5, .string a.s6])
        replace K := K2
        replace bw := b2
        replace P7 := N7
        replace P8 := N8
        replace P9 := N9
        clear K2 b2 N7 N8 N9
        generalize Wc.setRow p7 #[.int .u8 (a.k : Nat), .int .u64 (a.tx : Nat), .int .u8 (a.c.k : Nat), .string a.c.i, .string a.c.t, .string a.c.ut, .string a.c.ui, .int .u64 (a.v : Nat), .string a.s0, .string a.s1, .string a.s2, .string a.s3, .string a.s4, .string a.s5, .string a.s6] = Wc at K bw P7 P8 P9 ⊢
        refine hK.out _ _ (show Wc.heap[pb]? = _ from K.out.at') (fun hHeldN => ?_)
        clear hK K' hHeld
        have hHeld := hHeldN
        clear hHeldN
        (try simp only [Act.put, List.getElem_toArray, List.getElem_cons_zero, List.getElem_cons_succ, List.setIfInBounds_toArray, List.set_cons_zero, List.set_cons_succ])
        refine wpAnyH_ready (rs := [7]) (by kernel_rfl) (by simp) ?_
        refine AllReadyH.cons rfl (fun K' hK => ?_) AllReadyH.nil
        rw [if_pos (by rfl)]
        refine wp_store_row 30 (.tmp 8) (.tmp 34) rfl p8 #[.int .u8 (a.k : Nat), .int .u64 (a.tx : Nat), .int .u8 (a.c.k : Nat), .string a.c.i, .string a.c.t, .string a.c.ut, .string a.c.ui, .int .u64 (a.v : Nat), .string a.s0, .string a.s1, .string a.s2, .string a.s3, .string a.s4, .string a.s5, .string a.s6] rfl rfl 30 _ P8.out.at' (by kernel_rfl) rfl (by simp [Value.oneCell']) ?_
        have K2 := hid (show Blk (Wc.setRow p8 #[.int .u8 (a.k : Nat), .int .u64 (a.tx : Nat), .int .u8 (a.c.k : Nat), .string a.c.i, .string a.c.t, .string a.c.ut, .string a.c.ui, .int .u64 (a.v : Nat), .string a.s0, .string a.s1, .string a.s2, .string a.s3, .string a.s4, .string a.s5, .string a.s6]) pb _ _ from K.out.rowOther (by have := B8.out; omega) _)
        have N7 := hid (show Blk (Wc.setRow p8 #[.int .u8 (a.k : Nat), .int .u64 (a.tx : Nat), .int .u8 (a.c.k : Nat), .string a.c.i, .string a.c.t, .string a.c.ut, .string a.c.ui, .int .u64 (a.v : Nat), .string a.s0, .string a.s1, .string a.s2, .string a.s3, .string a.s4, .string a.s5, .string a.s6]) p7 _ _ from P7.out.rowOther (by have := D.out; omega) _)
        have N9 := hid (show Blk (Wc.setRow p8 #[.int .u8 (a.k : Nat), .int .u64 (a.tx : Nat), .int .u8 (a.c.k : Nat), .string a.c.i, .string a.c.t, .string a.c.ut, .string a.c.ui, .int .u64 (a.v : Nat), .string a.s0, .string a.s1, .string a.s2, .string a.s3, .string a.s4, .string a.s5, .string a.s6]) p9 _ _ from P9.out.rowOther (by have := D.out; omega) _)
        have N8 := hid (show Blk (Wc.setRow p8 #[.int .u8 (a.k : Nat), .int .u64 (a.tx : Nat), .int .u8 (a.c.k : Nat), .string a.c.i, .string a.c.t, .string a.c.ut, .string a.c.ui, .int .u64 (a.v : Nat), .string a.s0, .string a.s1, .string a.s2, .string a.s3, .string a.s4, .string a.s5, .string a.s6]) p8 _ _ from P8.out.row [.int .u8 (a.k : Nat), .int .u64 (a.tx : Nat), .int .u8 (a.c.k : Nat), .string a.c.i, .string a.c.t, .string a.c.ut, .string a.c.ui, .int .u64 (a.v : Nat), .string a.s0, .string a.s1, .string a.s2, .string a.s3, .string a.s4, .string a.s5, .string a.s6])
        have b2 := hid (below_row bw.out (show w.heap.size ≤ p8 by have := B8.out; omega) #[.int .u8 (a.k : Nat), .int .u64 (a.tx : Nat), .int .u8 (a.c.k : Nat), .string a.c.i, .string a.c.t, .string a.c.ut, .string a.c.ui, .int .u64 (a.v : Nat), .string a.s0, .string a.s1, .string a.s2, .string a.s3, .string a.s4, .string a.s5, .string a.s6])
        replace K := K2
        replace bw := b2
        replace P7 := N7
        replace P8 := N8
        replace P9 := N9
        clear K2 b2 N7 N8 N9
        generalize Wc.setRow p8 #[.int .u8 (a.k : Nat), .int .u64 (a.tx : Nat), .int .u8 (a.c.k : Nat), .string a.c.i, .string a.c.t, .string a.c.ut, .string a.c.ui, .int .u64 (a.v : Nat), .string a.s0, .string a.s1, .string a.s2, .string a.s3, .string a.s4, .string a.s5, .string a.s6] = Wc at K bw P7 P8 P9 ⊢
        refine hK.out _ _ (show Wc.heap[pb]? = _ from K.out.at') (fun hHeldN => ?_)
        clear hK K' hHeld
        have hHeld := hHeldN
        clear hHeldN
        (try simp only [Act.put, List.getElem_toArray, List.getElem_cons_zero, List.getElem_cons_succ, List.setIfInBounds_toArray, List.set_cons_zero, List.set_cons_succ])
        refine wpAnyH_ready (rs := [8]) (by kernel_rfl) (by simp) ?_
        refine AllReadyH.cons rfl (fun K' hK => ?_) AllReadyH.nil
        rw [if_pos (by rfl)]
        refine wp_store_row 30 (.tmp 9) (.tmp 35) rfl p9 #[.int .u8 (a.k : Nat), .int .u64 (a.tx : Nat), .int .u8 (a.c.k : Nat), .string a.c.i, .string a.c.t, .string a.c.ut, .string a.c.ui, .int .u64 (a.v : Nat), .string a.s0, .string a.s1, .string a.s2, .string a.s3, .string a.s4, .string a.s5, .string a.s6] rfl rfl 30 _ P9.out.at' (by kernel_rfl) rfl (by simp [Value.oneCell']) ?_
        have K2 := hid (show Blk (Wc.setRow p9 #[.int .u8 (a.k : Nat), .int .u64 (a.tx : Nat), .int .u8 (a.c.k : Nat), .string a.c.i, .string a.c.t, .string a.c.ut, .string a.c.ui, .int .u64 (a.v : Nat), .string a.s0, .string a.s1, .string a.s2, .string a.s3, .string a.s4, .string a.s5, .string a.s6]) pb _ _ from K.out.rowOther (by have := B9.out; omega) _)
        have N7 := hid (show Blk (Wc.setRow p9 #[.int .u8 (a.k : Nat), .int .u64 (a.tx : Nat), .int .u8 (a.c.k : Nat), .string a.c.i, .string a.c.t, .string a.c.ut, .string a.c.ui, .int .u64 (a.v : Nat), .string a.s0, .string a.s1, .string a.s2, .string a.s3, .string a.s4, .string a.s5, .string a.s6]) p7 _ _ from P7.out.rowOther (by have := D.out; omega) _)
        have N8 := hid (show Blk (Wc.setRow p9 #[.int .u8 (a.k : Nat), .int .u64 (a.tx : Nat), .int .u8 (a.c.k : Nat), .string a.c.i, .string a.c.t, .string a.c.ut, .string a.c.ui, .int .u64 (a.v : Nat), .string a.s0, .string a.s1, .string a.s2, .string a.s3, .string a.s4, .string a.s5, .string a.s6]) p8 _ _ from P8.out.rowOther (by have := D.out; omega) _)
        have N9 := hid (show Blk (Wc.setRow p9 #[.int .u8 (a.k : Nat), .int .u64 (a.tx : Nat), .int .u8 (a.c.k : Nat), .string a.c.i, .string a.c.t, .string a.c.ut, .string a.c.ui, .int .u64 (a.v : Nat), .string a.s0, .string a.s1, .string a.s2, .string a.s3, .string a.s4, .string a.s5, .string a.s6]) p9 _ _ from P9.out.row [.int .u8 (a.k : Nat), .int .u64 (a.tx : Nat), .int .u8 (a.c.k : Nat), .string a.c.i, .string a.c.t, .string a.c.ut, .string a.c.ui, .int .u64 (a.v : Nat), .string a.s0, .string a.s1, .string a.s2, .string a.s3, .string a.s4, .string a.s5, .string a.s6])
        have b2 := hid (below_row bw.out (show w.heap.size ≤ p9 by have := B9.out; omega) #[.int .u8 (a.k : Nat), .int .u64 (a.tx : Nat), .int .u8 (a.c.k : Nat), .string a.c.i, .string a.c.t, .string a.c.ut, .string a.c.ui, .int .u64 (a.v : Nat), .string a.s0, .string a.s1, .string a.s2, .string a.s3, .string a.s4, .string a.s5, .string a.s6])
        replace K := K2
        replace bw := b2
        replace P7 := N7
        replace P8 := N8
        replace P9 := N9
        clear K2 b2 N7 N8 N9
        generalize Wc.setRow p9 #[.int .u8 (a.k : Nat), .int .u64 (a.tx : Nat), .int .u8 (a.c.k : Nat), .string a.c.i, .string a.c.t, .string a.c.ut, .string a.c.ui, .int .u64 (a.v : Nat), .string a.s0, .string a.s1, .string a.s2, .string a.s3, .string a.s4, .string a.s5, .string a.s6] = Wc at K bw P7 P8 P9 ⊢
        refine hK.out _ _ (show Wc.heap[pb]? = _ from K.out.at') (fun hHeldN => ?_)
        clear hK K' hHeld
        have hHeld := hHeldN
        clear hHeldN
        (try simp only [Act.put, List.getElem_toArray, List.getElem_cons_zero, List.getElem_cons_succ, List.setIfInBounds_toArray, List.set_cons_zero, List.set_cons_succ])
        refine wpAnyH_done (by kernel_rfl) ?_ _
        exact key p7 p8 p9 Wc ⟨P7.out, P8.out, P9.out, K.out, ⟨by have := D.out; omega, by have := D.out; omega, by have := D.out; omega⟩, ⟨by have := B7.out; omega, by have := B8.out; omega, by have := B9.out; omega⟩, ⟨by have := B7.out; omega, by have := B8.out; omega, by have := B9.out; omega⟩, bw.out⟩
      refine AllReadyH.cons rfl (fun K' hK => ?_) AllReadyH.nil
      go_simp
      have P9 := hid (Blk.new Wc [.int .u8 0, .int .u64 0, .int .u8 0, .string ⟨#[]⟩, .string ⟨#[]⟩, .string ⟨#[]⟩, .string ⟨#[]⟩, .int .u64 0, .string ⟨#[]⟩, .string ⟨#[]⟩, .string ⟨#[]⟩, .string ⟨#[]⟩, .string ⟨#[]⟩, .string ⟨#[]⟩, .string ⟨#[]⟩] 30)
      change Hid (Blk (Wc.alloc (.cells #[.int .u8 0, .int .u64 0, .int .u8 0, .string ⟨#[]⟩, .string ⟨#[]⟩, .string ⟨#[]⟩, .string ⟨#[]⟩, .int .u64 0, .string ⟨#[]⟩, .string ⟨#[]⟩, .string ⟨#[]⟩, .string ⟨#[]⟩, .string ⟨#[]⟩, .string ⟨#[]⟩, .string ⟨#[]⟩] 30)) _ _ _) at P9
      have B9 := hid (show pb ≠ Wc.heap.size ∧ w.heap.size ≤ Wc.heap.size by have := K.out.lt; have := bw.out.size; omega)
      have d89 := hid (show p8 ≠ Wc.heap.size by have := P8.out.lt; omega)
      replace P8 := hid (P8.out.alloc (.cells #[.int .u8 0, .int .u64 0, .int .u8 0, .string ⟨#[]⟩, .string ⟨#[]⟩, .string ⟨#[]⟩, .string ⟨#[]⟩, .int .u64 0, .string ⟨#[]⟩, .string ⟨#[]⟩, .string ⟨#[]⟩, .string ⟨#[]⟩, .string ⟨#[]⟩, .string ⟨#[]⟩, .string ⟨#[]⟩] 30))
      replace K := hid (K.out.alloc (.cells #[.int .u8 0, .int .u64 0, .int .u8 0, .string ⟨#[]⟩, .string ⟨#[]⟩, .string ⟨#[]⟩, .string ⟨#[]⟩, .int .u64 0, .string ⟨#[]⟩, .string ⟨#[]⟩, .string ⟨#[]⟩, .string ⟨#[]⟩, .string ⟨#[]⟩, .string ⟨#[]⟩, .string ⟨#[]⟩] 30))
      replace bw := hid (bw.out.alloc bw.out.size (.cells #[.int .u8 0, .int .u64 0, .int .u8 0, .string ⟨#[]⟩, .string ⟨#[]⟩, .string ⟨#[]⟩, .string ⟨#[]⟩, .int .u64 0, .string ⟨#[]⟩, .string ⟨#[]⟩, .string ⟨#[]⟩, .string ⟨#[]⟩, .string ⟨#[]⟩, .string ⟨#[]⟩, .string ⟨#[]⟩] 30))
      generalize Wc.heap.size = p9 at P9 B9 d89 ⊢
      generalize Wc.alloc (.cells #[.int .u8 0, .int .u64 0, .int .u8 0, .string ⟨#[]⟩, .string ⟨#[]⟩, .string ⟨#[]⟩, .string ⟨#[]⟩, .int .u64 0, .string ⟨#[]⟩, .string ⟨#[]⟩, .string ⟨#[]⟩, .string ⟨#[]⟩, .string ⟨#[]⟩, .string ⟨#[]⟩, .string ⟨#[]⟩] 30) = Wc at K bw P8 P9 ⊢
      refine hK.out _ _ (show Wc.heap[pb]? = _ from K.out.at') (fun hHeldN => ?_)
      clear hK K' hHeld
      have hHeld := hHeldN
      clear hHeldN
      (try simp only [Act.put, List.getElem_toArray, List.getElem_cons_zero, List.getElem_cons_succ, List.setIfInBounds_toArray, List.set_cons_zero, List.set_cons_succ])
      refine wpAnyH_ready (rs := [3]) (by kernel_rfl) (by simp) ?_
      refine AllReadyH.cons rfl (fun K' hK => ?_) AllReadyH.nil
      go_simp
      have P7 := hid (Blk.new Wc [.int .u8 0, .int .u64 0, .int .u8 0, .string ⟨#[]⟩, .string ⟨#[]⟩, .string ⟨#[]⟩, .string ⟨#[]⟩, .int .u64 0, .string ⟨#[]⟩, .string ⟨#[]⟩, .string ⟨#[]⟩, .string ⟨#[]⟩, .string ⟨#[]⟩, .string ⟨#[]⟩, .string ⟨#[]⟩] 30)
      change Hid (Blk (Wc.alloc (.cells #[.int .u8 0, .int .u64 0, .int .u8 0, .string ⟨#[]⟩, .string ⟨#[]⟩, .string ⟨#[]⟩, .string ⟨#[]⟩, .int .u64 0, .string ⟨#[]⟩, .string ⟨#[]⟩, .string ⟨#[]⟩, .string ⟨#[]⟩, .string ⟨#[]⟩, .string ⟨#[]⟩, .string ⟨#[]⟩] 30)) _ _ _) at P7
      have B7 := hid (show pb ≠ Wc.heap.size ∧ w.heap.size ≤ Wc.heap.size by have := K.out.lt; have := bw.out.size; omega)
      have d87 := hid (show p8 ≠ Wc.heap.size by have := P8.out.lt; omega)
      have d97 := hid (show p9 ≠ Wc.heap.size by have := P9.out.lt; omega)
      replace P8 := hid (P8.out.alloc (.cells #[.int .u8 0, .int .u64 0, .int .u8 0, .string ⟨#[]⟩, .string ⟨#[]⟩, .string ⟨#[]⟩, .string ⟨#[]⟩, .int .u64 0, .string ⟨#[]⟩, .string ⟨#[]⟩, .string ⟨#[]⟩, .string ⟨#[]⟩, .string ⟨#[]⟩, .string ⟨#[]⟩, .string ⟨#[]⟩] 30))
      replace P9 := hid (P9.out.alloc (.cells #[.int .u8 0, .int .u64 0, .int .u8 0, .string ⟨#[]⟩, .string ⟨#[]⟩, .string ⟨#[]⟩, .string ⟨#[]⟩, .int .u64 0, .string ⟨#[]⟩, .string ⟨#[]⟩, .string ⟨#[]⟩, .string ⟨#[]⟩, .string ⟨#[]⟩, .string ⟨#[]⟩, .string ⟨#[]⟩] 30))
      replace K := hid (K.out.alloc (.cells #[.int .u8 0, .int .u64 0, .int .u8 0, .string ⟨#[]⟩, .string ⟨#[]⟩, .string ⟨#[]⟩, .string ⟨#[]⟩, .int .u64 0, .string ⟨#[]⟩, .string ⟨#[]⟩, .string ⟨#[]⟩, .string ⟨#[]⟩, .string ⟨#[]⟩, .string ⟨#[]⟩, .string ⟨#[]⟩] 30))
      replace bw := hid (bw.out.alloc bw.out.size (.cells #[.int .u8 0, .int .u64 0, .int .u8 0, .string ⟨#[]⟩, .string ⟨#[]⟩, .string ⟨#[]⟩, .string ⟨#[]⟩, .int .u64 0, .string ⟨#[]⟩, .string ⟨#[]⟩, .string ⟨#[]⟩, .string ⟨#[]⟩, .string ⟨#[]⟩, .string ⟨#[]⟩, .string ⟨#[]⟩] 30))
      generalize Wc.heap.size = p7 at P7 B7 d87 d97 ⊢
      generalize Wc.alloc (.cells #[.int .u8 0, .int .u64 0, .int .u8 0, .string ⟨#[]⟩, .string ⟨#[]⟩, .string ⟨#[]⟩, .string ⟨#[]⟩, .int .u64 0, .string ⟨#[]⟩, .string ⟨#[]⟩, .string ⟨#[]⟩, .string ⟨#[]⟩, .string ⟨#[]⟩, .string ⟨#[]⟩, .string ⟨#[]⟩] 30) = Wc at K bw P7 P8 P9 ⊢
      have D := hid (show (p7 ≠ p8 ∧ p7 ≠ p9 ∧ p8 ≠ p9) by have := d89.out; have := d87.out; have := d97.out; omega)
      refine hK.out _ _ (show Wc.heap[pb]? = _ from K.out.at') (fun hHeldN => ?_)
      clear hK K' hHeld
      have hHeld := hHeldN
      clear hHeldN
      (try simp only [Act.put, List.getElem_toArray, List.getElem_cons_zero, List.getElem_cons_succ, List.setIfInBounds_toArray, List.set_cons_zero, List.set_cons_succ])
      refine wpAnyH_ready (rs := [6]) (by kernel_rfl) (by simp) ?_
      refine AllReadyH.cons rfl (fun K' hK => ?_) AllReadyH.nil
      rw [if_pos (by rfl)]
      refine wp_store_row 30 (.tmp 7) (.tmp 33) rfl p7 #[.int .u8 (a.k : Nat), .int .u64 (a.tx : Nat), .int .u8 (a.c.k : Nat), .string a.c.i, .string a.c.t, .string a.c.ut, .string a.c.ui, .int .u64 (a.v : Nat), .string a.s0, .string a.s1, .string a.s2, .string a.s3, .string a.s4, .string a.s5, .string a.s6] rfl rfl 30 _ P7.out.at' (by kernel_rfl) rfl (by simp [Value.oneCell']) ?_
      have K2 := hid (show Blk (Wc.setRow p7 #[.int .u8 (a.k : Nat), .int .u64 (a.tx : Nat), .int .u8 (a.c.k : Nat), .string a.c.i, .string a.c.t, .string a.c.ut, .string a.c.ui, .int .u64 (a.v : Nat), .string a.s0, .string a.s1, .string a.s2, .string a.s3, .string a.s4, .string a.s5, .string a.s6]) pb _ _ from K.out.rowOther (by have := B7.out; omega) _)
      have N8 := hid (show Blk (Wc.setRow p7 #[.int .u8 (a.k : Nat), .int .u64 (a.tx : Nat), .int .u8 (a.c.k : Nat), .string a.c.i, .string a.c.t, .string a.c.ut, .string a.c.ui, .int .u64 (a.v : Nat), .string a.s0, .string a.s1, .string a.s2, .string a.s3, .string a.s4, .string a.s5, .string a.s6]) p8 _ _ from P8.out.rowOther (by have := D.out; omega) _)
      have N9 := hid (show Blk (Wc.setRow p7 #[.int .u8 (a.k : Nat), .int .u64 (a.tx : Nat), .int .u8 (a.c.k : Nat), .string a.c.i, .string a.c.t, .string a.c.ut, .string a.c.ui, .int .u64 (a.v : Nat), .string a.s0, .string a.s1, .string a.s2, .string a.s3, .string a.s4, .string a.s5, .string a.s6]) p9 _ _ from P9.out.rowOther (by have := D.out; omega) _)
      have N7 := hid (show Blk (Wc.setRow p7 #[.int .u8 (a.k : Nat), .int .u64 (a.tx : Nat), .int .u8 (a.c.k : Nat), .string a.c.i, .string a.c.t, .string a.c.ut, .string a.c.ui, .int .u64 (a.v : Nat), .string a.s0, .string a.s1, .string a.s2, .string a.s3, .string a.s4, .string a.s5, .string a.s6]) p7 _ _ from P7.out.row [.int .u8 (a.k : Nat), .int .u64 (a.tx : Nat), .int .u8 (a.c.k : Nat), .string a.c.i, .string a.c.t, .string a.c.ut, .string a.c.ui, .int .u64 (a.v : Nat), .string a.s0, .string a.s1, .string a.s2, .string a.s3, .string a.s4, .string a.s5, .string a.s6])
      have b2 := hid (below_row bw.out (show w.heap.size ≤ p7 by have := B7.out; omega) #[.int .u8 (a.k : Nat), .int .u64 (a.tx : Nat), .int .u8 (a.c.k : Nat), .string a.c.i, .string a.c.t, .string a.c.ut, .string a.c.ui, .int .u64 (a.v : Nat), .string a.s0, .string a.s1, .string a.s2, .string a.s3, .string a.s4, .string a.s5, .string a.s6])
      replace K := K2
      replace bw := b2
      replace P7 := N7
      replace P8 := N8
      replace P9 := N9
      clear K2 b2 N7 N8 N9
      generalize Wc.setRow p7 #[.int .u8 (a.k : Nat), .int .u64 (a.tx : Nat), .int .u8 (a.c.k : Nat), .string a.c.i, .string a.c.t, .string a.c.ut, .string a.c.ui, .int .u64 (a.v : Nat), .string a.s0, .string a.s1, .string a.s2, .string a.s3, .string a.s4, .string a.s5, .string a.s6] = Wc at K bw P7 P8 P9 ⊢
      refine hK.out _ _ (show Wc.heap[pb]? = _ from K.out.at') (fun hHeldN => ?_)
      clear hK K' hHeld
      have hHeld := hHeldN
      clear hHeldN
      (try simp only [Act.put, List.getElem_toArray, List.getElem_cons_zero, List.getElem_cons_succ, List.setIfInBounds_toArray, List.set_cons_zero, List.set_cons_succ])
      refine wpAnyH_ready (rs := [7]) (by kernel_rfl) (by simp) ?_
      refine AllReadyH.cons rfl (fun K' hK => ?_) AllReadyH.nil
      rw [if_pos (by rfl)]
      refine wp_store_row 30 (.tmp 8) (.tmp 34) rfl p8 #[.int .u8 (a.k : Nat), .int .u64 (a.tx : Nat), .int .u8 (a.c.k : Nat), .string a.c.i, .string a.c.t, .string a.c.ut, .string a.c.ui, .int .u64 (a.v : Nat), .string a.s0, .string a.s1, .string a.s2, .string a.s3, .string a.s4, .string a.s5, .string a.s6] rfl rfl 30 _ P8.out.at' (by kernel_rfl) rfl (by simp [Value.oneCell']) ?_
      have K2 := hid (show Blk (Wc.setRow p8 #[.int .u8 (a.k : Nat), .int .u64 (a.tx : Nat), .int .u8 (a.c.k : Nat), .string a.c.i, .string a.c.t, .string a.c.ut, .string a.c.ui, .int .u64 (a.v : Nat), .string a.s0, .string a.s1, .string a.s2, .string a.s3, .string a.s4, .string a.s5, .string a.s6]) pb _ _ from K.out.rowOther (by have := B8.out; omega) _)
      have N7 := hid (show Blk (Wc.setRow p8 #[.int .u8 (a.k : Nat), .int .u64 (a.tx : Nat), .int .u8 (a.c.k : Nat), .string a.c.i, .string a.c.t, .string a.c.ut, .string a.c.ui, .int .u64 (a.v : Nat), .string a.s0, .string a.s1, .string a.s2, .string a.s3, .string a.s4, .string a.s5, .string a.s6]) p7 _ _ from P7.out.rowOther (by have := D.out; omega) _)
      have N9 := hid (show Blk (Wc.setRow p8 #[.int .u8 (a.k : Nat), .int .u64 (a.tx : Nat), .int .u8 (a.c.k : Nat), .string a.c.i, .string a.c.t, .string a.c.ut, .string a.c.ui, .int .u64 (a.v : Nat), .string a.s0, .string a.s1, .string a.s2, .string a.s3, .string a.s4, .string a.s5, .string a.s6]) p9 _ _ from P9.out.rowOther (by have := D.out; omega) _)
      have N8 := hid (show Blk (Wc.setRow p8 #[.int .u8 (a.k : Nat), .int .u64 (a.tx : Nat), .int .u8 (a.c.k : Nat), .string a.c.i, .string a.c.t, .string a.c.ut, .string a.c.ui, .int .u64 (a.v : Nat), .string a.s0, .string a.s1, .string a.s2, .string a.s3, .string a.s4, .string a.s5, .string a.s6]) p8 _ _ from P8.out.row [.int .u8 (a.k : Nat), .int .u64 (a.tx : Nat), .int .u8 (a.c.k : Nat), .string a.c.i, .string a.c.t, .string a.c.ut, .string a.c.ui, .int .u64 (a.v : Nat), .string a.s0, .string a.s1, .string a.s2, .string a.s3, .string a.s4, .string a.s5, .string a.s6])
      have b2 := hid (below_row bw.out (show w.heap.size ≤ p8 by have := B8.out; omega) #[.int .u8 (a.k : Nat), .int .u64 (a.tx : Nat), .int .u8 (a.c.k : Nat), .string a.c.i, .string a.c.t, .string a.c.ut, .string a.c.ui, .int .u64 (a.v : Nat), .string a.s0, .string a.s1, .string a.s2, .string a.s3, .string a.s4, .string a.s5, .string a.s6])
      replace K := K2
      replace bw := b2
      replace P7 := N7
      replace P8 := N8
      replace P9 := N9
      clear K2 b2 N7 N8 N9
      generalize Wc.setRow p8 #[.int .u8 (a.k : Nat), .int .u64 (a.tx : Nat), .int .u8 (a.c.k : Nat), .string a.c.i, .string a.c.t, .string a.c.ut, .string a.c.ui, .int .u64 (a.v : Nat), .string a.s0, .string a.s1, .string a.s2, .string a.s3, .string a.s4, .string a.s5, .string a.s6] = Wc at K bw P7 P8 P9 ⊢
      refine hK.out _ _ (show Wc.heap[pb]? = _ from K.out.at') (fun hHeldN => ?_)
      clear hK K' hHeld
      have hHeld := hHeldN
      clear hHeldN
      (try simp only [Act.put, List.getElem_toArray, List.getElem_cons_zero, List.getElem_cons_succ, List.setIfInBounds_toArray, List.set_cons_zero, List.set_cons_succ])
      refine wpAnyH_ready (rs := [8]) (by kernel_rfl) (by simp) ?_
      refine AllReadyH.cons rfl (fun K' hK => ?_) AllReadyH.nil
      rw [if_pos (by rfl)]
      refine wp_store_row 30 (.tmp 9) (.tmp 35) rfl p9 #[.int .u8 (a.k : Nat), .int .u64 (a.tx : Nat), .int .u8 (a.c.k : Nat), .string a.c.i, .string a.c.t, .string a.c.ut, .string a.c.ui, .int .u64 (a.v : Nat), .string a.s0, .string a.s1, .string a.s2, .string a.s3, .string a.s4, .string a.s5, .string a.s6] rfl rfl 30 _ P9.out.at' (by kernel_rfl) rfl (by simp [Value.oneCell']) ?_
      have K2 := hid (show Blk (Wc.setRow p9 #[.int .u8 (a.k : Nat), .int .u64 (a.tx : Nat), .int .u8 (a.c.k : Nat), .string a.c.i, .string a.c.t, .string a.c.ut, .string a.c.ui, .int .u64 (a.v : Nat), .string a.s0, .string a.s1, .string a.s2, .string a.s3, .string a.s4, .string a.s5, .string a.s6]) pb _ _ from K.out.rowOther (by have := B9.out; omega) _)
      have N7 := hid (show Blk (Wc.setRow p9 #[.int .u8 (a.k : Nat), .int .u64 (a.tx : Nat), .int .u8 (a.c.k : Nat), .string a.c.i, .string a.c.t, .string a.c.ut, .string a.c.ui, .int .u64 (a.v : Nat), .string a.s0, .string a.s1, .string a.s2, .string a.s3, .string a.s4, .string a.s5, .string a.s6]) p7 _ _ from P7.out.rowOther (by have := D.out; omega) _)
      have N8 := hid (show Blk (Wc.setRow p9 #[.int .u8 (a.k : Nat), .int .u64 (a.tx : Nat), .int .u8 (a.c.k : Nat), .string a.c.i, .string a.c.t, .string a.c.ut, .string a.c.ui, .int .u64 (a.v : Nat), .string a.s0, .string a.s1, .string a.s2, .string a.s3, .string a.s4, .string a.s5, .string a.s6]) p8 _ _ from P8.out.rowOther (by have := D.out; omega) _)
      have N9 := hid (show Blk (Wc.setRow p9 #[.int .u8 (a.k : Nat), .int .u64 (a.tx : Nat), .int .u8 (a.c.k : Nat), .string a.c.i, .string a.c.t, .string a.c.ut, .string a.c.ui, .int .u64 (a.v : Nat), .string a.s0, .string a.s1, .string a.s2, .string a.s3, .string a.s4, .string a.s5, .string a.s6]) p9 _ _ from P9.out.row [.int .u8 (a.k : Nat), .int .u64 (a.tx : Nat), .int .u8 (a.c.k : Nat), .string a.c.i, .string a.c.t, .string a.c.ut, .string a.c.ui, .int .u64 (a.v : Nat), .string a.s0, .string a.s1, .string a.s2, .string a.s3, .string a.s4, .string a.s5, .string a.s6])
      have b2 := hid (below_row bw.out (show w.heap.size ≤ p9 by have := B9.out; omega) #[.int .u8 (a.k : Nat), .int .u64 (a.tx : Nat), .int .u8 (a.c.k : Nat), .string a.c.i, .string a.c.t, .string a.c.ut, .string a.c.ui, .int .u64 (a.v : Nat), .string a.s0, .string a.s1, .string a.s2, .string a.s3, .string a.s4, .string a.s5, .string a.s6])
      replace K := K2
      replace bw := b2
      replace P7 := N7
      replace P8 := N8
      replace P9 := N9
      clear K2 b2 N7 N8 N9
      generalize Wc.setRow p9 #[.int .u8 (a.k : Nat), .int .u64 (a.tx : Nat), .int .u8 (a.c.k : Nat), .string a.c.i, .string a.c.t, .string a.c.ut, .string a.c.ui, .int .u64 (a.v : Nat), .string a.s0, .string a.s1, .string a.s2, .string a.s3, .string a.s4, .string a.s5, .string a.s6] = Wc at K bw P7 P8 P9 ⊢
      refine hK.out _ _ (show Wc.heap[pb]? = _ from K.out.at') (fun hHeldN => ?_)
      clear hK K' hHeld
      have hHeld := hHeldN
      clear hHeldN
      (try simp only [Act.put, List.getElem_toArray, List.getElem_cons_zero, List.getElem_cons_succ, List.setIfInBounds_toArray, List.set_cons_zero, List.set_cons_succ])
      refine wpAnyH_done (by kernel_rfl) ?_ _
      exact key p7 p8 p9 Wc ⟨P7.out, P8.out, P9.out, K.out, ⟨by have := D.out; omega, by have := D.out; omega, by have := D.out; omega⟩, ⟨by have := B7.out; omega, by have := B8.out; omega, by have := B9.out; omega⟩, ⟨by have := B7.out; omega, by have := B8.out; omega, by have := B9.out; omega⟩, bw.out⟩
    refine AllReadyH.cons rfl (fun K' hK => ?_) AllReadyH.nil
    go_simp
    have P9 := hid (Blk.new Wc [.int .u8 0, .int .u64 0, .int .u8 0, .string ⟨#[]⟩, .string ⟨#[]⟩, .string ⟨#[]⟩, .string ⟨#[]⟩, .int .u64 0, .string ⟨#[]⟩, .string ⟨#[]⟩, .string ⟨#[]⟩, .string ⟨#[]⟩, .string ⟨#[]⟩, .string ⟨#[]⟩, .string ⟨#[]⟩] 30)
    change Hid (Blk (Wc.alloc (.cells #[.int .u8 0, .int .u64 0, .int .u8 0, .string ⟨#[]⟩, .string ⟨#[]⟩, .string ⟨#[]⟩, .string ⟨#[]⟩, .int .u64 0, .string ⟨#[]⟩, .string ⟨#[]⟩, .string ⟨#[]⟩, .string ⟨#[]⟩, .string ⟨#[]⟩, .string ⟨#[]⟩, .string ⟨#[]⟩] 30)) _ _ _) at P9
    have B9 := hid (show pb ≠ Wc.heap.size ∧ w.heap.size ≤ Wc.heap.size by have := K.out.lt; have := bw.out.size; omega)
    replace K := hid (K.out.alloc (.cells #[.int .u8 0, .int .u64 0, .int .u8 0, .string ⟨#[]⟩, .string ⟨#[]⟩, .string ⟨#[]⟩, .string ⟨#[]⟩, .int .u64 0, .string ⟨#[]⟩, .string ⟨#[]⟩, .string ⟨#[]⟩, .string ⟨#[]⟩, .string ⟨#[]⟩, .string ⟨#[]⟩, .string ⟨#[]⟩] 30))
    replace bw := hid (bw.out.alloc bw.out.size (.cells #[.int .u8 0, .int .u64 0, .int .u8 0, .string ⟨#[]⟩, .string ⟨#[]⟩, .string ⟨#[]⟩, .string ⟨#[]⟩, .int .u64 0, .string ⟨#[]⟩, .string ⟨#[]⟩, .string ⟨#[]⟩, .string ⟨#[]⟩, .string ⟨#[]⟩, .string ⟨#[]⟩, .string ⟨#[]⟩] 30))
    generalize Wc.heap.size = p9 at P9 B9 ⊢
    generalize Wc.alloc (.cells #[.int .u8 0, .int .u64 0, .int .u8 0, .string ⟨#[]⟩, .string ⟨#[]⟩, .string ⟨#[]⟩, .string ⟨#[]⟩, .int .u64 0, .string ⟨#[]⟩, .string ⟨#[]⟩, .string ⟨#[]⟩, .string ⟨#[]⟩, .string ⟨#[]⟩, .string ⟨#[]⟩, .string ⟨#[]⟩] 30) = Wc at K bw P9 ⊢
    refine hK.out _ _ (show Wc.heap[pb]? = _ from K.out.at') (fun hHeldN => ?_)
    clear hK K' hHeld
    have hHeld := hHeldN
    clear hHeldN
    (try simp only [Act.put, List.getElem_toArray, List.getElem_cons_zero, List.getElem_cons_succ, List.setIfInBounds_toArray, List.set_cons_zero, List.set_cons_succ])
    refine wpAnyH_ready (rs := [3, 4]) (by kernel_rfl) (by simp) ?_
    refine AllReadyH.cons rfl (fun K' hK => ?_) ?_
    · skip
      go_simp
      have P7 := hid (Blk.new Wc [.int .u8 0, .int .u64 0, .int .u8 0, .string ⟨#[]⟩, .string ⟨#[]⟩, .string ⟨#[]⟩, .string ⟨#[]⟩, .int .u64 0, .string ⟨#[]⟩, .string ⟨#[]⟩, .string ⟨#[]⟩, .string ⟨#[]⟩, .string ⟨#[]⟩, .string ⟨#[]⟩, .string ⟨#[]⟩] 30)
      change Hid (Blk (Wc.alloc (.cells #[.int .u8 0, .int .u64 0, .int .u8 0, .string ⟨#[]⟩, .string ⟨#[]⟩, .string ⟨#[]⟩, .string ⟨#[]⟩, .int .u64 0, .string ⟨#[]⟩, .string ⟨#[]⟩, .string ⟨#[]⟩, .string ⟨#[]⟩, .string ⟨#[]⟩, .string ⟨#[]⟩, .string ⟨#[]⟩] 30)) _ _ _) at P7
      have B7 := hid (show pb ≠ Wc.heap.size ∧ w.heap.size ≤ Wc.heap.size by have := K.out.lt; have := bw.out.size; omega)
      have d97 := hid (show p9 ≠ Wc.heap.size by have := P9.out.lt; omega)
      replace P9 := hid (P9.out.alloc (.cells #[.int .u8 0, .int .u64 0, .int .u8 0, .string ⟨#[]⟩, .string ⟨#[]⟩, .string ⟨#[]⟩, .string ⟨#[]⟩, .int .u64 0, .string ⟨#[]⟩, .string ⟨#[]⟩, .string ⟨#[]⟩, .string ⟨#[]⟩, .string ⟨#[]⟩, .string ⟨#[]⟩, .string ⟨#[]⟩] 30))
      replace K := hid (K.out.alloc (.cells #[.int .u8 0, .int .u64 0, .int .u8 0, .string ⟨#[]⟩, .string ⟨#[]⟩, .string ⟨#[]⟩, .string ⟨#[]⟩, .int .u64 0, .string ⟨#[]⟩, .string ⟨#[]⟩, .string ⟨#[]⟩, .string ⟨#[]⟩, .string ⟨#[]⟩, .string ⟨#[]⟩, .string ⟨#[]⟩] 30))
      replace bw := hid (bw.out.alloc bw.out.size (.cells #[.int .u8 0, .int .u64 0, .int .u8 0, .string ⟨#[]⟩, .string ⟨#[]⟩, .string ⟨#[]⟩, .string ⟨#[]⟩, .int .u64 0, .string ⟨#[]⟩, .string ⟨#[]⟩, .string ⟨#[]⟩, .string ⟨#[]⟩, .string ⟨#[]⟩, .string ⟨#[]⟩, .string ⟨#[]⟩] 30))
      generalize Wc.heap.size = p7 at P7 B7 d97 ⊢
      generalize Wc.alloc (.cells #[.int .u8 0, .int .u64 0, .int .u8 0, .string ⟨#[]⟩, .string ⟨#[]⟩, .string ⟨#[]⟩, .string ⟨#[]⟩, .int .u64 0, .string ⟨#[]⟩, .string ⟨#[]⟩, .string ⟨#[]⟩, .string ⟨#[]⟩, .string ⟨#[]⟩, .string ⟨#[]⟩, .string ⟨#[]⟩] 30) = Wc at K bw P7 P9 ⊢
      refine hK.out _ _ (show Wc.heap[pb]? = _ from K.out.at') (fun hHeldN => ?_)
      clear hK K' hHeld
      have hHeld := hHeldN
      clear hHeldN
      (try simp only [Act.put, List.getElem_toArray, List.getElem_cons_zero, List.getElem_cons_succ, List.setIfInBounds_toArray, List.set_cons_zero, List.set_cons_succ])
      refine wpAnyH_ready (rs := [4]) (by kernel_rfl) (by simp) ?_
      refine AllReadyH.cons rfl (fun K' hK => ?_) AllReadyH.nil
      go_simp
      have P8 := hid (Blk.new Wc [.int .u8 0, .int .u64 0, .int .u8 0, .string ⟨#[]⟩, .string ⟨#[]⟩, .string ⟨#[]⟩, .string ⟨#[]⟩, .int .u64 0, .string ⟨#[]⟩, .string ⟨#[]⟩, .string ⟨#[]⟩, .string ⟨#[]⟩, .string ⟨#[]⟩, .string ⟨#[]⟩, .string ⟨#[]⟩] 30)
      change Hid (Blk (Wc.alloc (.cells #[.int .u8 0, .int .u64 0, .int .u8 0, .string ⟨#[]⟩, .string ⟨#[]⟩, .string ⟨#[]⟩, .string ⟨#[]⟩, .int .u64 0, .string ⟨#[]⟩, .string ⟨#[]⟩, .string ⟨#[]⟩, .string ⟨#[]⟩, .string ⟨#[]⟩, .string ⟨#[]⟩, .string ⟨#[]⟩] 30)) _ _ _) at P8
      have B8 := hid (show pb ≠ Wc.heap.size ∧ w.heap.size ≤ Wc.heap.size by have := K.out.lt; have := bw.out.size; omega)
      have d98 := hid (show p9 ≠ Wc.heap.size by have := P9.out.lt; omega)
      have d78 := hid (show p7 ≠ Wc.heap.size by have := P7.out.lt; omega)
      replace P9 := hid (P9.out.alloc (.cells #[.int .u8 0, .int .u64 0, .int .u8 0, .string ⟨#[]⟩, .string ⟨#[]⟩, .string ⟨#[]⟩, .string ⟨#[]⟩, .int .u64 0, .string ⟨#[]⟩, .string ⟨#[]⟩, .string ⟨#[]⟩, .string ⟨#[]⟩, .string ⟨#[]⟩, .string ⟨#[]⟩, .string ⟨#[]⟩] 30))
      replace P7 := hid (P7.out.alloc (.cells #[.int .u8 0, .int .u64 0, .int .u8 0, .string ⟨#[]⟩, .string ⟨#[]⟩, .string ⟨#[]⟩, .string ⟨#[]⟩, .int .u64 0, .string ⟨#[]⟩, .string ⟨#[]⟩, .string ⟨#[]⟩, .string ⟨#[]⟩, .string ⟨#[]⟩, .string ⟨#[]⟩, .string ⟨#[]⟩] 30))
      replace K := hid (K.out.alloc (.cells #[.int .u8 0, .int .u64 0, .int .u8 0, .string ⟨#[]⟩, .string ⟨#[]⟩, .string ⟨#[]⟩, .string ⟨#[]⟩, .int .u64 0, .string ⟨#[]⟩, .string ⟨#[]⟩, .string ⟨#[]⟩, .string ⟨#[]⟩, .string ⟨#[]⟩, .string ⟨#[]⟩, .string ⟨#[]⟩] 30))
      replace bw := hid (bw.out.alloc bw.out.size (.cells #[.int .u8 0, .int .u64 0, .int .u8 0, .string ⟨#[]⟩, .string ⟨#[]⟩, .string ⟨#[]⟩, .string ⟨#[]⟩, .int .u64 0, .string ⟨#[]⟩, .string ⟨#[]⟩, .string ⟨#[]⟩, .string ⟨#[]⟩, .string ⟨#[]⟩, .string ⟨#[]⟩, .string ⟨#[]⟩] 30))
      generalize Wc.heap.size = p8 at P8 B8 d98 d78 ⊢
      generalize Wc.alloc (.cells #[.int .u8 0, .int .u64 0, .int .u8 0, .string ⟨#[]⟩, .string ⟨#[]⟩, .string ⟨#[]⟩, .string ⟨#[]⟩, .int .u64 0, .string ⟨#[]⟩, .string ⟨#[]⟩, .string ⟨#[]⟩, .string ⟨#[]⟩, .string ⟨#[]⟩, .string ⟨#[]⟩, .string ⟨#[]⟩] 30) = Wc at K bw P7 P8 P9 ⊢
      have D := hid (show (p7 ≠ p8 ∧ p7 ≠ p9 ∧ p8 ≠ p9) by have := d97.out; have := d98.out; have := d78.out; omega)
      refine hK.out _ _ (show Wc.heap[pb]? = _ from K.out.at') (fun hHeldN => ?_)
      clear hK K' hHeld
      have hHeld := hHeldN
      clear hHeldN
      (try simp only [Act.put, List.getElem_toArray, List.getElem_cons_zero, List.getElem_cons_succ, List.setIfInBounds_toArray, List.set_cons_zero, List.set_cons_succ])
      refine wpAnyH_ready (rs := [6]) (by kernel_rfl) (by simp) ?_
      refine AllReadyH.cons rfl (fun K' hK => ?_) AllReadyH.nil
      rw [if_pos (by rfl)]
      refine wp_store_row 30 (.tmp 7) (.tmp 33) rfl p7 #[.int .u8 (a.k : Nat), .int .u64 (a.tx : Nat), .int .u8 (a.c.k : Nat), .string a.c.i, .string a.c.t, .string a.c.ut, .string a.c.ui, .int .u64 (a.v : Nat), .string a.s0, .string a.s1, .string a.s2, .string a.s3, .string a.s4, .string a.s5, .string a.s6] rfl rfl 30 _ P7.out.at' (by kernel_rfl) rfl (by simp [Value.oneCell']) ?_
      have K2 := hid (show Blk (Wc.setRow p7 #[.int .u8 (a.k : Nat), .int .u64 (a.tx : Nat), .int .u8 (a.c.k : Nat), .string a.c.i, .string a.c.t, .string a.c.ut, .string a.c.ui, .int .u64 (a.v : Nat), .string a.s0, .string a.s1, .string a.s2, .string a.s3, .string a.s4, .string a.s5, .string a.s6]) pb _ _ from K.out.rowOther (by have := B7.out; omega) _)
      have N8 := hid (show Blk (Wc.setRow p7 #[.int .u8 (a.k : Nat), .int .u64 (a.tx : Nat), .int .u8 (a.c.k : Nat), .string a.c.i, .string a.c.t, .string a.c.ut, .string a.c.ui, .int .u64 (a.v : Nat), .string a.s0, .string a.s1, .string a.s2, .string a.s3, .string a.s4, .string a.s5, .string a.s6]) p8 _ _ from P8.out.rowOther (by have := D.out; omega) _)
      have N9 := hid (show Blk (Wc.setRow p7 #[.int .u8 (a.k : Nat), .int .u64 (a.tx : Nat), .int .u8 (a.c.k : Nat), .string a.c.i, .string a.c.t, .string a.c.ut, .string a.c.ui, .int .u64 (a.v : Nat), .string a.s0, .string a.s1, .string a.s2, .string a.s3, .string a.s4, .string a.s5, .string a.s6]) p9 _ _ from P9.out.rowOther (by have := D.out; omega) _)
      have N7 := hid (show Blk (Wc.setRow p7 #[.int .u8 (a.k : Nat), .int .u64 (a.tx : Nat), .int .u8 (a.c.k : Nat), .string a.c.i, .string a.c.t, .string a.c.ut, .string a.c.ui, .int .u64 (a.v : Nat), .string a.s0, .string a.s1, .string a.s2, .string a.s3, .string a.s4, .string a.s5, .string a.s6]) p7 _ _ from P7.out.row [.int .u8 (a.k : Nat), .int .u64 (a.tx : Nat), .int .u8 (a.c.k : Nat), .string a.c.i, .string a.c.t, .string a.c.ut, .string a.c.ui, .int .u64 (a.v : Nat), .string a.s0, .string a.s1, .string a.s2, .string a.s3, .string a.s4, .string a.s5, .string a.s6])
      have b2 := hid (below_row bw.out (show w.heap.size ≤ p7 by have := B7.out; omega) #[.int .u8 (a.k : Nat), .int .u64 (a.tx : Nat), .int .u8 (a.c.k : Nat), .string a.c.i, .string a.c.t, .string a.c.ut, .string a.c.ui, .int .u64 (a.v : Nat), .string a.s0, .string a.s1, .string a.s2, .string a.s3, .string a.s4, .string a.s5, .string a.s6])
      replace K := K2
      replace bw := b2
      replace P7 := N7
      replace P8 := N8
      replace P9 := N9
      clear K2 b2 N7 N8 N9
      generalize Wc.setRow p7 #[.int .u8 (a.k : Nat), .int .u64 (a.tx : Nat), .int .u8 (a.c.k : Nat), .string a.c.i, .string a.c.t, .string a.c.ut, .string a.c.ui, .int .u64 (a.v : Nat), .string a.s0, .string a.s1, .string a.s2, .string a.s3, .string a.s4, .string a.s5, .string a.s6] = Wc at K bw P7 P8 P9 ⊢
      refine hK.out _ _ (show Wc.heap[pb]? = _ from K.out.at') (fun hHeldN => ?_)
      clear hK K' hHeld
      have hHeld := hHeldN
      clear hHeldN
      (try simp only [Act.put, List.getElem_toArray, List.getElem_cons_zero, List.getElem_cons_succ, List.setIfInBounds_toArray, List.set_cons_zero, List.set_cons_succ])
      refine wpAnyH_ready (rs := [7]) (by kernel_rfl) (by simp) ?_
      refine AllReadyH.cons rfl (fun K' hK => ?_) AllReadyH.nil
      rw [if_pos (by rfl)]
      refine wp_store_row 30 (.tmp 8) (.tmp 34) rfl p8 #[.int .u8 (a.k : Nat), .int .u64 (a.tx : Nat), .int .u8 (a.c.k : Nat), .string a.c.i, .string a.c.t, .string a.c.ut, .string a.c.ui, .int .u64 (a.v : Nat), .string a.s0, .string a.s1, .string a.s2, .string a.s3, .string a.s4, .string a.s5, .string a.s6] rfl rfl 30 _ P8.out.at' (by kernel_rfl) rfl (by simp [Value.oneCell']) ?_
      have K2 := hid (show Blk (Wc.setRow p8 #[.int .u8 (a.k : Nat), .int .u64 (a.tx : Nat), .int .u8 (a.c.k : Nat), .string a.c.i, .string a.c.t, .string a.c.ut, .string a.c.ui, .int .u64 (a.v : Nat), .string a.s0, .string a.s1, .string a.s2, .string a.s3, .string a.s4, .string a.s5, .string a.s6]) pb _ _ from K.out.rowOther (by have := B8.out; omega) _)
      have N7 := hid (show Blk (Wc.setRow p8 #[.int .u8 (a.k : Nat), .int .u64 (a.tx : Nat), .int .u8 (a.c.k : Nat), .string a.c.i, .string a.c.t, .string a.c.ut, .string a.c.ui, .int .u64 (a.v : Nat), .string a.s0, .string a.s1, .string a.s2, .string a.s3, .string a.s4, .string a.s5, .string a.s6]) p7 _ _ from P7.out.rowOther (by have := D.out; omega) _)
      have N9 := hid (show Blk (Wc.setRow p8 #[.int .u8 (a.k : Nat), .int .u64 (a.tx : Nat), .int .u8 (a.c.k : Nat), .string a.c.i, .string a.c.t, .string a.c.ut, .string a.c.ui, .int .u64 (a.v : Nat), .string a.s0, .string a.s1, .string a.s2, .string a.s3, .string a.s4, .string a.s5, .string a.s6]) p9 _ _ from P9.out.rowOther (by have := D.out; omega) _)
      have N8 := hid (show Blk (Wc.setRow p8 #[.int .u8 (a.k : Nat), .int .u64 (a.tx : Nat), .int .u8 (a.c.k : Nat), .string a.c.i, .string a.c.t, .string a.c.ut, .string a.c.ui, .int .u64 (a.v : Nat), .string a.s0, .string a.s1, .string a.s2, .string a.s3, .string a.s4, .string a.s5, .string a.s6]) p8 _ _ from P8.out.row [.int .u8 (a.k : Nat), .int .u64 (a.tx : Nat), .int .u8 (a.c.k : Nat), .string a.c.i, .string a.c.t, .string a.c.ut, .string a.c.ui, .int .u64 (a.v : Nat), .string a.s0, .string a.s1, .string a.s2, .string a.s3, .string a.s4, .string a.s5, .string a.s6])
      have b2 := hid (below_row bw.out (show w.heap.size ≤ p8 by have := B8.out; omega) #[.int .u8 (a.k : Nat), .int .u64 (a.tx : Nat), .int .u8 (a.c.k : Nat), .string a.c.i, .string a.c.t, .string a.c.ut, .string a.c.ui, .int .u64 (a.v : Nat), .string a.s0, .string a.s1, .string a.s2, .string a.s3, .string a.s4, .string a.s5, .string a.s6])
      replace K := K2
      replace bw := b2
      replace P7 := N7
      replace P8 := N8
      replace P9 := N9
      clear K2 b2 N7 N8 N9
      generalize Wc.setRow p8 #[.int .u8 (a.k : Nat), .int .u64 (a.tx : Nat), .int .u8 (a.c.k : Nat), .string a.c.i, .string a.c.t, .string a.c.ut, .string a.c.ui, .int .u64 (a.v : Nat), .string a.s0, .string a.s1, .string a.s2, .string a.s3, .string a.s4, .string a.s5, .string a.s6] = Wc at K bw P7 P8 P9 ⊢
      refine hK.out _ _ (show Wc.heap[pb]? = _ from K.out.at') (fun hHeldN => ?_)
      clear hK K' hHeld
      have hHeld := hHeldN
      clear hHeldN
      (try simp only [Act.put, List.getElem_toArray, List.getElem_cons_zero, List.getElem_cons_succ, List.setIfInBounds_toArray, List.set_cons_zero, List.set_cons_succ])
      refine wpAnyH_ready (rs := [8]) (by kernel_rfl) (by simp) ?_
      refine AllReadyH.cons rfl (fun K' hK => ?_) AllReadyH.nil
      rw [if_pos (by rfl)]
      refine wp_store_row 30 (.tmp 9) (.tmp 35) rfl p9 #[.int .u8 (a.k : Nat), .int .u64 (a.tx : Nat), .int .u8 (a.c.k : Nat), .string a.c.i, .string a.c.t, .string a.c.ut, .string a.c.ui, .int .u64 (a.v : Nat), .string a.s0, .string a.s1, .string a.s2, .string a.s3, .string a.s4, .string a.s5, .string a.s6] rfl rfl 30 _ P9.out.at' (by kernel_rfl) rfl (by simp [Value.oneCell']) ?_
      have K2 := hid (show Blk (Wc.setRow p9 #[.int .u8 (a.k : Nat), .int .u64 (a.tx : Nat), .int .u8 (a.c.k : Nat), .string a.c.i, .string a.c.t, .string a.c.ut, .string a.c.ui, .int .u64 (a.v : Nat), .string a.s0, .string a.s1, .string a.s2, .string a.s3, .string a.s4, .string a.s5, .string a.s6]) pb _ _ from K.out.rowOther (by have := B9.out; omega) _)
      have N7 := hid (show Blk (Wc.setRow p9 #[.int .u8 (a.k : Nat), .int .u64 (a.tx : Nat), .int .u8 (a.c.k : Nat), .string a.c.i, .string a.c.t, .string a.c.ut, .string a.c.ui, .int .u64 (a.v : Nat), .string a.s0, .string a.s1, .string a.s2, .string a.s3, .string a.s4, .string a.s5, .string a.s6]) p7 _ _ from P7.out.rowOther (by have := D.out; omega) _)
      have N8 := hid (show Blk (Wc.setRow p9 #[.int .u8 (a.k : Nat), .int .u64 (a.tx : Nat), .int .u8 (a.c.k : Nat), .string a.c.i, .string a.c.t, .string a.c.ut, .string a.c.ui, .int .u64 (a.v : Nat), .string a.s0, .string a.s1, .string a.s2, .string a.s3, .string a.s4, .string a.s5, .string a.s6]) p8 _ _ from P8.out.rowOther (by have := D.out; omega) _)
      have N9 := hid (show Blk (Wc.setRow p9 #[.int .u8 (a.k : Nat), .int .u64 (a.tx : Nat), .int .u8 (a.c.k : Nat), .string a.c.i, .string a.c.t, .string a.c.ut, .string a.c.ui, .int .u64 (a.v : Nat), .string a.s0, .string a.s1, .string a.s2, .string a.s3, .string a.s4, .string a.s5, .string a.s6]) p9 _ _ from P9.out.row [.int .u8 (a.k : Nat), .int .u64 (a.tx : Nat), .int .u8 (a.c.k : Nat), .string a.c.i, .string a.c.t, .string a.c.ut, .string a.c.ui, .int .u64 (a.v : Nat), .string a.s0, .string a.s1, .string a.s2, .string a.s3, .string a.s4, .string a.s5, .string a.s6])
      have b2 := hid (below_row bw.out (show w.heap.size ≤ p9 by have := B9.out; omega) #[.int .u8 (a.k : Nat), .int .u64 (a.tx : Nat), .int .u8 (a.c.k : Nat), .string a.c.i, .string a.c.t, .string a.c.ut, .string a.c.ui, .int .u64 (a.v : Nat), .string a.s0, .string a.s1, .string a.s2, .string a.s3, .string a.s4, .string a.s5, .string a.s6])
      replace K := K2
      replace bw := b2
      replace P7 := N7
      replace P8 := N8
      replace P9 := N9
      clear K2 b2 N7 N8 N9
      generalize Wc.setRow p9 #[.int .u8 (a.k : Nat), .int .u64 (a.tx : Nat), .int .u8 (a.c.k : Nat), .string a.c.i, .string a.c.t, .string a.c.ut, .string a.c.ui, .int .u64 (a.v : Nat), .string a.s0, .string a.s1, .string a.s2, .string a.s3, .string a.s4, .string a.s5, .string a.s6] = Wc at K bw P7 P8 P9 ⊢
      refine hK.out _ _ (show Wc.heap[pb]? = _ from K.out.at') (fun hHeldN => ?_)
      clear hK K' hHeld
      have hHeld := hHeldN
      clear hHeldN
      (try simp only [Act.put, List.getElem_toArray, List.getElem_cons_zero, List.getElem_cons_succ, List.setIfInBounds_toArray, List.set_cons_zero, List.set_cons_succ])
      refine wpAnyH_done (by kernel_rfl) ?_ _
      exact key p7 p8 p9 Wc ⟨P7.out, P8.out, P9.out, K.out, ⟨by have := D.out; omega, by have := D.out; omega, by have := D.out; omega⟩, ⟨by have := B7.out; omega, by have := B8.out; omega, by have := B9.out; omega⟩, ⟨by have := B7.out; omega, by have := B8.out; omega, by have := B9.out; omega⟩, bw.out⟩
    refine AllReadyH.cons rfl (fun K' hK => ?_) AllReadyH.nil
    go_simp
    have P8 := hid (Blk.new Wc [.int .u8 0, .int .u64 0, .int .u8 0, .string ⟨#[]⟩, .string ⟨#[]⟩, .string ⟨#[]⟩, .string ⟨#[]⟩, .int .u64 0, .string ⟨#[]⟩, .string ⟨#[]⟩, .string ⟨#[]⟩, .string ⟨#[]⟩, .string ⟨#[]⟩, .string ⟨#[]⟩, .string ⟨#[]⟩] 30)
    change Hid (Blk (Wc.alloc (.cells #[.int .u8 0, .int .u64 0, .int .u8 0, .string ⟨#[]⟩, .string ⟨#[]⟩, .string ⟨#[]⟩, .string ⟨#[]⟩, .int .u64 0, .string ⟨#[]⟩, .string ⟨#[]⟩, .string ⟨#[]⟩, .string ⟨#[]⟩, .string ⟨#[]⟩, .string ⟨#[]⟩, .string ⟨#[]⟩] 30)) _ _ _) at P8
    have B8 := hid (show pb ≠ Wc.heap.size ∧ w.heap.size ≤ Wc.heap.size by have := K.out.lt; have := bw.out.size; omega)
    have d98 := hid (show p9 ≠ Wc.heap.size by have := P9.out.lt; omega)
    replace P9 := hid (P9.out.alloc (.cells #[.int .u8 0, .int .u64 0, .int .u8 0, .string ⟨#[]⟩, .string ⟨#[]⟩, .string ⟨#[]⟩, .string ⟨#[]⟩, .int .u64 0, .string ⟨#[]⟩, .string ⟨#[]⟩, .string ⟨#[]⟩, .string ⟨#[]⟩, .string ⟨#[]⟩, .string ⟨#[]⟩, .string ⟨#[]⟩] 30))
    replace K := hid (K.out.alloc (.cells #[.int .u8 0, .int .u64 0, .int .u8 0, .string ⟨#[]⟩, .string ⟨#[]⟩, .string ⟨#[]⟩, .string ⟨#[]⟩, .int .u64 0, .string ⟨#[]⟩, .string ⟨#[]⟩, .string ⟨#[]⟩, .string ⟨#[]⟩, .string ⟨#[]⟩, .string ⟨#[]⟩, .string ⟨#[]⟩] 30))
    replace bw := hid (bw.out.alloc bw.out.size (.cells #[.int .u8 0, .int .u64 0, .int .u8 0, .string ⟨#[]⟩, .string ⟨#[]⟩, .string ⟨#[]⟩, .string ⟨#[]⟩, .int .u64 0, .string ⟨#[]⟩, .string ⟨#[]⟩, .string ⟨#[]⟩, .string ⟨#[]⟩, .string ⟨#[]⟩, .string ⟨#[]⟩, .string ⟨#[]⟩] 30))
    generalize Wc.heap.size = p8 at P8 B8 d98 ⊢
    generalize Wc.alloc (.cells #[.int .u8 0, .int .u64 0, .int .u8 0, .string ⟨#[]⟩, .string ⟨#[]⟩, .string ⟨#[]⟩, .string ⟨#[]⟩, .int .u64 0, .string ⟨#[]⟩, .string ⟨#[]⟩, .string ⟨#[]⟩, .string ⟨#[]⟩, .string ⟨#[]⟩, .string ⟨#[]⟩, .string ⟨#[]⟩] 30) = Wc at K bw P8 P9 ⊢
    refine hK.out _ _ (show Wc.heap[pb]? = _ from K.out.at') (fun hHeldN => ?_)
    clear hK K' hHeld
    have hHeld := hHeldN
    clear hHeldN
    (try simp only [Act.put, List.getElem_toArray, List.getElem_cons_zero, List.getElem_cons_succ, List.setIfInBounds_toArray, List.set_cons_zero, List.set_cons_succ])
    refine wpAnyH_ready (rs := [3]) (by kernel_rfl) (by simp) ?_
    refine AllReadyH.cons rfl (fun K' hK => ?_) AllReadyH.nil
    go_simp
    have P7 := hid (Blk.new Wc [.int .u8 0, .int .u64 0, .int .u8 0, .string ⟨#[]⟩, .string ⟨#[]⟩, .string ⟨#[]⟩, .string ⟨#[]⟩, .int .u64 0, .string ⟨#[]⟩, .string ⟨#[]⟩, .string ⟨#[]⟩, .string ⟨#[]⟩, .string ⟨#[]⟩, .string ⟨#[]⟩, .string ⟨#[]⟩] 30)
    change Hid (Blk (Wc.alloc (.cells #[.int .u8 0, .int .u64 0, .int .u8 0, .string ⟨#[]⟩, .string ⟨#[]⟩, .string ⟨#[]⟩, .string ⟨#[]⟩, .int .u64 0, .string ⟨#[]⟩, .string ⟨#[]⟩, .string ⟨#[]⟩, .string ⟨#[]⟩, .string ⟨#[]⟩, .string ⟨#[]⟩, .string ⟨#[]⟩] 30)) _ _ _) at P7
    have B7 := hid (show pb ≠ Wc.heap.size ∧ w.heap.size ≤ Wc.heap.size by have := K.out.lt; have := bw.out.size; omega)
    have d97 := hid (show p9 ≠ Wc.heap.size by have := P9.out.lt; omega)
    have d87 := hid (show p8 ≠ Wc.heap.size by have := P8.out.lt; omega)
    replace P9 := hid (P9.out.alloc (.cells #[.int .u8 0, .int .u64 0, .int .u8 0, .string ⟨#[]⟩, .string ⟨#[]⟩, .string ⟨#[]⟩, .string ⟨#[]⟩, .int .u64 0, .string ⟨#[]⟩, .string ⟨#[]⟩, .string ⟨#[]⟩, .string ⟨#[]⟩, .string ⟨#[]⟩, .string ⟨#[]⟩, .string ⟨#[]⟩] 30))
    replace P8 := hid (P8.out.alloc (.cells #[.int .u8 0, .int .u64 0, .int .u8 0, .string ⟨#[]⟩, .string ⟨#[]⟩, .string ⟨#[]⟩, .string ⟨#[]⟩, .int .u64 0, .string ⟨#[]⟩, .string ⟨#[]⟩, .string ⟨#[]⟩, .string ⟨#[]⟩, .string ⟨#[]⟩, .string ⟨#[]⟩, .string ⟨#[]⟩] 30))
    replace K := hid (K.out.alloc (.cells #[.int .u8 0, .int .u64 0, .int .u8 0, .string ⟨#[]⟩, .string ⟨#[]⟩, .string ⟨#[]⟩, .string ⟨#[]⟩, .int .u64 0, .string ⟨#[]⟩, .string ⟨#[]⟩, .string ⟨#[]⟩, .string ⟨#[]⟩, .string ⟨#[]⟩, .string ⟨#[]⟩, .string ⟨#[]⟩] 30))
    replace bw := hid (bw.out.alloc bw.out.size (.cells #[.int .u8 0, .int .u64 0, .int .u8 0, .string ⟨#[]⟩, .string ⟨#[]⟩, .string ⟨#[]⟩, .string ⟨#[]⟩, .int .u64 0, .string ⟨#[]⟩, .string ⟨#[]⟩, .string ⟨#[]⟩, .string ⟨#[]⟩, .string ⟨#[]⟩, .string ⟨#[]⟩, .string ⟨#[]⟩] 30))
    generalize Wc.heap.size = p7 at P7 B7 d97 d87 ⊢
    generalize Wc.alloc (.cells #[.int .u8 0, .int .u64 0, .int .u8 0, .string ⟨#[]⟩, .string ⟨#[]⟩, .string ⟨#[]⟩, .string ⟨#[]⟩, .int .u64 0, .string ⟨#[]⟩, .string ⟨#[]⟩, .string ⟨#[]⟩, .string ⟨#[]⟩, .string ⟨#[]⟩, .string ⟨#[]⟩, .string ⟨#[]⟩] 30) = Wc at K bw P7 P8 P9 ⊢
    have D := hid (show (p7 ≠ p8 ∧ p7 ≠ p9 ∧ p8 ≠ p9) by have := d98.out; have := d97.out; have := d87.out; omega)
    refine hK.out _ _ (show Wc.heap[pb]? = _ from K.out.at') (fun hHeldN => ?_)
    clear hK K' hHeld
    have hHeld := hHeldN
    clear hHeldN
    (try simp only [Act.put, List.getElem_toArray, List.getElem_cons_zero, List.getElem_cons_succ, List.setIfInBounds_toArray, List.set_cons_zero, List.set_cons_succ])
    refine wpAnyH_ready (rs := [6]) (by kernel_rfl) (by simp) ?_
    refine AllReadyH.cons rfl (fun K' hK => ?_) AllReadyH.nil
    rw [if_pos (by rfl)]
    refine wp_store_row 30 (.tmp 7) (.tmp 33) rfl p7 #[.int .u8 (a.k : Nat), .int .u64 (a.tx : Nat), .int .u8 (a.c.k : Nat), .string a.c.i, .string a.c.t, .string a.c.ut, .string a.c.ui, .int .u64 (a.v : Nat), .string a.s0, .string a.s1, .string a.s2, .string a.s3, .string a.s4, .string a.s5, .string a.s6] rfl rfl 30 _ P7.out.at' (by kernel_rfl) rfl (by simp [Value.oneCell']) ?_
    have K2 := hid (show Blk (Wc.setRow p7 #[.int .u8 (a.k : Nat), .int .u64 (a.tx : Nat), .int .u8 (a.c.k : Nat), .string a.c.i, .string a.c.t, .string a.c.ut, .string a.c.ui, .int .u64 (a.v : Nat), .string a.s0, .string a.s1, .string a.s2, .string a.s3, .string a.s4, .string a.s5, .string a.s6]) pb _ _ from K.out.rowOther (by have := B7.out; omega) _)
    have N8 := hid (show Blk (Wc.setRow p7 #[.int .u8 (a.k : Nat), .int .u64 (a.tx : Nat), .int .u8 (a.c.k : Nat), .string a.c.i, .string a.c.t, .string a.c.ut, .string a.c.ui, .int .u64 (a.v : Nat), .string a.s0, .string a.s1, .string a.s2, .string a.s3, .string a.s4, .string a.s5, .string a.s6]) p8 _ _ from P8.out.rowOther (by have := D.out; omega) _)
    have N9 := hid (show Blk (Wc.setRow p7 #[.int .u8 (a.k : Nat), .int .u64 (a.tx : Nat), .int .u8 (a.c.k : Nat), .string a.c.i, .string a.c.t, .string a.c.ut, .string a.c.ui, .int .u64 (a.v : Nat), .string a.s0, .string a.s1, .string a.s2, .string a.s3, .string a.s4, .string a.s5, .string a.s6]) p9 _ _ from P9.out.rowOther (by have := D.out; omega) _)
    have N7 := hid (show Blk (Wc.setRow p7 #[.int .u8 (a.k : Nat), .int .u64 (a.tx : Nat), .int .u8 (a.c.k : Nat), .string a.c.i, .string a.c.t, .string a.c.ut, .string a.c.ui, .int .u64 (a.v : Nat), .string a.s0, .string a.s1, .string a.s2, .string a.s3, .string a.s4, .string a.s5, .string a.s6]) p7 _ _ from P7.out.row [.int .u8 (a.k : Nat), .int .u64 (a.tx : Nat), .int .u8 (a.c.k : Nat), .string a.c.i, .string a.c.t, .string a.c.ut, .string a.c.ui, .int .u64 (a.v : Nat), .string a.s0, .string a.s1, .string a.s2, .string a.s3, .string a.s4, .string a.s5, .string a.s6])
    have b2 := hid (below_row bw.out (show w.heap.size ≤ p7 by have := B7.out; omega) #[.int .u8 (a.k : Nat), .int .u64 (a.tx : Nat), .int .u8 (a.c.k : Nat), .string a.c.i, .string a.c.t, .string a.c.ut, .string a.c.ui, .int .u64 (a.v : Nat), .string a.s0, .string a.s1, .string a.s2, .string a.s3, .string a.s4, .string a.s5, .string a.s6])
    replace K := K2
    replace bw := b2
    replace P7 := N7
    replace P8 := N8
    replace P9 := N9
    clear K2 b2 N7 N8 N9
    generalize Wc.setRow p7 #[.int .u8 (a.k : Nat), .int .u64 (a.tx : Nat), .int .u8 (a.c.k : Nat), .string a.c.i, .string a.c.t, .string a.c.ut, .string a.c.ui, .int .u64 (a.v : Nat), .string a.s0, .string a.s1, .string a.s2, .string a.s3, .string a.s4, .string a.s5, .string a.s6] = Wc at K bw P7 P8 P9 ⊢
    refine hK.out _ _ (show Wc.heap[pb]? = _ from K.out.at') (fun hHeldN => ?_)
    clear hK K' hHeld
    have hHeld := hHeldN
    clear hHeldN
    (try simp only [Act.put, List.getElem_toArray, List.getElem_cons_zero, List.getElem_cons_succ, List.setIfInBounds_toArray, List.set_cons_zero, List.set_cons_succ])
    refine wpAnyH_ready (rs := [7]) (by kernel_rfl) (by simp) ?_
    refine AllReadyH.cons rfl (fun K' hK => ?_) AllReadyH.nil
    rw [if_pos (by rfl)]
    refine wp_store_row 30 (.tmp 8) (.tmp 34) rfl p8 #[.int .u8 (a.k : Nat), .int .u64 (a.tx : Nat), .int .u8 (a.c.k : Nat), .string a.c.i, .string a.c.t, .string a.c.ut, .string a.c.ui, .int .u64 (a.v : Nat), .string a.s0, .string a.s1, .string a.s2, .string a.s3, .string a.s4, .string a.s5, .string a.s6] rfl rfl 30 _ P8.out.at' (by kernel_rfl) rfl (by simp [Value.oneCell']) ?_
    have K2 := hid (show Blk (Wc.setRow p8 #[.int .u8 (a.k : Nat), .int .u64 (a.tx : Nat), .int .u8 (a.c.k : Nat), .string a.c.i, .string a.c.t, .string a.c.ut, .string a.c.ui, .int .u64 (a.v : Nat), .string a.s0, .string a.s1, .string a.s2, .string a.s3, .string a.s4, .string a.s5, .string a.s6]) pb _ _ from K.out.rowOther (by have := B8.out; omega) _)
    have N7 := hid (show Blk (Wc.setRow p8 #[.int .u8 (a.k : Nat), .int .u64 (a.tx : Nat), .int .u8 (a.c.k : Nat), .string a.c.i, .string a.c.t, .string a.c.ut, .string a.c.ui, .int .u64 (a.v : Nat), .string a.s0, .string a.s1, .string a.s2, .string a.s3, .string a.s4, .string a.s5, .string a.s6]) p7 _ _ from P7.out.rowOther (by have := D.out; omega) _)
    have N9 := hid (show Blk (Wc.setRow p8 #[.int .u8 (a.k : Nat), .int .u64 (a.tx : Nat), .int .u8 (a.c.k : Nat), .string a.c.i, .string a.c.t, .string a.c.ut, .string a.c.ui, .int .u64 (a.v : Nat), .string a.s0, .string a.s1, .string a.s2, .string a.s3, .string a.s4, .string a.s5, .string a.s6]) p9 _ _ from P9.out.rowOther (by have := D.out; omega) _)
    have N8 := hid (show Blk (Wc.setRow p8 #[.int .u8 (a.k : Nat), .int .u64 (a.tx : Nat), .int .u8 (a.c.k : Nat), .string a.c.i, .string a.c.t, .string a.c.ut, .string a.c.ui, .int .u64 (a.v : Nat), .string a.s0, .string a.s1, .string a.s2, .string a.s3, .string a.s4, .string a.s5, .string a.s6]) p8 _ _ from P8.out.row [.int .u8 (a.k : Nat), .int .u64 (a.tx : Nat), .int .u8 (a.c.k : Nat), .string a.c.i, .string a.c.t, .string a.c.ut, .string a.c.ui, .int .u64 (a.v : Nat), .string a.s0, .string a.s1, .string a.s2, .string a.s3, .string a.s4, .string a.s5, .string a.s6])
    have b2 := hid (below_row bw.out (show w.heap.size ≤ p8 by have := B8.out; omega) #[.int .u8 (a.k : Nat), .int .u64 (a.tx : Nat), .int .u8 (a.c.k : Nat), .string a.c.i, .string a.c.t, .string a.c.ut, .string a.c.ui, .int .u64 (a.v : Nat), .string a.s0, .string a.s1, .string a.s2, .string a.s3, .string a.s4, .string a.s5, .string a.s6])
    replace K := K2
    replace bw := b2
    replace P7 := N7
    replace P8 := N8
    replace P9 := N9
    clear K2 b2 N7 N8 N9
    generalize Wc.setRow p8 #[.int .u8 (a.k : Nat), .int .u64 (a.tx : Nat), .int .u8 (a.c.k : Nat), .string a.c.i, .string a.c.t, .string a.c.ut, .string a.c.ui, .int .u64 (a.v : Nat), .string a.s0, .string a.s1, .string a.s2, .string a.s3, .string a.s4, .string a.s5, .string a.s6] = Wc at K bw P7 P8 P9 ⊢
    refine hK.out _ _ (show Wc.heap[pb]? = _ from K.out.at') (fun hHeldN => ?_)
    clear hK K' hHeld
    have hHeld := hHeldN
    clear hHeldN
    (try simp only [Act.put, List.getElem_toArray, List.getElem_cons_zero, List.getElem_cons_succ, List.setIfInBounds_toArray, List.set_cons_zero, List.set_cons_succ])
    refine wpAnyH_ready (rs := [8]) (by kernel_rfl) (by simp) ?_
    refine AllReadyH.cons rfl (fun K' hK => ?_) AllReadyH.nil
    rw [if_pos (by rfl)]
    refine wp_store_row 30 (.tmp 9) (.tmp 35) rfl p9 #[.int .u8 (a.k : Nat), .int .u64 (a.tx : Nat), .int .u8 (a.c.k : Nat), .string a.c.i, .string a.c.t, .string a.c.ut, .string a.c.ui, .int .u64 (a.v : Nat), .string a.s0, .string a.s1, .string a.s2, .string a.s3, .string a.s4, .string a.s5, .string a.s6] rfl rfl 30 _ P9.out.at' (by kernel_rfl) rfl (by simp [Value.oneCell']) ?_
    have K2 := hid (show Blk (Wc.setRow p9 #[.int .u8 (a.k : Nat), .int .u64 (a.tx : Nat), .int .u8 (a.c.k : Nat), .string a.c.i, .string a.c.t, .string a.c.ut, .string a.c.ui, .int .u64 (a.v : Nat), .string a.s0, .string a.s1, .string a.s2, .string a.s3, .string a.s4, .string a.s5, .string a.s6]) pb _ _ from K.out.rowOther (by have := B9.out; omega) _)
    have N7 := hid (show Blk (Wc.setRow p9 #[.int .u8 (a.k : Nat), .int .u64 (a.tx : Nat), .int .u8 (a.c.k : Nat), .string a.c.i, .string a.c.t, .string a.c.ut, .string a.c.ui, .int .u64 (a.v : Nat), .string a.s0, .string a.s1, .string a.s2, .string a.s3, .string a.s4, .string a.s5, .string a.s6]) p7 _ _ from P7.out.rowOther (by have := D.out; omega) _)
    have N8 := hid (show Blk (Wc.setRow p9 #[.int .u8 (a.k : Nat), .int .u64 (a.tx : Nat), .int .u8 (a.c.k : Nat), .string a.c.i, .string a.c.t, .string a.c.ut, .string a.c.ui, .int .u64 (a.v : Nat), .string a.s0, .string a.s1, .string a.s2, .string a.s3, .string a.s4, .string a.s5, .string a.s6]) p8 _ _ from P8.out.rowOther (by have := D.out; omega) _)
    have N9 := hid (show Blk (Wc.setRow p9 #[.int .u8 (a.k : Nat), .int .u64 (a.tx : Nat), .int .u8 (a.c.k : Nat), .string a.c.i, .string a.c.t, .string a.c.ut, .string a.c.ui, .int .u64 (a.v : Nat), .string a.s0, .string a.s1, .string a.s2, .string a.s3, .string a.s4, .string a.s5, .string a.s6]) p9 _ _ from P9.out.row [.int .u8 (a.k : Nat), .int .u64 (a.tx : Nat), .int .u8 (a.c.k : Nat), .string a.c.i, .string a.c.t, .string a.c.ut, .string a.c.ui, .int .u64 (a.v : Nat), .string a.s0, .string a.s1, .string a.s2, .string a.s3, .string a.s4, .string a.s5, .string a.s6])
    have b2 := hid (below_row bw.out (show w.heap.size ≤ p9 by have := B9.out; omega) #[.int .u8 (a.k : Nat), .int .u64 (a.tx : Nat), .int .u8 (a.c.k : Nat), .string a.c.i, .string a.c.t, .string a.c.ut, .string a.c.ui, .int .u64 (a.v : Nat), .string a.s0, .string a.s1, .string a.s2, .string a.s3, .string a.s4, .string a.s5, .string a.s6])
    replace K := K2
    replace bw := b2
    replace P7 := N7
    replace P8 := N8
    replace P9 := N9
    clear K2 b2 N7 N8 N9
    generalize Wc.setRow p9 #[.int .u8 (a.k : Nat), .int .u64 (a.tx : Nat), .int .u8 (a.c.k : Nat), .string a.c.i, .string a.c.t, .string a.c.ut, .string a.c.ui, .int .u64 (a.v : Nat), .string a.s0, .string a.s1, .string a.s2, .string a.s3, .string a.s4, .string a.s5, .string a.s6] = Wc at K bw P7 P8 P9 ⊢
    refine hK.out _ _ (show Wc.heap[pb]? = _ from K.out.at') (fun hHeldN => ?_)
    clear hK K' hHeld
    have hHeld := hHeldN
    clear hHeldN
    (try simp only [Act.put, List.getElem_toArray, List.getElem_cons_zero, List.getElem_cons_succ, List.setIfInBounds_toArray, List.set_cons_zero, List.set_cons_succ])
    refine wpAnyH_done (by kernel_rfl) ?_ _
    exact key p7 p8 p9 Wc ⟨P7.out, P8.out, P9.out, K.out, ⟨by have := D.out; omega, by have := D.out; omega, by have := D.out; omega⟩, ⟨by have := B7.out; omega, by have := B8.out; omega, by have := B9.out; omega⟩, ⟨by have := B7.out; omega, by have := B8.out; omega, by have := B9.out; omega⟩, bw.out⟩
  · intro p7 p8 p9 W hF
    obtain ⟨P7, P8, P9, K, ⟨d78, d79, d89⟩, ⟨n7, n8, n9⟩, ⟨m7, m8, m9⟩, bw⟩ := hF
    (try dsimp only)
    have Q7 := hid (((P7.set 1 (.int .u64 (n : Nat))).other (p := ⟨p8, 7, none⟩) (by exact fun e => d78 e.symm) (.int .u64 (n : Nat))).other (p := ⟨p9, 14, none⟩) (by exact fun e => d79 e.symm) (.string ⟨#[123, 125]⟩))
    have Q8 := hid (((P8.other (p := ⟨p7, 1, none⟩) (by exact d78) (.int .u64 (n : Nat))).set 7 (.int .u64 (n : Nat))).other (p := ⟨p9, 14, none⟩) (by exact fun e => d89 e.symm) (.string ⟨#[123, 125]⟩))
    have Q9 := hid (((P9.other (p := ⟨p7, 1, none⟩) (by exact d79) (.int .u64 (n : Nat))).other (p := ⟨p8, 7, none⟩) (by exact d89) (.int .u64 (n : Nat))).set 14 (.string ⟨#[123, 125]⟩))
    have QK := hid (((K.other (p := ⟨p7, 1, none⟩) (by exact fun e => n7 e.symm) (.int .u64 (n : Nat))).other (p := ⟨p8, 7, none⟩) (by exact fun e => n8 e.symm) (.int .u64 (n : Nat))).other (p := ⟨p9, 14, none⟩) (by exact fun e => n9 e.symm) (.string ⟨#[123, 125]⟩))
    have bq := hid (bel_stL m9 [.string ⟨#[123, 125]⟩] _ 14 (bel_stL m8 [.int .u64 (n : Nat)] _ 7 (bel_stL m7 [.int .u64 (n : Nat)] W 1 bw)))
    change Hid (Blk (((W.setCell ⟨p7, 1, none⟩ (.int .u64 (n : Nat))).setCell ⟨p8, 7, none⟩ (.int .u64 (n : Nat))).setCell ⟨p9, 14, none⟩ (.string ⟨#[123, 125]⟩)) p7 [.int .u8 (a.k : Nat), .int .u64 (n : Nat), .int .u8 (a.c.k : Nat), .string a.c.i, .string a.c.t, .string a.c.ut, .string a.c.ui, .int .u64 (a.v : Nat), .string a.s0, .string a.s1, .string a.s2, .string a.s3, .string a.s4, .string a.s5, .string a.s6] 30) at Q7
    change Hid (Blk (((W.setCell ⟨p7, 1, none⟩ (.int .u64 (n : Nat))).setCell ⟨p8, 7, none⟩ (.int .u64 (n : Nat))).setCell ⟨p9, 14, none⟩ (.string ⟨#[123, 125]⟩)) p8 [.int .u8 (a.k : Nat), .int .u64 (a.tx : Nat), .int .u8 (a.c.k : Nat), .string a.c.i, .string a.c.t, .string a.c.ut, .string a.c.ui, .int .u64 (n : Nat), .string a.s0, .string a.s1, .string a.s2, .string a.s3, .string a.s4, .string a.s5, .string a.s6] 30) at Q8
    change Hid (Blk (((W.setCell ⟨p7, 1, none⟩ (.int .u64 (n : Nat))).setCell ⟨p8, 7, none⟩ (.int .u64 (n : Nat))).setCell ⟨p9, 14, none⟩ (.string ⟨#[123, 125]⟩)) p9 [.int .u8 (a.k : Nat), .int .u64 (a.tx : Nat), .int .u8 (a.c.k : Nat), .string a.c.i, .string a.c.t, .string a.c.ut, .string a.c.ui, .int .u64 (a.v : Nat), .string a.s0, .string a.s1, .string a.s2, .string a.s3, .string a.s4, .string a.s5, .string ⟨#[123, 125]⟩] 30) at Q9
    change Hid (Below w.heap.size w (((W.setCell ⟨p7, 1, none⟩ (.int .u64 (n : Nat))).setCell ⟨p8, 7, none⟩ (.int .u64 (n : Nat))).setCell ⟨p9, 14, none⟩ (.string ⟨#[123, 125]⟩))) at bq
    obtain ⟨i0, i1, i2, i3, i4, i5, i6, i7, i8, i9, i10, i11, i12, i13, i14, if7⟩ := fifteen P7
    obtain ⟨j0, j1, j2, j3, j4, j5, j6, j7, j8, j9, j10, j11, j12, j13, j14, if8⟩ := fifteen P8
    obtain ⟨l0, l1, l2, l3, l4, l5, l6, l7, l8, l9, l10, l11, l12, l13, l14, if9⟩ := fifteen P9
    clear P7 P8 P9 K bw
    go_upto_region 8 with fail
    clear i0 i1 i2 i3 i4 i5 i6 i7 i8 i9 i10 i11 i12 i13 i14 if7 j0 j1 j2 j3 j4 j5 j6 j7 j8 j9 j10 j11 j12 j13 j14 if8 l0 l1 l2 l3 l4 l5 l6 l7 l8 l9 l10 l11 l12 l13 l14 if9 d78 d79 d89 n7 n8 n9 m7 m8 m9
    generalize ((W.setCell ⟨p7, 1, none⟩ (.int .u64 (n : Nat))).setCell ⟨p8, 7, none⟩ (.int .u64 (n : Nat))).setCell ⟨p9, 14, none⟩ (.string ⟨#[123, 125]⟩) = W1 at Q7 Q8 Q9 QK bq ⊢
    obtain ⟨k0, k1, k2, k3, k4, k5, k6, k7, k8, k9, k10, k11, k12, k13, k14, kf⟩ := fifteen Q7.out
    go_wp2_with fail
    refine (writeask_any { a with tx := n } _ hXF.out).mono ?_
    rintro e w3 ⟨⟨sz1, z1, rfl, hz1⟩, b3⟩
    replace Q7 := hid (Q7.out.below b3 Q7.out.lt)
    replace Q8 := hid (Q8.out.below b3 Q8.out.lt)
    replace Q9 := hid (Q9.out.below b3 Q9.out.lt)
    replace QK := hid (QK.out.below b3 QK.out.lt)
    replace bq := hid (bq.out.trans (b3.mono bq.out.size))
    replace hz1 := hid hz1
    clear  b3 k0 k1 k2 k3 k4 k5 k6 k7 k8 k9 k10 k11 k12 k13 k14 kf
    obtain ⟨k0, k1, k2, k3, k4, k5, k6, k7, k8, k9, k10, k11, k12, k13, k14, kf⟩ := fifteen Q8.out
    go_wp2_with fail
    refine (writeask_any { a with v := n } _ hYF.out).mono ?_
    rintro e w4 ⟨⟨sz2, z2, rfl, hz2⟩, b3⟩
    replace Q7 := hid (Q7.out.below b3 Q7.out.lt)
    replace Q9 := hid (Q9.out.below b3 Q9.out.lt)
    replace QK := hid (QK.out.below b3 QK.out.lt)
    replace bq := hid (bq.out.trans (b3.mono bq.out.size))
    replace hz2 := hid hz2
    clear Q8 b3 k0 k1 k2 k3 k4 k5 k6 k7 k8 k9 k10 k11 k12 k13 k14 kf
    obtain ⟨k0, k1, k2, k3, k4, k5, k6, k7, k8, k9, k10, k11, k12, k13, k14, kf⟩ := fifteen Q9.out
    go_wp2_with fail
    refine (writeask_any { a with s6 := ⟨#[123, 125]⟩ } _ hZF.out).mono ?_
    rintro e w5 ⟨⟨sz3, z3, rfl, hz3⟩, b3⟩
    replace Q7 := hid (Q7.out.below b3 Q7.out.lt)
    replace QK := hid (QK.out.below b3 QK.out.lt)
    replace bq := hid (bq.out.trans (b3.mono bq.out.size))
    replace hz3 := hid hz3
    clear Q9 b3 k0 k1 k2 k3 k4 k5 k6 k7 k8 k9 k10 k11 k12 k13 k14 kf
    obtain ⟨k0, k1, k2, k3, k4, k5, k6, k7, k8, k9, k10, k11, k12, k13, k14, kf⟩ := fifteen QK.out
    have e1 := hid (hz1.out.iff.trans hX.out)
    have e2 := hid (hz2.out.iff.trans hY.out)
    have e3 := hid (hz3.out.iff.trans hZ.out)
    obtain ⟨kk, hkk⟩ : ∃ kk : Int, (a.k : Int) = kk := ⟨_, rfl⟩
    rw [hkk] at k0
    have hoi : ((¬ z1 = 0 ∧ ¬ z2 = 0 ∧ ¬ z3 = 0) ∧ (kk = 1 ∨ kk = 7 ∨ kk = 8)) ∨ ((z1 = 0 ∧ ¬ z2 = 0 ∧ ¬ z3 = 0) ∧ (kk = 2 ∨ kk = 3 ∨ kk = 4)) ∨ ((¬ z1 = 0 ∧ ¬ z2 = 0 ∧ z3 = 0) ∧ kk = 5) ∨ ((¬ z1 = 0 ∧ z2 = 0 ∧ z3 = 0) ∧ kk = 6) := by
      have q1 := e1.out
      have q2 := e2.out
      have q3 := e3.out
      have q4 := hR8.out
      omega
    clear e1 e2 e3 hX hY hZ hR8
    replace hkk := hid hkk
    have hz1' := hid (fun (z : Int) (s : ByteArray) (h : AskW { a with tx := n } s z) => (h.one hz1.out).2)
    clear hz1
    rcases hoi with ⟨⟨y1, y2, y3⟩, hq⟩ | ⟨⟨y1, y2, y3⟩, hq⟩ | ⟨⟨y1, y2, y3⟩, rfl⟩ | ⟨⟨y1, y2, y3⟩, rfl⟩
    · rcases hq with rfl | rfl | rfl
      all_goals
        go_upto_region 13 with fail
        clear k0 k1 k2 k3 k4 k5 k6 k7 k8 k9 k10 k11 k12 k13 k14 kf
        obtain ⟨k0, k1, k2, k3, k4, k5, k6, k7, k8, k9, k10, k11, k12, k13, k14, kf⟩ := fifteen Q7.out
        go_wp2_with fail
        refine (writeask_ref { a with tx := n } _ hXF.out).mono ?_
        rintro e w6 ⟨⟨s4, z4, rfl, hz4⟩, b3⟩
        rw [hz1'.out z4 s4 hz4]
        have QK2 := hid (QK.out.below b3 QK.out.lt)
        have bq2 := hid (bq.out.trans (b3.mono bq.out.size))
        clear b3 k0 k1 k2 k3 k4 k5 k6 k7 k8 k9 k10 k11 k12 k13 k14 kf hz4
        obtain ⟨k0, k1, k2, k3, k4, k5, k6, k7, k8, k9, k10, k11, k12, k13, k14, kf⟩ := fifteen QK2.out
        rw [hkk.out] at k0
        go_wp2_with fail
        go_ret
        first | exact ⟨rfl, bq2.out⟩ | exact ⟨congrArg (fun b => Ending.returned (Value.bool b)) (by simp [y1, y2, y3]), bq2.out⟩
    · rcases hq with rfl | rfl | rfl
      all_goals
        go_upto_region 13 with fail
        clear k0 k1 k2 k3 k4 k5 k6 k7 k8 k9 k10 k11 k12 k13 k14 kf
        obtain ⟨k0, k1, k2, k3, k4, k5, k6, k7, k8, k9, k10, k11, k12, k13, k14, kf⟩ := fifteen Q7.out
        go_wp2_with fail
        refine (writeask_ref { a with tx := n } _ hXF.out).mono ?_
        rintro e w6 ⟨⟨s4, z4, rfl, hz4⟩, b3⟩
        rw [hz1'.out z4 s4 hz4]
        have QK2 := hid (QK.out.below b3 QK.out.lt)
        have bq2 := hid (bq.out.trans (b3.mono bq.out.size))
        clear b3 k0 k1 k2 k3 k4 k5 k6 k7 k8 k9 k10 k11 k12 k13 k14 kf hz4
        obtain ⟨k0, k1, k2, k3, k4, k5, k6, k7, k8, k9, k10, k11, k12, k13, k14, kf⟩ := fifteen QK2.out
        rw [hkk.out] at k0
        go_wp2_with fail
        go_ret
        first | exact ⟨rfl, bq2.out⟩ | exact ⟨congrArg (fun b => Ending.returned (Value.bool b)) (by simp [y1, y2, y3]), bq2.out⟩
    · skip
      go_upto_region 13 with fail
      clear k0 k1 k2 k3 k4 k5 k6 k7 k8 k9 k10 k11 k12 k13 k14 kf
      obtain ⟨k0, k1, k2, k3, k4, k5, k6, k7, k8, k9, k10, k11, k12, k13, k14, kf⟩ := fifteen Q7.out
      go_wp2_with fail
      refine (writeask_ref { a with tx := n } _ hXF.out).mono ?_
      rintro e w6 ⟨⟨s4, z4, rfl, hz4⟩, b3⟩
      rw [hz1'.out z4 s4 hz4]
      have QK2 := hid (QK.out.below b3 QK.out.lt)
      have bq2 := hid (bq.out.trans (b3.mono bq.out.size))
      clear b3 k0 k1 k2 k3 k4 k5 k6 k7 k8 k9 k10 k11 k12 k13 k14 kf hz4
      obtain ⟨k0, k1, k2, k3, k4, k5, k6, k7, k8, k9, k10, k11, k12, k13, k14, kf⟩ := fifteen QK2.out
      rw [hkk.out] at k0
      go_wp2_with fail
      go_ret
      first | exact ⟨rfl, bq2.out⟩ | exact ⟨congrArg (fun b => Ending.returned (Value.bool b)) (by simp [y1, y2, y3]), bq2.out⟩
    · skip
      go_upto_region 13 with fail
      clear k0 k1 k2 k3 k4 k5 k6 k7 k8 k9 k10 k11 k12 k13 k14 kf
      obtain ⟨k0, k1, k2, k3, k4, k5, k6, k7, k8, k9, k10, k11, k12, k13, k14, kf⟩ := fifteen Q7.out
      go_wp2_with fail
      refine (writeask_ref { a with tx := n } _ hXF.out).mono ?_
      rintro e w6 ⟨⟨s4, z4, rfl, hz4⟩, b3⟩
      rw [hz1'.out z4 s4 hz4]
      have QK2 := hid (QK.out.below b3 QK.out.lt)
      have bq2 := hid (bq.out.trans (b3.mono bq.out.size))
      clear b3 k0 k1 k2 k3 k4 k5 k6 k7 k8 k9 k10 k11 k12 k13 k14 kf hz4
      obtain ⟨k0, k1, k2, k3, k4, k5, k6, k7, k8, k9, k10, k11, k12, k13, k14, kf⟩ := fifteen QK2.out
      rw [hkk.out] at k0
      go_wp2_with fail
      go_ret
      first | exact ⟨rfl, bq2.out⟩ | exact ⟨congrArg (fun b => Ending.returned (Value.bool b)) (by simp [y1, y2, y3]), bq2.out⟩
end Go.Proofs.Ytldlkoiekdlmhaa.Wi
