/-
  wire's calls: contracts. Written by wip/wiretopgen.py.
-/
import Derived.Test.YtldlkoiekdlmhaaPkWireRefE
import Derived.Deep.RegionHeld3
import Derived.Deep.RegionWith
import Derived.BigRegion
namespace Go.Proofs.Ytldlkoiekdlmhaa.Wi
open Go.ChangeShapes Go.WideShapes Go.ChangeAt Go.RowKit
open Go.Proofs.Ytldlkoiekdlmhaa.Mem
open Go.Proofs.Ytldlkoiekdlmhaa.Lik (Kept)
open Go.Proofs.Ytldlkoiekdlmhaa.Crc hiding hid bt
set_option linter.unusedVariables false
set_option linter.unusedSimpArgs false
set_option maxRecDepth 100000
theorem results_ctt {P : Program} {fn : Func} {p q q2 : Tmp} {ty : TypeId} (h : fn.results = #[.cell p ty, .tmp q, .tmp q2]) (tmps : Array Value) (w : World) (g : Nat) (t : TypeId) (cs : Array Value) (fr : Nat × Nat) (d : TypeDesc)
    (hp : tmps.getD p undef = .pointer (some ⟨g, 0, none⟩)) (hg : w.heap[g]? = some (.cells cs t fr))
    (hu : P.underlying ty = some d) (hd : (match d with | .struct _ | .array _ _ => true | _ => false) = true) (hi : (P.info? ty).map (·.size) = some cs.size) :
    (results fn tmps).run P w = .ok (.tuple #[.agg cs, tmps.getD q undef, tmps.getD q2 undef]) w := by
  have hp' : tmps[p]?.getD undef = .pointer (some ⟨g, 0, none⟩) := by simpa using hp
  simp [results, h, hp', asAddr, run_loadVar_row w g t ty cs fr d hg hu hd hi]
/-- four texts behind a kind -/
theorem pC_four (b : UInt8) (l : List UInt8) : pC (b :: l) = (pTs 4 l).bind fun y => match y.1 with
    | [x0, x1, x2, x3] => some (⟨b.toNat, x0, x1, x2, x3⟩, y.2)
    | _ => none := by
  unfold pC pTs pTs pTs pTs pTs
  unfold pBind pRet
  simp only [pB]
  cases h0 : pT l with
  | none => rfl
  | some y0 =>
    simp only []
    cases h1 : pT y0.2 with
    | none => rfl
    | some y1 =>
      simp only []
      cases h2 : pT y1.2 with
      | none => rfl
      | some y2 =>
        simp only []
        cases h3 : pT y2.2 with
        | none => rfl
        | some y3 => rfl
def OneP (s : ByteArray) (c : Ch) (r : ByteArray) (ok : Bool) : Prop := ok = true ∧ pC s.data.toList = some (c, r.data.toList) ∧ chR c ∨ ok = false ∧ ∀ c' t, pC s.data.toList = some (c', t) → ¬ chR c'
def OneA (s : ByteArray) (e : Ending) : Prop := ∃ (c : Ch) (r : ByteArray) (ok : Bool), e = .returned (.tuple #[.agg #[.int .u8 (c.k : Nat), .string c.i, .string c.t, .string c.ut, .string c.ui], .string r, .bool ok]) ∧ OneP s c r ok
set_option maxHeartbeats 8000000 in
theorem one_ref (s : ByteArray) (w : World) (hs : s.size ≤ 16777216) : Calls Try.prog 43 #[.string s] w fun e w' => OneA s e ∧ Below w.heap.size w w' := by
  go_enter Try.func43, Try.ntmps43
  go_upto_region 1 with fail
  have R := hid (Blk.new w [.int .u8 0, .string ⟨#[]⟩, .string ⟨#[]⟩, .string ⟨#[]⟩, .string ⟨#[]⟩] 28)
  have bw := hid ((Below.refl w.heap.size w).alloc (Nat.le_refl _) (.cells #[.int .u8 0, .string ⟨#[]⟩, .string ⟨#[]⟩, .string ⟨#[]⟩, .string ⟨#[]⟩] 28))
  change Hid (Blk (w.alloc (.cells #[.int .u8 0, .string ⟨#[]⟩, .string ⟨#[]⟩, .string ⟨#[]⟩, .string ⟨#[]⟩] 28)) _ _ _) at R
  generalize w.alloc (.cells #[.int .u8 0, .string ⟨#[]⟩, .string ⟨#[]⟩, .string ⟨#[]⟩, .string ⟨#[]⟩] 28) = X at R bw ⊢
  obtain ⟨rb, hr⟩ : ∃ rb, w.heap.size = rb := ⟨_, rfl⟩
  have hrb := hid (show w.heap.size ≤ rb by omega)
  rw [hr] at R ⊢
  clear hr
  have hrlt := hid R.out.lt
  by_cases h0 : s.size = 0
  · obtain rfl : s = ⟨#[]⟩ := by
      have : s.data.toList = [] := by rw [← List.length_eq_zero_iff, len_size]; exact h0
      rw [← bs_of s, this]; rfl
    have hP := hid (show OneP ⟨#[]⟩ chZ ⟨#[]⟩ false from .inr ⟨rfl, fun c' t h => by cases h⟩)
    have F1 := hid (R.out.row [.int .u8 0, .string ⟨#[]⟩, .string ⟨#[]⟩, .string ⟨#[]⟩, .string ⟨#[]⟩])
    have F2 := hid (below_row bw.out hrb.out #[.int .u8 0, .string ⟨#[]⟩, .string ⟨#[]⟩, .string ⟨#[]⟩, .string ⟨#[]⟩])
    go_upto_region 2 with fail
    refine wp_region_lit ?_
    refine wpList_build0 rfl 28 rfl #[.int .u8 0, .string ⟨#[]⟩, .string ⟨#[]⟩, .string ⟨#[]⟩, .string ⟨#[]⟩] (by kernel_rfl) ?_
    refine wpList_store_row rfl 28 (.tmp 2) (.tmp 13) rfl rb #[.int .u8 0, .string ⟨#[]⟩, .string ⟨#[]⟩, .string ⟨#[]⟩, .string ⟨#[]⟩] rfl rfl 28 _ R.out.at' (by kernel_rfl) rfl (by simp [Value.oneCell']) ?_
    generalize X.setRow rb #[.int .u8 0, .string ⟨#[]⟩, .string ⟨#[]⟩, .string ⟨#[]⟩, .string ⟨#[]⟩] = W3 at F1 F2 ⊢
    go_wp2_with fail
    refine bodyPost_ret (v := .tuple #[.agg #[.int .u8 0, .string ⟨#[]⟩, .string ⟨#[]⟩, .string ⟨#[]⟩, .string ⟨#[]⟩], .string ⟨#[]⟩, .bool false]) (results_ctt Try.results43 _ _ rb 28 _ (0, 0) _ rfl F1.out.at' Try.underlying28 rfl (by kernel_rfl)) rfl ?_
    exact ⟨⟨chZ, ⟨#[]⟩, false, rfl, hP.out⟩, F2.out⟩
  have hne : s.toList.isEmpty = false := by
    rw [ByteArray.toList_eq, List.isEmpty_eq_false_iff]
    intro e
    have := congrArg List.length e
    rw [len_size] at this
    exact h0 this
  have hpos : 0 < s.size := by omega
  have hposi : (0 : Int) < (s.size : Int) := by omega
  have hone : (1 : Int) ≤ (s.size : Int) := by omega
  have hl := hid (show s.data.toList = s[0] :: (s.extract 1 s.size).data.toList by
    rw [ext_drop _ _ (by omega)]
    have : ∀ (l : List UInt8) (h : 0 < l.length), l = l[0] :: l.drop 1 := by
      intro l h
      match l, h with
      | a :: t, _ => rfl
    exact this s.data.toList (by rw [len_size]; exact hpos))
  have hxs := hid (show (s.extract 1 s.size).size ≤ 16777216 by rw [← len_size, ext_drop _ _ (by omega), List.length_drop, len_size]; omega)
  go_upto_region 7 with fail
  have K := hid ((Blk.new X [.int .u8 (s[0].toNat : Nat), .string ⟨#[]⟩, .string ⟨#[]⟩, .string ⟨#[]⟩, .string ⟨#[]⟩] 28).alloc (.cells #[.string ⟨#[]⟩, .string ⟨#[]⟩, .string ⟨#[]⟩, .string ⟨#[]⟩] 9))
  have G := hid (Blk.new' (X.alloc (.cells #[.int .u8 (s[0].toNat : Nat), .string ⟨#[]⟩, .string ⟨#[]⟩, .string ⟨#[]⟩, .string ⟨#[]⟩] 28)) [.string ⟨#[]⟩, .string ⟨#[]⟩, .string ⟨#[]⟩, .string ⟨#[]⟩] 9 (X.heap.size + 1) (by simp))
  replace R := hid ((R.out.alloc (.cells #[.int .u8 (s[0].toNat : Nat), .string ⟨#[]⟩, .string ⟨#[]⟩, .string ⟨#[]⟩, .string ⟨#[]⟩] 28)).alloc (.cells #[.string ⟨#[]⟩, .string ⟨#[]⟩, .string ⟨#[]⟩, .string ⟨#[]⟩] 9))
  have hsz := hid bw.out.size
  replace bw := hid ((bw.out.alloc bw.out.size (.cells #[.int .u8 (s[0].toNat : Nat), .string ⟨#[]⟩, .string ⟨#[]⟩, .string ⟨#[]⟩, .string ⟨#[]⟩] 28)).alloc (by have := bw.out.size; simp; omega) (.cells #[.string ⟨#[]⟩, .string ⟨#[]⟩, .string ⟨#[]⟩, .string ⟨#[]⟩] 9))
  have hrX := hid (show rb < X.heap.size from by
    have := R.out.lt
    have h2 := hrlt.out
    omega)
  change Hid (Blk ((X.alloc (.cells #[.int .u8 (s[0].toNat : Nat), .string ⟨#[]⟩, .string ⟨#[]⟩, .string ⟨#[]⟩, .string ⟨#[]⟩] 28)).alloc (.cells #[.string ⟨#[]⟩, .string ⟨#[]⟩, .string ⟨#[]⟩, .string ⟨#[]⟩] 9)) _ _ _) at K
  change Hid (Blk ((X.alloc (.cells #[.int .u8 (s[0].toNat : Nat), .string ⟨#[]⟩, .string ⟨#[]⟩, .string ⟨#[]⟩, .string ⟨#[]⟩] 28)).alloc (.cells #[.string ⟨#[]⟩, .string ⟨#[]⟩, .string ⟨#[]⟩, .string ⟨#[]⟩] 9)) _ _ _) at G
  obtain ⟨c0, e0⟩ : ∃ c, s[0] = c := ⟨_, rfl⟩
  obtain ⟨s1, e1⟩ : ∃ c, s.extract 1 s.size = c := ⟨_, rfl⟩
  rw [e0, e1] at hl
  rw [e1] at hxs ⊢
  rw [e0] at K R bw G ⊢
  generalize ((X.alloc (.cells #[.int .u8 (c0.toNat : Nat), .string ⟨#[]⟩, .string ⟨#[]⟩, .string ⟨#[]⟩, .string ⟨#[]⟩] 28)).alloc (.cells #[.string ⟨#[]⟩, .string ⟨#[]⟩, .string ⟨#[]⟩, .string ⟨#[]⟩] 9)) = X2 at R K G bw ⊢
  obtain ⟨cb, hcb⟩ : ∃ cb, X.heap.size = cb := ⟨_, rfl⟩
  obtain ⟨g, hg⟩ : ∃ g, X.heap.size + 1 = g := ⟨_, rfl⟩
  have hap := hid (show rb ≠ cb ∧ rb ≠ g ∧ cb ≠ g ∧ w.heap.size ≤ cb ∧ w.heap.size ≤ g by have := hrX.out; have := hsz.out; omega)
  rw [hg] at G ⊢
  rw [hcb] at K ⊢
  clear hg hcb e0 e1 hsz hrX hrlt hne hposi hone h0 hs
  have hcall := hid (pC_four c0 s1.data.toList)
  rw [← hl.out] at hcall
  clear hl
  go_wp2_with fail
  go_loopw [6, 8, 22] (fun okv rv i wr => ∃ (j : Nat) (pre : List ByteArray) (r : ByteArray) (ok : Bool), j ≤ 4 ∧ i = .int .i64 j ∧ rv = .string r ∧ okv = .bool ok ∧ Hid (r.size ≤ 16777216 ∧ pre.length = j) ∧ Hid (ok = true ∧ pTs 4 s1.data.toList = (pTs (4 - j) r.data.toList).map (fun y => (pre ++ y.1, y.2)) ∨ ok = false ∧ pTs 4 s1.data.toList = none) ∧ Hid (Blk wr g (strC (pre ++ List.replicate (4 - j) E0)) 9) ∧ Hid (Blk wr cb [.int .u8 (c0.toNat : Nat), .string ⟨#[]⟩, .string ⟨#[]⟩, .string ⟨#[]⟩, .string ⟨#[]⟩] 28) ∧ Hid (Blk wr rb [.int .u8 0, .string ⟨#[]⟩, .string ⟨#[]⟩, .string ⟨#[]⟩, .string ⟨#[]⟩] 28) ∧ Hid (Below w.heap.size w wr)) (fun _ _ i _ => 4 - (intOf i).toNat)
  case atStart => exact ⟨0, [], s1, true, by omega, rfl, rfl, rfl, hid ⟨hxs.out, rfl⟩, hid (.inl ⟨rfl, by cases pTs 4 s1.data.toList <;> simp⟩), G, K, R, bw⟩
  case round =>
    clear G K R bw hxs
    obtain ⟨j, pre, r, ok, hj, rfl, rfl, rfl, hrp, hR, G, K, R, bw⟩ := hrel
    by_cases hjn : j < 4
    · have hji : (j : Int) < 4 := by omega
      have hji0 : (0 : Int) ≤ (j : Int) := by omega
      go_wp2_with fail
      refine (taken_ref r wr hrp.out.1).mono ?_
      rintro e w3 ⟨⟨x, r2, is, rfl, hT⟩, q3⟩
      replace bw := hid (bw.out.trans (q3.mono bw.out.size))
      replace G := hid (G.out.below q3 G.out.lt)
      replace K := hid (K.out.below q3 K.out.lt)
      replace R := hid (R.out.below q3 R.out.lt)
      have hc := G.out.cell j (by rw [strC_len, List.length_append, List.length_replicate, hrp.out.2]; omega)
      have hf := G.out.free j
      have hst := hid (show 4 - j = (4 - (j + 1)) + 1 by omega)
      have hr2 := hid (show r2.size ≤ 16777216 by
        rcases hT with ⟨_, h⟩ | ⟨_, _, rfl, _⟩
        · have := congrArg List.length (pT_of h).1
          rw [List.length_append, len_size, len_size] at this
          have := hrp.out.1
          omega
        · decide)
      have hnew := hid (show ((ok && is) = true ∧ pTs 4 s1.data.toList = (pTs (4 - (j + 1)) r2.data.toList).map (fun y => ((pre ++ [x]) ++ y.1, y.2)) ∨ (ok && is) = false ∧ pTs 4 s1.data.toList = none) from by
        rcases hR.out with ⟨rfl, h⟩ | ⟨rfl, h⟩
        · rcases hT with ⟨rfl, g⟩ | ⟨rfl, _, _, g⟩
          · refine .inl ⟨rfl, ?_⟩
            rw [h, hst.out, pTs_step g, Option.map_map]
            congr 1
            funext y
            simp
          · refine .inr ⟨rfl, ?_⟩
            rw [h, hst.out, pTs_stop g]; rfl
        · exact .inr ⟨rfl, h⟩)
      have G2 := hid (show Blk (w3.setCell ⟨g, j, none⟩ (.string x)) g (strC ((pre ++ [x]) ++ List.replicate (4 - (j + 1)) E0)) 9 from by
        have h := G.out.set j (.string x)
        have e : (strC (pre ++ List.replicate (4 - j) E0)).set j (.string x) = strC ((pre ++ [x]) ++ List.replicate (4 - (j + 1)) E0) := by
          have hp := hrp.out.2
          unfold strC
          rw [hst.out, List.replicate_succ, List.map_append, List.map_cons, ← hp, ← List.length_map (f := Value.string), List.set_append_right _ _ (Nat.le_refl _)]
          simp
        rw [e] at h
        exact h)
      have K2 := hid (show Blk (w3.setCell ⟨g, j, none⟩ (.string x)) cb _ _ from K.out.other (by exact fun e => hap.out.2.2.1 e.symm) _)
      have R2 := hid (show Blk (w3.setCell ⟨g, j, none⟩ (.string x)) rb _ _ from R.out.other (by exact fun e => hap.out.2.1 e.symm) _)
      have b2 := hid (show Below w.heap.size w (w3.setCell ⟨g, j, none⟩ (.string x)) from bel_stL hap.out.2.2.2.2 [.string x] w3 j bw.out)
      clear hT q3 G K R bw hR
      cases ok <;> cases is
      all_goals
        go_wp2_with fail
        go_roundw
        case rel => exact ⟨j + 1, pre ++ [x], r2, _, by omega, by go_num, rfl, rfl, hid ⟨hr2.out, by rw [List.length_append, hrp.out.2]; rfl⟩, hnew, G2, K2, R2, b2⟩
        case measure => simp [intOf]; omega
    · obtain rfl : j = 4 := by omega
      have hji : ¬ (4 : Int) < 4 := by decide
      obtain ⟨x0, x1, x2, x3, rfl⟩ : ∃ x0 x1 x2 x3, pre = [x0, x1, x2, x3] := by
        have := hrp.out.2
        match pre, this with
        | [a, b, c, d], _ => exact ⟨a, b, c, d, rfl⟩
      change Hid (Blk wr g [.string x0, .string x1, .string x2, .string x3] 9) at G
      obtain ⟨g0, g1, g2, g3, gf⟩ := G.out.four
      obtain ⟨k0, k1, k2, k3, k4, kf⟩ := five K.out
      have n1 : cb ≠ g := hap.out.2.2.1
      have n2 : g ≠ cb := fun e => n1 e.symm
      have n3 : (g == cb) = false := by simpa using n2
      have n4 : (cb == g) = false := by simpa using n1
      go_wp2_with fail
      go_region
      have K2 := hid (((((K.out.set 1 (.string x0)).set 2 (.string x1)).set 3 (.string x2)).set 4 (.string x3)).drew)
      have R2 := hid (((((R.out.other (p := ⟨cb, 1, none⟩) (by exact fun e => hap.out.1 e.symm) (.string x0)).other (p := ⟨cb, 2, none⟩) (by exact fun e => hap.out.1 e.symm) (.string x1)).other (p := ⟨cb, 3, none⟩) (by exact fun e => hap.out.1 e.symm) (.string x2)).other (p := ⟨cb, 4, none⟩) (by exact fun e => hap.out.1 e.symm) (.string x3)).drew)
      have b2 := hid (bel_stL hap.out.2.2.2.1 [.string x0, .string x1, .string x2, .string x3] wr 1 bw.out).drew
      change Hid (Blk _ cb [.int .u8 (c0.toNat : Nat), .string x0, .string x1, .string x2, .string x3] _) at K2
      change Hid (Below w.heap.size w ((((wr.setCell ⟨cb, 1, none⟩ (.string x0)).setCell ⟨cb, 2, none⟩ (.string x1)).setCell ⟨cb, 3, none⟩ (.string x2)).setCell ⟨cb, 4, none⟩ (.string x3)).drew) at b2
      clear g0 g1 g2 g3 gf k0 k1 k2 k3 k4 kf n1 n2 n3 n4 G K R bw
      generalize ((((wr.setCell ⟨cb, 1, none⟩ (.string x0)).setCell ⟨cb, 2, none⟩ (.string x1)).setCell ⟨cb, 3, none⟩ (.string x2)).setCell ⟨cb, 4, none⟩ (.string x3)).drew = W at K2 R2 b2 ⊢
      have hbx := hid (show cb < W.heap.size ∧ rb < W.heap.size from ⟨K2.out.lt, R2.out.lt⟩)
      have n1 : rb ≠ cb := hap.out.1
      obtain ⟨k0, k1, k2, k3, k4, kf⟩ := five K2.out
      obtain ⟨r0, r1, r2, r3, r4, rf⟩ := five R2.out
      have hfin := hid (show OneP s (⟨c0.toNat, x0, x1, x2, x3⟩ : Ch) r (ok && decide (chR (⟨c0.toNat, x0, x1, x2, x3⟩ : Ch))) from by
        rcases hR.out with ⟨rfl, h⟩ | ⟨rfl, h⟩
        · have h4 : pC s.data.toList = some (⟨c0.toNat, x0, x1, x2, x3⟩, r.data.toList) := by
            rw [hcall.out, h]; rfl
          by_cases hch : chR (⟨c0.toNat, x0, x1, x2, x3⟩ : Ch)
          · exact .inl ⟨by simp [hch], h4, hch⟩
          · refine .inr ⟨by simp [hch], fun c' t e => ?_⟩
            rw [h4] at e
            simp only [Option.some.injEq, Prod.mk.injEq] at e
            rw [← e.1]; exact hch
        · refine .inr ⟨rfl, fun c' t e => ?_⟩
          rw [hcall.out, h] at e
          cases e)
      clear hR hcall
      cases ok with
      | false =>
        go_wp2_with fail
        go_region
        go_wp2_with fail
        have F1 := hid (blk_stL rb 28 [.int .u8 (c0.toNat : Nat), .string x0, .string x1, .string x2, .string x3] W [] [.int .u8 0, .string ⟨#[]⟩, .string ⟨#[]⟩, .string ⟨#[]⟩, .string ⟨#[]⟩] 0 rfl rfl R2.out)
        have F2 := hid (bel_stL hrb.out [.int .u8 (c0.toNat : Nat), .string x0, .string x1, .string x2, .string x3] W 0 b2.out)
        refine bodyPost_ret (v := .tuple #[.agg #[.int .u8 (c0.toNat : Nat), .string x0, .string x1, .string x2, .string x3], .string r, .bool false]) (results_ctt Try.results43 _ _ rb 28 _ (0, 0) _ rfl F1.out.at' Try.underlying28 rfl (by kernel_rfl)) rfl ?_
        exact ⟨⟨⟨c0.toNat, x0, x1, x2, x3⟩, r, _, rfl, hfin.out⟩, ⟨F2.out.os, F2.out.tape, F2.out.output, F2.out.size, F2.out.block⟩⟩
      | true =>
        go_wp2_with fail
        go_region_with (first
          | (go_at_call 33; refine (right_ref (⟨c0.toNat, x0, x1, x2, x3⟩ : Ch) _ (UInt8.toNat_lt c0)).mono ?_; rintro e w5 ⟨rfl, b5⟩; have D2 := K2.out.drew.below b5 (by exact hbx.out.1); obtain ⟨k0, k1, k2, k3, k4, kf⟩ := five D2; have E2 := R2.out.drew.below b5 (by exact hbx.out.2); obtain ⟨r0, r1, r2, r3, r4, rf⟩ := five E2))
        all_goals
          go_wp2_with fail
        all_goals
          have F1 := hid (blk_stL rb 28 [.int .u8 (c0.toNat : Nat), .string x0, .string x1, .string x2, .string x3] w5 [] [.int .u8 0, .string ⟨#[]⟩, .string ⟨#[]⟩, .string ⟨#[]⟩, .string ⟨#[]⟩] 0 rfl rfl E2)
          have F2 := hid (bel_stL hrb.out [.int .u8 (c0.toNat : Nat), .string x0, .string x1, .string x2, .string x3] w5 0 (b2.out.drew.trans (b5.mono b2.out.size)))
          refine bodyPost_ret (v := .tuple #[.agg #[.int .u8 (c0.toNat : Nat), .string x0, .string x1, .string x2, .string x3], .string r, .bool (decide (chR (⟨c0.toNat, x0, x1, x2, x3⟩ : Ch)))]) (results_ctt Try.results43 _ _ rb 28 _ (0, 0) _ rfl F1.out.at' Try.underlying28 rfl (by kernel_rfl)) rfl ?_
          exact ⟨⟨⟨c0.toNat, x0, x1, x2, x3⟩, r, _, rfl, hfin.out⟩, ⟨F2.out.os, F2.out.tape, F2.out.output, F2.out.size, F2.out.block⟩⟩
end Go.Proofs.Ytldlkoiekdlmhaa.Wi
