/-
  wire's calls: contracts. Written by wip/wiretopgen.py.
-/
import Derived.Test.YtldlkoiekdlmhaaPkWireRefK
import Derived.Test.YtldlkoiekdlmhaaPkWireRA
import Derived.Test.YtldlkoiekdlmhaaWireRefI
import Derived.Deep.RegionHeld3
import Derived.Deep.RegionWith
import Derived.BigRegion
namespace Go.Proofs.Ytldlkoiekdlmhaa.Wi
open Go.ChangeShapes Go.WideShapes Go.ChangeAt Go.RowKit
open Go.Proofs.Ytldlkoiekdlmhaa.Mem
open Go.Proofs.Ytldlkoiekdlmhaa.Lik (Kept)
open Go.Proofs.Ytldlkoiekdlmhaa.Crc hiding hid bt
set_option linter.unusedVariables false
set_option linter.unusedSimpArgs false
set_option maxRecDepth 100000
set_option maxHeartbeats 16000000 in
theorem readask_ref6 (s s1 : ByteArray) (c0 : UInt8) (w : World) (hs : s.size ≤ 16777216) (hpos : 0 < s.size) (he0 : s[0] = c0) (he1 : s.extract 1 s.size = s1) (hl : s.data.toList = c0 :: s1.data.toList) (hxs : s1.size ≤ 16777216) (hk : c0.toNat = 6) :
    Calls Try.prog 12 #[.string s] w fun e w' => (∃ (a : Ask) (z : Int), e = .returned (.tuple #[.agg #[.int .u8 (a.k : Nat), .int .u64 (a.tx : Nat), .int .u8 (a.c.k : Nat), .string a.c.i, .string a.c.t, .string a.c.ut, .string a.c.ui, .int .u64 (a.v : Nat), .string a.s0, .string a.s1, .string a.s2, .string a.s3, .string a.s4, .string a.s5, .string a.s6], .int .i64 z]) ∧ AskP s.data.toList a z) ∧ Below w.heap.size w w' := by
  have hne : s.toList.isEmpty = false := by
    rw [ByteArray.toList_eq, hl]; rfl
  have hk' := hid hk
  clear hk
  have hposi : (0 : Int) < (s.size : Int) := by omega
  have hone : (1 : Int) ≤ (s.size : Int) := by omega
  go_enter Try.func12, Try.ntmps12
  go_upto_region 1 with fail
  have R := hid (Blk.new w [.int .u8 0, .int .u64 0, .int .u8 0, .string ⟨#[]⟩, .string ⟨#[]⟩, .string ⟨#[]⟩, .string ⟨#[]⟩, .int .u64 0, .string ⟨#[]⟩, .string ⟨#[]⟩, .string ⟨#[]⟩, .string ⟨#[]⟩, .string ⟨#[]⟩, .string ⟨#[]⟩, .string ⟨#[]⟩] 30)
  have bw := hid ((Below.refl w.heap.size w).alloc (Nat.le_refl _) (.cells #[.int .u8 0, .int .u64 0, .int .u8 0, .string ⟨#[]⟩, .string ⟨#[]⟩, .string ⟨#[]⟩, .string ⟨#[]⟩, .int .u64 0, .string ⟨#[]⟩, .string ⟨#[]⟩, .string ⟨#[]⟩, .string ⟨#[]⟩, .string ⟨#[]⟩, .string ⟨#[]⟩, .string ⟨#[]⟩] 30))
  change Hid (Blk (w.alloc (.cells #[.int .u8 0, .int .u64 0, .int .u8 0, .string ⟨#[]⟩, .string ⟨#[]⟩, .string ⟨#[]⟩, .string ⟨#[]⟩, .int .u64 0, .string ⟨#[]⟩, .string ⟨#[]⟩, .string ⟨#[]⟩, .string ⟨#[]⟩, .string ⟨#[]⟩, .string ⟨#[]⟩, .string ⟨#[]⟩] 30)) _ _ _) at R
  generalize w.alloc (.cells #[.int .u8 0, .int .u64 0, .int .u8 0, .string ⟨#[]⟩, .string ⟨#[]⟩, .string ⟨#[]⟩, .string ⟨#[]⟩, .int .u64 0, .string ⟨#[]⟩, .string ⟨#[]⟩, .string ⟨#[]⟩, .string ⟨#[]⟩, .string ⟨#[]⟩, .string ⟨#[]⟩, .string ⟨#[]⟩] 30) = X at R bw ⊢
  obtain ⟨rb, hr⟩ : ∃ rb, w.heap.size = rb := ⟨_, rfl⟩
  have hrb := hid (show w.heap.size ≤ rb by omega)
  rw [hr] at R ⊢
  clear hr
  go_upto_region 4 with fail
  have hrlt := hid R.out.lt
  have hXs := hid bw.out.size
  have K := hid (Blk.new X [.int .u8 (c0.toNat : Nat), .int .u64 0, .int .u8 0, .string ⟨#[]⟩, .string ⟨#[]⟩, .string ⟨#[]⟩, .string ⟨#[]⟩, .int .u64 0, .string ⟨#[]⟩, .string ⟨#[]⟩, .string ⟨#[]⟩, .string ⟨#[]⟩, .string ⟨#[]⟩, .string ⟨#[]⟩, .string ⟨#[]⟩] 30)
  replace R := hid (R.out.alloc (.cells #[.int .u8 (c0.toNat : Nat), .int .u64 0, .int .u8 0, .string ⟨#[]⟩, .string ⟨#[]⟩, .string ⟨#[]⟩, .string ⟨#[]⟩, .int .u64 0, .string ⟨#[]⟩, .string ⟨#[]⟩, .string ⟨#[]⟩, .string ⟨#[]⟩, .string ⟨#[]⟩, .string ⟨#[]⟩, .string ⟨#[]⟩] 30))
  replace bw := hid (bw.out.alloc bw.out.size (.cells #[.int .u8 (c0.toNat : Nat), .int .u64 0, .int .u8 0, .string ⟨#[]⟩, .string ⟨#[]⟩, .string ⟨#[]⟩, .string ⟨#[]⟩, .int .u64 0, .string ⟨#[]⟩, .string ⟨#[]⟩, .string ⟨#[]⟩, .string ⟨#[]⟩, .string ⟨#[]⟩, .string ⟨#[]⟩, .string ⟨#[]⟩] 30))
  change Hid (Blk (X.alloc (.cells #[.int .u8 (c0.toNat : Nat), .int .u64 0, .int .u8 0, .string ⟨#[]⟩, .string ⟨#[]⟩, .string ⟨#[]⟩, .string ⟨#[]⟩, .int .u64 0, .string ⟨#[]⟩, .string ⟨#[]⟩, .string ⟨#[]⟩, .string ⟨#[]⟩, .string ⟨#[]⟩, .string ⟨#[]⟩, .string ⟨#[]⟩] 30)) _ _ _) at K
  generalize X.alloc (.cells #[.int .u8 (c0.toNat : Nat), .int .u64 0, .int .u8 0, .string ⟨#[]⟩, .string ⟨#[]⟩, .string ⟨#[]⟩, .string ⟨#[]⟩, .int .u64 0, .string ⟨#[]⟩, .string ⟨#[]⟩, .string ⟨#[]⟩, .string ⟨#[]⟩, .string ⟨#[]⟩, .string ⟨#[]⟩, .string ⟨#[]⟩] 30) = V at K R bw ⊢
  obtain ⟨cb, hcb⟩ : ∃ cb, X.heap.size = cb := ⟨_, rfl⟩
  rw [hcb] at K ⊢
  have hne2 := hid (show cb ≠ rb ∧ w.heap.size ≤ cb by have := hrlt.out; have := hXs.out; omega)
  clear hcb hrlt hXs
  go_upto_region 6 with fail
  clear he1 he0 hs hne hposi hone
  have hk := hk'.out
  clear hk'
  replace hl := hid hl
  replace hxs := hid hxs
  have hki : (c0.toNat : Int) = 6 := by omega
  replace hk := hid hk
  have hc8 := hid (UInt8.toNat_lt c0)
  obtain ⟨k0, k1, k2, k3, k4, k5, k6, k7, k8, k9, k10, k11, k12, k13, k14, kf⟩ := fifteen K.out
  rw [hki] at k0
  go_wp2_with fail
  refine (number_ref s1 _ hxs.out).mono ?_
  rintro e w3 ⟨⟨n, r, ok, rfl, hN⟩, q3⟩
  replace K := hid (K.out.below q3 K.out.lt)
  replace R := hid (R.out.below q3 R.out.lt)
  replace bw := hid (bw.out.trans (q3.mono bw.out.size))
  clear q3 k0 k1 k2 k3 k4 k5 k6 k7 k8 k9 k10 k11 k12 k13 k14 kf
  have hn64 := hN.1
  replace hN := hid hN
  replace hn64 := hid hn64
  obtain ⟨k0, k1, k2, k3, k4, k5, k6, k7, k8, k9, k10, k11, k12, k13, k14, kf⟩ := fifteen K.out
  rw [hki] at k0
  go_upto_region 21 with fail
  clear k0 k1 k2 k3 k4 k5 k6 k7 k8 k9 k10 k11 k12 k13 k14 kf
  replace K := hid (K.out.set 7 (.int .u64 (n : Nat)))
  replace R := hid (R.out.other (p := ⟨cb, 7, none⟩) (by exact hne2.out.1) (.int .u64 (n : Nat)))
  replace bw := hid (bel_stL hne2.out.2 [.int .u64 (n : Nat)] w3 7 bw.out)
  change Hid (Blk (w3.setCell ⟨cb, 7, none⟩ (.int .u64 (n : Nat))) cb [.int .u8 (c0.toNat : Nat), .int .u64 0, .int .u8 0, .string ⟨#[]⟩, .string ⟨#[]⟩, .string ⟨#[]⟩, .string ⟨#[]⟩, .int .u64 (n : Nat), .string ⟨#[]⟩, .string ⟨#[]⟩, .string ⟨#[]⟩, .string ⟨#[]⟩, .string ⟨#[]⟩, .string ⟨#[]⟩, .string ⟨#[]⟩] 30) at K
  change Hid (Below w.heap.size w (w3.setCell ⟨cb, 7, none⟩ (.int .u64 (n : Nat)))) at bw
  generalize w3.setCell ⟨cb, 7, none⟩ (.int .u64 (n : Nat)) = V3 at K R bw ⊢
  have hrs := hid (show r.size ≤ 16777216 by
    rcases hN.out.2 with ⟨_, h⟩ | ⟨_, _, rfl, _⟩
    · have := congrArg List.length (pN_of h).1
      rw [List.length_append, len_size, len_size] at this
      have := hxs.out
      omega
    · decide)
  obtain ⟨i0, z0, hi, hz0, rfl, hz1, hz2, hz3⟩ := info_st
  obtain ⟨k0, k1, k2, k3, k4, k5, k6, k7, k8, k9, k10, k11, k12, k13, k14, kf⟩ := fifteen K.out
  rw [hki] at k0
  go_wp2_with (at_make; refine wpList_make_full _ rfl _ _ 38 rfl V3.heap.size 9 i0 (.string ⟨#[]⟩) 1 Try.underlying38 hi hz0 hz1 _ _ _ _ 7 rfl rfl rfl rfl ?m1 ?m2 (Nat.le_refl _) ?_)
  case m1 => rw [hz2]; omega
  case m2 => unfold maxLen; omega
  intro wm hown hgm
  have hbm : Below V3.heap.size V3 wm := (Below.refl _ _).grown hgm (Nat.le_refl _) (by simp)
  obtain ⟨tail, hV⟩ : ∃ tail, Blk wm V3.heap.size (strC (List.replicate 7 E0) ++ tail) 9 := by
    obtain ⟨hb, _⟩ := own_blk hown
    rw [made_strz] at hb
    rcases hb with ⟨_, h0⟩ | ⟨g, tail, h1, _, h2⟩
    · cases h0
    · simp only [Option.some.injEq, Addr.mk.injEq, and_true] at h1
      rw [← h1] at h2
      exact ⟨tail, h2⟩
  have G := hid hV
  have hcbl := hid K.out.lt
  have hrbl := hid R.out.lt
  have hWs := hid bw.out.size
  replace K := hid (K.out.below hbm K.out.lt)
  replace R := hid (R.out.below hbm R.out.lt)
  replace bw := hid (bw.out.trans (hbm.mono bw.out.size))
  clear hown hgm hbm hV k0 k1 k2 k3 k4 k5 k6 k7 k8 k9 k10 k11 k12 k13 k14 kf
  obtain ⟨g, hg⟩ : ∃ g, V3.heap.size = g := ⟨_, rfl⟩
  rw [hg] at G ⊢
  have hap := hid (show g ≠ cb ∧ g ≠ rb ∧ w.heap.size ≤ g by have := hcbl.out; have := hrbl.out; have := hWs.out; omega)
  clear hg hcbl hrbl hWs
  go_wp2_with fail
  go_loopw [5, 6, 76] (fun rv okv i wr => ∃ (j : Nat) (pre : List ByteArray) (rj : ByteArray) (okj : Bool), j ≤ 7 ∧ i = .int .i64 j ∧ rv = .string rj ∧ okv = .bool okj ∧ Hid (rj.size ≤ 16777216 ∧ pre.length = j ∧ ∀ x ∈ pre, x.size ≤ 2048) ∧ Hid (okj = true ∧ ok = true ∧ pTs 7 r.data.toList = (pTs (7 - j) rj.data.toList).map (fun y => (pre ++ y.1, y.2)) ∨ okj = false ∧ (ok = false ∨ pTs 7 r.data.toList = none)) ∧ Hid (Blk wr g (strC (pre ++ List.replicate (7 - j) E0) ++ tail) 9) ∧ Hid (Blk wr cb [.int .u8 (c0.toNat : Nat), .int .u64 0, .int .u8 0, .string ⟨#[]⟩, .string ⟨#[]⟩, .string ⟨#[]⟩, .string ⟨#[]⟩, .int .u64 (n : Nat), .string ⟨#[]⟩, .string ⟨#[]⟩, .string ⟨#[]⟩, .string ⟨#[]⟩, .string ⟨#[]⟩, .string ⟨#[]⟩, .string ⟨#[]⟩] 30) ∧ Hid (Blk wr rb [.int .u8 0, .int .u64 0, .int .u8 0, .string ⟨#[]⟩, .string ⟨#[]⟩, .string ⟨#[]⟩, .string ⟨#[]⟩, .int .u64 0, .string ⟨#[]⟩, .string ⟨#[]⟩, .string ⟨#[]⟩, .string ⟨#[]⟩, .string ⟨#[]⟩, .string ⟨#[]⟩, .string ⟨#[]⟩] 30) ∧ Hid (Below w.heap.size w wr)) (fun _ _ i _ => 7 - (intOf i).toNat)
  case atStart => exact ⟨0, [], r, ok, by omega, rfl, rfl, rfl, hid ⟨hrs.out, rfl, by simp⟩, hid (by
    cases ok with
    | true => exact .inl ⟨rfl, rfl, by cases pTs 7 r.data.toList <;> simp⟩
    | false => exact .inr ⟨rfl, .inl rfl⟩), G, K, R, bw⟩
  case round =>
    clear G K R bw hi hz0 hz1 hz2 hz3
    obtain ⟨j, pre, q, okj, hj, rfl, rfl, rfl, hrp, hR, G, K, R, bw⟩ := hrel
    by_cases hjn : j < 7
    · have hji : (j : Int) < 7 := by omega
      have hji0 : (0 : Int) ≤ (j : Int) := by omega
      go_wp2_with fail
      refine (taken_ref q wr hrp.out.1).mono ?_
      rintro e w3' ⟨⟨x, r2, is, rfl, hT⟩, q3⟩
      replace bw := hid (bw.out.trans (q3.mono bw.out.size))
      replace G := hid (G.out.below q3 G.out.lt)
      replace K := hid (K.out.below q3 K.out.lt)
      replace R := hid (R.out.below q3 R.out.lt)
      have hc := G.out.cell j (by rw [List.length_append, strC_len, List.length_append, List.length_replicate, hrp.out.2.1]; omega)
      have hf := G.out.free j
      have hst := hid (show 7 - j = (7 - (j + 1)) + 1 by omega)
      have hr2 := hid (show r2.size ≤ 16777216 ∧ x.size ≤ 2048 by
        rcases hT with ⟨_, h⟩ | ⟨_, rfl, rfl, _⟩
        · have := congrArg List.length (pT_of h).1
          rw [List.length_append, len_size, len_size] at this
          have := hrp.out.1
          exact ⟨by omega, (pT_of h).2⟩
        · exact ⟨by decide, by decide⟩)
      have hnew := hid (show ((okj && is) = true ∧ ok = true ∧ pTs 7 r.data.toList = (pTs (7 - (j + 1)) r2.data.toList).map (fun y => ((pre ++ [x]) ++ y.1, y.2)) ∨ (okj && is) = false ∧ (ok = false ∨ pTs 7 r.data.toList = none)) from by
        rcases hR.out with ⟨rfl, h0, h⟩ | ⟨rfl, h⟩
        · rcases hT with ⟨rfl, g⟩ | ⟨rfl, _, _, g⟩
          · refine .inl ⟨rfl, h0, ?_⟩
            rw [h, hst.out, pTs_step g, Option.map_map]
            congr 1
            funext y
            simp
          · refine .inr ⟨rfl, .inr ?_⟩
            rw [h, hst.out, pTs_stop g]; rfl
        · exact .inr ⟨rfl, h⟩)
      have G2 := hid (show Blk (w3'.setCell ⟨g, j, none⟩ (.string x)) g (strC ((pre ++ [x]) ++ List.replicate (7 - (j + 1)) E0) ++ tail) 9 from by
        have h := G.out.set j (.string x)
        have e : (strC (pre ++ List.replicate (7 - j) E0) ++ tail).set j (.string x) = strC ((pre ++ [x]) ++ List.replicate (7 - (j + 1)) E0) ++ tail := by
          have hp := hrp.out.2.1
          unfold strC
          rw [hst.out, List.replicate_succ, List.map_append, List.map_cons, ← hp, List.append_assoc, ← List.length_map (f := Value.string), List.set_append_right _ _ (Nat.le_refl _)]
          simp
        rw [e] at h
        exact h)
      have K2 := hid (show Blk (w3'.setCell ⟨g, j, none⟩ (.string x)) cb _ _ from K.out.other (by exact hap.out.1) _)
      have R2 := hid (show Blk (w3'.setCell ⟨g, j, none⟩ (.string x)) rb _ _ from R.out.other (by exact hap.out.2.1) _)
      have b2 := hid (show Below w.heap.size w (w3'.setCell ⟨g, j, none⟩ (.string x)) from bel_stL hap.out.2.2 [.string x] w3' j bw.out)
      clear hT q3 G K R bw hR
      cases okj <;> cases is
      all_goals
        go_wp2_with fail
        go_roundw
        case rel => exact ⟨j + 1, pre ++ [x], r2, _, by omega, by go_num, rfl, rfl, hid ⟨hr2.out.1, by rw [List.length_append, hrp.out.2.1]; rfl, by
          intro y hy
          rcases List.mem_append.1 hy with hy | hy
          · exact hrp.out.2.2 y hy
          · rw [List.mem_singleton.1 hy]; exact hr2.out.2⟩, hnew, G2, K2, R2, b2⟩
        case measure => simp [intOf]; omega
    · obtain rfl : j = 7 := by omega
      have hji : ¬ (7 : Int) < 7 := by decide
      obtain ⟨x0, x1, x2, x3, x4, x5, x6, rfl⟩ : ∃ x0 x1 x2 x3 x4 x5 x6, pre = [x0, x1, x2, x3, x4, x5, x6] := by
        have := hrp.out.2.1
        match pre, this with
        | [a, b, c, d, e, f, h], _ => exact ⟨a, b, c, d, e, f, h, rfl⟩
      have hsm := hid hrp.out.2.2
      replace hR := hid (show okj = true ∧ ok = true ∧ pTs 7 r.data.toList = some ([x0, x1, x2, x3, x4, x5, x6], q.data.toList) ∨ okj = false ∧ (ok = false ∨ pTs 7 r.data.toList = none) from hR.out)
      change Hid (Blk wr g ([.string x0, .string x1, .string x2, .string x3, .string x4, .string x5, .string x6] ++ tail) 9) at G
      have gc : ∀ i, (h : i < 7) → wr.cell? ⟨g, i, none⟩ = some (([.string x0, .string x1, .string x2, .string x3, .string x4, .string x5, .string x6] : List Value)[i]'(by simpa using h)) := by
        intro i h
        have := G.out.cell i (by simp; omega)
        rw [this, List.getElem_append_left]
      obtain ⟨gc', hgc'⟩ : ∃ x, x = gc := ⟨_, rfl⟩
      have g0 := gc 0 (by decide)
      have g1 := gc 1 (by decide)
      have g2 := gc 2 (by decide)
      have g3 := gc 3 (by decide)
      have g4 := gc 4 (by decide)
      have g5 := gc 5 (by decide)
      have g6 := gc 6 (by decide)
      clear gc gc' hgc'
      simp only [List.getElem_cons_zero, List.getElem_cons_succ] at g0 g1 g2 g3 g4 g5 g6
      have gf := fun o => G.out.free o
      obtain ⟨k0, k1, k2, k3, k4, k5, k6, k7, k8, k9, k10, k11, k12, k13, k14, kf⟩ := fifteen K.out
      have n1 : cb ≠ g := fun e => hap.out.1 e.symm
      have n2 : g ≠ cb := fun e => n1 e.symm
      have n3 : (g == cb) = false := by simpa using n2
      have n4 : (cb == g) = false := by simpa using n1
      clear hrp
      go_wp2_with fail
      go_region_held3 (fun Y => Y.cell? ⟨g, 0, none⟩ = some (.string x0) ∧ Y.cell? ⟨g, 1, none⟩ = some (.string x1) ∧ Y.cell? ⟨g, 2, none⟩ = some (.string x2) ∧ Y.cell? ⟨g, 3, none⟩ = some (.string x3) ∧ Y.cell? ⟨g, 4, none⟩ = some (.string x4) ∧ Y.cell? ⟨g, 5, none⟩ = some (.string x5) ∧ Y.cell? ⟨g, 6, none⟩ = some (.string x6)) (go_keep) (fail)
      have K2 := hid (((((((K.out.set 8 (.string x0)).set 9 (.string x1)).set 10 (.string x2)).set 11 (.string x3)).set 12 (.string x4)).set 13 (.string x5)).set 14 (.string x6)).drew
      have R2 := hid (oth_stL R.out hne2.out.1 [.string x0, .string x1, .string x2, .string x3, .string x4, .string x5, .string x6] 8).drew
      have b2 := hid (bel_stL hne2.out.2 [.string x0, .string x1, .string x2, .string x3, .string x4, .string x5, .string x6] wr 8 bw.out).drew
      change Hid (Blk ((((((((wr.setCell ⟨cb, 8, none⟩ (.string x0)).setCell ⟨cb, 9, none⟩ (.string x1)).setCell ⟨cb, 10, none⟩ (.string x2)).setCell ⟨cb, 11, none⟩ (.string x3)).setCell ⟨cb, 12, none⟩ (.string x4)).setCell ⟨cb, 13, none⟩ (.string x5)).setCell ⟨cb, 14, none⟩ (.string x6)).drew) cb _ _) at K2
      change Hid (Blk ((((((((wr.setCell ⟨cb, 8, none⟩ (.string x0)).setCell ⟨cb, 9, none⟩ (.string x1)).setCell ⟨cb, 10, none⟩ (.string x2)).setCell ⟨cb, 11, none⟩ (.string x3)).setCell ⟨cb, 12, none⟩ (.string x4)).setCell ⟨cb, 13, none⟩ (.string x5)).setCell ⟨cb, 14, none⟩ (.string x6)).drew) rb _ _) at R2
      change Hid (Below w.heap.size w ((((((((wr.setCell ⟨cb, 8, none⟩ (.string x0)).setCell ⟨cb, 9, none⟩ (.string x1)).setCell ⟨cb, 10, none⟩ (.string x2)).setCell ⟨cb, 11, none⟩ (.string x3)).setCell ⟨cb, 12, none⟩ (.string x4)).setCell ⟨cb, 13, none⟩ (.string x5)).setCell ⟨cb, 14, none⟩ (.string x6)).drew)) at b2
      clear g0 g1 g2 g3 g4 g5 g6 gf k0 k1 k2 k3 k4 k5 k6 k7 k8 k9 k10 k11 k12 k13 k14 kf n1 n2 n3 n4 G K R bw
      generalize (((((((wr.setCell ⟨cb, 8, none⟩ (.string x0)).setCell ⟨cb, 9, none⟩ (.string x1)).setCell ⟨cb, 10, none⟩ (.string x2)).setCell ⟨cb, 11, none⟩ (.string x3)).setCell ⟨cb, 12, none⟩ (.string x4)).setCell ⟨cb, 13, none⟩ (.string x5)).setCell ⟨cb, 14, none⟩ (.string x6)).drew = V5 at K2 R2 b2 ⊢
      have K := K2
      have R := R2
      have bw := b2
      clear K2 R2 b2
      obtain ⟨b, hb⟩ : ∃ b : Ask, { askZ with k := c0.toNat, v := n, s0 := x0, s1 := x1, s2 := x2, s3 := x3, s4 := x4, s5 := x5, s6 := x6 } = b := ⟨_, rfl⟩
      have hFb := hid (show askF b from by rw [← hb]; exact ⟨⟨hc8.out, (show (0 : Nat) < 18446744073709551616 by decide), hn64.out, (show (0 : Nat) < 256 by decide)⟩, chF1_zero, (show x0.size ≤ 1048576 by have := hsm.out x0 (by simp); omega), (show x1.size ≤ 1048576 by have := hsm.out x1 (by simp); omega), (show x2.size ≤ 1048576 by have := hsm.out x2 (by simp); omega), (show x3.size ≤ 1048576 by have := hsm.out x3 (by simp); omega), (show x4.size ≤ 1048576 by have := hsm.out x4 (by simp); omega), (show x5.size ≤ 1048576 by have := hsm.out x5 (by simp); omega), (show x6.size ≤ 1048576 by have := hsm.out x6 (by simp); omega)⟩)
      have hit := hid (show Hit s.data.toList b okj from by rw [← hb, hl.out]; exact hit_56 (n := n) (.inr ⟨hk.out, hN.out⟩) hR.out)
      change Hid (Blk _ cb [.int .u8 (({ askZ with k := c0.toNat, v := n, s0 := x0, s1 := x1, s2 := x2, s3 := x3, s4 := x4, s5 := x5, s6 := x6 } : Ask).k : Nat), .int .u64 (({ askZ with k := c0.toNat, v := n, s0 := x0, s1 := x1, s2 := x2, s3 := x3, s4 := x4, s5 := x5, s6 := x6 } : Ask).tx : Nat), .int .u8 (({ askZ with k := c0.toNat, v := n, s0 := x0, s1 := x1, s2 := x2, s3 := x3, s4 := x4, s5 := x5, s6 := x6 } : Ask).c.k : Nat), .string ({ askZ with k := c0.toNat, v := n, s0 := x0, s1 := x1, s2 := x2, s3 := x3, s4 := x4, s5 := x5, s6 := x6 } : Ask).c.i, .string ({ askZ with k := c0.toNat, v := n, s0 := x0, s1 := x1, s2 := x2, s3 := x3, s4 := x4, s5 := x5, s6 := x6 } : Ask).c.t, .string ({ askZ with k := c0.toNat, v := n, s0 := x0, s1 := x1, s2 := x2, s3 := x3, s4 := x4, s5 := x5, s6 := x6 } : Ask).c.ut, .string ({ askZ with k := c0.toNat, v := n, s0 := x0, s1 := x1, s2 := x2, s3 := x3, s4 := x4, s5 := x5, s6 := x6 } : Ask).c.ui, .int .u64 (({ askZ with k := c0.toNat, v := n, s0 := x0, s1 := x1, s2 := x2, s3 := x3, s4 := x4, s5 := x5, s6 := x6 } : Ask).v : Nat), .string ({ askZ with k := c0.toNat, v := n, s0 := x0, s1 := x1, s2 := x2, s3 := x3, s4 := x4, s5 := x5, s6 := x6 } : Ask).s0, .string ({ askZ with k := c0.toNat, v := n, s0 := x0, s1 := x1, s2 := x2, s3 := x3, s4 := x4, s5 := x5, s6 := x6 } : Ask).s1, .string ({ askZ with k := c0.toNat, v := n, s0 := x0, s1 := x1, s2 := x2, s3 := x3, s4 := x4, s5 := x5, s6 := x6 } : Ask).s2, .string ({ askZ with k := c0.toNat, v := n, s0 := x0, s1 := x1, s2 := x2, s3 := x3, s4 := x4, s5 := x5, s6 := x6 } : Ask).s3, .string ({ askZ with k := c0.toNat, v := n, s0 := x0, s1 := x1, s2 := x2, s3 := x3, s4 := x4, s5 := x5, s6 := x6 } : Ask).s4, .string ({ askZ with k := c0.toNat, v := n, s0 := x0, s1 := x1, s2 := x2, s3 := x3, s4 := x4, s5 := x5, s6 := x6 } : Ask).s5, .string ({ askZ with k := c0.toNat, v := n, s0 := x0, s1 := x1, s2 := x2, s3 := x3, s4 := x4, s5 := x5, s6 := x6 } : Ask).s6] 30) at K
      rw [hb] at K
      clear hb
      clear hc8 hk hki hR hsm hap
      obtain ⟨k0, k1, k2, k3, k4, k5, k6, k7, k8, k9, k10, k11, k12, k13, k14, kf⟩ := fifteen K.out
      go_wp2_with fail
      refine (writeask_ref b _ hFb.out).mono ?_
      rintro e w2 ⟨⟨t, z, rfl, hW⟩, q3⟩
      replace K := hid (K.out.below q3 K.out.lt)
      replace R := hid (R.out.below q3 R.out.lt)
      replace bw := hid (bw.out.trans (q3.mono bw.out.size))
      clear q3 k0 k1 k2 k3 k4 k5 k6 k7 k8 k9 k10 k11 k12 k13 k14 kf
      by_cases hgood : okj = true ∧ z = 0 ∧ t = s
      · obtain ⟨g1, rfl, rfl⟩ := hgood
        subst g1
        have hP := hid (hit_yes hFb.out.1 hW rfl rfl)
        have F1 := hid (R.out.row [.int .u8 (b.k : Nat), .int .u64 (b.tx : Nat), .int .u8 (b.c.k : Nat), .string b.c.i, .string b.c.t, .string b.c.ut, .string b.c.ui, .int .u64 (b.v : Nat), .string b.s0, .string b.s1, .string b.s2, .string b.s3, .string b.s4, .string b.s5, .string b.s6])
        have F2 := hid (below_row bw.out hrb.out #[.int .u8 (b.k : Nat), .int .u64 (b.tx : Nat), .int .u8 (b.c.k : Nat), .string b.c.i, .string b.c.t, .string b.c.ut, .string b.c.ui, .int .u64 (b.v : Nat), .string b.s0, .string b.s1, .string b.s2, .string b.s3, .string b.s4, .string b.s5, .string b.s6])
        clear hW hit hFb
        have hss : (t.toList != t.toList) = false := by simp
        obtain ⟨k0, k1, k2, k3, k4, k5, k6, k7, k8, k9, k10, k11, k12, k13, k14, kf⟩ := fifteen K.out
        go_upto_region 33 with fail
        refine wp_region_lit ?_
        refine wpList_load_row rfl 30 (.tmp 4) rfl cb rfl 30 _ (0, 0) _ K.out.at' Try.underlying30 rfl (by kernel_rfl) ?_
        refine wpList_store_row rfl 30 (.tmp 2) (.tmp 138) rfl rb #[.int .u8 (b.k : Nat), .int .u64 (b.tx : Nat), .int .u8 (b.c.k : Nat), .string b.c.i, .string b.c.t, .string b.c.ut, .string b.c.ui, .int .u64 (b.v : Nat), .string b.s0, .string b.s1, .string b.s2, .string b.s3, .string b.s4, .string b.s5, .string b.s6] rfl rfl 30 _ R.out.at' (by kernel_rfl) rfl (by simp [Value.oneCell']) ?_
        generalize w2.setRow rb #[.int .u8 (b.k : Nat), .int .u64 (b.tx : Nat), .int .u8 (b.c.k : Nat), .string b.c.i, .string b.c.t, .string b.c.ut, .string b.c.ui, .int .u64 (b.v : Nat), .string b.s0, .string b.s1, .string b.s2, .string b.s3, .string b.s4, .string b.s5, .string b.s6] = W3 at F1 F2 ⊢
        go_wp2_with fail
        refine bodyPost_ret (v := .tuple #[.agg #[.int .u8 (b.k : Nat), .int .u64 (b.tx : Nat), .int .u8 (b.c.k : Nat), .string b.c.i, .string b.c.t, .string b.c.ut, .string b.c.ui, .int .u64 (b.v : Nat), .string b.s0, .string b.s1, .string b.s2, .string b.s3, .string b.s4, .string b.s5, .string b.s6], .int .i64 0]) (results_ct Try.results12 _ _ rb 30 _ (0, 0) _ rfl F1.out.at' Try.underlying30 rfl (by kernel_rfl)) rfl ?_
        exact ⟨⟨b, 0, rfl, hP.out⟩, F2.out⟩
      · have hP := hid (hit_no hit.out hW hgood)
        have F1 := hid (R.out.row [.int .u8 0, .int .u64 0, .int .u8 0, .string ⟨#[]⟩, .string ⟨#[]⟩, .string ⟨#[]⟩, .string ⟨#[]⟩, .int .u64 0, .string ⟨#[]⟩, .string ⟨#[]⟩, .string ⟨#[]⟩, .string ⟨#[]⟩, .string ⟨#[]⟩, .string ⟨#[]⟩, .string ⟨#[]⟩])
        have F2 := hid (below_row bw.out hrb.out #[.int .u8 0, .int .u64 0, .int .u8 0, .string ⟨#[]⟩, .string ⟨#[]⟩, .string ⟨#[]⟩, .string ⟨#[]⟩, .int .u64 0, .string ⟨#[]⟩, .string ⟨#[]⟩, .string ⟨#[]⟩, .string ⟨#[]⟩, .string ⟨#[]⟩, .string ⟨#[]⟩, .string ⟨#[]⟩])
        have hor : okj = false ∨ okj = true ∧ ¬ z = 0 ∨ okj = true ∧ z = 0 ∧ (t.toList == s.toList) = false := by
          by_cases h1 : okj = true
          · by_cases h2 : z = 0
            · refine .inr (.inr ⟨h1, h2, ?_⟩)
              rw [beq_eq_false_iff_ne, ne_eq, ByteArray.toList_eq, ByteArray.toList_eq]
              intro h3
              exact hgood ⟨h1, h2, by rw [← bs_of t, h3, bs_of]⟩
            · exact .inr (.inl ⟨h1, h2⟩)
          · exact .inl (by simpa using h1)
        clear hgood hW hit hFb K
        rcases hor with rfl | ⟨rfl, hz⟩ | ⟨rfl, rfl, ht⟩
        · skip
          go_upto_region 32 with fail
          refine wp_region_lit ?_
          refine wpList_build0 rfl 30 rfl #[.int .u8 0, .int .u64 0, .int .u8 0, .string ⟨#[]⟩, .string ⟨#[]⟩, .string ⟨#[]⟩, .string ⟨#[]⟩, .int .u64 0, .string ⟨#[]⟩, .string ⟨#[]⟩, .string ⟨#[]⟩, .string ⟨#[]⟩, .string ⟨#[]⟩, .string ⟨#[]⟩, .string ⟨#[]⟩] (by kernel_rfl) ?_
          refine wpList_store_row rfl 30 (.tmp 2) (.tmp 137) rfl rb #[.int .u8 0, .int .u64 0, .int .u8 0, .string ⟨#[]⟩, .string ⟨#[]⟩, .string ⟨#[]⟩, .string ⟨#[]⟩, .int .u64 0, .string ⟨#[]⟩, .string ⟨#[]⟩, .string ⟨#[]⟩, .string ⟨#[]⟩, .string ⟨#[]⟩, .string ⟨#[]⟩, .string ⟨#[]⟩] rfl rfl 30 _ R.out.at' (by kernel_rfl) rfl (by simp [Value.oneCell']) ?_
          generalize w2.setRow rb #[.int .u8 0, .int .u64 0, .int .u8 0, .string ⟨#[]⟩, .string ⟨#[]⟩, .string ⟨#[]⟩, .string ⟨#[]⟩, .int .u64 0, .string ⟨#[]⟩, .string ⟨#[]⟩, .string ⟨#[]⟩, .string ⟨#[]⟩, .string ⟨#[]⟩, .string ⟨#[]⟩, .string ⟨#[]⟩] = W3 at F1 F2 ⊢
          go_wp2_with fail
          refine bodyPost_ret (v := .tuple #[.agg #[.int .u8 0, .int .u64 0, .int .u8 0, .string ⟨#[]⟩, .string ⟨#[]⟩, .string ⟨#[]⟩, .string ⟨#[]⟩, .int .u64 0, .string ⟨#[]⟩, .string ⟨#[]⟩, .string ⟨#[]⟩, .string ⟨#[]⟩, .string ⟨#[]⟩, .string ⟨#[]⟩, .string ⟨#[]⟩], .int .i64 14]) (results_ct Try.results12 _ _ rb 30 _ (0, 0) _ rfl F1.out.at' Try.underlying30 rfl (by kernel_rfl)) rfl ?_
          exact ⟨⟨askZ, 14, rfl, hP.out⟩, F2.out⟩
        · skip
          go_upto_region 32 with fail
          refine wp_region_lit ?_
          refine wpList_build0 rfl 30 rfl #[.int .u8 0, .int .u64 0, .int .u8 0, .string ⟨#[]⟩, .string ⟨#[]⟩, .string ⟨#[]⟩, .string ⟨#[]⟩, .int .u64 0, .string ⟨#[]⟩, .string ⟨#[]⟩, .string ⟨#[]⟩, .string ⟨#[]⟩, .string ⟨#[]⟩, .string ⟨#[]⟩, .string ⟨#[]⟩] (by kernel_rfl) ?_
          refine wpList_store_row rfl 30 (.tmp 2) (.tmp 137) rfl rb #[.int .u8 0, .int .u64 0, .int .u8 0, .string ⟨#[]⟩, .string ⟨#[]⟩, .string ⟨#[]⟩, .string ⟨#[]⟩, .int .u64 0, .string ⟨#[]⟩, .string ⟨#[]⟩, .string ⟨#[]⟩, .string ⟨#[]⟩, .string ⟨#[]⟩, .string ⟨#[]⟩, .string ⟨#[]⟩] rfl rfl 30 _ R.out.at' (by kernel_rfl) rfl (by simp [Value.oneCell']) ?_
          generalize w2.setRow rb #[.int .u8 0, .int .u64 0, .int .u8 0, .string ⟨#[]⟩, .string ⟨#[]⟩, .string ⟨#[]⟩, .string ⟨#[]⟩, .int .u64 0, .string ⟨#[]⟩, .string ⟨#[]⟩, .string ⟨#[]⟩, .string ⟨#[]⟩, .string ⟨#[]⟩, .string ⟨#[]⟩, .string ⟨#[]⟩] = W3 at F1 F2 ⊢
          go_wp2_with fail
          refine bodyPost_ret (v := .tuple #[.agg #[.int .u8 0, .int .u64 0, .int .u8 0, .string ⟨#[]⟩, .string ⟨#[]⟩, .string ⟨#[]⟩, .string ⟨#[]⟩, .int .u64 0, .string ⟨#[]⟩, .string ⟨#[]⟩, .string ⟨#[]⟩, .string ⟨#[]⟩, .string ⟨#[]⟩, .string ⟨#[]⟩, .string ⟨#[]⟩], .int .i64 14]) (results_ct Try.results12 _ _ rb 30 _ (0, 0) _ rfl F1.out.at' Try.underlying30 rfl (by kernel_rfl)) rfl ?_
          exact ⟨⟨askZ, 14, rfl, hP.out⟩, F2.out⟩
        · skip
          go_upto_region 32 with fail
          refine wp_region_lit ?_
          refine wpList_build0 rfl 30 rfl #[.int .u8 0, .int .u64 0, .int .u8 0, .string ⟨#[]⟩, .string ⟨#[]⟩, .string ⟨#[]⟩, .string ⟨#[]⟩, .int .u64 0, .string ⟨#[]⟩, .string ⟨#[]⟩, .string ⟨#[]⟩, .string ⟨#[]⟩, .string ⟨#[]⟩, .string ⟨#[]⟩, .string ⟨#[]⟩] (by kernel_rfl) ?_
          refine wpList_store_row rfl 30 (.tmp 2) (.tmp 137) rfl rb #[.int .u8 0, .int .u64 0, .int .u8 0, .string ⟨#[]⟩, .string ⟨#[]⟩, .string ⟨#[]⟩, .string ⟨#[]⟩, .int .u64 0, .string ⟨#[]⟩, .string ⟨#[]⟩, .string ⟨#[]⟩, .string ⟨#[]⟩, .string ⟨#[]⟩, .string ⟨#[]⟩, .string ⟨#[]⟩] rfl rfl 30 _ R.out.at' (by kernel_rfl) rfl (by simp [Value.oneCell']) ?_
          generalize w2.setRow rb #[.int .u8 0, .int .u64 0, .int .u8 0, .string ⟨#[]⟩, .string ⟨#[]⟩, .string ⟨#[]⟩, .string ⟨#[]⟩, .int .u64 0, .string ⟨#[]⟩, .string ⟨#[]⟩, .string ⟨#[]⟩, .string ⟨#[]⟩, .string ⟨#[]⟩, .string ⟨#[]⟩, .string ⟨#[]⟩] = W3 at F1 F2 ⊢
          go_wp2_with fail
          refine bodyPost_ret (v := .tuple #[.agg #[.int .u8 0, .int .u64 0, .int .u8 0, .string ⟨#[]⟩, .string ⟨#[]⟩, .string ⟨#[]⟩, .string ⟨#[]⟩, .int .u64 0, .string ⟨#[]⟩, .string ⟨#[]⟩, .string ⟨#[]⟩, .string ⟨#[]⟩, .string ⟨#[]⟩, .string ⟨#[]⟩, .string ⟨#[]⟩], .int .i64 14]) (results_ct Try.results12 _ _ rb 30 _ (0, 0) _ rfl F1.out.at' Try.underlying30 rfl (by kernel_rfl)) rfl ?_
          exact ⟨⟨askZ, 14, rfl, hP.out⟩, F2.out⟩
end Go.Proofs.Ytldlkoiekdlmhaa.Wi
