/-
  lictortop.TopImages: for every input that can be read the function returns true, and its arguments read as before. No condition.
-/
import Derived.Test.YtiagjjbcngchpaaSectorLives
import Derived.Test.YtiagjjbcngchpaaCrcCore
import Derived.Test.YtiagjjbcngchpaaRecHd
import Derived.Test.YtiagjjbcngchpaaSlotSaved2
import Derived.Test.YtiagjjbcngchpaaRows
import Derived.Test.YtiagjjbcngchpaaSectorOpen
import Derived.Test.YtiagjjbcngchpaaSlotAll
import Derived.WalkKit
import Derived.ProofKit
import Derived.OpenShut
import Derived.ShutString
import Derived.ChangeOld
import Derived.Below
import Derived.SizedLaws
namespace Go.Proofs.Ytiagjjbcngchpaa.Top
open Go.ChangeShapes Go.WideShapes Go.ChangeAt Go.RowKit
open Go.Proofs.Ytiagjjbcngchpaa.Mem Go.Proofs.Ytiagjjbcngchpaa.Sector
set_option linter.unusedVariables false
set_option maxRecDepth 100000
set_option maxHeartbeats 1000000 in
theorem begins_any (w : World) : Calls Try.prog 28 #[] w fun e w' => e = .returned (.bool true) ∧ Below w.heap.size w w' := by
  go_enter Try.func28, Try.ntmps28
  go_wp2_with fail
  refine (new_any 1 _).mono ?_
  rintro e w1 hr
  unfold newE at hr
  rw [if_neg (by decide)] at hr
  obtain ⟨s2, sc2, p2, pc2, rfl, o2, b2⟩ := hr.open
  dsimp only at o2
  have h2 := hid b2
  have hl1 : (List.replicate (Int.toNat 1) Sector.blank).length = 1 := by simp
  dsimp only
  rw [hl1]
  have B2 := Blk.new w1 [.slice s2 1 sc2, .slice p2 0 pc2, .bool false, .int .i64 (-1)] 25
  have B2' := hid B2
  clear hr o2 b2 hl1 B2
  obtain ⟨d0, d1, d2, d3, df⟩ := B2'.out.four
  have hk : ((CrcMath.more 0 [49, 50, 51, 52, 53, 54, 55, 56, 57] : Nat) : Int) = 3421780262 := by rw [CrcMath.sum_check]; rfl
  have hk' := hid hk
  clear hk
  go_wp2_with fail
  refine (Crc.sum_any _ _ (by decide)).mono ?_
  rintro e w3 ⟨rfl, b3⟩
  have B3 := (show Blk _ w1.heap.size _ _ from B2'.out).below b3 (by simp)
  have h3 := hid (bt (h2.out.alloc h2.out.size _) b3)
  clear d0 d1 d2 d3 df b3
  obtain ⟨d0, d1, d2, d3, df⟩ := B3.four
  clear B3
  have hk2 := hk'.out
  rw [show (⟨#[49, 50, 51, 52, 53, 54, 55, 56, 57]⟩ : ByteArray).data.toList = [49, 50, 51, 52, 53, 54, 55, 56, 57] from rfl, hk2]
  clear hk2
  go_wp2_with fail
  go_ret
  exact ⟨rfl, h3.out⟩
def IntsV (w : World) (v : Value) (l : List Int) : Prop := SlV w v l.length (l.map (Value.int .i64))
theorem IntsV.below {w w' : World} {v : Value} {l : List Int} (h : IntsV w v l) (hb : Below w.heap.size w w') : IntsV w' v l := SlV.below h hb
theorem IntsV.open {w : World} {v : Value} {l : List Int} (h : IntsV w v l) (hc : 0 < l.length) :
    ∃ b off cap, v = .slice (some ⟨b, off, none⟩) l.length cap ∧ l.length ≤ cap ∧ cap ≤ maxLen ∧ b < w.heap.size ∧ ∀ j (h : j < l.length), w.cell? ⟨b, off + j, none⟩ = some (.int .i64 l[j]) := by
  obtain ⟨b, off, cap, h1, h2, h3, h4, h5⟩ := SlV.open h (by simpa using hc)
  exact ⟨b, off, cap, h1, h2, h3, h4, fun j hj => by rw [h5 j (by simpa using hj)]; simp⟩
theorem open_ints' {H : Type} {enc : TypeId × Value → H} {W : World} {n : Nat} {v : Value} {x : DataW H × List MemPlace} (h : DataW.trod enc Try.prog W 0 (fun _ => true) true n 64 [v] = some x) : ∃ l, IntsV W v l ∧ ∀ n ∈ l, (Lit.int .i64 n).wf = true := by
  rcases open_ints Try.underlying64 Try.underlying3 (by kernel_rfl) h with ⟨hcs, _⟩ | ⟨a, len, cap, zs, hcs, _, hl, hm, hzs, _, hc, hz⟩
  · obtain rfl : v = .slice none 0 0 := by simpa using hcs
    exact ⟨[], SlV.nil W, by simp⟩
  · obtain rfl : v = .slice (some a) len cap := by simpa using hcs
    simp only [if_true] at hzs
    have hlen : (zs.take len).length = len := by rw [List.length_take]; omega
    refine ⟨zs.take len, ⟨some a, cap, by rw [hlen], by rw [hlen]; exact hl, hm, by simp, fun h => ?_, fun b hb j hj => ?_⟩, fun s hs => hz s (List.mem_of_mem_take hs)⟩
    · rw [hlen] at h; subst h; simp
    · cases hb
      have hj' : j < len := by rw [List.length_map, hlen] at hj; exact hj
      rw [hc j (by omega)]
      simp [List.getD, show j < zs.length by omega]
end Go.Proofs.Ytiagjjbcngchpaa.Top
namespace Go.Proofs.Ytiagjjbcngchpaa.topImages
open Go.ChangeShapes Go.WideShapes Go.ChangeAt Go.RowKit
open Go.Proofs.Ytiagjjbcngchpaa.Mem Go.Proofs.Ytiagjjbcngchpaa.Rec Go.Proofs.Ytiagjjbcngchpaa.Sector Go.Proofs.Ytiagjjbcngchpaa.Wal Go.Proofs.Ytiagjjbcngchpaa.Slot
set_option linter.unusedVariables false
set_option linter.unusedSimpArgs false
set_option maxRecDepth 100000
theorem _root_.Go.Proofs.Ytiagjjbcngchpaa.Mem.Bag.refuse2 {w0 w : World} {L : List Bx} {O : List Dk} (h : Bag w0 w L O) {sv pv : Value} {d : Disk} (k : Nat) (hk : O[k]? = some ⟨sv, pv, d⟩) (f : Int) : Bag w0 w L [⟨sv, pv, ⟨d.secs, d.pend, d.off, f⟩⟩] :=
  ⟨h.bel, h.up, h.ge, h.at', fun o ho => by
    rw [List.mem_singleton] at ho
    subst ho
    have := h.own ⟨sv, pv, d⟩ (List.mem_of_getElem? hk)
    exact ⟨this.secs, this.far⟩⟩
theorem _root_.Go.Proofs.Ytiagjjbcngchpaa.Slot.St.loads {d : Disk} {a b : Rg} {last : Im} (s : St d a b last) : ∃ (j : Nat) (C : Int), loadE d a b = ⟨last, j, C⟩ ∧ (C = 9 ∧ decide (0 < last.epoch) = false ∨ C = 0 ∧ decide (0 < last.epoch) = true) := by
  obtain ⟨j, _, h⟩ := s.load
  by_cases hz : last.epoch = 0
  · rw [if_pos hz] at h
    exact ⟨j, 9, h, .inl ⟨rfl, by rw [hz]; rfl⟩⟩
  · rw [if_neg hz] at h
    exact ⟨j, 0, h, .inr ⟨rfl, by rw [decide_eq_true_iff]; omega⟩⟩
set_option maxHeartbeats 16000000 in
theorem walk (a0 : Int) (v1 : Value) (l : List ByteArray) (v2 : Value) (fz : List Int) (v3 : Value) (kp : List Bool) (w : World) (w0 : (Lit.int .i64 a0).wf = true) (w1 : StrsV w v1 l) (s1 : ∀ s ∈ l, s.size ≤ maxLen) (w2 : Top.IntsV w v2 fz) (s2 : ∀ n ∈ fz, (Lit.int .i64 n).wf = true) (w3 : BoolsV w v3 kp) :
    Calls Try.prog 9 #[.int .i64 a0, v1, v2, v3] w fun e w' => e = .returned (.bool true) ∧ Below w.heap.size w w' := by
  obtain ⟨ko, kcap, rfl, _⟩ := SlV.form w3
  obtain ⟨vo, vcap, rfl, hv2, hv3⟩ := SlV.form w1
  obtain ⟨fo, fcap, rfl, hf2, hf3⟩ := SlV.form w2
  have hkp := hid w3
  have hvs := hid w1
  have hss := hid s1
  have hfz := hid w2
  have hfzw := hid s2
  have hb0 := bounds_i64 w0
  unfold maxLen at hv3 hf3
  have hnl : (l.length : Int) ≤ 9223372036854775807 := by omega
  have hnf : (fz.length : Int) ≤ 9223372036854775807 := by omega
  clear w0 w1 s1 hv2 hv3 w3 w2 s2 hf2 hf3
  go_enter Try.func9, Try.ntmps9
  go_wp2_with fail
  refine (Top.begins_any _).mono ?_
  rintro e w1 ⟨rfl, b1⟩
  have hb := hid b1
  clear b1
  by_cases hsz : a0 < 1 ∨ 100 < a0 ∨ 40 < l.length
  · rcases (by omega : a0 < 1 ∨ (¬ a0 < 1 ∧ a0 > 100) ∨ (¬ a0 < 1 ∧ ¬ a0 > 100 ∧ (l.length : Int) > 40)) with h1 | ⟨h1, h2⟩ | ⟨h1, h2, h3⟩
    all_goals
      go_wp2_with fail
      go_ret
      exact ⟨rfl, hb.out⟩
  · obtain ⟨S, rfl⟩ : ∃ S : Nat, a0 = S := ⟨a0.toNat, by omega⟩
    have hS1 : 1 ≤ S := by omega
    have hS2 : S ≤ 512 := by omega
    have i1 : ¬ (S : Int) < 1 := by omega
    have i2 : ¬ (S : Int) > 100 := by omega
    have i3 : ¬ (l.length : Int) > 40 := by omega
    have hnew := hid (fun W => fresh_new hS1 hS2 ▸ new_any (2 * (S : Int)) W)
    have hwr : IntKind.i64.wrap (2 * (S : Int)) = 2 * (S : Int) := by rw [IntWalk.i64_in _ (by omega)]
    have hSt0 := hid (St.start hS1 hS2)
    have M := hid (Bag.of hb.out)
    clear hb hb0 hsz
    go_wp2_with fail
    refine (hnew.out _).mono ?_
    rintro e w2 hr
    obtain ⟨so, sc, po, pc, rfl, o2, b9⟩ := hr.open
    dsimp only at o2
    replace M := hid (M.out.res o2 b9)
    clear hr hnew hwr o2 b9
    have hrA := hid (show Rg.has ⟨0, S⟩ from ⟨by simp, by simp, by show (-9223372036854775808 : Int) ≤ (S : Int); omega, by show (S : Int) ≤ 9223372036854775807; omega⟩)
    have hrB := hid (show Rg.has ⟨S, S⟩ from ⟨by show (-9223372036854775808 : Int) ≤ (S : Int); omega, by show (S : Int) ≤ 9223372036854775807; omega, by show (-9223372036854775808 : Int) ≤ (S : Int); omega, by show (S : Int) ≤ 9223372036854775807; omega⟩)
    generalize fresh S = dd at hSt0 M ⊢
    dsimp only
    go_upto_region 6 with fail
    replace M := hid (M.out.push [.slice so dd.secs.length sc, .slice po dd.pend.length pc, .bool dd.off, .int .i64 dd.fuse] 25 w2.heap.size rfl)
    generalize w2.alloc (.cells #[.slice so dd.secs.length sc, .slice po dd.pend.length pc, .bool dd.off, .int .i64 dd.fuse] 25) = X2 at M ⊢
    generalize w2.heap.size = n0 at M ⊢
    go_upto_region 8 with fail
    replace M := hid (((M.out.push [.int .i64 0, .int .i64 (S : Nat)] 27 X2.heap.size rfl).push [.int .i64 (S : Nat), .int .i64 (S : Nat)] 27 (X2.heap.size + 1) (by simp)).push [.int .u64 0, .string ⟨#[]⟩] 56 (X2.heap.size + 2) (by simp))
    generalize ((X2.alloc (.cells #[.int .i64 0, .int .i64 (S : Nat)] 27)).alloc (.cells #[.int .i64 (S : Nat), .int .i64 (S : Nat)] 27)).alloc (.cells #[.int .u64 0, .string ⟨#[]⟩] 56) = X3 at M ⊢
    generalize X2.heap.size = n1 at M ⊢
    go_wp2_with fail
    go_loopw [52] (fun i wr => ∃ (k : Nat) (d : Disk) (was : Im) (so : Option Addr) (sc : Nat) (po : Option Addr) (pc : Nat), k ≤ l.length ∧ i = .int .i64 k ∧ Hid (St d ⟨0, S⟩ ⟨S, S⟩ was) ∧ Hid was.has ∧ was.epoch ≤ k ∧ Hid (Bag w wr [⟨n0, [.slice so d.secs.length sc, .slice po d.pend.length pc, .bool d.off, .int .i64 d.fuse], 25⟩, ⟨n1, [.int .i64 0, .int .i64 (S : Nat)], 27⟩, ⟨n1 + 1, [.int .i64 (S : Nat), .int .i64 (S : Nat)], 27⟩, ⟨n1 + 2, [.int .u64 (was.epoch : Nat), .string was.pay], 56⟩] [⟨.slice so d.secs.length sc, .slice po d.pend.length pc, d⟩])) (fun i _ => l.length - (intOf i).toNat)
    case atStart => exact ⟨0, dd, zeroIm, so, sc, po, pc, by omega, rfl, hSt0, hid ⟨by decide, by decide⟩, by decide, M⟩
    case round =>
      clear M hSt0
      obtain ⟨k, d, was, so, sc, po, pc, hk, rfl, hSt, hwh, hwe, M⟩ := hrel
      by_cases hlt : k < l.length
      · obtain ⟨tb, toff, tcap', hv, _, _, htb, htc⟩ := StrsV.open hvs.out (by omega)
        simp only [Value.slice.injEq] at hv
        obtain ⟨rfl, -, rfl⟩ := hv
        have tc := (M.out.bel.cell (p := ⟨tb, toff + k, none⟩) htb).trans (htc k hlt)
        have hki : (k : Int) < (l.length : Int) := by omega
        have hk6 : (k : Int) ≤ 40 := by omega
        have hk0 : (0 : Int) ≤ (k : Int) := by omega
        have hwi : (was.epoch : Int) ≤ 40 := by omega
        have hps := hss.out l[k] (List.getElem_mem hlt)
        clear htc
        generalize l[k] = p at tc hps
        have w5 : IntKind.u64.wrap ((was.epoch : Int) + 1) = (was.epoch : Int) + 1 := by rw [IntWalk.u64_in _ (by omega)]
        obtain ⟨n, hn⟩ : ∃ n : Im, n = ⟨was.epoch + 1, p⟩ := ⟨_, rfl⟩
        have hnh := hid (show n.has by rw [hn]; exact ⟨by show was.epoch + 1 < _; omega, by unfold maxLen at hps; exact hps⟩)
        have hne := hid (show n.epoch = was.epoch + 1 by rw [hn])
        obtain ⟨secs, pend, off, fu⟩ := d
        dsimp only at M
        obtain ⟨m0, m1, mf⟩ := (M.out.get 3 rfl).two
        go_upto_region 12 with fail
        clear tc
        have hE : ((was.epoch : Int) + 1) = ((n.epoch : Nat) : Int) := by have := hne.out; omega
        have hP : p = n.pay := by rw [hn]
        rw [hE, hP]
        clear hE hP hn w5 hps
        clear m0 m1 mf
        replace M := hid (M.out.push [.int .u64 (n.epoch : Nat), .string n.pay] 56 wr.heap.size rfl)
        generalize wr.alloc (.cells #[.int .u64 (n.epoch : Nat), .string n.pay] 56) = X1 at M ⊢
        generalize wr.heap.size = n4 at M ⊢
        obtain ⟨d0, d1, d2, d3, df⟩ := (M.out.get 0 rfl).four
        go_upto_region 13 with fail
        clear d0 d1 d2 d3 df
        replace M := hid (M.out.put 0 rfl (by decide) (by decide) 3 (.int .i64 (-1)))
        generalize X1.setCell ⟨n0, 3, none⟩ (.int .i64 (-1)) = X2 at M ⊢
        by_cases hkf : k < fz.length
        · obtain ⟨fb, foff, fcap', hv, _, _, hfb, hfc⟩ := Top.IntsV.open hfz.out (by omega)
          simp only [Value.slice.injEq] at hv
          obtain ⟨rfl, -, rfl⟩ := hv
          have tc := (M.out.bel.cell (p := ⟨fb, foff + k, none⟩) hfb).trans (hfc k hkf)
          have hkfi : (k : Int) < (fz.length : Int) := by omega
          have hfw := hfzw.out fz[k] (List.getElem_mem hkf)
          clear hfc
          generalize fz[k] = q at tc hfw
          replace hfw := hid hfw
          obtain ⟨d0, d1, d2, d3, df⟩ := (M.out.get 0 rfl).four
          go_upto_region 15 with fail
          have hff := hid (show (Lit.int .i64 (max q (-1))).wf = true from WalkArith.wf_i64 (by have := bounds_i64 hfw.out; omega))
          clear d0 d1 d2 d3 df
          replace M := hid (M.out.put 0 rfl (by decide) (by decide) 3 (.int .i64 (max q (-1))))
          generalize X2.setCell ⟨n0, 3, none⟩ (.int .i64 (max q (-1))) = X3 at M ⊢
          generalize max q (-1) = f at M hff ⊢
          clear tc hfw
          replace M := hid (M.out.refuse2 0 rfl f)
          dsimp only at M
          have hsv := hid (fun v W (h : DiskV W v ⟨secs, pend, off, f⟩) => save_any ⟨secs, pend, off, f⟩ v ⟨0, S⟩ ⟨S, S⟩ n W h hff.out hrA.out hrB.out hnh.out)
          rw [show rgV ⟨0, S⟩ = .agg #[.int .i64 0, .int .i64 (S : Nat)] from rfl, show rgV ⟨S, S⟩ = .agg #[.int .i64 (S : Nat), .int .i64 (S : Nat)] from rfl] at hsv
          rw [show imV n = .agg #[.int .u64 (n.epoch : Nat), .string n.pay] from rfl] at hsv
          have hcase := hid (St.save (hSt.out.fuse f) (by rw [hne.out]; omega) hnh.out.1 kp)
          dsimp only at hcase
          obtain ⟨Y, hY⟩ : ∃ Y, saveE ⟨secs, pend, off, f⟩ ⟨0, S⟩ ⟨S, S⟩ n = Y := ⟨_, rfl⟩
          rw [hY] at hsv hcase
          replace hY := hid hY
          obtain ⟨x, c⟩ := Y
          obtain ⟨a0, a1, af⟩ := (M.out.get 1 rfl).two
          obtain ⟨b0, b1, bf⟩ := (M.out.get 2 rfl).two
          obtain ⟨d0, d1, d2, d3, df⟩ := (M.out.get 0 rfl).four
          obtain ⟨m0, m1, mf⟩ := (M.out.get 4 rfl).two
          go_wp2_with fail
          clear a0 a1 af b0 b1 bf d0 d1 d2 d3 df m0 m1 mf
          (with_reducible refine (hsv.out _ _ (M.out.view 0 rfl)).mono ?_)
          rintro e3 w3 hr
          obtain ⟨so4, sc4, po4, pc4, rfl, o4, b4⟩ := hr.open
          dsimp only at o4
          replace M := hid (M.out.res o4 b4)
          clear hr hsv o4 b4
          dsimp only
          go_upto_region 16 with fail
          replace M := hid (M.out.push [.slice so4 x.secs.length sc4, .slice po4 x.pend.length pc4, .bool x.off, .int .i64 x.fuse] 25 w3.heap.size rfl)
          generalize w3.alloc (.cells #[.slice so4 x.secs.length sc4, .slice po4 x.pend.length pc4, .bool x.off, .int .i64 x.fuse] 25) = X4 at M ⊢
          generalize w3.heap.size = n5 at M ⊢
          rcases hcase.out with ⟨h1, h2⟩ | ⟨h1, hok, h2⟩
          · have hs := hid (show St x ⟨0, S⟩ ⟨S, S⟩ was by rw [show x = ⟨secs, pend, off, f⟩ from h2]; exact hSt.out.fuse f)
            clear hcase h2 hY hSt
            rcases (show c = 3 ∨ c = 17 from h1) with rfl | rfl
            all_goals
              obtain ⟨e0, e1, e2, e3, ef⟩ := (M.out.get 5 rfl).four
              obtain ⟨d0, d1, d2, d3, df⟩ := (M.out.get 0 rfl).four
              go_upto_region 26 with fail
              clear e0 e1 e2 e3 ef d0 d1 d2 d3 df
              replace M := hid ((((M.out.put 0 rfl (by decide) (by decide) 0 (.slice so4 x.secs.length sc4)).put 0 rfl (by decide) (by decide) 1 (.slice po4 x.pend.length pc4)).put 0 rfl (by decide) (by decide) 2 (.bool x.off)).put 0 rfl (by decide) (by decide) 3 (.int .i64 x.fuse))
              generalize (((X4.setCell ⟨n0, 0, none⟩ (.slice so4 x.secs.length sc4)).setCell ⟨n0, 1, none⟩ (.slice po4 x.pend.length pc4)).setCell ⟨n0, 2, none⟩ (.bool x.off)).setCell ⟨n0, 3, none⟩ (.int .i64 x.fuse) = T1 at M ⊢
              obtain ⟨d0, d1, d2, d3, df⟩ := (M.out.get 0 rfl).four
              go_upto_region 27 with fail
              clear d0 d1 d2 d3 df
              replace M := hid (M.out.put 0 rfl (by decide) (by decide) 3 (.int .i64 (-1)))
              generalize T1.setCell ⟨n0, 3, none⟩ (.int .i64 (-1)) = T2 at M ⊢
              replace M := hid (M.out.refuse2 1 rfl (-1))
              replace hs := hid (hs.out.fuse (-1))
              obtain ⟨j, C, hl, hC⟩ := hs.out.loads
              have hld := hid (fun v W (h : DiskV W v ⟨x.secs, x.pend, x.off, -1⟩) => hl ▸ load_any ⟨x.secs, x.pend, x.off, -1⟩ v ⟨0, S⟩ ⟨S, S⟩ W h hrA.out hrB.out)
              rw [show rgV ⟨0, S⟩ = .agg #[.int .i64 0, .int .i64 (S : Nat)] from rfl, show rgV ⟨S, S⟩ = .agg #[.int .i64 (S : Nat), .int .i64 (S : Nat)] from rfl] at hld
              clear hl
              obtain ⟨a0, a1, af⟩ := (M.out.get 1 rfl).two
              obtain ⟨b0, b1, bf⟩ := (M.out.get 2 rfl).two
              obtain ⟨d0, d1, d2, d3, df⟩ := (M.out.get 0 rfl).four
              go_wp2_with fail
              clear a0 a1 af b0 b1 bf d0 d1 d2 d3 df
              (with_reducible refine (hld.out _ _ (M.out.view 0 rfl)).mono ?_)
              rintro e8 w8 ⟨rfl, b8⟩
              replace M := hid (M.out.below b8)
              clear b8 hld
              unfold imV
              try dsimp only
              go_upto_region 28 with fail
              replace M := hid (M.out.push [.int .u64 (was.epoch : Nat), .string was.pay] 56 w8.heap.size rfl)
              generalize w8.alloc (.cells #[.int .u64 (was.epoch : Nat), .string was.pay] 56) = T3 at M ⊢
              generalize w8.heap.size = g8 at M ⊢
              have hpp : (was.pay.toList == was.pay.toList) = true := by simp
              obtain ⟨g0, g1, gf⟩ := (M.out.get 6 rfl).two
              obtain ⟨m0, m1, mf⟩ := (M.out.get 3 rfl).two
              rcases hC with ⟨rfl, hd⟩ | ⟨rfl, hd⟩
              all_goals
                go_wp2_with fail
                go_roundw
                case rel => exact ⟨k + 1, ⟨x.secs, x.pend, x.off, -1⟩, was, so4, sc4, po4, pc4, by omega, by go_num, hs, hwh, by omega, hid (M.out.cut 4 0 1)⟩
                case measure => simp [intOf]; omega
          · rcases (show c = 0 ∨ c = 15 from h1) with rfl | rfl
            · rcases h2 with hs | ⟨hcc, hs⟩
              · replace hs := hid (St.kept hnh.out.1 hY.out kp hs)
                clear hcase hY hSt
                obtain ⟨m0, m1, mf⟩ := (M.out.get 4 rfl).two
                obtain ⟨v0, v1, vf⟩ := (M.out.get 3 rfl).two
                go_upto_region 25 with fail
                clear m0 m1 mf v0 v1 vf
                replace M := hid ((M.out.put 3 rfl (by decide) (by decide) 0 (.int .u64 (n.epoch : Nat))).put 3 rfl (by decide) (by decide) 1 (.string n.pay))
                generalize (X4.setCell ⟨n1 + 2, 0, none⟩ (.int .u64 (n.epoch : Nat))).setCell ⟨n1 + 2, 1, none⟩ (.string n.pay) = X5 at M ⊢
                obtain ⟨e0, e1, e2, e3, ef⟩ := (M.out.get 5 rfl).four
                obtain ⟨d0, d1, d2, d3, df⟩ := (M.out.get 0 rfl).four
                go_upto_region 26 with fail
                clear e0 e1 e2 e3 ef d0 d1 d2 d3 df
                replace M := hid ((((M.out.put 0 rfl (by decide) (by decide) 0 (.slice so4 x.secs.length sc4)).put 0 rfl (by decide) (by decide) 1 (.slice po4 x.pend.length pc4)).put 0 rfl (by decide) (by decide) 2 (.bool x.off)).put 0 rfl (by decide) (by decide) 3 (.int .i64 x.fuse))
                generalize (((X5.setCell ⟨n0, 0, none⟩ (.slice so4 x.secs.length sc4)).setCell ⟨n0, 1, none⟩ (.slice po4 x.pend.length pc4)).setCell ⟨n0, 2, none⟩ (.bool x.off)).setCell ⟨n0, 3, none⟩ (.int .i64 x.fuse) = T1 at M ⊢
                obtain ⟨d0, d1, d2, d3, df⟩ := (M.out.get 0 rfl).four
                go_upto_region 27 with fail
                clear d0 d1 d2 d3 df
                replace M := hid (M.out.put 0 rfl (by decide) (by decide) 3 (.int .i64 (-1)))
                generalize T1.setCell ⟨n0, 3, none⟩ (.int .i64 (-1)) = T2 at M ⊢
                replace M := hid (M.out.refuse2 1 rfl (-1))
                replace hs := hid (hs.out.fuse (-1))
                obtain ⟨j, C, hl, hC⟩ := hs.out.loads
                have hld := hid (fun v W (h : DiskV W v ⟨x.secs, x.pend, x.off, -1⟩) => hl ▸ load_any ⟨x.secs, x.pend, x.off, -1⟩ v ⟨0, S⟩ ⟨S, S⟩ W h hrA.out hrB.out)
                rw [show rgV ⟨0, S⟩ = .agg #[.int .i64 0, .int .i64 (S : Nat)] from rfl, show rgV ⟨S, S⟩ = .agg #[.int .i64 (S : Nat), .int .i64 (S : Nat)] from rfl] at hld
                clear hl
                obtain ⟨a0, a1, af⟩ := (M.out.get 1 rfl).two
                obtain ⟨b0, b1, bf⟩ := (M.out.get 2 rfl).two
                obtain ⟨d0, d1, d2, d3, df⟩ := (M.out.get 0 rfl).four
                go_wp2_with fail
                clear a0 a1 af b0 b1 bf d0 d1 d2 d3 df
                (with_reducible refine (hld.out _ _ (M.out.view 0 rfl)).mono ?_)
                rintro e8 w8 ⟨rfl, b8⟩
                replace M := hid (M.out.below b8)
                clear b8 hld
                unfold imV
                try dsimp only
                go_upto_region 28 with fail
                replace M := hid (M.out.push [.int .u64 (n.epoch : Nat), .string n.pay] 56 w8.heap.size rfl)
                generalize w8.alloc (.cells #[.int .u64 (n.epoch : Nat), .string n.pay] 56) = T3 at M ⊢
                generalize w8.heap.size = g8 at M ⊢
                have hpp : (n.pay.toList == n.pay.toList) = true := by simp
                obtain ⟨g0, g1, gf⟩ := (M.out.get 6 rfl).two
                obtain ⟨m0, m1, mf⟩ := (M.out.get 3 rfl).two
                rcases hC with ⟨rfl, hd⟩ | ⟨rfl, hd⟩
                all_goals
                  go_wp2_with fail
                  go_roundw
                  case rel => exact ⟨k + 1, ⟨x.secs, x.pend, x.off, -1⟩, n, so4, sc4, po4, pc4, by omega, by go_num, hs, hnh, by have := hne.out; omega, hid (M.out.cut 4 0 1)⟩
                  case measure => simp [intOf]; omega
              · exact absurd (show (0 : Int) = 15 from hcc) (by decide)
            · obtain ⟨y, hy⟩ : ∃ y, crashD x kp = y := ⟨_, rfl⟩
              have hcr := hid (fun v u W (h : DiskV W v x) (g : BoolsV W u kp) => (show crashE x kp = (y, 0) by unfold crashE; rw [if_pos hok, hy]) ▸ crash_any x v u kp W h g)
              rw [hy] at h2
              clear hcase hy hok hY hSt
              obtain ⟨e0, e1, e2, e3, ef⟩ := (M.out.get 5 rfl).four
              go_wp2_with fail
              (with_reducible refine (hcr.out _ _ _ (M.out.view 1 rfl) (hkp.out.below M.out.bel)).mono ?_)
              rintro e5 w5 hr
              obtain ⟨so5, sc5, po5, pc5, rfl, o5, b5⟩ := hr.open
              dsimp only at o5
              replace M := hid (M.out.res o5 b5)
              clear hr hcr o5 b5
              clear e0 e1 e2 e3 ef
              obtain ⟨e0, e1, e2, e3, ef⟩ := (M.out.get 5 rfl).four
              dsimp only
              go_upto_region 18 with fail
              clear e0 e1 e2 e3 ef
              replace M := hid ((((M.out.put 5 rfl (by decide) (by decide) 0 (.slice so5 y.secs.length sc5)).put 5 rfl (by decide) (by decide) 1 (.slice po5 y.pend.length pc5)).put 5 rfl (by decide) (by decide) 2 (.bool y.off)).put 5 rfl (by decide) (by decide) 3 (.int .i64 y.fuse))
              generalize (((w5.setCell ⟨n5, 0, none⟩ (.slice so5 y.secs.length sc5)).setCell ⟨n5, 1, none⟩ (.slice po5 y.pend.length pc5)).setCell ⟨n5, 2, none⟩ (.bool y.off)).setCell ⟨n5, 3, none⟩ (.int .i64 y.fuse) = X5 at M ⊢
              obtain ⟨e0, e1, e2, e3, ef⟩ := (M.out.get 5 rfl).four
              obtain ⟨a0, a1, af⟩ := (M.out.get 1 rfl).two
              obtain ⟨b0, b1, bf⟩ := (M.out.get 2 rfl).two
              go_wp2_with fail
              rcases h2 with hs | ⟨hcc, hs⟩
              · obtain ⟨j0, C0, hl, hC0⟩ := hs.loads
                rcases hC0 with ⟨rfl, hd0⟩ | ⟨rfl, hd0⟩
                · exact absurd (show 0 < n.epoch by have := hne.out; omega) (of_decide_eq_false hd0)
                · have hld := hid (fun v W (h : DiskV W v y) => hl ▸ load_any y v ⟨0, S⟩ ⟨S, S⟩ W h hrA.out hrB.out)
                  rw [show rgV ⟨0, S⟩ = .agg #[.int .i64 0, .int .i64 (S : Nat)] from rfl, show rgV ⟨S, S⟩ = .agg #[.int .i64 (S : Nat), .int .i64 (S : Nat)] from rfl] at hld
                  clear hl
                  replace hs := hid hs
                  (with_reducible refine (hld.out _ _ (M.out.view 2 rfl)).mono ?_)
                  rintro e6 w6 ⟨rfl, b6⟩
                  replace M := hid (M.out.below b6)
                  clear b6 hld
                  clear e0 e1 e2 e3 ef a0 a1 af b0 b1 bf
                  unfold imV
                  try dsimp only
                  go_upto_region 19 with fail
                  replace M := hid (M.out.push [.int .u64 (n.epoch : Nat), .string n.pay] 56 w6.heap.size rfl)
                  generalize w6.alloc (.cells #[.int .u64 (n.epoch : Nat), .string n.pay] 56) = X6 at M ⊢
                  generalize w6.heap.size = g6 at M ⊢
                  obtain ⟨m0, m1, mf⟩ := (M.out.get 4 rfl).two
                  obtain ⟨v0, v1, vf⟩ := (M.out.get 3 rfl).two
                  obtain ⟨g0, g1, gf⟩ := (M.out.get 6 rfl).two
                  have hpn : (n.pay.toList == n.pay.toList) = true := by simp
                  go_upto_region 25 with fail
                  clear m0 m1 mf v0 v1 vf g0 g1 gf
                  clear hpn hd0
                  replace M := hid ((M.out.put 3 rfl (by decide) (by decide) 0 (.int .u64 (n.epoch : Nat))).put 3 rfl (by decide) (by decide) 1 (.string n.pay))
                  generalize (X6.setCell ⟨n1 + 2, 0, none⟩ (.int .u64 (n.epoch : Nat))).setCell ⟨n1 + 2, 1, none⟩ (.string n.pay) = X7 at M ⊢
                  obtain ⟨e0, e1, e2, e3, ef⟩ := (M.out.get 5 rfl).four
                  obtain ⟨d0, d1, d2, d3, df⟩ := (M.out.get 0 rfl).four
                  go_upto_region 26 with fail
                  clear e0 e1 e2 e3 ef d0 d1 d2 d3 df
                  replace M := hid ((((M.out.put 0 rfl (by decide) (by decide) 0 (.slice so5 y.secs.length sc5)).put 0 rfl (by decide) (by decide) 1 (.slice po5 y.pend.length pc5)).put 0 rfl (by decide) (by decide) 2 (.bool y.off)).put 0 rfl (by decide) (by decide) 3 (.int .i64 y.fuse))
                  generalize (((X7.setCell ⟨n0, 0, none⟩ (.slice so5 y.secs.length sc5)).setCell ⟨n0, 1, none⟩ (.slice po5 y.pend.length pc5)).setCell ⟨n0, 2, none⟩ (.bool y.off)).setCell ⟨n0, 3, none⟩ (.int .i64 y.fuse) = T1 at M ⊢
                  obtain ⟨d0, d1, d2, d3, df⟩ := (M.out.get 0 rfl).four
                  go_upto_region 27 with fail
                  clear d0 d1 d2 d3 df
                  replace M := hid (M.out.put 0 rfl (by decide) (by decide) 3 (.int .i64 (-1)))
                  generalize T1.setCell ⟨n0, 3, none⟩ (.int .i64 (-1)) = T2 at M ⊢
                  replace M := hid (M.out.refuse2 2 rfl (-1))
                  replace hs := hid (hs.out.fuse (-1))
                  obtain ⟨j, C, hl, hC⟩ := hs.out.loads
                  have hld := hid (fun v W (h : DiskV W v ⟨y.secs, y.pend, y.off, -1⟩) => hl ▸ load_any ⟨y.secs, y.pend, y.off, -1⟩ v ⟨0, S⟩ ⟨S, S⟩ W h hrA.out hrB.out)
                  rw [show rgV ⟨0, S⟩ = .agg #[.int .i64 0, .int .i64 (S : Nat)] from rfl, show rgV ⟨S, S⟩ = .agg #[.int .i64 (S : Nat), .int .i64 (S : Nat)] from rfl] at hld
                  clear hl
                  obtain ⟨a0, a1, af⟩ := (M.out.get 1 rfl).two
                  obtain ⟨b0, b1, bf⟩ := (M.out.get 2 rfl).two
                  obtain ⟨d0, d1, d2, d3, df⟩ := (M.out.get 0 rfl).four
                  go_wp2_with fail
                  clear a0 a1 af b0 b1 bf d0 d1 d2 d3 df
                  (with_reducible refine (hld.out _ _ (M.out.view 0 rfl)).mono ?_)
                  rintro e8 w8 ⟨rfl, b8⟩
                  replace M := hid (M.out.below b8)
                  clear b8 hld
                  unfold imV
                  try dsimp only
                  go_upto_region 28 with fail
                  replace M := hid (M.out.push [.int .u64 (n.epoch : Nat), .string n.pay] 56 w8.heap.size rfl)
                  generalize w8.alloc (.cells #[.int .u64 (n.epoch : Nat), .string n.pay] 56) = T3 at M ⊢
                  generalize w8.heap.size = g8 at M ⊢
                  have hpp : (n.pay.toList == n.pay.toList) = true := by simp
                  obtain ⟨g0, g1, gf⟩ := (M.out.get 7 rfl).two
                  obtain ⟨m0, m1, mf⟩ := (M.out.get 3 rfl).two
                  rcases hC with ⟨rfl, hd⟩ | ⟨rfl, hd⟩
                  all_goals
                    go_wp2_with fail
                    go_roundw
                    case rel => exact ⟨k + 1, ⟨y.secs, y.pend, y.off, -1⟩, n, so5, sc5, po5, pc5, by omega, by go_num, hs, hnh, by have := hne.out; omega, hid (M.out.cut 4 0 1)⟩
                    case measure => simp [intOf]; omega
              · obtain ⟨j0, C0, hl, hC0⟩ := hs.loads
                have hnm : ((was.epoch : Int) == (n.epoch : Int)) = false := beq_eq_false_iff_ne.2 (by have := hne.out; omega)
                have hnm2 : (was.epoch == n.epoch) = false := beq_eq_false_iff_ne.2 (by have := hne.out; omega)
                have hld := hid (fun v W (h : DiskV W v y) => hl ▸ load_any y v ⟨0, S⟩ ⟨S, S⟩ W h hrA.out hrB.out)
                rw [show rgV ⟨0, S⟩ = .agg #[.int .i64 0, .int .i64 (S : Nat)] from rfl, show rgV ⟨S, S⟩ = .agg #[.int .i64 (S : Nat), .int .i64 (S : Nat)] from rfl] at hld
                clear hl
                replace hs := hid hs
                (with_reducible refine (hld.out _ _ (M.out.view 2 rfl)).mono ?_)
                rintro e6 w6 ⟨rfl, b6⟩
                replace M := hid (M.out.below b6)
                clear b6 hld
                clear e0 e1 e2 e3 ef a0 a1 af b0 b1 bf
                unfold imV
                try dsimp only
                go_upto_region 19 with fail
                replace M := hid (M.out.push [.int .u64 (was.epoch : Nat), .string was.pay] 56 w6.heap.size rfl)
                generalize w6.alloc (.cells #[.int .u64 (was.epoch : Nat), .string was.pay] 56) = X6 at M ⊢
                generalize w6.heap.size = g6 at M ⊢
                obtain ⟨m0, m1, mf⟩ := (M.out.get 4 rfl).two
                obtain ⟨g0, g1, gf⟩ := (M.out.get 6 rfl).two
                rcases hC0 with ⟨rfl, hd0⟩ | ⟨rfl, hd0⟩
                all_goals
                  go_upto_region 25 with fail
                  clear m0 m1 mf g0 g1 gf
                  clear hd0 hnm hnm2
                  obtain ⟨e0, e1, e2, e3, ef⟩ := (M.out.get 5 rfl).four
                  obtain ⟨d0, d1, d2, d3, df⟩ := (M.out.get 0 rfl).four
                  go_upto_region 26 with fail
                  clear e0 e1 e2 e3 ef d0 d1 d2 d3 df
                  replace M := hid ((((M.out.put 0 rfl (by decide) (by decide) 0 (.slice so5 y.secs.length sc5)).put 0 rfl (by decide) (by decide) 1 (.slice po5 y.pend.length pc5)).put 0 rfl (by decide) (by decide) 2 (.bool y.off)).put 0 rfl (by decide) (by decide) 3 (.int .i64 y.fuse))
                  generalize (((X6.setCell ⟨n0, 0, none⟩ (.slice so5 y.secs.length sc5)).setCell ⟨n0, 1, none⟩ (.slice po5 y.pend.length pc5)).setCell ⟨n0, 2, none⟩ (.bool y.off)).setCell ⟨n0, 3, none⟩ (.int .i64 y.fuse) = T1 at M ⊢
                  obtain ⟨d0, d1, d2, d3, df⟩ := (M.out.get 0 rfl).four
                  go_upto_region 27 with fail
                  clear d0 d1 d2 d3 df
                  replace M := hid (M.out.put 0 rfl (by decide) (by decide) 3 (.int .i64 (-1)))
                  generalize T1.setCell ⟨n0, 3, none⟩ (.int .i64 (-1)) = T2 at M ⊢
                  replace M := hid (M.out.refuse2 2 rfl (-1))
                  replace hs := hid (hs.out.fuse (-1))
                  obtain ⟨j, C, hl, hC⟩ := hs.out.loads
                  have hld := hid (fun v W (h : DiskV W v ⟨y.secs, y.pend, y.off, -1⟩) => hl ▸ load_any ⟨y.secs, y.pend, y.off, -1⟩ v ⟨0, S⟩ ⟨S, S⟩ W h hrA.out hrB.out)
                  rw [show rgV ⟨0, S⟩ = .agg #[.int .i64 0, .int .i64 (S : Nat)] from rfl, show rgV ⟨S, S⟩ = .agg #[.int .i64 (S : Nat), .int .i64 (S : Nat)] from rfl] at hld
                  clear hl
                  obtain ⟨a0, a1, af⟩ := (M.out.get 1 rfl).two
                  obtain ⟨b0, b1, bf⟩ := (M.out.get 2 rfl).two
                  obtain ⟨d0, d1, d2, d3, df⟩ := (M.out.get 0 rfl).four
                  go_wp2_with fail
                  clear a0 a1 af b0 b1 bf d0 d1 d2 d3 df
                  (with_reducible refine (hld.out _ _ (M.out.view 0 rfl)).mono ?_)
                  rintro e8 w8 ⟨rfl, b8⟩
                  replace M := hid (M.out.below b8)
                  clear b8 hld
                  unfold imV
                  try dsimp only
                  go_upto_region 28 with fail
                  replace M := hid (M.out.push [.int .u64 (was.epoch : Nat), .string was.pay] 56 w8.heap.size rfl)
                  generalize w8.alloc (.cells #[.int .u64 (was.epoch : Nat), .string was.pay] 56) = T3 at M ⊢
                  generalize w8.heap.size = g8 at M ⊢
                  have hpp : (was.pay.toList == was.pay.toList) = true := by simp
                  obtain ⟨g0, g1, gf⟩ := (M.out.get 7 rfl).two
                  obtain ⟨m0, m1, mf⟩ := (M.out.get 3 rfl).two
                  rcases hC with ⟨rfl, hd⟩ | ⟨rfl, hd⟩
                  all_goals
                    go_wp2_with fail
                    go_roundw
                    case rel => exact ⟨k + 1, ⟨y.secs, y.pend, y.off, -1⟩, was, so5, sc5, po5, pc5, by omega, by go_num, hs, hwh, by omega, hid (M.out.cut 4 0 1)⟩
                    case measure => simp [intOf]; omega
        · have hkfi : ¬ (k : Int) < (fz.length : Int) := by omega
          go_upto_region 15 with fail
          have hff := hid (show (Lit.int .i64 (-1)).wf = true by decide)
          obtain ⟨X3, rfl⟩ : ∃ X3 : World, X3 = X2 := ⟨_, rfl⟩
          obtain ⟨f, hf⟩ : ∃ f : Int, f = -1 := ⟨_, rfl⟩
          rw [← hf] at M hff
          clear hf
          replace M := hid (M.out.refuse2 0 rfl f)
          dsimp only at M
          have hsv := hid (fun v W (h : DiskV W v ⟨secs, pend, off, f⟩) => save_any ⟨secs, pend, off, f⟩ v ⟨0, S⟩ ⟨S, S⟩ n W h hff.out hrA.out hrB.out hnh.out)
          rw [show rgV ⟨0, S⟩ = .agg #[.int .i64 0, .int .i64 (S : Nat)] from rfl, show rgV ⟨S, S⟩ = .agg #[.int .i64 (S : Nat), .int .i64 (S : Nat)] from rfl] at hsv
          rw [show imV n = .agg #[.int .u64 (n.epoch : Nat), .string n.pay] from rfl] at hsv
          have hcase := hid (St.save (hSt.out.fuse f) (by rw [hne.out]; omega) hnh.out.1 kp)
          dsimp only at hcase
          obtain ⟨Y, hY⟩ : ∃ Y, saveE ⟨secs, pend, off, f⟩ ⟨0, S⟩ ⟨S, S⟩ n = Y := ⟨_, rfl⟩
          rw [hY] at hsv hcase
          replace hY := hid hY
          obtain ⟨x, c⟩ := Y
          obtain ⟨a0, a1, af⟩ := (M.out.get 1 rfl).two
          obtain ⟨b0, b1, bf⟩ := (M.out.get 2 rfl).two
          obtain ⟨d0, d1, d2, d3, df⟩ := (M.out.get 0 rfl).four
          obtain ⟨m0, m1, mf⟩ := (M.out.get 4 rfl).two
          go_wp2_with fail
          clear a0 a1 af b0 b1 bf d0 d1 d2 d3 df m0 m1 mf
          (with_reducible refine (hsv.out _ _ (M.out.view 0 rfl)).mono ?_)
          rintro e3 w3 hr
          obtain ⟨so4, sc4, po4, pc4, rfl, o4, b4⟩ := hr.open
          dsimp only at o4
          replace M := hid (M.out.res o4 b4)
          clear hr hsv o4 b4
          dsimp only
          go_upto_region 16 with fail
          replace M := hid (M.out.push [.slice so4 x.secs.length sc4, .slice po4 x.pend.length pc4, .bool x.off, .int .i64 x.fuse] 25 w3.heap.size rfl)
          generalize w3.alloc (.cells #[.slice so4 x.secs.length sc4, .slice po4 x.pend.length pc4, .bool x.off, .int .i64 x.fuse] 25) = X4 at M ⊢
          generalize w3.heap.size = n5 at M ⊢
          rcases hcase.out with ⟨h1, h2⟩ | ⟨h1, hok, h2⟩
          · have hs := hid (show St x ⟨0, S⟩ ⟨S, S⟩ was by rw [show x = ⟨secs, pend, off, f⟩ from h2]; exact hSt.out.fuse f)
            clear hcase h2 hY hSt
            rcases (show c = 3 ∨ c = 17 from h1) with rfl | rfl
            all_goals
              obtain ⟨e0, e1, e2, e3, ef⟩ := (M.out.get 5 rfl).four
              obtain ⟨d0, d1, d2, d3, df⟩ := (M.out.get 0 rfl).four
              go_upto_region 26 with fail
              clear e0 e1 e2 e3 ef d0 d1 d2 d3 df
              replace M := hid ((((M.out.put 0 rfl (by decide) (by decide) 0 (.slice so4 x.secs.length sc4)).put 0 rfl (by decide) (by decide) 1 (.slice po4 x.pend.length pc4)).put 0 rfl (by decide) (by decide) 2 (.bool x.off)).put 0 rfl (by decide) (by decide) 3 (.int .i64 x.fuse))
              generalize (((X4.setCell ⟨n0, 0, none⟩ (.slice so4 x.secs.length sc4)).setCell ⟨n0, 1, none⟩ (.slice po4 x.pend.length pc4)).setCell ⟨n0, 2, none⟩ (.bool x.off)).setCell ⟨n0, 3, none⟩ (.int .i64 x.fuse) = T1 at M ⊢
              obtain ⟨d0, d1, d2, d3, df⟩ := (M.out.get 0 rfl).four
              go_upto_region 27 with fail
              clear d0 d1 d2 d3 df
              replace M := hid (M.out.put 0 rfl (by decide) (by decide) 3 (.int .i64 (-1)))
              generalize T1.setCell ⟨n0, 3, none⟩ (.int .i64 (-1)) = T2 at M ⊢
              replace M := hid (M.out.refuse2 1 rfl (-1))
              replace hs := hid (hs.out.fuse (-1))
              obtain ⟨j, C, hl, hC⟩ := hs.out.loads
              have hld := hid (fun v W (h : DiskV W v ⟨x.secs, x.pend, x.off, -1⟩) => hl ▸ load_any ⟨x.secs, x.pend, x.off, -1⟩ v ⟨0, S⟩ ⟨S, S⟩ W h hrA.out hrB.out)
              rw [show rgV ⟨0, S⟩ = .agg #[.int .i64 0, .int .i64 (S : Nat)] from rfl, show rgV ⟨S, S⟩ = .agg #[.int .i64 (S : Nat), .int .i64 (S : Nat)] from rfl] at hld
              clear hl
              obtain ⟨a0, a1, af⟩ := (M.out.get 1 rfl).two
              obtain ⟨b0, b1, bf⟩ := (M.out.get 2 rfl).two
              obtain ⟨d0, d1, d2, d3, df⟩ := (M.out.get 0 rfl).four
              go_wp2_with fail
              clear a0 a1 af b0 b1 bf d0 d1 d2 d3 df
              (with_reducible refine (hld.out _ _ (M.out.view 0 rfl)).mono ?_)
              rintro e8 w8 ⟨rfl, b8⟩
              replace M := hid (M.out.below b8)
              clear b8 hld
              unfold imV
              try dsimp only
              go_upto_region 28 with fail
              replace M := hid (M.out.push [.int .u64 (was.epoch : Nat), .string was.pay] 56 w8.heap.size rfl)
              generalize w8.alloc (.cells #[.int .u64 (was.epoch : Nat), .string was.pay] 56) = T3 at M ⊢
              generalize w8.heap.size = g8 at M ⊢
              have hpp : (was.pay.toList == was.pay.toList) = true := by simp
              obtain ⟨g0, g1, gf⟩ := (M.out.get 6 rfl).two
              obtain ⟨m0, m1, mf⟩ := (M.out.get 3 rfl).two
              rcases hC with ⟨rfl, hd⟩ | ⟨rfl, hd⟩
              all_goals
                go_wp2_with fail
                go_roundw
                case rel => exact ⟨k + 1, ⟨x.secs, x.pend, x.off, -1⟩, was, so4, sc4, po4, pc4, by omega, by go_num, hs, hwh, by omega, hid (M.out.cut 4 0 1)⟩
                case measure => simp [intOf]; omega
          · rcases (show c = 0 ∨ c = 15 from h1) with rfl | rfl
            · rcases h2 with hs | ⟨hcc, hs⟩
              · replace hs := hid (St.kept hnh.out.1 hY.out kp hs)
                clear hcase hY hSt
                obtain ⟨m0, m1, mf⟩ := (M.out.get 4 rfl).two
                obtain ⟨v0, v1, vf⟩ := (M.out.get 3 rfl).two
                go_upto_region 25 with fail
                clear m0 m1 mf v0 v1 vf
                replace M := hid ((M.out.put 3 rfl (by decide) (by decide) 0 (.int .u64 (n.epoch : Nat))).put 3 rfl (by decide) (by decide) 1 (.string n.pay))
                generalize (X4.setCell ⟨n1 + 2, 0, none⟩ (.int .u64 (n.epoch : Nat))).setCell ⟨n1 + 2, 1, none⟩ (.string n.pay) = X5 at M ⊢
                obtain ⟨e0, e1, e2, e3, ef⟩ := (M.out.get 5 rfl).four
                obtain ⟨d0, d1, d2, d3, df⟩ := (M.out.get 0 rfl).four
                go_upto_region 26 with fail
                clear e0 e1 e2 e3 ef d0 d1 d2 d3 df
                replace M := hid ((((M.out.put 0 rfl (by decide) (by decide) 0 (.slice so4 x.secs.length sc4)).put 0 rfl (by decide) (by decide) 1 (.slice po4 x.pend.length pc4)).put 0 rfl (by decide) (by decide) 2 (.bool x.off)).put 0 rfl (by decide) (by decide) 3 (.int .i64 x.fuse))
                generalize (((X5.setCell ⟨n0, 0, none⟩ (.slice so4 x.secs.length sc4)).setCell ⟨n0, 1, none⟩ (.slice po4 x.pend.length pc4)).setCell ⟨n0, 2, none⟩ (.bool x.off)).setCell ⟨n0, 3, none⟩ (.int .i64 x.fuse) = T1 at M ⊢
                obtain ⟨d0, d1, d2, d3, df⟩ := (M.out.get 0 rfl).four
                go_upto_region 27 with fail
                clear d0 d1 d2 d3 df
                replace M := hid (M.out.put 0 rfl (by decide) (by decide) 3 (.int .i64 (-1)))
                generalize T1.setCell ⟨n0, 3, none⟩ (.int .i64 (-1)) = T2 at M ⊢
                replace M := hid (M.out.refuse2 1 rfl (-1))
                replace hs := hid (hs.out.fuse (-1))
                obtain ⟨j, C, hl, hC⟩ := hs.out.loads
                have hld := hid (fun v W (h : DiskV W v ⟨x.secs, x.pend, x.off, -1⟩) => hl ▸ load_any ⟨x.secs, x.pend, x.off, -1⟩ v ⟨0, S⟩ ⟨S, S⟩ W h hrA.out hrB.out)
                rw [show rgV ⟨0, S⟩ = .agg #[.int .i64 0, .int .i64 (S : Nat)] from rfl, show rgV ⟨S, S⟩ = .agg #[.int .i64 (S : Nat), .int .i64 (S : Nat)] from rfl] at hld
                clear hl
                obtain ⟨a0, a1, af⟩ := (M.out.get 1 rfl).two
                obtain ⟨b0, b1, bf⟩ := (M.out.get 2 rfl).two
                obtain ⟨d0, d1, d2, d3, df⟩ := (M.out.get 0 rfl).four
                go_wp2_with fail
                clear a0 a1 af b0 b1 bf d0 d1 d2 d3 df
                (with_reducible refine (hld.out _ _ (M.out.view 0 rfl)).mono ?_)
                rintro e8 w8 ⟨rfl, b8⟩
                replace M := hid (M.out.below b8)
                clear b8 hld
                unfold imV
                try dsimp only
                go_upto_region 28 with fail
                replace M := hid (M.out.push [.int .u64 (n.epoch : Nat), .string n.pay] 56 w8.heap.size rfl)
                generalize w8.alloc (.cells #[.int .u64 (n.epoch : Nat), .string n.pay] 56) = T3 at M ⊢
                generalize w8.heap.size = g8 at M ⊢
                have hpp : (n.pay.toList == n.pay.toList) = true := by simp
                obtain ⟨g0, g1, gf⟩ := (M.out.get 6 rfl).two
                obtain ⟨m0, m1, mf⟩ := (M.out.get 3 rfl).two
                rcases hC with ⟨rfl, hd⟩ | ⟨rfl, hd⟩
                all_goals
                  go_wp2_with fail
                  go_roundw
                  case rel => exact ⟨k + 1, ⟨x.secs, x.pend, x.off, -1⟩, n, so4, sc4, po4, pc4, by omega, by go_num, hs, hnh, by have := hne.out; omega, hid (M.out.cut 4 0 1)⟩
                  case measure => simp [intOf]; omega
              · exact absurd (show (0 : Int) = 15 from hcc) (by decide)
            · obtain ⟨y, hy⟩ : ∃ y, crashD x kp = y := ⟨_, rfl⟩
              have hcr := hid (fun v u W (h : DiskV W v x) (g : BoolsV W u kp) => (show crashE x kp = (y, 0) by unfold crashE; rw [if_pos hok, hy]) ▸ crash_any x v u kp W h g)
              rw [hy] at h2
              clear hcase hy hok hY hSt
              obtain ⟨e0, e1, e2, e3, ef⟩ := (M.out.get 5 rfl).four
              go_wp2_with fail
              (with_reducible refine (hcr.out _ _ _ (M.out.view 1 rfl) (hkp.out.below M.out.bel)).mono ?_)
              rintro e5 w5 hr
              obtain ⟨so5, sc5, po5, pc5, rfl, o5, b5⟩ := hr.open
              dsimp only at o5
              replace M := hid (M.out.res o5 b5)
              clear hr hcr o5 b5
              clear e0 e1 e2 e3 ef
              obtain ⟨e0, e1, e2, e3, ef⟩ := (M.out.get 5 rfl).four
              dsimp only
              go_upto_region 18 with fail
              clear e0 e1 e2 e3 ef
              replace M := hid ((((M.out.put 5 rfl (by decide) (by decide) 0 (.slice so5 y.secs.length sc5)).put 5 rfl (by decide) (by decide) 1 (.slice po5 y.pend.length pc5)).put 5 rfl (by decide) (by decide) 2 (.bool y.off)).put 5 rfl (by decide) (by decide) 3 (.int .i64 y.fuse))
              generalize (((w5.setCell ⟨n5, 0, none⟩ (.slice so5 y.secs.length sc5)).setCell ⟨n5, 1, none⟩ (.slice po5 y.pend.length pc5)).setCell ⟨n5, 2, none⟩ (.bool y.off)).setCell ⟨n5, 3, none⟩ (.int .i64 y.fuse) = X5 at M ⊢
              obtain ⟨e0, e1, e2, e3, ef⟩ := (M.out.get 5 rfl).four
              obtain ⟨a0, a1, af⟩ := (M.out.get 1 rfl).two
              obtain ⟨b0, b1, bf⟩ := (M.out.get 2 rfl).two
              go_wp2_with fail
              rcases h2 with hs | ⟨hcc, hs⟩
              · obtain ⟨j0, C0, hl, hC0⟩ := hs.loads
                rcases hC0 with ⟨rfl, hd0⟩ | ⟨rfl, hd0⟩
                · exact absurd (show 0 < n.epoch by have := hne.out; omega) (of_decide_eq_false hd0)
                · have hld := hid (fun v W (h : DiskV W v y) => hl ▸ load_any y v ⟨0, S⟩ ⟨S, S⟩ W h hrA.out hrB.out)
                  rw [show rgV ⟨0, S⟩ = .agg #[.int .i64 0, .int .i64 (S : Nat)] from rfl, show rgV ⟨S, S⟩ = .agg #[.int .i64 (S : Nat), .int .i64 (S : Nat)] from rfl] at hld
                  clear hl
                  replace hs := hid hs
                  (with_reducible refine (hld.out _ _ (M.out.view 2 rfl)).mono ?_)
                  rintro e6 w6 ⟨rfl, b6⟩
                  replace M := hid (M.out.below b6)
                  clear b6 hld
                  clear e0 e1 e2 e3 ef a0 a1 af b0 b1 bf
                  unfold imV
                  try dsimp only
                  go_upto_region 19 with fail
                  replace M := hid (M.out.push [.int .u64 (n.epoch : Nat), .string n.pay] 56 w6.heap.size rfl)
                  generalize w6.alloc (.cells #[.int .u64 (n.epoch : Nat), .string n.pay] 56) = X6 at M ⊢
                  generalize w6.heap.size = g6 at M ⊢
                  obtain ⟨m0, m1, mf⟩ := (M.out.get 4 rfl).two
                  obtain ⟨v0, v1, vf⟩ := (M.out.get 3 rfl).two
                  obtain ⟨g0, g1, gf⟩ := (M.out.get 6 rfl).two
                  have hpn : (n.pay.toList == n.pay.toList) = true := by simp
                  go_upto_region 25 with fail
                  clear m0 m1 mf v0 v1 vf g0 g1 gf
                  clear hpn hd0
                  replace M := hid ((M.out.put 3 rfl (by decide) (by decide) 0 (.int .u64 (n.epoch : Nat))).put 3 rfl (by decide) (by decide) 1 (.string n.pay))
                  generalize (X6.setCell ⟨n1 + 2, 0, none⟩ (.int .u64 (n.epoch : Nat))).setCell ⟨n1 + 2, 1, none⟩ (.string n.pay) = X7 at M ⊢
                  obtain ⟨e0, e1, e2, e3, ef⟩ := (M.out.get 5 rfl).four
                  obtain ⟨d0, d1, d2, d3, df⟩ := (M.out.get 0 rfl).four
                  go_upto_region 26 with fail
                  clear e0 e1 e2 e3 ef d0 d1 d2 d3 df
                  replace M := hid ((((M.out.put 0 rfl (by decide) (by decide) 0 (.slice so5 y.secs.length sc5)).put 0 rfl (by decide) (by decide) 1 (.slice po5 y.pend.length pc5)).put 0 rfl (by decide) (by decide) 2 (.bool y.off)).put 0 rfl (by decide) (by decide) 3 (.int .i64 y.fuse))
                  generalize (((X7.setCell ⟨n0, 0, none⟩ (.slice so5 y.secs.length sc5)).setCell ⟨n0, 1, none⟩ (.slice po5 y.pend.length pc5)).setCell ⟨n0, 2, none⟩ (.bool y.off)).setCell ⟨n0, 3, none⟩ (.int .i64 y.fuse) = T1 at M ⊢
                  obtain ⟨d0, d1, d2, d3, df⟩ := (M.out.get 0 rfl).four
                  go_upto_region 27 with fail
                  clear d0 d1 d2 d3 df
                  replace M := hid (M.out.put 0 rfl (by decide) (by decide) 3 (.int .i64 (-1)))
                  generalize T1.setCell ⟨n0, 3, none⟩ (.int .i64 (-1)) = T2 at M ⊢
                  replace M := hid (M.out.refuse2 2 rfl (-1))
                  replace hs := hid (hs.out.fuse (-1))
                  obtain ⟨j, C, hl, hC⟩ := hs.out.loads
                  have hld := hid (fun v W (h : DiskV W v ⟨y.secs, y.pend, y.off, -1⟩) => hl ▸ load_any ⟨y.secs, y.pend, y.off, -1⟩ v ⟨0, S⟩ ⟨S, S⟩ W h hrA.out hrB.out)
                  rw [show rgV ⟨0, S⟩ = .agg #[.int .i64 0, .int .i64 (S : Nat)] from rfl, show rgV ⟨S, S⟩ = .agg #[.int .i64 (S : Nat), .int .i64 (S : Nat)] from rfl] at hld
                  clear hl
                  obtain ⟨a0, a1, af⟩ := (M.out.get 1 rfl).two
                  obtain ⟨b0, b1, bf⟩ := (M.out.get 2 rfl).two
                  obtain ⟨d0, d1, d2, d3, df⟩ := (M.out.get 0 rfl).four
                  go_wp2_with fail
                  clear a0 a1 af b0 b1 bf d0 d1 d2 d3 df
                  (with_reducible refine (hld.out _ _ (M.out.view 0 rfl)).mono ?_)
                  rintro e8 w8 ⟨rfl, b8⟩
                  replace M := hid (M.out.below b8)
                  clear b8 hld
                  unfold imV
                  try dsimp only
                  go_upto_region 28 with fail
                  replace M := hid (M.out.push [.int .u64 (n.epoch : Nat), .string n.pay] 56 w8.heap.size rfl)
                  generalize w8.alloc (.cells #[.int .u64 (n.epoch : Nat), .string n.pay] 56) = T3 at M ⊢
                  generalize w8.heap.size = g8 at M ⊢
                  have hpp : (n.pay.toList == n.pay.toList) = true := by simp
                  obtain ⟨g0, g1, gf⟩ := (M.out.get 7 rfl).two
                  obtain ⟨m0, m1, mf⟩ := (M.out.get 3 rfl).two
                  rcases hC with ⟨rfl, hd⟩ | ⟨rfl, hd⟩
                  all_goals
                    go_wp2_with fail
                    go_roundw
                    case rel => exact ⟨k + 1, ⟨y.secs, y.pend, y.off, -1⟩, n, so5, sc5, po5, pc5, by omega, by go_num, hs, hnh, by have := hne.out; omega, hid (M.out.cut 4 0 1)⟩
                    case measure => simp [intOf]; omega
              · obtain ⟨j0, C0, hl, hC0⟩ := hs.loads
                have hnm : ((was.epoch : Int) == (n.epoch : Int)) = false := beq_eq_false_iff_ne.2 (by have := hne.out; omega)
                have hnm2 : (was.epoch == n.epoch) = false := beq_eq_false_iff_ne.2 (by have := hne.out; omega)
                have hld := hid (fun v W (h : DiskV W v y) => hl ▸ load_any y v ⟨0, S⟩ ⟨S, S⟩ W h hrA.out hrB.out)
                rw [show rgV ⟨0, S⟩ = .agg #[.int .i64 0, .int .i64 (S : Nat)] from rfl, show rgV ⟨S, S⟩ = .agg #[.int .i64 (S : Nat), .int .i64 (S : Nat)] from rfl] at hld
                clear hl
                replace hs := hid hs
                (with_reducible refine (hld.out _ _ (M.out.view 2 rfl)).mono ?_)
                rintro e6 w6 ⟨rfl, b6⟩
                replace M := hid (M.out.below b6)
                clear b6 hld
                clear e0 e1 e2 e3 ef a0 a1 af b0 b1 bf
                unfold imV
                try dsimp only
                go_upto_region 19 with fail
                replace M := hid (M.out.push [.int .u64 (was.epoch : Nat), .string was.pay] 56 w6.heap.size rfl)
                generalize w6.alloc (.cells #[.int .u64 (was.epoch : Nat), .string was.pay] 56) = X6 at M ⊢
                generalize w6.heap.size = g6 at M ⊢
                obtain ⟨m0, m1, mf⟩ := (M.out.get 4 rfl).two
                obtain ⟨g0, g1, gf⟩ := (M.out.get 6 rfl).two
                rcases hC0 with ⟨rfl, hd0⟩ | ⟨rfl, hd0⟩
                all_goals
                  go_upto_region 25 with fail
                  clear m0 m1 mf g0 g1 gf
                  clear hd0 hnm hnm2
                  obtain ⟨e0, e1, e2, e3, ef⟩ := (M.out.get 5 rfl).four
                  obtain ⟨d0, d1, d2, d3, df⟩ := (M.out.get 0 rfl).four
                  go_upto_region 26 with fail
                  clear e0 e1 e2 e3 ef d0 d1 d2 d3 df
                  replace M := hid ((((M.out.put 0 rfl (by decide) (by decide) 0 (.slice so5 y.secs.length sc5)).put 0 rfl (by decide) (by decide) 1 (.slice po5 y.pend.length pc5)).put 0 rfl (by decide) (by decide) 2 (.bool y.off)).put 0 rfl (by decide) (by decide) 3 (.int .i64 y.fuse))
                  generalize (((X6.setCell ⟨n0, 0, none⟩ (.slice so5 y.secs.length sc5)).setCell ⟨n0, 1, none⟩ (.slice po5 y.pend.length pc5)).setCell ⟨n0, 2, none⟩ (.bool y.off)).setCell ⟨n0, 3, none⟩ (.int .i64 y.fuse) = T1 at M ⊢
                  obtain ⟨d0, d1, d2, d3, df⟩ := (M.out.get 0 rfl).four
                  go_upto_region 27 with fail
                  clear d0 d1 d2 d3 df
                  replace M := hid (M.out.put 0 rfl (by decide) (by decide) 3 (.int .i64 (-1)))
                  generalize T1.setCell ⟨n0, 3, none⟩ (.int .i64 (-1)) = T2 at M ⊢
                  replace M := hid (M.out.refuse2 2 rfl (-1))
                  replace hs := hid (hs.out.fuse (-1))
                  obtain ⟨j, C, hl, hC⟩ := hs.out.loads
                  have hld := hid (fun v W (h : DiskV W v ⟨y.secs, y.pend, y.off, -1⟩) => hl ▸ load_any ⟨y.secs, y.pend, y.off, -1⟩ v ⟨0, S⟩ ⟨S, S⟩ W h hrA.out hrB.out)
                  rw [show rgV ⟨0, S⟩ = .agg #[.int .i64 0, .int .i64 (S : Nat)] from rfl, show rgV ⟨S, S⟩ = .agg #[.int .i64 (S : Nat), .int .i64 (S : Nat)] from rfl] at hld
                  clear hl
                  obtain ⟨a0, a1, af⟩ := (M.out.get 1 rfl).two
                  obtain ⟨b0, b1, bf⟩ := (M.out.get 2 rfl).two
                  obtain ⟨d0, d1, d2, d3, df⟩ := (M.out.get 0 rfl).four
                  go_wp2_with fail
                  clear a0 a1 af b0 b1 bf d0 d1 d2 d3 df
                  (with_reducible refine (hld.out _ _ (M.out.view 0 rfl)).mono ?_)
                  rintro e8 w8 ⟨rfl, b8⟩
                  replace M := hid (M.out.below b8)
                  clear b8 hld
                  unfold imV
                  try dsimp only
                  go_upto_region 28 with fail
                  replace M := hid (M.out.push [.int .u64 (was.epoch : Nat), .string was.pay] 56 w8.heap.size rfl)
                  generalize w8.alloc (.cells #[.int .u64 (was.epoch : Nat), .string was.pay] 56) = T3 at M ⊢
                  generalize w8.heap.size = g8 at M ⊢
                  have hpp : (was.pay.toList == was.pay.toList) = true := by simp
                  obtain ⟨g0, g1, gf⟩ := (M.out.get 7 rfl).two
                  obtain ⟨m0, m1, mf⟩ := (M.out.get 3 rfl).two
                  rcases hC with ⟨rfl, hd⟩ | ⟨rfl, hd⟩
                  all_goals
                    go_wp2_with fail
                    go_roundw
                    case rel => exact ⟨k + 1, ⟨y.secs, y.pend, y.off, -1⟩, was, so5, sc5, po5, pc5, by omega, by go_num, hs, hwh, by omega, hid (M.out.cut 4 0 1)⟩
                    case measure => simp [intOf]; omega
      · clear hvs hss hfz hfzw hkp
        go_wp2_with fail
        go_ret
        exact ⟨rfl, M.out.bel⟩
end Go.Proofs.Ytiagjjbcngchpaa.topImages
namespace Go.Proofs.Ytiagjjbcngchpaa.topImages
open Go.ChangeShapes Go.WideShapes Go.ChangeAt Go.RowKit
open Go.ChangeMaps (open_string shut_string)
set_option linter.unusedVariables false
theorem own : ownKnob Try.prog.godebug = none := by kernel_rfl
theorem laidOut : laidOutB Try.prog = true := by kernel_rfl
set_option maxRecDepth 100000 in
theorem lifted (os : Os) (started : os.Started) (H : Type) (enc : TypeId × Value → H) :
    ReturnsInHanded {} Try.checked os 9 .any (Rows.topImagesSpec.pre6 enc Try.prog Try.f9 Rows.topImagesRow.domain false) (Rows.topImagesSpec.post enc Try.prog Try.f9 false true false false) := by
  refine returnsInHanded_of_change_sized (C := Try.checked) own started (by kernel_rfl) Try.func9
    (ChangeSpec.witness6 (enc := enc) (C := Try.checked) false ⟨#[], #[.int .i64 0, .slice none 0 0, .slice none 0 0, .slice none 0 0], []⟩ 8 (by kernel_rfl) (by kernel_rfl) (by kernel_rfl) (by kernel_rfl)) ?_
  intro W base args ds gs before hval0 hW hcnd hsz0 _
  have hsz : (DataW.weightsEach Try.prog (Try.f9.params.toList ++ Rows.topImagesSpec.plain.varTypes Try.prog) (ds ++ gs)).all (· ≤ reachBytes) = true := hsz0
  have hval : ∀ (j : Nat) t v, Try.f9.params[j]? = some t → args[j]? = some v → Value.okWide Try.prog W .any base t v := hval0
  have hW' := hW
  obtain ⟨p, q, hA0, hV, rfl, hfz, hnd⟩ := hW
  have hA : DataW.TrodAll enc Try.prog W 0 (fun _ => true) true Try.f9.params.toList args.toList ds p := hA0
  rw [Try.params9] at hA hval
  obtain ⟨v0, vs0, d0, ds0, p0, q0, hargs, rfl, rfl, h0, r0⟩ := trodAll_cons hA
  obtain ⟨v1, vs1, d1, ds1, p1, q1, rfl, rfl, rfl, h1, r1⟩ := trodAll_cons r0
  obtain ⟨v2, vs2, d2, ds2, p2, q2, rfl, rfl, rfl, h2, r2⟩ := trodAll_cons r1
  obtain ⟨v3, vs3, d3, ds3, p3, q3, rfl, rfl, rfl, h3, r3⟩ := trodAll_cons r2
  obtain ⟨rfl, rfl, rfl⟩ := trodAll_nil r3
  obtain rfl : args = #[v0, v1, v2, v3] := by cases args; simp_all
  obtain ⟨rfl, rfl⟩ := trodVars_none hV
  obtain ⟨a0, rfl, rfl, rfl, w0⟩ := open_int Try.underlying3 (hval 0 3 v0 rfl rfl) h0
  have lt1 : ∀ x ∈ p1, x.block < W.heap.size := by obtain ⟨m, hm⟩ := h1; exact DataW.trod_lt m _ _ _ hm
  obtain ⟨a1, w1, s1⟩ : ∃ l, Mem.StrsV W v1 l ∧ ∀ s ∈ l, s.size ≤ maxLen := by
    obtain ⟨ao, ln, cp, rfl⟩ := okWide_slice Try.underlying22 (hval 1 22 v1 rfl rfl)
    obtain ⟨m, hm⟩ := h1
    exact Wal.open_textz hm
  have lt2 : ∀ x ∈ p2, x.block < W.heap.size := by obtain ⟨m, hm⟩ := h2; exact DataW.trod_lt m _ _ _ hm
  obtain ⟨a2, w2, s2⟩ : ∃ l, Top.IntsV W v2 l ∧ ∀ n ∈ l, (Lit.int .i64 n).wf = true := by
    obtain ⟨ao, ln, cp, rfl⟩ := okWide_slice Try.underlying64 (hval 2 64 v2 rfl rfl)
    obtain ⟨m, hm⟩ := h2
    exact Top.open_ints' hm
  have lt3 : ∀ x ∈ p3, x.block < W.heap.size := by obtain ⟨m, hm⟩ := h3; exact DataW.trod_lt m _ _ _ hm
  obtain ⟨a3, w3⟩ : ∃ l, Sector.BoolsV W v3 l := by
    obtain ⟨ao, ln, cp, rfl⟩ := okWide_slice Try.underlying44 (hval 3 44 v3 rfl rfl)
    obtain ⟨m, hm⟩ := h3
    exact Sector.open_bools' hm
  clear hA0 hval0
  refine (walk a0 v1 a1 v2 a2 v3 a3 W w0 w1 s1 w2 s2 w3).mono fun e W' ⟨he, bel⟩ => ?_
  subst he
  exact ⟨_, rfl, _, _, _, [], _, [], hW', trodAll_mk1 (shut_bool Try.underlying4 _), (trodAll_cons_mk (shut_int Try.underlying3 w0) (trodAll_cons_mk (Below.trod laidOut (by kernel_rfl) (of_decide_eq_true (by kernel_rfl)) h1 bel lt1) (trodAll_cons_mk (Below.trod laidOut (by kernel_rfl) (of_decide_eq_true (by kernel_rfl)) h2 bel lt2) (trodAll_cons_mk (Below.trod laidOut (by kernel_rfl) (of_decide_eq_true (by kernel_rfl)) h3 bel lt3) trodAll_mk0)))), rfl, bel.frame _, fun h => by cases h⟩
theorem over : Rows.topImagesRow.holds Try.pinned (OpenSpec.ofChange Rows.topImagesSpec) :=
  OpenClaim.holds_of_wide 9 Try.f9 rfl rfl rfl rfl rfl rfl rfl ⟨rfl, rfl, rfl, rfl, rfl⟩ rfl rfl rfl rfl rfl (by kernel_rfl) Try.func9 (by kernel_rfl)
    (of_decide_eq_true (by kernel_rfl)) (by unfold Func.isWrapper; first | (rw [if_pos (by decide +kernel)]; kernel_rfl) | (rw [if_neg (by decide +kernel)]; exact ⟨rfl, rfl⟩))
    (fun os started H enc _ => lifted os started H enc)
theorem proved : Rows.TopImagesSaid := over
end Go.Proofs.Ytiagjjbcngchpaa.topImages
