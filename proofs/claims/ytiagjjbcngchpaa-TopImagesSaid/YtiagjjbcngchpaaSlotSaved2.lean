/-
  lictorlaw05.saved, of any payloads.
-/
import Derived.Test.YtiagjjbcngchpaaSlotTwo
import Derived.Deep.DrawnRows
import Derived.Deep.RegionHeld3
namespace Go.Proofs.Ytiagjjbcngchpaa.Slot
open Go.ChangeShapes Go.WideShapes Go.ChangeAt Go.RowKit
open Go.Proofs.Ytiagjjbcngchpaa.Mem Go.Proofs.Ytiagjjbcngchpaa.Rec Go.Proofs.Ytiagjjbcngchpaa.Sector Go.Proofs.Ytiagjjbcngchpaa.Wal Go.Proofs.Ytiagjjbcngchpaa.Slot
set_option linter.unusedVariables false
set_option linter.unusedSimpArgs false
set_option maxRecDepth 100000
/-- Saving on a disk of which the power never goes. -/
theorem St.live {d : Disk} {a b : Rg} {last m : Im} (s : St d a b last) (hf : d.fuse < 0) (hm : last.epoch < m.epoch) (hm' : m.epoch < 18446744073709551616) :
    (saveE d a b m = (d, 3) ∨ saveE d a b m = (d, 17)) ∨ ∃ e, saveE d a b m = (e, 0) ∧ St e a b m ∧ e.fuse = d.fuse := by
  rcases save_live (m := m) s.chk s.off hf (by rw [s.pend]; simp) with ⟨_, h⟩ | ⟨_, hc, hle, _⟩ | ⟨_, _, h⟩ | ⟨e, h, h'⟩
  · exact .inl (.inl h)
  · exfalso
    rcases s.how with ⟨_, h1, _⟩ | ⟨_, h1, _⟩ | ⟨_, h1, _⟩ <;> rw [h1] at hc hle
    · exact absurd hc (by decide)
    · dsimp only at hle; omega
    · dsimp only at hle; omega
  · exact .inl (.inr h)
  · refine .inr ⟨e, h, ?_, h'⟩
    rcases s.save hm hm' [] with ⟨h1, _⟩ | ⟨_, _, h3⟩
    · rw [h] at h1
      rcases h1 with h1 | h1 <;> exact absurd h1 (by show ¬ ((0 : Int) = _); decide)
    · rw [h] at h3
      rcases h3 with h3 | ⟨h3, _⟩
      · exact St.kept hm' h [] h3
      · exact absurd h3 (by show ¬ ((0 : Int) = _); decide)
set_option maxHeartbeats 4000000 in
theorem saved_no (size : Int) (ao : Option Addr) (n cap : Nat) (w : World) (hn : n ≤ 9223372036854775807) (h : size < 1 ∨ 512 < size ∨ 100 < n) :
    Calls Try.prog 25 #[.int .i64 size, .slice ao n cap] w fun e w' => e = .returned (.tuple #[.agg #[.int .i64 0, .int .i64 size], .agg #[.int .i64 size, .int .i64 size], .agg #[.slice none 0 0, .slice none 0 0, .bool false, .int .i64 0], .agg #[.int .u64 0, .string ⟨#[]⟩], .bool false]) ∧ Below w.heap.size w w' := by
  go_enter Try.func25, Try.ntmps25
  go_upto_region 2 with fail
  have M := hid (((((((Bag.nil w).push [.int .i64 0, .int .i64 0] 27 w.heap.size (by simp)).push [.int .i64 0, .int .i64 0] 27 (w.heap.size + 1) (by simp)).push [.slice none 0 0, .slice none 0 0, .bool false, .int .i64 0] 25 (w.heap.size + 2) (by simp)).push [.int .u64 0, .string ⟨#[]⟩] 56 (w.heap.size + 3) (by simp)).push [.int .i64 0, .int .i64 size] 27 (w.heap.size + 4) (by simp)).push [.int .i64 size, .int .i64 size] 27 (w.heap.size + 5) (by simp))
  generalize (((((w.alloc (.cells #[.int .i64 0, .int .i64 0] 27)).alloc (.cells #[.int .i64 0, .int .i64 0] 27)).alloc (.cells #[.slice none 0 0, .slice none 0 0, .bool false, .int .i64 0] 25)).alloc (.cells #[.int .u64 0, .string ⟨#[]⟩] 56)).alloc (.cells #[.int .i64 0, .int .i64 size] 27)).alloc (.cells #[.int .i64 size, .int .i64 size] 27) = X0 at M ⊢
  rcases (by omega : size < 1 ∨ (¬ size < 1 ∧ size > 512) ∨ (¬ size < 1 ∧ ¬ size > 512 ∧ (n : Int) > 100)) with h1 | ⟨h1, h2⟩ | ⟨h1, h2, h3⟩
  all_goals
    go_upto_region 3 with fail
    replace M := hid M.out.drew
    refine wp_region_held_drew (S := (fun W => W.cell? ⟨w.heap.size + 4, 0, none⟩ = some (.int .i64 0) ∧ W.cell? ⟨w.heap.size + 4, 1, none⟩ = some (.int .i64 size) ∧ W.cell? ⟨w.heap.size + 5, 0, none⟩ = some (.int .i64 size) ∧ W.cell? ⟨w.heap.size + 5, 1, none⟩ = some (.int .i64 size))) (by kernel_rfl) ⟨(M.out.get 4 rfl).two.1, (M.out.get 4 rfl).two.2.1, (M.out.get 5 rfl).two.1, (M.out.get 5 rfl).two.2.1⟩ (fun hHeld => ?_)
    generalize X0.drew = X1 at M hHeld ⊢
    refine wpAnyH_take (i := 0) (v := ?_) rfl (by kernel_rfl) (by kernel_rfl) (by kernel_rfl) (fun _ _ _ h => h) (Or.inl ⟨by rfl, ?_⟩) (by assumption) ?_; rotate_left 1; (intro w hSw; (try dsimp only at hSw); go_simp; try with_reducible rfl); (try simp only [Act.put, List.getElem_toArray, List.getElem_cons_zero, List.getElem_cons_succ, List.setIfInBounds_toArray, List.set_cons_zero, List.set_cons_succ])
    refine wpAnyH_take (i := 1) (v := ?_) rfl (by kernel_rfl) (by kernel_rfl) (by kernel_rfl) (fun _ _ _ h => h) (Or.inl ⟨by rfl, ?_⟩) (by assumption) ?_; rotate_left 1; (intro w hSw; (try dsimp only at hSw); go_simp; try with_reducible rfl); (try simp only [Act.put, List.getElem_toArray, List.getElem_cons_zero, List.getElem_cons_succ, List.setIfInBounds_toArray, List.set_cons_zero, List.set_cons_succ])
    refine wpAnyH_take (i := 2) (v := ?_) rfl (by kernel_rfl) (by kernel_rfl) (by kernel_rfl) (fun _ _ _ h => h) (Or.inl ⟨by rfl, ?_⟩) (by assumption) ?_; rotate_left 1; (intro w hSw; (try dsimp only at hSw); go_simp; try with_reducible rfl); (try simp only [Act.put, List.getElem_toArray, List.getElem_cons_zero, List.getElem_cons_succ, List.setIfInBounds_toArray, List.set_cons_zero, List.set_cons_succ])
    refine wpAnyH_take (i := 3) (v := ?_) rfl (by kernel_rfl) (by kernel_rfl) (by kernel_rfl) (fun _ _ _ h => h) (Or.inl ⟨by rfl, ?_⟩) (by assumption) ?_; rotate_left 1; (intro w hSw; (try dsimp only at hSw); go_simp; try with_reducible rfl); (try simp only [Act.put, List.getElem_toArray, List.getElem_cons_zero, List.getElem_cons_succ, List.setIfInBounds_toArray, List.set_cons_zero, List.set_cons_succ])
    refine wpAnyH_ready (rs := [4]) (by kernel_rfl) (by simp) ?_
    refine AllReadyH.cons rfl (fun K hK => ?_) AllReadyH.nil
    obtain ⟨z0, z1, zf⟩ := (M.out.get 0 rfl).two
    go_simp
    clear z0 z1 zf
    replace M := hid ((M.out.put 0 rfl (by decide) (by decide) 0 (.int .i64 0)).put 0 rfl (by decide) (by decide) 1 (.int .i64 size))
    refine hK.out _ _ (⟨(M.out.get 4 rfl).two.1, (M.out.get 4 rfl).two.2.1, (M.out.get 5 rfl).two.1, (M.out.get 5 rfl).two.2.1⟩) (fun hHeldN => ?_)
    clear hK K hHeld
    have hHeld := hHeldN
    clear hHeldN
    (try simp only [Act.put, List.getElem_toArray, List.getElem_cons_zero, List.getElem_cons_succ, List.setIfInBounds_toArray, List.set_cons_zero, List.set_cons_succ])
    generalize (X1.setCell ⟨w.heap.size, 0, none⟩ (.int .i64 0)).setCell ⟨w.heap.size, 1, none⟩ (.int .i64 size) = X2 at M hHeld ⊢
    refine wpAnyH_ready (rs := [5]) (by kernel_rfl) (by simp) ?_
    refine AllReadyH.cons rfl (fun K hK => ?_) AllReadyH.nil
    obtain ⟨z0, z1, zf⟩ := (M.out.get 1 rfl).two
    go_simp
    clear z0 z1 zf
    replace M := hid ((M.out.put 1 rfl (by decide) (by decide) 0 (.int .i64 size)).put 1 rfl (by decide) (by decide) 1 (.int .i64 size))
    refine hK.out _ _ (⟨(M.out.get 4 rfl).two.1, (M.out.get 4 rfl).two.2.1, (M.out.get 5 rfl).two.1, (M.out.get 5 rfl).two.2.1⟩) (fun hHeldN => ?_)
    clear hK K hHeld
    have hHeld := hHeldN
    clear hHeldN
    (try simp only [Act.put, List.getElem_toArray, List.getElem_cons_zero, List.getElem_cons_succ, List.setIfInBounds_toArray, List.set_cons_zero, List.set_cons_succ])
    generalize (X2.setCell ⟨w.heap.size + 1, 0, none⟩ (.int .i64 size)).setCell ⟨w.heap.size + 1, 1, none⟩ (.int .i64 size) = X3 at M hHeld ⊢
    refine wpAnyH_ready (rs := [6]) (by kernel_rfl) (by simp) ?_
    refine AllReadyH.cons rfl (fun K hK => ?_) AllReadyH.nil
    obtain ⟨z0, z1, z2, z3, zf⟩ := (M.out.get 2 rfl).four
    go_simp
    clear z0 z1 z2 z3 zf
    replace M := hid ((((M.out.put 2 rfl (by decide) (by decide) 0 (.slice none 0 0)).put 2 rfl (by decide) (by decide) 1 (.slice none 0 0)).put 2 rfl (by decide) (by decide) 2 (.bool false)).put 2 rfl (by decide) (by decide) 3 (.int .i64 0))
    refine hK.out _ _ (⟨(M.out.get 4 rfl).two.1, (M.out.get 4 rfl).two.2.1, (M.out.get 5 rfl).two.1, (M.out.get 5 rfl).two.2.1⟩) (fun hHeldN => ?_)
    clear hK K hHeld
    have hHeld := hHeldN
    clear hHeldN
    (try simp only [Act.put, List.getElem_toArray, List.getElem_cons_zero, List.getElem_cons_succ, List.setIfInBounds_toArray, List.set_cons_zero, List.set_cons_succ])
    generalize (((X3.setCell ⟨w.heap.size + 2, 0, none⟩ (.slice none 0 0)).setCell ⟨w.heap.size + 2, 1, none⟩ (.slice none 0 0)).setCell ⟨w.heap.size + 2, 2, none⟩ (.bool false)).setCell ⟨w.heap.size + 2, 3, none⟩ (.int .i64 0) = X4 at M hHeld ⊢
    refine wpAnyH_ready (rs := [7]) (by kernel_rfl) (by simp) ?_
    refine AllReadyH.cons rfl (fun K hK => ?_) AllReadyH.nil
    obtain ⟨z0, z1, zf⟩ := (M.out.get 3 rfl).two
    go_simp
    clear z0 z1 zf
    replace M := hid ((M.out.put 3 rfl (by decide) (by decide) 0 (.int .u64 0)).put 3 rfl (by decide) (by decide) 1 (.string ⟨#[]⟩))
    refine hK.out _ _ (⟨(M.out.get 4 rfl).two.1, (M.out.get 4 rfl).two.2.1, (M.out.get 5 rfl).two.1, (M.out.get 5 rfl).two.2.1⟩) (fun hHeldN => ?_)
    clear hK K hHeld
    have hHeld := hHeldN
    clear hHeldN
    (try simp only [Act.put, List.getElem_toArray, List.getElem_cons_zero, List.getElem_cons_succ, List.setIfInBounds_toArray, List.set_cons_zero, List.set_cons_succ])
    generalize (X4.setCell ⟨w.heap.size + 3, 0, none⟩ (.int .u64 0)).setCell ⟨w.heap.size + 3, 1, none⟩ (.string ⟨#[]⟩) = X5 at M hHeld ⊢
    refine wpAnyH_take (i := 8) (v := ?_) rfl (by kernel_rfl) (by kernel_rfl) (by kernel_rfl) (fun _ _ _ h => h) (Or.inl ⟨by rfl, ?_⟩) (by assumption) ?_; rotate_left 1; (intro w hSw; (try dsimp only at hSw); go_simp; try with_reducible rfl); (try simp only [Act.put, List.getElem_toArray, List.getElem_cons_zero, List.getElem_cons_succ, List.setIfInBounds_toArray, List.set_cons_zero, List.set_cons_succ])
    refine wpAnyH_done (by kernel_rfl) ?_ _
    obtain ⟨p0, p1, pf⟩ := (M.out.get 0 rfl).two
    obtain ⟨q0, q1, qf⟩ := (M.out.get 1 rfl).two
    obtain ⟨r0, r1, r2, r3, rf⟩ := (M.out.get 2 rfl).four
    obtain ⟨s0, s1, sf⟩ := (M.out.get 3 rfl).two
    go_wp2_with fail
    refine bodyPost_ret (v := .tuple #[.agg #[.int .i64 0, .int .i64 size], .agg #[.int .i64 size, .int .i64 size], .agg #[.slice none 0 0, .slice none 0 0, .bool false, .int .i64 0], .agg #[.int .u64 0, .string ⟨#[]⟩], .bool false]) (by simp [results, Try.results25, go_sem, p0, p1, q0, q1, r0, r1, r2, r3, s0, s1]) rfl ⟨rfl, M.out.bel⟩
set_option maxHeartbeats 8000000 in
theorem saved_yes (S : Nat) (l : List ByteArray) (vo : Option Addr) (vcap : Nat) (w : World) (h1 : 1 ≤ S) (h2 : S ≤ 512) (hl : l.length ≤ 100) (hv : StrsV w (.slice vo l.length vcap) l) (hs : ∀ s ∈ l, s.size ≤ maxLen) :
    Calls Try.prog 25 #[.int .i64 (S : Nat), .slice vo l.length vcap] w fun e w' => ∃ (d : Disk) (m : Im) (so : Option Addr) (sc : Nat) (po : Option Addr) (pc : Nat), e = .returned (.tuple #[.agg #[.int .i64 0, .int .i64 (S : Nat)], .agg #[.int .i64 (S : Nat), .int .i64 (S : Nat)], .agg #[.slice so d.secs.length sc, .slice po d.pend.length pc, .bool d.off, .int .i64 d.fuse], .agg #[.int .u64 (m.epoch : Nat), .string m.pay], .bool true]) ∧
      OwnDisk w.heap.size w' (.slice so d.secs.length sc) (.slice po d.pend.length pc) d ∧ St d ⟨0, S⟩ ⟨S, S⟩ m ∧ d.fuse = -1 ∧ m.has ∧ m.epoch ≤ l.length ∧ Below w.heap.size w w' := by
  have hnew := hid (fun W => fresh_new h1 h2 ▸ new_any (2 * (S : Int)) W)
  have i1 : ¬ (S : Int) < 1 := by omega
  have i2 : ¬ (S : Int) > 512 := by omega
  have i3 : ¬ (512 : Int) < (S : Int) := by omega
  have i4 : ¬ (l.length : Int) > 100 := by omega
  have i5 : ¬ (100 : Int) < (l.length : Int) := by omega
  have hSt0 := hid (St.start h1 h2)
  have hvs := hid hv
  have hss := hid hs
  have hnl : (l.length : Int) ≤ 9223372036854775807 := by omega
  have hwr : IntKind.i64.wrap (2 * (S : Int)) = 2 * (S : Int) := by rw [IntWalk.i64_in _ (by omega)]
  clear hv hs
  go_enter Try.func25, Try.ntmps25
  go_upto_region 2 with fail
  have M := hid (((((((Bag.nil w).push [.int .i64 0, .int .i64 0] 27 w.heap.size (by simp)).push [.int .i64 0, .int .i64 0] 27 (w.heap.size + 1) (by simp)).push [.slice none 0 0, .slice none 0 0, .bool false, .int .i64 0] 25 (w.heap.size + 2) (by simp)).push [.int .u64 0, .string ⟨#[]⟩] 56 (w.heap.size + 3) (by simp)).push [.int .i64 0, .int .i64 (S : Nat)] 27 (w.heap.size + 4) (by simp)).push [.int .i64 (S : Nat), .int .i64 (S : Nat)] 27 (w.heap.size + 5) (by simp))
  generalize (((((w.alloc (.cells #[.int .i64 0, .int .i64 0] 27)).alloc (.cells #[.int .i64 0, .int .i64 0] 27)).alloc (.cells #[.slice none 0 0, .slice none 0 0, .bool false, .int .i64 0] 25)).alloc (.cells #[.int .u64 0, .string ⟨#[]⟩] 56)).alloc (.cells #[.int .i64 0, .int .i64 (S : Nat)] 27)).alloc (.cells #[.int .i64 (S : Nat), .int .i64 (S : Nat)] 27) = X0 at M ⊢
  go_wp2_with fail
  refine (hnew.out _).mono ?_
  rintro e w2 hr
  obtain ⟨so, sc, po, pc, rfl, o2, b9⟩ := hr.open
  dsimp only at o2
  replace M := hid (M.out.res o2 b9)
  clear hr hnew hwr o2 b9
  dsimp only
  go_upto_region 5 with fail
  replace M := hid (M.out.push [.slice so (fresh S).secs.length sc, .slice po (fresh S).pend.length pc, .bool (fresh S).off, .int .i64 (fresh S).fuse] 25 w2.heap.size rfl)
  generalize w2.alloc (.cells #[.slice so (fresh S).secs.length sc, .slice po (fresh S).pend.length pc, .bool (fresh S).off, .int .i64 (fresh S).fuse] 25) = X2 at M ⊢
  generalize w2.heap.size = n2 at M ⊢
  go_upto_region 6 with fail
  replace M := hid (M.out.push [.int .u64 0, .string ⟨#[]⟩] 56 X2.heap.size rfl)
  generalize X2.alloc (.cells #[.int .u64 0, .string ⟨#[]⟩] 56) = X3 at M ⊢
  generalize X2.heap.size = n3 at M ⊢
  have hrA := hid (show Rg.has ⟨0, S⟩ from ⟨by simp, by simp, by show (-9223372036854775808 : Int) ≤ (S : Int); omega, by show (S : Int) ≤ 9223372036854775807; omega⟩)
  have hrB := hid (show Rg.has ⟨S, S⟩ from ⟨by show (-9223372036854775808 : Int) ≤ (S : Int); omega, by show (S : Int) ≤ 9223372036854775807; omega, by show (-9223372036854775808 : Int) ≤ (S : Int); omega, by show (S : Int) ≤ 9223372036854775807; omega⟩)
  have hfu0 := hid (show (fresh S).fuse = -1 from rfl)
  generalize fresh S = dd at hSt0 hfu0 M ⊢
  go_wp2_with fail
  go_loopw [48] (fun i wr => ∃ (k : Nat) (d : Disk) (m : Im) (so : Option Addr) (sc : Nat) (po : Option Addr) (pc : Nat), k ≤ l.length ∧ i = .int .i64 k ∧ Hid (St d ⟨0, S⟩ ⟨S, S⟩ m) ∧ Hid (d.fuse = -1) ∧ Hid m.has ∧ m.epoch ≤ k ∧ Hid (Bag w wr [⟨w.heap.size, [.int .i64 0, .int .i64 0], 27⟩, ⟨w.heap.size + 1, [.int .i64 0, .int .i64 0], 27⟩, ⟨w.heap.size + 2, [.slice none 0 0, .slice none 0 0, .bool false, .int .i64 0], 25⟩, ⟨w.heap.size + 3, [.int .u64 0, .string ⟨#[]⟩], 56⟩, ⟨w.heap.size + 4, [.int .i64 0, .int .i64 (S : Nat)], 27⟩, ⟨w.heap.size + 5, [.int .i64 (S : Nat), .int .i64 (S : Nat)], 27⟩, ⟨n2, [.slice so d.secs.length sc, .slice po d.pend.length pc, .bool d.off, .int .i64 d.fuse], 25⟩, ⟨n3, [.int .u64 (m.epoch : Nat), .string m.pay], 56⟩] [⟨.slice so d.secs.length sc, .slice po d.pend.length pc, d⟩])) (fun i _ => l.length - (intOf i).toNat)
  case atStart => exact ⟨0, dd, zeroIm, so, sc, po, pc, by omega, rfl, hSt0, hfu0, hid ⟨by decide, by decide⟩, by decide, M⟩
  case round =>
    clear M hSt0 hfu0
    obtain ⟨k, d, m, so, sc, po, pc, hk, rfl, hSt, hfu, hmh, hm1, M⟩ := hrel
    by_cases hlt : k < l.length
    · obtain ⟨tb, toff, tcap', hv, _, _, htb, htc⟩ := StrsV.open hvs.out (by omega)
      simp only [Value.slice.injEq] at hv
      obtain ⟨rfl, -, rfl⟩ := hv
      have tc := (M.out.bel.cell (p := ⟨tb, toff + k, none⟩) htb).trans (htc k hlt)
      have hki : (k : Int) < (l.length : Int) := by omega
      have hk6 : (k : Int) ≤ 100 := by omega
      have hk0 : (0 : Int) ≤ (k : Int) := by omega
      have hps := hss.out l[k] (List.getElem_mem hlt)
      clear htc
      generalize l[k] = p at tc hps
      have w1 : IntKind.u64.wrap ((k : Int) + 1) = (k : Int) + 1 := by rw [IntWalk.u64_in _ (by omega)]
      obtain ⟨n, hm⟩ : ∃ n : Im, n = ⟨k + 1, p⟩ := ⟨_, rfl⟩
      have hnh := hid (show n.has by rw [hm]; exact ⟨by show k + 1 < _; omega, by unfold maxLen at hps; exact hps⟩)
      have hne := hid (show n.epoch = k + 1 by rw [hm])
      have hmore := hid (St.live (m := n) hSt.out (by rw [hfu.out]; decide) (by rw [hne.out]; omega) hnh.out.1)
      have hsv := hid (fun v W (h : DiskV W v d) => save_any d v ⟨0, S⟩ ⟨S, S⟩ n W h (by rw [hfu.out]; decide) hrA.out hrB.out hnh.out)
      rw [show rgV ⟨0, S⟩ = .agg #[.int .i64 0, .int .i64 (S : Nat)] from rfl, show rgV ⟨S, S⟩ = .agg #[.int .i64 (S : Nat), .int .i64 (S : Nat)] from rfl] at hsv
      rw [show imV n = .agg #[.int .u64 (n.epoch : Nat), .string n.pay] from rfl] at hsv
      go_upto_region 10 with fail
      clear tc
      have hE : ((k : Int) + 1) = ((n.epoch : Nat) : Int) := by have := hne.out; omega
      have hP : p = n.pay := by rw [hm]
      rw [hE, hP]
      clear hE hP hm hps w1
      replace M := hid (M.out.push [.int .u64 (n.epoch : Nat), .string n.pay] 56 wr.heap.size rfl)
      generalize wr.alloc (.cells #[.int .u64 (n.epoch : Nat), .string n.pay] 56) = X4 at M ⊢
      generalize wr.heap.size = n9 at M ⊢
      obtain ⟨a0, a1, af⟩ := (M.out.get 4 rfl).two
      obtain ⟨b0, b1, bf⟩ := (M.out.get 5 rfl).two
      obtain ⟨d0, d1, d2, d3, df⟩ := (M.out.get 6 rfl).four
      obtain ⟨m0, m1, mf⟩ := (M.out.get 8 rfl).two
      go_wp2_with fail
      clear a0 a1 af b0 b1 bf d0 d1 d2 d3 df m0 m1 mf
      rcases hmore.out with h2 | ⟨e, h1, h2, h3⟩
      · clear hmore
        rcases h2 with h2 | h2
        all_goals
          have hE := hid h2
          clear h2
          replace hsv := hid (fun v W h => hE.out ▸ hsv.out v W h)
          (with_reducible refine (hsv.out _ _ (M.out.view 0 rfl)).mono ?_)
          rintro e3 w3 hr
          obtain ⟨so4, sc4, po4, pc4, rfl, o4, b4⟩ := hr.open
          dsimp only at o4
          replace M := hid (M.out.res o4 b4)
          clear hr hsv o4 b4 hE
          dsimp only
          go_upto_region 11 with fail
          replace M := hid (M.out.push [.slice so4 d.secs.length sc4, .slice po4 d.pend.length pc4, .bool d.off, .int .i64 d.fuse] 25 w3.heap.size rfl)
          generalize w3.alloc (.cells #[.slice so4 d.secs.length sc4, .slice po4 d.pend.length pc4, .bool d.off, .int .i64 d.fuse] 25) = X5 at M ⊢
          generalize w3.heap.size = n5 at M ⊢
          go_wp2_with fail
          go_roundw
          case rel => exact ⟨k + 1, d, m, so, sc, po, pc, by omega, by go_num, hSt, hfu, hmh, by omega, hid (M.out.cut 8 0 1)⟩
          case measure => simp [intOf]; omega
      · have hE := hid h1
        have hS2 := hid h2
        have hf2 := hid (h3.trans hfu.out)
        clear hmore h1 h2 h3
        replace hsv := hid (fun v W h => hE.out ▸ hsv.out v W h)
        (with_reducible refine (hsv.out _ _ (M.out.view 0 rfl)).mono ?_)
        rintro e3 w3 hr
        obtain ⟨so4, sc4, po4, pc4, rfl, o4, b4⟩ := hr.open
        dsimp only at o4
        replace M := hid (M.out.res o4 b4)
        clear hr hsv o4 b4 hE
        dsimp only
        go_upto_region 11 with fail
        replace M := hid (M.out.push [.slice so4 e.secs.length sc4, .slice po4 e.pend.length pc4, .bool e.off, .int .i64 e.fuse] 25 w3.heap.size rfl)
        generalize w3.alloc (.cells #[.slice so4 e.secs.length sc4, .slice po4 e.pend.length pc4, .bool e.off, .int .i64 e.fuse] 25) = X5 at M ⊢
        generalize w3.heap.size = k4 at M ⊢
        go_upto_region 12 with fail
        replace M := hid M.out.drew
        refine wp_region_held_drew (S := (fun W => W.cell? ⟨k4, 0, none⟩ = some (.slice so4 e.secs.length sc4) ∧ W.cell? ⟨k4, 1, none⟩ = some (.slice po4 e.pend.length pc4) ∧ W.cell? ⟨k4, 2, none⟩ = some (.bool e.off) ∧ W.cell? ⟨k4, 3, none⟩ = some (.int .i64 e.fuse) ∧ W.cell? ⟨n9, 0, none⟩ = some (.int .u64 (n.epoch : Nat)) ∧ W.cell? ⟨n9, 1, none⟩ = some (.string n.pay))) (by kernel_rfl) ⟨(M.out.get 9 rfl).four.1, (M.out.get 9 rfl).four.2.1, (M.out.get 9 rfl).four.2.2.1, (M.out.get 9 rfl).four.2.2.2.1, (M.out.get 8 rfl).two.1, (M.out.get 8 rfl).two.2.1⟩ (fun hHeld => ?_)
        generalize X5.drew = X9 at M hHeld ⊢
        refine wpAnyH_take (i := 0) (v := ?_) rfl (by kernel_rfl) (by kernel_rfl) (by kernel_rfl) (fun _ _ _ h => h) (Or.inl ⟨by rfl, ?_⟩) (by assumption) ?_; rotate_left 1; (intro w hSw; (try dsimp only at hSw); go_simp; try with_reducible rfl); (try simp only [Act.put, List.getElem_toArray, List.getElem_cons_zero, List.getElem_cons_succ, List.setIfInBounds_toArray, List.set_cons_zero, List.set_cons_succ])
        refine wpAnyH_take (i := 1) (v := ?_) rfl (by kernel_rfl) (by kernel_rfl) (by kernel_rfl) (fun _ _ _ h => h) (Or.inl ⟨by rfl, ?_⟩) (by assumption) ?_; rotate_left 1; (intro w hSw; (try dsimp only at hSw); go_simp; try with_reducible rfl); (try simp only [Act.put, List.getElem_toArray, List.getElem_cons_zero, List.getElem_cons_succ, List.setIfInBounds_toArray, List.set_cons_zero, List.set_cons_succ])
        refine wpAnyH_ready (rs := [2]) (by kernel_rfl) (by simp) ?_
        refine AllReadyH.cons rfl (fun K hK => ?_) AllReadyH.nil
        obtain ⟨z0, z1, z2, z3, zf⟩ := (M.out.get 6 rfl).four
        go_simp
        clear z0 z1 z2 z3 zf
        replace M := hid ((((M.out.put 6 rfl (by decide) (by decide) 0 (.slice so4 e.secs.length sc4)).put 6 rfl (by decide) (by decide) 1 (.slice po4 e.pend.length pc4)).put 6 rfl (by decide) (by decide) 2 (.bool e.off)).put 6 rfl (by decide) (by decide) 3 (.int .i64 e.fuse))
        refine hK.out _ _ (⟨(M.out.get 9 rfl).four.1, (M.out.get 9 rfl).four.2.1, (M.out.get 9 rfl).four.2.2.1, (M.out.get 9 rfl).four.2.2.2.1, (M.out.get 8 rfl).two.1, (M.out.get 8 rfl).two.2.1⟩) (fun hHeldN => ?_)
        clear hK K hHeld
        have hHeld := hHeldN
        clear hHeldN
        (try simp only [Act.put, List.getElem_toArray, List.getElem_cons_zero, List.getElem_cons_succ, List.setIfInBounds_toArray, List.set_cons_zero, List.set_cons_succ])
        generalize (((X9.setCell ⟨n2, 0, none⟩ (.slice so4 e.secs.length sc4)).setCell ⟨n2, 1, none⟩ (.slice po4 e.pend.length pc4)).setCell ⟨n2, 2, none⟩ (.bool e.off)).setCell ⟨n2, 3, none⟩ (.int .i64 e.fuse) = Y9 at M hHeld ⊢
        refine wpAnyH_ready (rs := [3]) (by kernel_rfl) (by simp) ?_
        refine AllReadyH.cons rfl (fun K hK => ?_) AllReadyH.nil
        obtain ⟨z0, z1, zf⟩ := (M.out.get 7 rfl).two
        go_simp
        clear z0 z1 zf
        replace M := hid ((M.out.put 7 rfl (by decide) (by decide) 0 (.int .u64 (n.epoch : Nat))).put 7 rfl (by decide) (by decide) 1 (.string n.pay))
        refine hK.out _ _ (⟨(M.out.get 9 rfl).four.1, (M.out.get 9 rfl).four.2.1, (M.out.get 9 rfl).four.2.2.1, (M.out.get 9 rfl).four.2.2.2.1, (M.out.get 8 rfl).two.1, (M.out.get 8 rfl).two.2.1⟩) (fun hHeldN => ?_)
        clear hK K hHeld
        have hHeld := hHeldN
        clear hHeldN
        (try simp only [Act.put, List.getElem_toArray, List.getElem_cons_zero, List.getElem_cons_succ, List.setIfInBounds_toArray, List.set_cons_zero, List.set_cons_succ])
        generalize (Y9.setCell ⟨n3, 0, none⟩ (.int .u64 (n.epoch : Nat))).setCell ⟨n3, 1, none⟩ (.string n.pay) = Z9 at M hHeld ⊢
        refine wpAnyH_done (by kernel_rfl) ?_ _
        go_wp2_with fail
        go_roundw
        case rel => exact ⟨k + 1, e, n, so4, sc4, po4, pc4, by omega, by go_num, hS2, hf2, hnh, by have := hne.out; omega, hid (M.out.cut 8 1 1)⟩
        case measure => simp [intOf]; omega
    · obtain rfl : k = l.length := by omega
      clear hvs hss
      go_upto_region 14 with fail
      replace M := hid M.out.drew
      refine wp_region_held_drew (S := (fun W => W.cell? ⟨w.heap.size + 4, 0, none⟩ = some (.int .i64 0) ∧ W.cell? ⟨w.heap.size + 4, 1, none⟩ = some (.int .i64 (S : Nat)) ∧ W.cell? ⟨w.heap.size + 5, 0, none⟩ = some (.int .i64 (S : Nat)) ∧ W.cell? ⟨w.heap.size + 5, 1, none⟩ = some (.int .i64 (S : Nat)) ∧ W.cell? ⟨n2, 0, none⟩ = some (.slice so d.secs.length sc) ∧ W.cell? ⟨n2, 1, none⟩ = some (.slice po d.pend.length pc) ∧ W.cell? ⟨n2, 2, none⟩ = some (.bool d.off) ∧ W.cell? ⟨n2, 3, none⟩ = some (.int .i64 d.fuse) ∧ W.cell? ⟨n3, 0, none⟩ = some (.int .u64 (m.epoch : Nat)) ∧ W.cell? ⟨n3, 1, none⟩ = some (.string m.pay))) (by kernel_rfl) ⟨(M.out.get 4 rfl).two.1, (M.out.get 4 rfl).two.2.1, (M.out.get 5 rfl).two.1, (M.out.get 5 rfl).two.2.1, (M.out.get 6 rfl).four.1, (M.out.get 6 rfl).four.2.1, (M.out.get 6 rfl).four.2.2.1, (M.out.get 6 rfl).four.2.2.2.1, (M.out.get 7 rfl).two.1, (M.out.get 7 rfl).two.2.1⟩ (fun hHeld => ?_)
      generalize wr.drew = X4 at M hHeld ⊢
      refine wpAnyH_take (i := 0) (v := ?_) rfl (by kernel_rfl) (by kernel_rfl) (by kernel_rfl) (fun _ _ _ h => h) (Or.inl ⟨by rfl, ?_⟩) (by assumption) ?_; rotate_left 1; (intro w hSw; (try dsimp only at hSw); go_simp; try with_reducible rfl); (try simp only [Act.put, List.getElem_toArray, List.getElem_cons_zero, List.getElem_cons_succ, List.setIfInBounds_toArray, List.set_cons_zero, List.set_cons_succ])
      refine wpAnyH_take (i := 1) (v := ?_) rfl (by kernel_rfl) (by kernel_rfl) (by kernel_rfl) (fun _ _ _ h => h) (Or.inl ⟨by rfl, ?_⟩) (by assumption) ?_; rotate_left 1; (intro w hSw; (try dsimp only at hSw); go_simp; try with_reducible rfl); (try simp only [Act.put, List.getElem_toArray, List.getElem_cons_zero, List.getElem_cons_succ, List.setIfInBounds_toArray, List.set_cons_zero, List.set_cons_succ])
      refine wpAnyH_take (i := 2) (v := ?_) rfl (by kernel_rfl) (by kernel_rfl) (by kernel_rfl) (fun _ _ _ h => h) (Or.inl ⟨by rfl, ?_⟩) (by assumption) ?_; rotate_left 1; (intro w hSw; (try dsimp only at hSw); go_simp; try with_reducible rfl); (try simp only [Act.put, List.getElem_toArray, List.getElem_cons_zero, List.getElem_cons_succ, List.setIfInBounds_toArray, List.set_cons_zero, List.set_cons_succ])
      refine wpAnyH_take (i := 3) (v := ?_) rfl (by kernel_rfl) (by kernel_rfl) (by kernel_rfl) (fun _ _ _ h => h) (Or.inl ⟨by rfl, ?_⟩) (by assumption) ?_; rotate_left 1; (intro w hSw; (try dsimp only at hSw); go_simp; try with_reducible rfl); (try simp only [Act.put, List.getElem_toArray, List.getElem_cons_zero, List.getElem_cons_succ, List.setIfInBounds_toArray, List.set_cons_zero, List.set_cons_succ])
      refine wpAnyH_take (i := 4) (v := ?_) rfl (by kernel_rfl) (by kernel_rfl) (by kernel_rfl) (fun _ _ _ h => h) (Or.inl ⟨by rfl, ?_⟩) (by assumption) ?_; rotate_left 1; (intro w hSw; (try dsimp only at hSw); go_simp; try with_reducible rfl); (try simp only [Act.put, List.getElem_toArray, List.getElem_cons_zero, List.getElem_cons_succ, List.setIfInBounds_toArray, List.set_cons_zero, List.set_cons_succ])
      refine wpAnyH_take (i := 5) (v := ?_) rfl (by kernel_rfl) (by kernel_rfl) (by kernel_rfl) (fun _ _ _ h => h) (Or.inl ⟨by rfl, ?_⟩) (by assumption) ?_; rotate_left 1; (intro w hSw; (try dsimp only at hSw); go_simp; try with_reducible rfl); (try simp only [Act.put, List.getElem_toArray, List.getElem_cons_zero, List.getElem_cons_succ, List.setIfInBounds_toArray, List.set_cons_zero, List.set_cons_succ])
      refine wpAnyH_ready (rs := [6]) (by kernel_rfl) (by simp) ?_
      refine AllReadyH.cons rfl (fun K hK => ?_) AllReadyH.nil
      obtain ⟨z0, z1, zf⟩ := (M.out.get 0 rfl).two
      go_simp
      clear z0 z1 zf
      replace M := hid ((M.out.put 0 rfl (by decide) (by decide) 0 (.int .i64 0)).put 0 rfl (by decide) (by decide) 1 (.int .i64 (S : Nat)))
      refine hK.out _ _ (⟨(M.out.get 4 rfl).two.1, (M.out.get 4 rfl).two.2.1, (M.out.get 5 rfl).two.1, (M.out.get 5 rfl).two.2.1, (M.out.get 6 rfl).four.1, (M.out.get 6 rfl).four.2.1, (M.out.get 6 rfl).four.2.2.1, (M.out.get 6 rfl).four.2.2.2.1, (M.out.get 7 rfl).two.1, (M.out.get 7 rfl).two.2.1⟩) (fun hHeldN => ?_)
      clear hK K hHeld
      have hHeld := hHeldN
      clear hHeldN
      (try simp only [Act.put, List.getElem_toArray, List.getElem_cons_zero, List.getElem_cons_succ, List.setIfInBounds_toArray, List.set_cons_zero, List.set_cons_succ])
      generalize (X4.setCell ⟨w.heap.size, 0, none⟩ (.int .i64 0)).setCell ⟨w.heap.size, 1, none⟩ (.int .i64 (S : Nat)) = X5 at M hHeld ⊢
      refine wpAnyH_ready (rs := [7]) (by kernel_rfl) (by simp) ?_
      refine AllReadyH.cons rfl (fun K hK => ?_) AllReadyH.nil
      obtain ⟨z0, z1, zf⟩ := (M.out.get 1 rfl).two
      go_simp
      clear z0 z1 zf
      replace M := hid ((M.out.put 1 rfl (by decide) (by decide) 0 (.int .i64 (S : Nat))).put 1 rfl (by decide) (by decide) 1 (.int .i64 (S : Nat)))
      refine hK.out _ _ (⟨(M.out.get 4 rfl).two.1, (M.out.get 4 rfl).two.2.1, (M.out.get 5 rfl).two.1, (M.out.get 5 rfl).two.2.1, (M.out.get 6 rfl).four.1, (M.out.get 6 rfl).four.2.1, (M.out.get 6 rfl).four.2.2.1, (M.out.get 6 rfl).four.2.2.2.1, (M.out.get 7 rfl).two.1, (M.out.get 7 rfl).two.2.1⟩) (fun hHeldN => ?_)
      clear hK K hHeld
      have hHeld := hHeldN
      clear hHeldN
      (try simp only [Act.put, List.getElem_toArray, List.getElem_cons_zero, List.getElem_cons_succ, List.setIfInBounds_toArray, List.set_cons_zero, List.set_cons_succ])
      generalize (X5.setCell ⟨w.heap.size + 1, 0, none⟩ (.int .i64 (S : Nat))).setCell ⟨w.heap.size + 1, 1, none⟩ (.int .i64 (S : Nat)) = X6 at M hHeld ⊢
      refine wpAnyH_ready (rs := [8]) (by kernel_rfl) (by simp) ?_
      refine AllReadyH.cons rfl (fun K hK => ?_) AllReadyH.nil
      obtain ⟨z0, z1, z2, z3, zf⟩ := (M.out.get 2 rfl).four
      go_simp
      clear z0 z1 z2 z3 zf
      replace M := hid ((((M.out.put 2 rfl (by decide) (by decide) 0 (.slice so d.secs.length sc)).put 2 rfl (by decide) (by decide) 1 (.slice po d.pend.length pc)).put 2 rfl (by decide) (by decide) 2 (.bool d.off)).put 2 rfl (by decide) (by decide) 3 (.int .i64 d.fuse))
      refine hK.out _ _ (⟨(M.out.get 4 rfl).two.1, (M.out.get 4 rfl).two.2.1, (M.out.get 5 rfl).two.1, (M.out.get 5 rfl).two.2.1, (M.out.get 6 rfl).four.1, (M.out.get 6 rfl).four.2.1, (M.out.get 6 rfl).four.2.2.1, (M.out.get 6 rfl).four.2.2.2.1, (M.out.get 7 rfl).two.1, (M.out.get 7 rfl).two.2.1⟩) (fun hHeldN => ?_)
      clear hK K hHeld
      have hHeld := hHeldN
      clear hHeldN
      (try simp only [Act.put, List.getElem_toArray, List.getElem_cons_zero, List.getElem_cons_succ, List.setIfInBounds_toArray, List.set_cons_zero, List.set_cons_succ])
      generalize (((X6.setCell ⟨w.heap.size + 2, 0, none⟩ (.slice so d.secs.length sc)).setCell ⟨w.heap.size + 2, 1, none⟩ (.slice po d.pend.length pc)).setCell ⟨w.heap.size + 2, 2, none⟩ (.bool d.off)).setCell ⟨w.heap.size + 2, 3, none⟩ (.int .i64 d.fuse) = X7 at M hHeld ⊢
      refine wpAnyH_ready (rs := [9]) (by kernel_rfl) (by simp) ?_
      refine AllReadyH.cons rfl (fun K hK => ?_) AllReadyH.nil
      obtain ⟨z0, z1, zf⟩ := (M.out.get 3 rfl).two
      go_simp
      clear z0 z1 zf
      replace M := hid ((M.out.put 3 rfl (by decide) (by decide) 0 (.int .u64 (m.epoch : Nat))).put 3 rfl (by decide) (by decide) 1 (.string m.pay))
      refine hK.out _ _ (⟨(M.out.get 4 rfl).two.1, (M.out.get 4 rfl).two.2.1, (M.out.get 5 rfl).two.1, (M.out.get 5 rfl).two.2.1, (M.out.get 6 rfl).four.1, (M.out.get 6 rfl).four.2.1, (M.out.get 6 rfl).four.2.2.1, (M.out.get 6 rfl).four.2.2.2.1, (M.out.get 7 rfl).two.1, (M.out.get 7 rfl).two.2.1⟩) (fun hHeldN => ?_)
      clear hK K hHeld
      have hHeld := hHeldN
      clear hHeldN
      (try simp only [Act.put, List.getElem_toArray, List.getElem_cons_zero, List.getElem_cons_succ, List.setIfInBounds_toArray, List.set_cons_zero, List.set_cons_succ])
      generalize (X7.setCell ⟨w.heap.size + 3, 0, none⟩ (.int .u64 (m.epoch : Nat))).setCell ⟨w.heap.size + 3, 1, none⟩ (.string m.pay) = X8 at M hHeld ⊢
      refine wpAnyH_take (i := 10) (v := ?_) rfl (by kernel_rfl) (by kernel_rfl) (by kernel_rfl) (fun _ _ _ h => h) (Or.inl ⟨by rfl, ?_⟩) (by assumption) ?_; rotate_left 1; (intro w hSw; (try dsimp only at hSw); go_simp; try with_reducible rfl); (try simp only [Act.put, List.getElem_toArray, List.getElem_cons_zero, List.getElem_cons_succ, List.setIfInBounds_toArray, List.set_cons_zero, List.set_cons_succ])
      refine wpAnyH_done (by kernel_rfl) ?_ _
      obtain ⟨p0, p1, pf⟩ := (M.out.get 0 rfl).two
      obtain ⟨q0, q1, qf⟩ := (M.out.get 1 rfl).two
      obtain ⟨r0, r1, r2, r3, rf⟩ := (M.out.get 2 rfl).four
      obtain ⟨s0, s1, sf⟩ := (M.out.get 3 rfl).two
      go_wp2_with fail
      refine bodyPost_ret (v := .tuple #[.agg #[.int .i64 0, .int .i64 (S : Nat)], .agg #[.int .i64 (S : Nat), .int .i64 (S : Nat)], .agg #[.slice so d.secs.length sc, .slice po d.pend.length pc, .bool d.off, .int .i64 d.fuse], .agg #[.int .u64 (m.epoch : Nat), .string m.pay], .bool true]) (by simp [results, Try.results25, go_sem, p0, p1, q0, q1, r0, r1, r2, r3, s0, s1]) rfl ⟨d, m, so, sc, po, pc, rfl, M.out.own _ (List.mem_singleton.2 rfl), hSt.out, hfu.out, hmh.out, hm1, M.out.bel⟩
end Go.Proofs.Ytiagjjbcngchpaa.Slot
