/-
  The iterator that wal.frames makes: its contract.
-/
import Derived.Test.YtiegocbdgimimaaWalFrame
import Derived.RangeFuncBox
import Derived.RangeFuncNested
import Derived.RangeFuncLeaves
import Derived.RangeFuncCalls
import Derived.Shelf.Abstract
import Derived.OwnWalkIn
import Derived.TacticsInMore
import Derived.LoopNIn
import Derived.LoopIn
namespace Go.Proofs.Ytiegocbdgimimaa.Wal
open Go.ChangeShapes Go.WideShapes Go.ChangeAt Go.RowKit Go.Shelf
open Go.Proofs.Ytiegocbdgimimaa.Mem Go.Proofs.Ytiegocbdgimimaa.Rec Go.Proofs.Ytiegocbdgimimaa.Sector
set_option linter.unusedVariables false
set_option maxRecDepth 100000
attribute [local go_sem] Oper.semAt_some

abbrev FX : Type := Nat × Fr
/-- The k-th frame of a log, behind the place where it ends. -/
def item (h : Nat → ByteArray) (s k : Nat) : FX := (pos h s (k + 1), (frAt h s (pos h s k)).1)
def firstF (h : Nat → ByteArray) (s k : Nat) : List FX := (List.range k).map (item h s)
theorem firstF_succ (h : Nat → ByteArray) (s k : Nat) : firstF h s (k + 1) = firstF h s k ++ [item h s k] := by simp [firstF, List.range_succ]
theorem firstF_len (h : Nat → ByteArray) (s k : Nat) : (firstF h s k).length = k := by simp [firstF]
theorem firstF_log (h : Nat → ByteArray) (s ep : Nat) : (firstF h s (cnt h s ep)).map (·.2) = logF h s ep := by simp [firstF, logF, item]
def encF (x : FX) : Array Value := #[.int .i64 (x.1 : Nat), .agg #[.int .u8 x.2.kind, .int .u64 x.2.epoch, .int .u64 x.2.seq, .string x.2.pay]]
theorem grown_none {W W' : World} (hb : Below W.heap.size W W') : W.grownBy W' none := ⟨hb.os, hb.tape, hb.output, hb.size, fun k hk _ => hb.block k hk⟩
theorem abides_below {β : Type} {B : Nat} {J : β → World → Prop} (h : AbidesFrom B J) {s : β} {W W' : World} (hs : J s W) (hb : Below W.heap.size W W') : J s W' := h s W W' none hs (grown_none hb) (fun r e => by cases e)
/-- What the iterator needs is as it was: the disk, its own three boxes. -/
structure Kp3 (a Bd Br Be : Nat) (u v : World) : Prop where
  below : Below a u v
  one : v.heap[Bd]? = u.heap[Bd]?
  two : v.heap[Br]? = u.heap[Br]?
  three : v.heap[Be]? = u.heap[Be]?
theorem Kp3.refl (a Bd Br Be : Nat) (u : World) : Kp3 a Bd Br Be u u := ⟨Below.refl _ _, rfl, rfl, rfl⟩
theorem Kp3.trans {a Bd Br Be : Nat} {u v x : World} (h : Kp3 a Bd Br Be u v) (g : Kp3 a Bd Br Be v x) : Kp3 a Bd Br Be u x := ⟨h.below.trans g.below, g.one.trans h.one, g.two.trans h.two, g.three.trans h.three⟩
theorem Kp3.of {a Bd Br Be n : Nat} {u v : World} (h : Below n u v) (ha : a ≤ n) (h1 : Bd < n) (h2 : Br < n) (h3 : Be < n) : Kp3 a Bd Br Be u v := ⟨h.mono ha, h.block _ h1, h.block _ h2, h.block _ h3⟩
theorem Kp3.put {a Bd Br Be : Nat} {w : World} (ha : a ≤ w.heap.size) (h1 : Bd < w.heap.size) (h2 : Br < w.heap.size) (h3 : Be < w.heap.size) (W : World) (l : Nat) (o' : Obj) (hl : w.heap.size ≤ l) : Kp3 a Bd Br Be W (W.putObj l o') :=
  ⟨⟨rfl, rfl, rfl, by simp, fun k hk => World.putObj_heap_other (by omega)⟩, World.putObj_heap_other (by omega), World.putObj_heap_other (by omega), World.putObj_heap_other (by omega)⟩
set_option maxHeartbeats 4000000 in
theorem frames1_in (n : Nat) (hn : 1 ≤ n) (l Bd Br Be : Nat) (d : Disk) (so po : Option Addr) (scap pcap F S ep : Nat) (A : World)
    (hV : DiskV A (.agg #[.slice so d.secs.length scap, .slice po d.pend.length pcap, .bool d.off, .int .i64 d.fuse]) d) (hS : S ≤ 1024) (hF : F ≤ 1024) (J Jx : List FX → World → Prop)
    (hJb : ∀ s W W', J s W → Below W.heap.size W W' → J s W')
    (hY : ∀ pre x W, J pre W → pre.length < cnt (cont d ⟨F, S⟩) S ep → YieldAt Fence.wide (n - 1) Try.prog l (encF x) W fun e W' =>
      (e = .returned (.bool true) ∧ J (pre ++ [x]) W' ∧ Kp3 A.heap.size Bd Br Be W W') ∨ (e = .returned (.bool false) ∧ Jx (pre ++ [x]) W'))
    (W : World) (hAW : Below A.heap.size A W) (hD : Blk W Bd [.slice so d.secs.length scap, .slice po d.pend.length pcap, .bool d.off, .int .i64 d.fuse] 25) (hR : Blk W Br [.int .i64 (F : Nat), .int .i64 (S : Nat)] 27) (hE : Blk W Be [.int .u64 ep] 28) (h0 : J [] W) :
    CallsIn Fence.wide n Try.prog 57 #[.func (.yield l) #[] #[], .pointer (some ⟨Bd, 0, none⟩), .pointer (some ⟨Br, 0, none⟩), .pointer (some ⟨Be, 0, none⟩)] W fun e W' => (∃ v, e = .returned v) ∧
      ((∃ ys, ys = firstF (cont d ⟨F, S⟩) S (cnt (cont d ⟨F, S⟩) S ep) ∧ J ys W') ∨ (∃ pre, (∃ k, k ≤ cnt (cont d ⟨F, S⟩) S ep ∧ pre = firstF (cont d ⟨F, S⟩) S k) ∧ Jx pre W')) := by
  have hfr := hid (fun (a : Nat) (v : Value) (W : World) (h : DiskV W v d) (ha : a ≤ 2000) => frameAt_nat d v F S a W h hS hF ha)
  obtain ⟨H, hH⟩ : ∃ H, cont d ⟨F, S⟩ = H := ⟨_, rfl⟩
  rw [hH] at hY hfr ⊢
  clear hH
  refine callsIn_of_wp Try.func57 rfl trivial ?_ rfl
  simp only [Try.ntmps57, List.size_toArray, List.length_cons, List.length_nil, Nat.reduceAdd, Nat.reduceSub, Array.replicate_succ, Array.replicate_zero, List.push_toArray, List.append_toArray, List.nil_append, List.cons_append]
  have hY2 := hid hY
  have hJ2 := hid hJb
  have hV' := hid hV
  have hAW' := hid hAW
  clear hY hJb hV hAW
  gi_wp2
  gi_loopw [5, 9] (fun a i wr => ∃ k p : Nat, k ≤ 1024 ∧ p = pos H S k ∧ i = .int .u64 k ∧ a = .int .i64 p ∧ Hid (∀ j, j < k → good H S ep j = true) ∧ Hid (J (firstF H S k) wr) ∧ Hid (Kp3 A.heap.size Bd Br Be W wr)) (fun _ i _ => 1024 - (intOf i).toNat)
  case atStart => exact ⟨0, 0, by omega, rfl, rfl, rfl, hid (fun j hj => absurd hj (by omega)), hid h0, hid (Kp3.refl _ _ _ _ _)⟩
  case round =>
    obtain ⟨k, p, hk, hp, rfl, rfl, hg, hJ, hb⟩ := hrel
    clear h0
    have hkc := hid (cnt_ge H S ep k hk hg.out)
    by_cases hlt : k < 1024
    · have hki : (k : Int) < 1024 := by omega
      have hk0 : (0 : Int) ≤ (k : Int) := by omega
      have D1 : Hid (Blk wr Bd _ _) := hid ⟨hb.out.one.trans hD.at'⟩
      have R1 : Hid (Blk wr Br _ _) := hid ⟨hb.out.two.trans hR.at'⟩
      have E1 : Hid (Blk wr Be _ _) := hid ⟨hb.out.three.trans hE.at'⟩
      have hp2 : p ≤ 1024 := by have := pos_le H S k; omega
      have hp3 : (p : Int) ≤ 1024 := by omega
      have hp' := hid hp
      have hws := hid (Nat.le_trans hAW'.out.size hb.out.below.size)
      obtain ⟨d0, d1, d2, d3, df⟩ := D1.out.four
      obtain ⟨r0, r1, rf⟩ := R1.out.two
      clear hp
      gi_wp2_with fail
      refine ⟨trivial, ?_⟩
      refine (callsIn_wide.2 (hfr.out p _ _ (hV'.out.below (hAW'.out.trans hb.out.below)) (by omega))).mono ?_
      have hbad := hid (fun (h : (frAt H S p).2 = 0 ∨ (frAt H S p).1.epoch ≠ ep ∨ (frAt H S p).1.seq ≠ k) => show firstF H S k = firstF H S (cnt H S ep) from by
        have : cnt H S ep = k := cnt_is H S ep k hk hg.out (fun _ => by
          unfold good; rw [← hp'.out]
          rcases h with h | h | h
          · rw [decide_eq_false (by simpa using h)]; simp
          · rw [decide_eq_false (p := (frAt H S p).1.epoch = ep) h]; simp
          · rw [decide_eq_false (p := (frAt H S p).1.seq = k) h]; simp)
        rw [this])
      have hgood := hid (fun (h1 : (frAt H S p).2 ≠ 0) (h2 : (frAt H S p).1.epoch = ep) (h3 : (frAt H S p).1.seq = k) => show good H S ep k = true from by
        unfold good; rw [← hp'.out]; simp [h1, h2, h3])
      have hit := hid (show item H S k = (p + (frAt H S p).2, (frAt H S p).1) from by unfold item; rw [hp'.out]; rfl)
      have hroom := frAt_room H S p
      obtain ⟨x, hx⟩ : ∃ x, frAt H S p = x := ⟨_, rfl⟩
      rw [hx] at hbad hgood hit hroom ⊢
      have hx' := hid hx
      obtain ⟨⟨xk, xe, xs, xp⟩, xn⟩ := x
      dsimp only at hbad hgood hit hroom
      clear hx
      rintro e w2 ⟨rfl, b2⟩
      unfold frV
      dsimp only
      have hxn : (xn : Int) ≤ 1024 := by omega
      have hJ3 := hid (hJ2.out _ _ _ hJ.out b2)
      have hb3 := hid (hb.out.trans (Kp3.of b2 hws.out D1.out.lt R1.out.lt E1.out.lt))
      have D2 := hid (D1.out.below b2 D1.out.lt)
      have R2 := hid (R1.out.below b2 R1.out.lt)
      have E2 := hid (E1.out.below b2 E1.out.lt)
      have hws2 := hid (Nat.le_trans hws.out b2.size)
      clear d0 d1 d2 d3 df r0 r1 rf D1 R1 E1 b2 hroom hJ hb hws
      have hal : Below w2.heap.size w2 (w2.alloc (.cells #[.int .u8 xk, .int .u64 xe, .int .u64 xs, .string xp] 30)) := (Below.refl _ w2).alloc (Nat.le_refl _) _
      have X6 := hid (Blk.new w2 [.int .u8 xk, .int .u64 xe, .int .u64 xs, .string xp] 30)
      have E6 := hid (E2.out.below hal E2.out.lt)
      have hJ6 := hid (hJ2.out _ _ _ hJ3.out hal)
      have hb6 := hid (hb3.out.trans (Kp3.of hal hws2.out D2.out.lt R2.out.lt E2.out.lt))
      have hlt2 := E2.out.lt
      clear hJ3 hb3 D2 R2
      clear hal
      obtain ⟨e0, ef⟩ := E2.out.one
      by_cases h1 : xn = 0
      · have hce := hid (hbad.out (.inl h1))
        have h1i : ((xn : Int) == 0) = true := by subst h1; rfl
        clear h1 hgood hit hbad hx'
        gi_wp2
        refine ⟨(fun f hf => by cases hf), ?_⟩
        gi_wp2
        refine bodyPost_ret (results_none rfl _ _ _) rfl ?_
        exact ⟨⟨_, rfl⟩, .inl ⟨_, hce.out, hJ6.out⟩⟩
      have h1i : ((xn : Int) == 0) = false := by rw [beq_eq_false_iff_ne]; omega
      by_cases h2 : xe = ep
      · have h2i : ((xe : Int) != (ep : Int)) = false := by subst h2; simp
        by_cases h3 : xs = k
        · have h3i : ((xs : Int) != (k : Int)) = false := by subst h3; simp
          have hgk := hgood.out h1 h2 h3
          have hg2 := hid (show ∀ j, j < k + 1 → good H S ep j = true from fun j hj => by
            by_cases e : j = k
            · rw [e]; exact hgk
            · exact hg.out j (by omega))
          have hkl := cnt_ge H S ep (k + 1) hlt hg2.out
          have hsucc := hid (firstF_succ H S k)
          have hpn := hid (show pos H S (k + 1) = p + xn from congrArg Prod.fst hit.out)
          rw [hit.out] at hsucc
          obtain ⟨fn, tmps, assign, body, hy, hRy⟩ := hY2.out _ (p + xn, ⟨xk, xe, xs, xp⟩) _ hJ6.out (by rw [firstF_len]; omega)
          dsimp only [encF] at hy
          have hyi : ((p + xn : Nat) : Int) = (p : Int) + (xn : Int) := by push_cast; rfl
          rw [hyi] at hy
          clear hgk hgood hbad hit hyi h1 h2 h3 hx'
          gi_wp2
          clear e0 ef
          refine hRy.mono ?_
          rintro e W3 (⟨rfl, hJ7, hk7⟩ | ⟨rfl, hJx7⟩)
          · have hb7 := hid (hb6.out.trans hk7)
            have hJ8 := hid hJ7
            rw [← hsucc.out] at hJ8
            have hps := hid hpn.out.symm
            have hkp : k + 1 ≤ 1024 := hlt
            clear hk7 hJ7 hJ6 hb6 hpn hJ2 hsucc hY2 hkl
            gi_wp2
            go_roundw
            case rel => exact ⟨k + 1, p + xn, hkp, hps.out, by go_num, by go_num, hg2, hJ8, hb7⟩
            case measure => simp [intOf]; omega
          · gi_wp2
            refine bodyPost_ret (results_none rfl _ _ _) rfl ?_
            exact ⟨⟨_, rfl⟩, .inr ⟨_, ⟨k + 1, hkl, hsucc.out.symm⟩, hJx7⟩⟩
        · have hce := hid (hbad.out (.inr (.inr h3)))
          have h3i : ((xs : Int) != (k : Int)) = true := by rw [bne_iff_ne]; omega
          clear h1 h2 h3 hgood hit hbad hx'
          gi_wp2
          refine ⟨(fun f hf => by cases hf), ?_⟩
          gi_wp2
          refine bodyPost_ret (results_none rfl _ _ _) rfl ?_
          exact ⟨⟨_, rfl⟩, .inl ⟨_, hce.out, hJ6.out⟩⟩
      · have hce := hid (hbad.out (.inr (.inl h2)))
        have h2i : ((xe : Int) != (ep : Int)) = true := by rw [bne_iff_ne]; omega
        clear h1 h2 hgood hit hbad hx'
        gi_wp2
        refine ⟨(fun f hf => by cases hf), ?_⟩
        gi_wp2
        refine bodyPost_ret (results_none rfl _ _ _) rfl ?_
        exact ⟨⟨_, rfl⟩, .inl ⟨_, hce.out, hJ6.out⟩⟩
    · obtain rfl : k = 1024 := by omega
      have hce : Hid (firstF H S 1024 = firstF H S (cnt H S ep)) := hid (by rw [cnt_is H S ep 1024 (Nat.le_refl _) hg.out (fun h => absurd h (by omega))])
      have hJ6 := hJ
      gi_wp2
      go_end0
      exact ⟨⟨_, rfl⟩, .inl ⟨_, hce.out, hJ6.out⟩⟩
end Go.Proofs.Ytiegocbdgimimaa.Wal
