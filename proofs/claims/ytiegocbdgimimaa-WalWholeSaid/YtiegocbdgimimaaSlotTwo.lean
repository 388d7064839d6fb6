/-
  Boxes in a bag; images that are saved one by one; what a crash leaves.
-/
import Derived.Test.YtiegocbdgimimaaSectorWork
import Derived.Test.YtiegocbdgimimaaWalCalls
import Derived.Test.YtiegocbdgimimaaSlotAll
import Derived.Deep.DrawnRows
import Derived.Deep.RegionHeld3
namespace Go.Proofs.Ytiegocbdgimimaa.Mem
open Go.ChangeShapes Go.WideShapes Go.ChangeAt Go.RowKit
open Go.Proofs.Ytiegocbdgimimaa.Mem Go.Proofs.Ytiegocbdgimimaa.Sector Go.Proofs.Ytiegocbdgimimaa.Wal
set_option linter.unusedVariables false
structure Bx where
  b : Nat
  cs : List Value
  t : TypeId
structure Dk where
  sv : Value
  pv : Value
  d : Disk
def Dk.v (o : Dk) : Value := .agg #[o.sv, o.pv, .bool o.d.off, .int .i64 o.d.fuse]
structure Bag (w0 w : World) (L : List Bx) (O : List Dk) : Prop where
  bel : Below w0.heap.size w0 w
  up : L.Pairwise (fun x y => x.b < y.b)
  ge : ∀ x ∈ L, w0.heap.size ≤ x.b
  at' : ∀ x ∈ L, Blk w x.b x.cs x.t
  own : ∀ o ∈ O, OwnDisk w0.heap.size w o.sv o.pv o.d
theorem Bag.nil (w : World) : Bag w w [] [] := ⟨Below.refl _ _, List.Pairwise.nil, by simp, by simp, by simp⟩
theorem Bag.of {w0 w : World} (h : Below w0.heap.size w0 w) : Bag w0 w [] [] := ⟨h, List.Pairwise.nil, by simp, by simp, by simp⟩
theorem Bag.below {w0 w w' : World} {L : List Bx} {O : List Dk} (h : Bag w0 w L O) (hb : Below w.heap.size w w') : Bag w0 w' L O :=
  ⟨bt h.bel hb, h.up, h.ge, fun x hx => (h.at' x hx).below hb (h.at' x hx).lt, fun o ho => (h.own o ho).below hb⟩
theorem Bag.alloc {w0 w : World} {L : List Bx} {O : List Dk} (h : Bag w0 w L O) (o : Obj) : Bag w0 (w.alloc o) L O := h.below ((Below.refl _ w).alloc (Nat.le_refl _) o)
theorem Bag.push {w0 w : World} {L : List Bx} {O : List Dk} (h : Bag w0 w L O) (cs : List Value) (t : TypeId) (n : Nat) (hn : n = w.heap.size) : Bag w0 (w.alloc (.cells cs.toArray t)) (L ++ [⟨n, cs, t⟩]) O := by
  subst hn
  have h' := h.alloc (.cells cs.toArray t)
  refine ⟨h'.bel, ?_, ?_, ?_, h'.own⟩
  · refine List.pairwise_append.2 ⟨h.up, by simp, fun x hx y hy => ?_⟩
    rw [List.mem_singleton] at hy
    subst hy
    exact (h.at' x hx).lt
  · intro x hx
    rcases List.mem_append.1 hx with hx | hx
    · exact h.ge x hx
    · rw [List.mem_singleton] at hx
      subst hx
      exact h.bel.size
  · intro x hx
    rcases List.mem_append.1 hx with hx | hx
    · exact h'.at' x hx
    · rw [List.mem_singleton] at hx
      subst hx
      exact Blk.new w cs t
theorem Bag.drew {w0 w : World} {L : List Bx} {O : List Dk} (h : Bag w0 w L O) : Bag w0 w.drew L O := h.below (Below.refl _ w).drew
theorem Bag.disk {w0 w : World} {L : List Bx} {O : List Dk} (h : Bag w0 w L O) {B : Nat} {sv pv : Value} {d : Disk} (o : OwnDisk B w sv pv d) (hB : w0.heap.size ≤ B) : Bag w0 w L (O ++ [⟨sv, pv, d⟩]) :=
  ⟨h.bel, h.up, h.ge, h.at', fun x hx => (List.mem_append.1 hx).elim (h.own x) (fun e => by rw [List.mem_singleton] at e; subst e; exact o.mono hB)⟩
/-- behind a call that gives a disk -/
theorem Bag.res {w0 w w' : World} {L : List Bx} {O : List Dk} (h : Bag w0 w L O) {sv pv : Value} {d : Disk} (o : OwnDisk w.heap.size w' sv pv d) (hb : Below w.heap.size w w') : Bag w0 w' L (O ++ [⟨sv, pv, d⟩]) :=
  (h.below hb).disk o h.bel.size
theorem Bag.get {w0 w : World} {L : List Bx} {O : List Dk} (h : Bag w0 w L O) {b : Nat} {cs : List Value} {t : TypeId} (k : Nat) (hk : L[k]? = some ⟨b, cs, t⟩) : Blk w b cs t := h.at' _ (List.mem_of_getElem? hk)
theorem Bag.view {w0 w : World} {L : List Bx} {O : List Dk} (h : Bag w0 w L O) {sv pv : Value} {d : Disk} (k : Nat) (hk : O[k]? = some ⟨sv, pv, d⟩) : DiskV w (.agg #[sv, pv, .bool d.off, .int .i64 d.fuse]) d := (h.own _ (List.mem_of_getElem? hk)).v
theorem Bag.lt {w0 w : World} {L : List Bx} {O : List Dk} (h : Bag w0 w L O) {x : Bx} (k : Nat) (hk : L[k]? = some x) : x.b < w.heap.size := (h.at' _ (List.mem_of_getElem? hk)).lt
/-- fewer boxes, fewer disks -/
theorem Bag.less {w0 w : World} {L L' : List Bx} {O O' : List Dk} (h : Bag w0 w L O) (hL : L'.Sublist L) (hO : O'.Sublist O) : Bag w0 w L' O' :=
  ⟨h.bel, h.up.sublist hL, fun x hx => h.ge x (hL.mem hx), fun x hx => h.at' x (hL.mem hx), fun o ho => h.own o (hO.mem ho)⟩
theorem Bag.cut {w0 w : World} {L : List Bx} {O : List Dk} (h : Bag w0 w L O) (k i j : Nat) : Bag w0 w (L.take k) ((O.drop i).take j) :=
  h.less (List.take_sublist _ _) ((List.take_sublist _ _).trans (List.drop_sublist _ _))
theorem own_other {B : Nat} {w : World} {sv pv : Value} {d : Disk} (h : OwnDisk B w sv pv d) {b : Nat} {cs : List Value} {t : TypeId} (hb : Blk w b cs t) (h1 : t ≠ 9) (h2 : t ≠ 62) (i : Nat) (x : Value) : OwnDisk B (w.setCell ⟨b, i, none⟩ x) sv pv d := by
  have key : ∀ (B2 : Nat) (e : TypeId) (size n2 : Nat) (u : Value) (xs : List Value), w.ownsRow B2 e size u n2 xs → t ≠ e → (w.setCell ⟨b, i, none⟩ x).ownsRow B2 e size u n2 xs := fun B2 e size n2 u xs hr hne => by
    have hn := not_row hr hb hne
    obtain ⟨q1, q2⟩ := hr
    refine ⟨q1, ?_⟩
    rcases q2 with q2 | ⟨g, cap, cur, rfl, hg, hh, r⟩
    · exact .inl q2
    · refine .inr ⟨g, cap, cur, rfl, hg, ?_, r⟩
      rw [Below.heap_setCell _ _ _ _ (fun e => hn (by simp [Value.ownBlock]; exact e))]
      exact hh
  obtain ⟨p1, M, p2, p3, p4, p5⟩ := h
  exact ⟨key _ _ _ _ _ _ p1 h1, M, p2, by simpa using p3, p4, key _ _ _ _ _ _ p5 h2⟩
theorem Bag.put {w0 w : World} {L : List Bx} {O : List Dk} (h : Bag w0 w L O) {b : Nat} {cs : List Value} {t : TypeId} (k : Nat) (hk : L[k]? = some ⟨b, cs, t⟩) (h1 : t ≠ 9) (h2 : t ≠ 62) (i : Nat) (x : Value) :
    Bag w0 (w.setCell ⟨b, i, none⟩ x) (L.set k ⟨b, cs.set i x, t⟩) O := by
  have hm := List.mem_of_getElem? hk
  have hB := h.at' _ hm
  obtain ⟨hlt, hg⟩ := List.getElem?_eq_some_iff.1 hk
  have hpw := List.pairwise_iff_getElem.1 h.up
  refine ⟨h.bel.setCell (h.ge _ hm) x, ?_, ?_, ?_, fun o ho => own_other (h.own o ho) hB h1 h2 i x⟩
  · refine List.pairwise_iff_getElem.2 fun i' j' hi hj hij => ?_
    have hi' : i' < L.length := by simpa using hi
    have hj' : j' < L.length := by simpa using hj
    have := hpw i' j' hi' hj' hij
    rw [List.getElem_set, List.getElem_set]
    by_cases e1 : k = i'
    · subst e1
      rw [if_pos rfl, if_neg (by omega)]
      rw [hg] at this; exact this
    · rw [if_neg e1]
      by_cases e2 : k = j'
      · subst e2
        rw [if_pos rfl]
        rw [hg] at this; exact this
      · rw [if_neg e2]; exact this
  · intro y hy
    rcases List.mem_or_eq_of_mem_set hy with hy | rfl
    · exact h.ge y hy
    · exact (h.ge _ hm :)
  · intro y hy
    obtain ⟨j, hj, rfl⟩ := List.getElem_of_mem hy
    have hj' : j < L.length := by simpa using hj
    rw [List.getElem_set]
    by_cases e : k = j
    · subst e
      rw [if_pos rfl]
      exact hB.set i x
    · rw [if_neg e]
      refine (h.at' _ (List.getElem_mem hj')).other (fun e' => ?_) x
      rcases Nat.lt_or_gt_of_ne e with hl | hl
      · have := hpw k j hlt hj' hl
        rw [hg] at this
        dsimp only at this e'
        omega
      · have := hpw j k hj' hlt hl
        rw [hg] at this
        dsimp only at this e'
        omega
end Go.Proofs.Ytiegocbdgimimaa.Mem
namespace Go.Proofs.Ytiegocbdgimimaa.Slot
open Go.Proofs.Ytiegocbdgimimaa.Mem Go.Proofs.Ytiegocbdgimimaa.Rec Go.Proofs.Ytiegocbdgimimaa.Sector Go.Proofs.Ytiegocbdgimimaa.Wal
set_option linter.unusedVariables false
set_option maxRecDepth 10000
theorem save_old {d : Disk} {a b : Rg} {m : Im} (h0 : slChk d a b = 0) (hc : (loadE d a b).c = 0) (hs : m.pay.size ≤ 16384) (hle : m.epoch ≤ (loadE d a b).im.epoch) : saveE d a b m = (d, 1) := by
  have hfc : fchk 2 m.pay.size = 0 := by unfold fchk; rw [if_neg (by decide), if_neg (by omega)]
  have hs : slotE d a b m = (⟨0, 0⟩, 1) := by
    unfold slotE
    rw [if_neg (fun hx => hx.1 hc), hfc, if_neg (by simp), if_neg (by rw [hc]; decide), if_pos hle]
  unfold saveE
  rw [if_neg (by simpa using h0), hs, if_pos (by decide)]
/-- A disk of which the power never goes, with two slots of a size, into which so many images were saved. -/
structure Kept (d : Disk) (S : Nat) (last : Im) (count top : Nat) : Prop where
  chk : slChk d ⟨0, S⟩ ⟨S, S⟩ = 0
  off : d.off = false
  fuse : d.fuse = -1
  pend : d.pend = []
  load : loadE d ⟨0, S⟩ ⟨S, S⟩ = if count = 0 then ⟨zeroIm, 0, 9⟩ else ⟨last, (count - 1) % 2, 0⟩
  low : last.epoch ≤ top
  zero : count = 0 → last = zeroIm
theorem Kept.start {S : Nat} (h1 : 1 ≤ S) (h2 : S ≤ 512) : Kept (fresh S) S zeroIm 0 0 :=
  ⟨fresh_chk h1 h2, rfl, rfl, rfl, by rw [fresh_load h1 h2]; rfl, Nat.le_refl _, fun _ => rfl⟩
theorem Kept.rise {d : Disk} {S : Nat} {last : Im} {count top top' : Nat} (k : Kept d S last count top) (h : top ≤ top') : Kept d S last count top' := ⟨k.chk, k.off, k.fuse, k.pend, k.load, Nat.le_trans k.low h, k.zero⟩
theorem Kept.more {d : Disk} {S : Nat} {last m : Im} {count top : Nat} (k : Kept d S last count top) (hm : m.epoch < 18446744073709551616) (hn : top < m.epoch) :
    ((saveE d ⟨0, S⟩ ⟨S, S⟩ m).1 = d ∧ ((saveE d ⟨0, S⟩ ⟨S, S⟩ m).2 = 3 ∨ (saveE d ⟨0, S⟩ ⟨S, S⟩ m).2 = 17)) ∨
    (∃ e, saveE d ⟨0, S⟩ ⟨S, S⟩ m = (e, 0) ∧ Kept e S m (count + 1) m.epoch ∧ loadE e ⟨0, S⟩ ⟨S, S⟩ = ⟨m, count % 2, 0⟩ ∧ saveE e ⟨0, S⟩ ⟨S, S⟩ m = (e, 1)) := by
  have hl := k.load
  rcases save_live (m := m) k.chk k.off (by rw [k.fuse]; decide) (by rw [k.pend]; simp) with ⟨_, h⟩ | ⟨_, hc, hle, h⟩ | ⟨_, _, h⟩ | ⟨e, h, hf⟩
  · exact .inl ⟨by rw [h], .inl (by rw [h])⟩
  · exfalso
    rw [hl] at hc hle
    by_cases h0 : count = 0
    · rw [if_pos h0] at hc; exact absurd hc (by decide)
    · rw [if_neg h0] at hle
      have := k.low
      dsimp only at hle
      omega
  · exact .inl ⟨by rw [h], .inr (by rw [h])⟩
  · have x := save_ok hm h
    have hle : loadE e ⟨0, S⟩ ⟨S, S⟩ = ⟨m, count % 2, 0⟩ := by
      rw [x.load, hl]
      by_cases h0 : count = 0
      · rw [if_pos h0, if_neg (by simp), h0]
      · rw [if_neg h0]
        by_cases h1 : (count - 1) % 2 = 0
        · rw [if_pos ⟨rfl, h1⟩, show count % 2 = 1 by omega]
        · rw [if_neg (fun hx => h1 hx.2), show count % 2 = 0 by omega]
    refine .inr ⟨e, h, ⟨x.chk, x.off, by rw [hf]; exact k.fuse, x.pend, ?_, Nat.le_refl _, fun h => absurd h (by omega)⟩, hle, ?_⟩
    · rw [hle, if_neg (by omega), Nat.add_sub_cancel]
    · exact save_old x.chk (by rw [hle]) x.small (by rw [hle]; exact Nat.le_refl _)
end Go.Proofs.Ytiegocbdgimimaa.Slot
namespace Go.Proofs.Ytiegocbdgimimaa.Slot
open Go.ChangeShapes Go.WideShapes Go.ChangeAt Go.RowKit
open Go.Proofs.Ytiegocbdgimimaa.Mem Go.Proofs.Ytiegocbdgimimaa.Rec Go.Proofs.Ytiegocbdgimimaa.Sector Go.Proofs.Ytiegocbdgimimaa.Wal
set_option linter.unusedVariables false
set_option linter.unusedSimpArgs false
set_option maxRecDepth 100000
theorem fresh_new {S : Nat} (h1 : 1 ≤ S) (h2 : S ≤ 512) : newE (2 * (S : Int)) = (fresh S, 0) := by
  unfold newE
  rw [if_neg (by omega), show (2 * (S : Int)).toNat = 2 * S by omega]
  rfl
end Go.Proofs.Ytiegocbdgimimaa.Slot
namespace Go.Proofs.Ytiegocbdgimimaa.Wal
open Go.Proofs.Ytiegocbdgimimaa.Mem Go.Proofs.Ytiegocbdgimimaa.Rec Go.Proofs.Ytiegocbdgimimaa.Sector
set_option linter.unusedVariables false
set_option maxRecDepth 10000
structure Crd (d : Disk) (r : Rg) (a : Nat) (f : Fr) (e : Disk) (c : Int) : Prop where
  chk : walChk e r = 0
  ok : okB e = true
  off : e.off = false
  pend : e.pend = []
  fuse : e.fuse = -1
  len : e.secs.length = d.secs.length
  small : fchk f.kind f.pay.size = 0
  room : (a : Int) + ((pcs f.pay.size : Nat) + 1) ≤ r.s
  out : ∀ i : Int, 0 ≤ i → i < d.secs.length → (i < r.f + a ∨ r.f + a + ((pcs f.pay.size : Nat) + 1) ≤ i) → now e i = now d i
  inn : (c = 15 ∧ now e (r.f + a) = now d (r.f + a)) ∨ Lies (cont e r) r.s.toNat a f (pcs f.pay.size + 1)
theorem crash_now (d : Disk) (l : List Bool) (i : Int) : now (crashD d l) i = aft d l i := rfl
theorem crash_okB {d : Disk} (h : okB d = true) (l : List Bool) : okB (crashD d l) = true := by
  obtain ⟨h1, h2, h3, h4, h5⟩ := okp h
  refine okm ?_ ?_ (by simp [crashD]) (sett_good' h _ _ (Nat.le_refl _)) (by simp [crashD])
  · simp only [crashD, sett_len]; exact h1
  · simp only [crashD, sett_len]; exact h2
theorem app_crash {d : Disk} {r : Rg} {a : Nat} {f : Fr} (h0 : walChk d r = 0) (off : d.off = false) (hp : d.pend = []) (hf : fchk f.kind f.pay.size = 0 → f.okn) (keep : List Bool) :
    ((appE d r a f).d = d ∧ (appE d r a f).at' = 0 ∧ ((appE d r a f).c = 1 ∧ (fchk f.kind f.pay.size = 1 ∨ r.s < a) ∨ (appE d r a f).c = 3 ∧ fchk f.kind f.pay.size = 3 ∨ (appE d r a f).c = 16 ∧ r.s - a < (pcs f.pay.size : Nat) + 1)) ∨
    (((appE d r a f).c = 0 ∧ (appE d r a f).at' = (a : Int) + ((pcs f.pay.size : Nat) + 1) ∨ (appE d r a f).c = 15 ∧ (appE d r a f).at' = 0) ∧ okB (appE d r a f).d = true ∧ Crd d r a f (crashD (appE d r a f).d keep) (appE d r a f).c) := by
  obtain ⟨k1, k2, k3, k4, k5⟩ := walChk_zero h0
  unfold appE
  rw [if_neg (by simpa using h0)]
  by_cases h1 : (sectorsE f).2 = 0
  · obtain ⟨hc, hs⟩ := sectorsE_zero h1
    have hps := (fchk_zero hc).2
    rw [if_neg (by simpa using h1), hs]
    by_cases h2 : (a : Int) < 0 ∨ r.s < a
    · rw [if_pos h2]; exact .inl ⟨rfl, rfl, .inl ⟨rfl, .inr (by omega)⟩⟩
    · rw [if_neg h2]
      dsimp only
      rw [secsL_len]
      by_cases h3 : r.s - a < ((pcs f.pay.size + 1 : Nat) : Int)
      · rw [if_pos h3]; exact .inl ⟨rfl, rfl, .inr (.inr ⟨rfl, by push_cast at h3; omega⟩)⟩
      · rw [if_neg h3]
        obtain ⟨t, hL, htl⟩ := secsL_head f
        have hsz := secsL_size f
        have hpc : pcs f.pay.size ≤ 269 := by unfold pcs; omega
        have hL' := hL
        rw [hL] at hsz ⊢
        generalize bs (headL (hdOf f)) = hd at hsz hL'
        dsimp only [List.headD_cons, List.tail_cons]
        push_cast at h3
        have hroom : (a : Int) + ((pcs f.pay.size : Nat) + 1) ≤ r.s := by omega
        obtain ⟨e, c, q1, q2, q3, q4, q5, q6⟩ := lay_crash (r.f + a) hd t d (by omega) (by omega) k1 off hp (hsz hd List.mem_cons_self) (fun s hs => hsz s (List.mem_cons_of_mem _ hs)) (by omega) keep
        simp only [q1]
        have hlen : (crashD e keep).secs.length = d.secs.length := by
          show (sett (kept keep) e.pend e.secs e.pend.length).length = _
          rw [sett_len]; exact q4
        have okc := crash_okB q3 keep
        have hch : walChk (crashD e keep) r = 0 := walChk_of h0 okc hlen
        have hX : ∀ c', (c' = c) → Crd d r a f (crashD e keep) c' := by
          rintro c' rfl
          refine ⟨hch, okc, rfl, rfl, rfl, hlen, hc, hroom, fun i i0 i1 hi => ?_, ?_⟩
          · rw [crash_now]
            exact q5 i i0 i1 (by omega)
          · rcases q6 with ⟨h15, hn⟩ | hall
            · exact .inl ⟨h15, by rw [crash_now]; exact hn⟩
            · refine .inr ⟨hf hc, hc, rfl, by omega, ?_⟩
              apply List.ext_getElem
              · rw [texts_len, secsL_len]
              · intro i h1 h2
                rw [texts_len] at h1
                simp only [texts, List.getElem_map, List.getElem_range]
                rw [cont_now hch rfl (by omega), crash_now, hall _ (by omega) (by omega)]
                simp only [hL']
                by_cases e1 : i = 0
                · subst e1; rw [if_pos (by omega)]; rfl
                · rw [if_neg (by omega)]
                  obtain ⟨j, rfl⟩ : ∃ j, i = j + 1 := ⟨i - 1, by omega⟩
                  have : (r.f + ((a + (j + 1) : Nat) : Int) - (r.f + (a : Int) + 1)).toNat = j := by omega
                  rw [this]
                  have hj : j < t.length := by omega
                  simp [List.getD, hj]
        rcases q2 with rfl | rfl
        · rw [if_neg (by simp)]
          exact .inr ⟨.inl ⟨rfl, by push_cast; rfl⟩, q3, hX 0 rfl⟩
        · rw [if_pos (by decide)]
          exact .inr ⟨.inr ⟨rfl, rfl⟩, q3, hX 15 rfl⟩
  · rw [if_pos h1]
    have hc : fchk f.kind f.pay.size ≠ 0 := fun hc => h1 (by unfold sectorsE; rw [if_pos hc])
    have hv : (sectorsE f).2 = fchk f.kind f.pay.size := by unfold sectorsE; rw [if_neg hc]
    dsimp only
    rw [hv]
    rcases Slot.fchk_code f.kind f.pay.size with h | h | h
    · exact absurd h hc
    · exact .inl ⟨rfl, rfl, .inl ⟨h, .inl h⟩⟩
    · exact .inl ⟨rfl, rfl, .inr (.inl ⟨h, h⟩)⟩
theorem Crd.out' {d : Disk} {r : Rg} {a : Nat} {f : Fr} {e : Disk} {c : Int} (x : Crd d r a f e c) (h0 : walChk d r = 0) (off : d.off = false) {i : Nat} (hi : (i : Int) < r.s) (ho : i < a ∨ a + (pcs f.pay.size + 1) ≤ i) : cont e r i = cont d r i := by
  obtain ⟨k1, k2, k3, k4, k5⟩ := walChk_zero h0
  rw [cont_now x.chk x.off hi, cont_now h0 off hi, x.out _ (by omega) (by omega) (by omega)]
theorem Crd.head {d : Disk} {r : Rg} {a : Nat} {f : Fr} {e : Disk} {c : Int} (x : Crd d r a f e c) (h0 : walChk d r = 0) (off : d.off = false) : (c = 15 ∧ cont e r a = cont d r a) ∨ Lies (cont e r) r.s.toNat a f (pcs f.pay.size + 1) := by
  rcases x.inn with ⟨h1, h2⟩ | h
  · have := x.room
    exact .inl ⟨h1, by rw [cont_now x.chk x.off (by omega), cont_now h0 off (by omega), h2]⟩
  · exact .inr h
end Go.Proofs.Ytiegocbdgimimaa.Wal
namespace Go.Proofs.Ytiegocbdgimimaa.Slot
open Go.Proofs.Ytiegocbdgimimaa.Mem Go.Proofs.Ytiegocbdgimimaa.Rec Go.Proofs.Ytiegocbdgimimaa.Sector Go.Proofs.Ytiegocbdgimimaa.Wal
set_option linter.unusedVariables false
set_option maxRecDepth 10000
/-- The head that stands ahead in a slot is none, or of an epoch below. -/
def Elder (d : Disk) (r : Rg) (ep : Nat) : Prop := (headE (cont d r 0).data.toList).2 = 0 → (headE (cont d r 0).data.toList).1.epoch < ep
theorem elder_same {d e : Disk} {r : Rg} {ep : Nat} (h : cont e r 0 = cont d r 0) (hE : Elder d r ep) : Elder e r ep := by
  unfold Elder at hE ⊢
  rw [h]; exact hE
theorem elder_mono {d : Disk} {r : Rg} {ep ep' : Nat} (hE : Elder d r ep) (h : ep ≤ ep') : Elder d r ep' := fun hx => Nat.lt_of_lt_of_le (hE hx) h
theorem imIn_some {h : Nat → ByteArray} {s : Nat} {x : Im} (hx : imIn h s = some x) : (headE (h 0).data.toList).2 = 0 ∧ (headE (h 0).data.toList).1.epoch = x.epoch := by
  unfold imIn at hx
  split at hx
  · rename_i hc
    have hd := (of_frAt hc.1).headE
    rw [hd]
    refine ⟨rfl, ?_⟩
    have := (Option.some.inj hx)
    rw [← this]; rfl
  · exact absurd hx (by simp)
theorem elder_im {d : Disk} {r : Rg} {ep s : Nat} (hE : Elder d r ep) {x : Im} (hx : imIn (cont d r) s = some x) : x.epoch < ep := by
  obtain ⟨h1, h2⟩ := imIn_some hx
  have := hE h1
  omega
theorem im_elder {d : Disk} {r : Rg} {ep s : Nat} {x : Im} (hx : imIn (cont d r) s = some x) (h : x.epoch < ep) : Elder d r ep := fun _ => by
  obtain ⟨h1, h2⟩ := imIn_some hx
  omega
/-- What is saved on a disk of which all is synced. -/
structure St (d : Disk) (a b : Rg) (last : Im) : Prop where
  chk : slChk d a b = 0
  off : d.off = false
  pend : d.pend = []
  which : (last = zeroIm ∧ Elder d a 0 ∧ Elder d b 0) ∨ (0 < last.epoch ∧ ((imIn (cont d a) a.s.toNat = some last ∧ Elder d b last.epoch) ∨ (imIn (cont d b) b.s.toNat = some last ∧ Elder d a last.epoch)))
theorem St.fuse {d : Disk} {a b : Rg} {last : Im} (s : St d a b last) (f : Int) : St ⟨d.secs, d.pend, d.off, f⟩ a b last := by
  obtain ⟨secs, pend, off, fuse⟩ := d
  exact ⟨s.chk, s.off, s.pend, s.which⟩
/-- How it is: where the newest one is, where the next one goes. -/
theorem St.how {d : Disk} {a b : Rg} {last : Im} (s : St d a b last) :
    (last = zeroIm ∧ loadE d a b = ⟨zeroIm, 0, 9⟩ ∧ toE d a b = a ∧ Elder d a 0 ∧ Elder d b 0) ∨
    (0 < last.epoch ∧ loadE d a b = ⟨last, 0, 0⟩ ∧ toE d a b = b ∧ imIn (cont d a) a.s.toNat = some last ∧ Elder d b last.epoch) ∨
    (0 < last.epoch ∧ loadE d a b = ⟨last, 1, 0⟩ ∧ toE d a b = a ∧ imIn (cont d b) b.s.toNat = some last ∧ Elder d a last.epoch) := by
  have hl : loadE d a b = pickE (imIn (cont d a) a.s.toNat) (imIn (cont d b) b.s.toNat) := by
    unfold loadE
    rw [if_neg (by simpa using s.chk), if_neg (by rw [s.off]; simp)]
  rcases s.which with ⟨h0, h1, h2⟩ | ⟨h0, ⟨h1, h2⟩ | ⟨h1, h2⟩⟩
  · have ha : imIn (cont d a) a.s.toNat = none := by
      cases hx : imIn (cont d a) a.s.toNat with
      | none => rfl
      | some x => exact absurd (elder_im h1 hx) (by omega)
    have hb : imIn (cont d b) b.s.toNat = none := by
      cases hx : imIn (cont d b) b.s.toNat with
      | none => rfl
      | some x => exact absurd (elder_im h2 hx) (by omega)
    rw [ha, hb] at hl
    have hl' : loadE d a b = ⟨zeroIm, 0, 9⟩ := hl
    exact .inl ⟨h0, hl', by unfold toE; rw [hl', if_neg (by simp)], h1, h2⟩
  · have hl' : loadE d a b = ⟨last, 0, 0⟩ := by
      rw [hl, h1]
      cases hx : imIn (cont d b) b.s.toNat with
      | none => rfl
      | some x => exact pick_ge (by have := elder_im h2 hx; omega)
    exact .inr (.inl ⟨h0, hl', by unfold toE; rw [hl', if_pos (by simp)], h1, h2⟩)
  · have hl' : loadE d a b = ⟨last, 1, 0⟩ := by
      rw [hl, h1]
      cases hx : imIn (cont d a) a.s.toNat with
      | none => rfl
      | some x => exact pick_lt (elder_im h2 hx)
    exact .inr (.inr ⟨h0, hl', by unfold toE; rw [hl', if_neg (by simp)], h1, h2⟩)
theorem St.load {d : Disk} {a b : Rg} {last : Im} (s : St d a b last) : ∃ k : Nat, k ≤ 1 ∧ loadE d a b = ⟨last, k, if last.epoch = 0 then 9 else 0⟩ := by
  rcases s.how with ⟨h0, h1, _⟩ | ⟨h0, h1, _⟩ | ⟨h0, h1, _⟩
  · exact ⟨0, by omega, by rw [h1, h0]; rfl⟩
  · exact ⟨0, by omega, by rw [h1, if_neg (by omega)]⟩
  · exact ⟨1, by omega, by rw [h1, if_neg (by omega)]⟩
theorem St.zero {d : Disk} {a b : Rg} {last : Im} (s : St d a b last) (h : last.epoch = 0) : last = zeroIm := by
  rcases s.which with ⟨h0, _⟩ | ⟨h0, _⟩
  · exact h0
  · omega
theorem St.save {d : Disk} {a b : Rg} {last m : Im} (s : St d a b last) (hm : last.epoch < m.epoch) (hm' : m.epoch < 18446744073709551616) (keep : List Bool) :
    (((saveE d a b m).2 = 3 ∨ (saveE d a b m).2 = 17) ∧ (saveE d a b m).1 = d) ∨
    (((saveE d a b m).2 = 0 ∨ (saveE d a b m).2 = 15) ∧ okB (saveE d a b m).1 = true ∧
      (St (crashD (saveE d a b m).1 keep) a b m ∨ ((saveE d a b m).2 = 15 ∧ St (crashD (saveE d a b m).1 keep) a b last))) := by
  obtain ⟨c1, c2, c3⟩ := slChk_zero s.chk
  have hout := twice_out c3
  have hlc : (loadE d a b).c = 0 ∨ (loadE d a b).c = 9 := by
    rcases s.how with ⟨_, h1, _⟩ | ⟨_, h1, _⟩ | ⟨_, h1, _⟩ <;> rw [h1] <;> simp
  have hnew : ¬ ((loadE d a b).c = 0 ∧ m.epoch ≤ (loadE d a b).im.epoch) := by
    rcases s.how with ⟨_, h1, _⟩ | ⟨_, h1, _⟩ | ⟨_, h1, _⟩ <;> rw [h1]
    · simp
    · exact fun hx => absurd hx.2 (by dsimp only; omega)
    · exact fun hx => absurd hx.2 (by dsimp only; omega)
  have hk1 : ¬ ((loadE d a b).c ≠ 0 ∧ (loadE d a b).c ≠ 9) := fun hx => by rcases hlc with h | h; exact hx.1 h; exact hx.2 h
  unfold saveE
  rw [if_neg (by simpa using s.chk)]
  by_cases hl : 16384 < m.pay.size
  · have hfc : fchk 2 m.pay.size = 3 := by unfold fchk; rw [if_neg (by decide), if_pos hl]
    have hs : slotE d a b m = (⟨0, 0⟩, 3) := by
      unfold slotE
      rw [if_neg hk1, hfc, if_pos (by decide)]
    rw [hs]
    exact .inl ⟨.inl (by rw [if_pos (by decide)]), by rw [if_pos (by decide)]⟩
  · have hfc : fchk 2 m.pay.size = 0 := by unfold fchk; rw [if_neg (by decide), if_neg hl]
    have hs : slotE d a b m = (toE d a b, 0) := by
      unfold slotE toE
      rw [if_neg hk1, hfc, if_neg (by simp)]
      rcases hlc with hc | hc
      · rw [if_neg (by rw [hc]; decide), if_neg (fun hx => hnew ⟨hc, hx⟩)]
        simp only [hc, true_and]
      · rw [if_pos hc, if_neg (by rw [hc]; simp)]
    rw [hs, if_neg (by simp)]
    have hw : walChk d (toE d a b) = 0 := by unfold toE; split; exact c2; exact c1
    obtain ⟨q1, q2, q3, q4, q5⟩ := walChk_zero hw
    dsimp only
    have himp : (imFr m).pay = m.pay := rfl
    have key := app_crash (r := toE d a b) (a := 0) (f := imFr m) hw s.off s.pend (fun _ => ⟨by show 2 < 256; decide, hm', by show 0 < _; decide, by show m.pay.size ≤ _; omega⟩) keep
    rw [show ((0 : Nat) : Int) = 0 from rfl] at key
    rcases key with ⟨h1, _, h3⟩ | ⟨h1, h2, x⟩
    · have hfc' : fchk (imFr m).kind (imFr m).pay.size = 0 := hfc
      rcases h3 with ⟨g, g'⟩ | ⟨g, g'⟩ | ⟨g, g'⟩
      · exfalso
        rw [hfc'] at g'
        rcases g' with g' | g'
        · exact absurd g' (by decide)
        · omega
      · rw [hfc'] at g'; exact absurd g' (by decide)
      · exact .inl ⟨.inr (by rw [if_pos g]), by exact h1⟩
    · have hc : (appE d (toE d a b) 0 (imFr m)).c = 0 ∨ (appE d (toE d a b) 0 (imFr m)).c = 15 := h1.imp And.left And.left
      have hne : ¬ (appE d (toE d a b) 0 (imFr m)).c = 16 := fun h => by rcases hc with g | g <;> rw [g] at h <;> exact absurd h (by decide)
      rw [if_neg hne]
      refine .inr ⟨hc, h2, ?_⟩
      generalize (appE d (toE d a b) 0 (imFr m)).d = E at x
      have x' : Crd d (toE d a b) 0 (imFr m) (crashD E keep) (appE d (toE d a b) 0 (imFr m)).c := x
      generalize (appE d (toE d a b) 0 (imFr m)).c = C at x' hc
      clear x
      generalize crashD E keep = e at x'
      have hck := slChk_of s.chk x'.ok x'.len
      have hother : ∀ r : Rg, walChk d r = 0 → (r.f + r.s ≤ (toE d a b).f ∨ (toE d a b).f + (toE d a b).s ≤ r.f) → imIn (cont e r) r.s.toNat = imIn (cont d r) r.s.toNat ∧ cont e r 0 = cont d r 0 := fun r hr ho => by
        obtain ⟨p1, p2, p3, p4, p5⟩ := walChk_zero hr
        have hroom := x'.room
        have key : ∀ i : Nat, (i : Int) < r.s → cont e r i = cont d r i := fun i hi => by
          rw [cont_now (walChk_of hr x'.ok x'.len) x'.off hi, cont_now hr s.off hi, x'.out _ (by omega) (by omega) (by omega)]
        exact ⟨imIn_ext (fun i hi => key i (by omega)), key 0 (by omega)⟩
      have hcase := x'.head hw s.off
      rcases s.how with ⟨h0, _, ht, hea, heb⟩ | ⟨h0, _, ht, him, heb⟩ | ⟨h0, _, ht, him, hea⟩
      · rw [ht] at hother hcase
        obtain ⟨o1, o2⟩ := hother b c2 (by omega)
        rcases hcase with ⟨h15, hh⟩ | li
        · exact .inr ⟨h15, hck, x'.off, x'.pend, .inl ⟨h0, elder_same hh hea, elder_same o2 heb⟩⟩
        · exact .inl ⟨hck, x'.off, x'.pend, .inr ⟨by omega, .inl ⟨imIn_lies li, elder_mono (elder_same o2 heb) (by omega)⟩⟩⟩
      · rw [ht] at hother hcase
        obtain ⟨o1, o2⟩ := hother a c1 (by omega)
        rcases hcase with ⟨h15, hh⟩ | li
        · exact .inr ⟨h15, hck, x'.off, x'.pend, .inr ⟨h0, .inl ⟨o1.trans him, elder_same hh heb⟩⟩⟩
        · exact .inl ⟨hck, x'.off, x'.pend, .inr ⟨by omega, .inr ⟨imIn_lies li, elder_same o2 (im_elder him hm)⟩⟩⟩
      · rw [ht] at hother hcase
        obtain ⟨o1, o2⟩ := hother b c2 (by omega)
        rcases hcase with ⟨h15, hh⟩ | li
        · exact .inr ⟨h15, hck, x'.off, x'.pend, .inr ⟨h0, .inr ⟨o1.trans him, elder_same hh hea⟩⟩⟩
        · exact .inl ⟨hck, x'.off, x'.pend, .inr ⟨by omega, .inl ⟨imIn_lies li, elder_same o2 (im_elder him hm)⟩⟩⟩
/-- A fresh disk has none. -/
theorem St.start {S : Nat} (h1 : 1 ≤ S) (h2 : S ≤ 512) : St (fresh S) ⟨0, S⟩ ⟨S, S⟩ zeroIm := by
  have hc := fresh_chk h1 h2
  obtain ⟨c1, c2, _⟩ := slChk_zero hc
  have hi : ∀ r : Rg, walChk (fresh S) r = 0 → r.s = S → r.f + S ≤ 2 * S → Elder (fresh S) r 0 := fun r hr hs hf hx => by
    obtain ⟨q1, q2, q3, q4, q5⟩ := walChk_zero hr
    rw [cont_now hr rfl (by omega)] at hx
    rw [show r.f + ((0 : Nat) : Int) = r.f by omega] at hx
    have hn : now (fresh S) r.f = Sector.blank := by
      unfold now
      have : r.f.toNat < 2 * S := by omega
      simp [fresh, heldS, lastW, List.getD, this]
    rw [hn, blank_head] at hx
    exact absurd hx (by decide)
  exact ⟨hc, rfl, rfl, .inl ⟨rfl, hi _ c1 rfl (by dsimp only; omega), hi _ c2 rfl (by dsimp only; omega)⟩⟩
/-- Where the power did not go all is synced. -/
theorem St.kept {d e : Disk} {a b : Rg} {m : Im} (hm' : m.epoch < 18446744073709551616) (h : saveE d a b m = (e, 0)) (keep : List Bool) (s : St (crashD e keep) a b m) : St e a b m := by
  have x := save_ok hm' h
  have : crashD e keep = ⟨e.secs, e.pend, e.off, -1⟩ := by
    unfold crashD
    rw [x.pend, x.off]
    rfl
  rw [this] at s
  have := s.fuse e.fuse
  exact this
end Go.Proofs.Ytiegocbdgimimaa.Slot
