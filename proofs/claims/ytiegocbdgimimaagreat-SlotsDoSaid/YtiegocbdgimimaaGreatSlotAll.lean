/-
  The slots: what they are as data, and the contracts of their functions.
-/
import Derived.Test.YtiegocbdgimimaaGreatWalLog
import Derived.Test.YtiegocbdgimimaaGreatSectorNew
import Derived.Test.YtiegocbdgimimaaGreatWalCalls
import Derived.Test.YtiegocbdgimimaaGreatRecArgs
import Derived.Test.YtiegocbdgimimaaGreatSectorOpen
import Derived.SliceStrings
import Derived.Test.YtiegocbdgimimaaGreatWalAppend
import Derived.Test.YtiegocbdgimimaaGreatWalScan
import Derived.Test.YtiegocbdgimimaaGreatFrSame
import Derived.Test.YtiegocbdgimimaaGreatRound
import Derived.Deep.DrawnRows
import Derived.Deep.DeepCutAuto
namespace Go.Proofs.YtiegocbdgimimaaGreat.Wal
open Go.Proofs.YtiegocbdgimimaaGreat.Mem Go.Proofs.YtiegocbdgimimaaGreat.Rec Go.Proofs.YtiegocbdgimimaaGreat.Sector
set_option linter.unusedVariables false
set_option maxRecDepth 10000
theorem secsL_size (f : Fr) : ∀ s ∈ secsL f, s.size = 64 := by
  intro s hs
  simp only [secsL, List.mem_cons, List.mem_map, List.mem_range] at hs
  rcases hs with rfl | ⟨i, _, rfl⟩
  · rw [bs_size, headL_len]
  · rw [bs_size, pieceL_len _ _ (by rw [part_len]; omega)]
theorem run_first {d e : Disk} {x : Stp} {l : List Stp} (h : runE d (x :: l) = (e, 0)) : okB d = true ∧ d.off = false := by
  obtain ⟨d1, h1, _⟩ := runE_cons h
  cases x with
  | put n s => obtain ⟨a, b, _⟩ := put_inv h1; exact ⟨a, b⟩
  | syn => obtain ⟨a, b, _⟩ := sync_inv h1; exact ⟨a, b⟩
theorem lay_first {n : Int} {hd : ByteArray} {t : List ByteArray} {d e : Disk} (h : runE d (layE n hd t) = (e, 0)) : okB d = true ∧ d.off = false := by
  unfold layE at h
  cases t with
  | nil => exact run_first h
  | cons s t => exact run_first h
theorem walChk_of {d e : Disk} {r : Rg} (h : walChk d r = 0) (ok : okB e = true) (hl : e.secs.length = d.secs.length) : walChk e r = 0 := by
  obtain ⟨h1, h2, h3, h4, h5⟩ := walChk_zero h
  unfold walChk
  rw [ok, if_neg (by simp), if_neg]
  simp [rgB]; omega
/-- A frame was appended. -/
structure Appd (d : Disk) (r : Rg) (a : Int) (f : Fr) (e : Disk) (te : Int) : Prop where
  ok0 : walChk d r = 0
  off0 : d.off = false
  chk : fchk f.kind f.pay.size = 0
  a0 : 0 ≤ a
  room : a + ((pcs f.pay.size : Nat) + 1) ≤ r.s
  till : te = a + ((pcs f.pay.size : Nat) + 1)
  ok : okB e = true
  off : e.off = false
  pend : e.pend = []
  len : e.secs.length = d.secs.length
  now' : ∀ i : Int, 0 ≤ i → i < d.secs.length → now e i = if r.f + a ≤ i ∧ i < r.f + te then (secsL f).getD (i - (r.f + a)).toNat ⟨#[]⟩ else now d i
theorem sectorsE_zero {f : Fr} (h : (sectorsE f).2 = 0) : fchk f.kind f.pay.size = 0 ∧ sectorsE f = (secsL f, 0) := by
  unfold sectorsE at h ⊢
  by_cases hc : fchk f.kind f.pay.size = 0
  · rw [if_pos hc]; exact ⟨hc, rfl⟩
  · rw [if_neg hc] at h; exact absurd h hc
theorem lay_secs {f : Fr} {d e : Disk} {r : Rg} {a : Int} (h0 : walChk d r = 0) (a0 : 0 ≤ a) (hroom : a + ((pcs f.pay.size : Nat) + 1) ≤ r.s) (h : runE d (layE (r.f + a) ((secsL f).headD ⟨#[]⟩) (secsL f).tail) = (e, 0)) (hc : fchk f.kind f.pay.size = 0) :
    Appd d r a f e (a + ((pcs f.pay.size : Nat) + 1)) := by
  obtain ⟨k1, k2, k3, k4, k5⟩ := walChk_zero h0
  obtain ⟨t, hL, htl⟩ := secsL_head f
  rw [hL] at h
  dsimp only [List.headD_cons, List.tail_cons] at h
  generalize bs (headL (hdOf f)) = hd at h hL
  obtain ⟨q1, q2⟩ := lay_first h
  obtain ⟨p1, p2, p3, p4, p5⟩ := lay_done (r.f + a) hd t d e (by omega) (by omega) k1 h
  refine ⟨h0, q2, hc, a0, hroom, rfl, p1, p2, p3, p4, fun i i0 i1 => ?_⟩
  rw [p5 i i0 i1, hL, ← htl]
  by_cases e1 : i = r.f + a
  · rw [if_pos e1, if_pos (by omega)]
    have : (i - (r.f + a)).toNat = 0 := by omega
    rw [this]; rfl
  · rw [if_neg e1]
    by_cases e2 : r.f + a + 1 ≤ i ∧ i < r.f + a + 1 + t.length
    · rw [if_pos e2, if_pos (by omega)]
      have : (i - (r.f + a)).toNat = (i - (r.f + a + 1)).toNat + 1 := by omega
      rw [this]; rfl
    · rw [if_neg e2, if_neg (by omega)]
theorem app_ok {d e : Disk} {r : Rg} {a te : Int} {f : Fr} (h : appE d r a f = ⟨e, te, 0⟩) : Appd d r a f e te := by
  unfold appE at h
  by_cases h0 : walChk d r = 0
  · rw [if_neg (by simpa using h0)] at h
    by_cases h1 : (sectorsE f).2 = 0
    · obtain ⟨hc, hs⟩ := sectorsE_zero h1
      rw [if_neg (by simpa using h1), hs] at h
      by_cases h2 : a < 0 ∨ r.s < a
      · rw [if_pos h2] at h; simp at h
      · rw [if_neg h2] at h
        dsimp only at h
        by_cases h3 : r.s - a < ((secsL f).length : Int)
        · rw [if_pos h3] at h; simp at h
        · rw [if_neg h3] at h
          rw [secsL_len] at h h3
          have hroom : a + ((pcs f.pay.size : Nat) + 1) ≤ r.s := by push_cast at h3; omega
          generalize hx : runE d (layE (r.f + a) ((secsL f).headD ⟨#[]⟩) (secsL f).tail) = x at h
          by_cases h4 : x.2 = 0
          · rw [if_neg (by simpa using h4)] at h
            simp only [Ap.mk.injEq] at h
            obtain ⟨e1, e2, _⟩ := h
            have := lay_secs (e := x.1) h0 (by omega) hroom (by rw [hx, ← h4]) hc
            rw [← e1, ← e2]
            push_cast
            exact this
          · rw [if_pos h4] at h
            simp only [Ap.mk.injEq] at h
            exact absurd h.2.2 h4
    · rw [if_pos h1] at h
      simp only [Ap.mk.injEq] at h
      exact absurd h.2.2 h1
  · rw [if_pos h0] at h
    simp only [Ap.mk.injEq] at h
    exact absurd h.2.2 h0
theorem Appd.chk' {d e : Disk} {r : Rg} {a te : Int} {f : Fr} (x : Appd d r a f e te) : walChk e r = 0 := walChk_of x.ok0 x.ok x.len
theorem Appd.out {d e : Disk} {r : Rg} {a te : Int} {f : Fr} (x : Appd d r a f e te) {i : Nat} (hi : (i : Int) < r.s) (ho : (i : Int) < a ∨ te ≤ i) : cont e r i = cont d r i := by
  obtain ⟨k1, k2, k3, k4, k5⟩ := walChk_zero x.ok0
  rw [cont_now x.chk' x.off hi, cont_now x.ok0 x.off0 hi, x.now' _ (by omega) (by omega), if_neg (by omega)]
theorem Appd.lies {d e : Disk} {r : Rg} {te : Int} {f : Fr} {a : Nat} (x : Appd d r a f e te) (hf : f.okn) : Lies (cont e r) r.s.toNat a f (pcs f.pay.size + 1) := by
  obtain ⟨k1, k2, k3, k4, k5⟩ := walChk_zero x.ok0
  have hr := x.room
  have ht := x.till
  refine ⟨hf, x.chk, rfl, by omega, ?_⟩
  apply List.ext_getElem
  · rw [texts_len, secsL_len]
  · intro i h1 h2
    rw [texts_len] at h1
    simp only [texts, List.getElem_map, List.getElem_range]
    rw [cont_now x.chk' x.off (by omega), x.now' _ (by omega) (by omega), if_pos (by omega)]
    have : (r.f + ((a + i : Nat) : Int) - (r.f + (a : Int))).toNat = i := by omega
    rw [this]
    simp [List.getD, h2]
/-! ### a disk of which the power never goes -/
theorem put_live {d : Disk} {n : Int} {s : ByteArray} (ok : okB d = true) (off : d.off = false) (hf : d.fuse < 0) (hr : refuseE d n s = 0) : putE d n s = (putD d n s, 0) ∧ (putD d n s).fuse = d.fuse := by
  rcases put_go ok off hr with ⟨_, h⟩ | h
  · exact ⟨h, by unfold putD; dsimp only; rw [if_neg (by omega)]⟩
  · exfalso
    unfold putE workE at h
    rw [ok, hr, if_neg (by simp), off, if_neg (by simp), if_neg (by simp), if_neg (by omega)] at h
    simp at h
theorem sync_live {d : Disk} (ok : okB d = true) (off : d.off = false) (hf : d.fuse < 0) : syncE d = (synD d, 0) ∧ (synD d).fuse = d.fuse := by
  rcases sync_go ok off with ⟨_, h⟩ | h
  · exact ⟨h, by unfold synD; dsimp only; rw [if_neg (by omega)]⟩
  · exfalso
    unfold syncE workE at h
    rw [ok, if_neg (by simp), off, if_neg (by simp), if_neg (by simp), if_neg (by omega)] at h
    simp at h
theorem puts_live (t : List ByteArray) : ∀ (d : Disk) (m : Int), okB d = true → d.off = false → d.fuse < 0 → 0 ≤ m → m + t.length ≤ d.secs.length → (∀ s ∈ t, s.size = 64) → d.pend.length + t.length ≤ 4096 →
    ∃ e, runE d (puts m t) = (e, 0) ∧ e.fuse = d.fuse := by
  induction t with
  | nil => intro d m ok off _ _ _ _ _; exact ⟨d, rfl, rfl⟩
  | cons s t ih =>
    intro d m ok off hf h0 h1 hs hp
    rw [List.length_cons] at h1 hp
    have hr : refuseE d m s = 0 := refuse_ok h0 (by push_cast at h1; omega) (hs s List.mem_cons_self) (by omega)
    obtain ⟨h, hfu⟩ := put_live ok off hf hr
    simp only [puts, runE, stpE, h, if_true]
    obtain ⟨e, e1, e2⟩ := ih (putD d m s) (m + 1) (ok_put ok hr) rfl (by omega) (by omega) (by show m + 1 + _ ≤ (d.secs.length : Int); push_cast at h1; omega) (fun x hx => hs x (List.mem_cons_of_mem _ hx)) (by show (d.pend ++ [(m, s)]).length + _ ≤ _; simp; omega)
    exact ⟨e, e1, by rw [e2, hfu]⟩
theorem lay_live (n : Int) (hd : ByteArray) (t : List ByteArray) (d : Disk) (hn : 0 ≤ n) (hl : n + t.length < d.secs.length) (ok : okB d = true) (off : d.off = false) (hf : d.fuse < 0) (hh : hd.size = 64) (ht : ∀ s ∈ t, s.size = 64) (hp : d.pend.length + t.length ≤ 4000) :
    ∃ e, runE d (layE n hd t) = (e, 0) ∧ e.fuse = d.fuse := by
  unfold layE
  rw [runE_app]
  obtain ⟨d1, q1, q2⟩ := puts_live t d (n + 1) ok off hf (by omega) (by omega) ht (by omega)
  obtain ⟨a1, a2, a3, a4⟩ := puts_done t d d1 (n + 1) q1
  rw [q1, if_pos rfl]
  obtain ⟨s1, s2⟩ := sync_live (a3 ok) (a4 off) (by omega)
  have okS := ok_syn (a3 ok)
  have hr : refuseE (synD d1) n hd = 0 := refuse_ok hn (by rw [synD_len, a1]; omega) hh (by simp [synD])
  obtain ⟨s3, s4⟩ := put_live okS (by show d1.off = false; exact a4 off) (by omega) hr
  obtain ⟨s5, s6⟩ := sync_live (ok_put okS hr) rfl (by omega)
  refine ⟨synD (putD (synD d1) n hd), ?_, by omega⟩
  simp only [runE, stpE, s1, s3, s5, if_true]
/-- Appending to a disk of which the power never goes. -/
theorem app_live {d : Disk} {r : Rg} {a : Int} {f : Fr} (h0 : walChk d r = 0) (off : d.off = false) (hf : d.fuse < 0) (hp : d.pend.length ≤ 1000) (ha : 0 ≤ a) (ha2 : a ≤ r.s) (hk : f.kind ≠ 0) :
    (16384 < f.pay.size ∧ appE d r a f = ⟨d, 0, 3⟩) ∨ (f.pay.size ≤ 16384 ∧ r.s - a < (pcs f.pay.size : Nat) + 1 ∧ appE d r a f = ⟨d, 0, 16⟩) ∨ (∃ e, appE d r a f = ⟨e, a + ((pcs f.pay.size : Nat) + 1), 0⟩ ∧ e.fuse = d.fuse) := by
  obtain ⟨k1, k2, k3, k4, k5⟩ := walChk_zero h0
  unfold appE
  rw [if_neg (by simpa using h0)]
  by_cases h1 : (sectorsE f).2 = 0
  · obtain ⟨hc, hs⟩ := sectorsE_zero h1
    have hps := (fchk_zero hc).2
    rw [if_neg (by simpa using h1), hs, if_neg (by omega)]
    dsimp only
    rw [secsL_len]
    by_cases h3 : r.s - a < ((pcs f.pay.size + 1 : Nat) : Int)
    · rw [if_pos h3]; exact .inr (.inl ⟨hps, by push_cast at h3; omega, rfl⟩)
    · rw [if_neg h3]
      obtain ⟨t, hL, htl⟩ := secsL_head f
      have hsz := secsL_size f
      have hpc : pcs f.pay.size ≤ 269 := by unfold pcs; omega
      rw [hL] at hsz ⊢
      generalize bs (headL (hdOf f)) = hd at hsz
      obtain ⟨e, e1, e2⟩ := lay_live (r.f + a) hd t d (by omega) (by push_cast at h3; omega) k1 off hf (hsz hd List.mem_cons_self) (fun s hs => hsz s (List.mem_cons_of_mem _ hs)) (by omega)
      dsimp only [List.headD_cons, List.tail_cons]
      refine .inr (.inr ⟨e, ?_, e2⟩)
      simp [e1]
  · rw [if_pos h1]
    have hc : fchk f.kind f.pay.size ≠ 0 := fun hc => h1 (by unfold sectorsE; rw [if_pos hc])
    have hv : (sectorsE f).2 = fchk f.kind f.pay.size := by unfold sectorsE; rw [if_neg hc]
    rw [hv]
    unfold fchk at hc ⊢
    rw [if_neg hk] at hc ⊢
    by_cases hl : 16384 < f.pay.size
    · rw [if_pos hl]; exact .inl ⟨hl, rfl⟩
    · rw [if_neg hl] at hc; exact absurd rfl hc
theorem blank_head : headE Sector.blank.data.toList = (zeroHd, 14) := by
  have : headOk Sector.blank.data.toList = false := by
    unfold headOk
    rw [show (readHd Sector.blank.data.toList).kind = 0 from rfl]
    simp
  unfold headE
  rw [this]; rfl
theorem blank_none {h : Nat → ByteArray} {s a : Nat} (hb : h a = Sector.blank) : frAt h s a = (zeroFr, 0) := by
  unfold frAt
  by_cases h1 : s ≤ a
  · rw [if_pos h1]
  · rw [if_neg h1, hb, blank_head, if_pos (by decide)]
/-- A log that was written frame by frame into zero bytes. -/
structure Written (d : Disk) (S ep at' : Nat) (l : List Fr) : Prop where
  chk : walChk d ⟨0, S⟩ = 0
  off : d.off = false
  fuse : d.fuse = -1
  pend : d.pend = []
  len : d.secs.length = S
  num : cnt (cont d ⟨0, S⟩) S ep = l.length
  log : logF (cont d ⟨0, S⟩) S ep = l
  till : endF (cont d ⟨0, S⟩) S ep = at'
  rest : ∀ i, at' ≤ i → i < S → cont d ⟨0, S⟩ i = Sector.blank
theorem none_good {h : Nat → ByteArray} {s ep k : Nat} (hf : (frAt h s (pos h s k)).2 = 0) : good h s ep k = false := by unfold good; rw [hf]; simp
theorem rest_none {h : Nat → ByteArray} {S a : Nat} (hr : ∀ i, a ≤ i → i < S → h i = Sector.blank) : (frAt h S a).2 = 0 := by
  by_cases hs : S ≤ a
  · unfold frAt; rw [if_pos hs]
  · rw [blank_none (hr a (Nat.le_refl _) (by omega))]
theorem Written.more {d e : Disk} {S ep at' : Nat} {l : List Fr} {te : Int} {f : Fr} (w : Written d S ep at' l) (h : appE d ⟨0, S⟩ at' f = ⟨e, te, 0⟩) (hfu : e.fuse = d.fuse) (hf : f.okn) (hep : f.epoch = ep) (hsq : f.seq = l.length) (hl : l.length ≤ 1000) :
    Written e S ep (at' + (pcs f.pay.size + 1)) (l ++ [f]) ∧ te = ((at' + (pcs f.pay.size + 1) : Nat) : Int) := by
  have x := app_ok h
  have hr := x.room
  have ht := x.till
  have li := x.lies hf
  dsimp only at hr li
  rw [Int.toNat_natCast] at li
  have hout : ∀ i, i < at' → cont e ⟨0, S⟩ i = cont d ⟨0, S⟩ i := fun i hi => x.out (by dsimp only; omega) (.inl (by omega))
  rw [← w.till] at li
  obtain ⟨m1, m2, m3, m4, m5⟩ := log_more (by rw [w.till]; exact hout) (by rw [w.num]; omega) li hep (by rw [w.num]; exact hsq)
  have hrest : ∀ i, at' + (pcs f.pay.size + 1) ≤ i → i < S → cont e ⟨0, S⟩ i = Sector.blank := fun i hi hi2 => by
    rw [x.out (by dsimp only; omega) (.inr (by omega))]; exact w.rest i (by omega) hi2
  rw [w.num] at m1 m2 m3 m4 m5
  rw [w.till] at m4 m5
  have hng : good (cont e ⟨0, S⟩) S ep (l.length + 1) = false := none_good (by rw [m5]; exact rest_none hrest)
  have hnum : cnt (cont e ⟨0, S⟩) S ep = l.length + 1 := by
    rcases Nat.lt_or_ge (l.length + 1) (cnt (cont e ⟨0, S⟩) S ep) with hlt | hge
    · rw [cnt_good _ _ _ hlt] at hng; exact absurd hng (by simp)
    · omega
  refine ⟨⟨x.chk', x.off, by rw [hfu, w.fuse], x.pend, by rw [x.len, w.len], by rw [hnum]; simp, ?_, ?_, hrest⟩, by rw [ht]; push_cast; rfl⟩
  · unfold logF
    rw [hnum, List.range_succ, List.map_append, List.map_singleton, m3]
    have hlog := w.log
    unfold logF at hlog
    rw [w.num] at hlog
    have hmap : (List.range l.length).map (fun k => (frAt (cont e ⟨0, S⟩) S (pos (cont e ⟨0, S⟩) S k)).1) = (List.range l.length).map (fun k => (frAt (cont d ⟨0, S⟩) S (pos (cont d ⟨0, S⟩) S k)).1) := List.map_congr_left (fun k hk => m2 k (List.mem_range.1 hk))
    rw [hmap, hlog]
  · unfold endF
    rw [hnum, m5]
theorem Written.other {d : Disk} {S ep at' : Nat} {l : List Fr} (w : Written d S ep at' l) {o : Nat} (ho : o ≠ ep) : logF (cont d ⟨0, S⟩) S o = [] ∧ endF (cont d ⟨0, S⟩) S o = 0 := by
  have hc : cnt (cont d ⟨0, S⟩) S o = 0 := by
    refine cnt_is _ _ _ 0 (by omega) (fun j hj => absurd hj (by omega)) (fun _ => ?_)
    rcases Nat.eq_zero_or_pos l.length with h0 | hpos
    · have : at' = 0 := by rw [← w.till]; unfold endF; rw [w.num, h0]; rfl
      exact none_good (rest_none (fun i hi hi2 => w.rest i (by omega) hi2))
    · have hg := cnt_good (cont d ⟨0, S⟩) S ep (j := 0) (by rw [w.num]; exact hpos)
      obtain ⟨_, he, _⟩ := good_lies hg
      unfold good
      rw [he, decide_eq_false (p := ep = o) (fun e => ho e.symm)]
      simp
  constructor
  · unfold logF; rw [hc]; rfl
  · unfold endF; rw [hc]; rfl
theorem Written.start {S ep : Nat} (h1 : 1 ≤ S) (h2 : S ≤ 1024) : Written ⟨List.replicate S Sector.blank, [], false, -1⟩ S ep 0 [] := by
  have ok : okB ⟨List.replicate S Sector.blank, [], false, -1⟩ = true := okm (by simpa using h1) (by simpa using h2) (by simp) (fun s hs => by rw [List.eq_of_mem_replicate hs]; decide) (by simp)
  have hck : walChk ⟨List.replicate S Sector.blank, [], false, -1⟩ ⟨0, S⟩ = 0 := by
    unfold walChk
    rw [ok, if_neg (by simp), if_neg]
    simp [rgB]; omega
  have hr : ∀ i, 0 ≤ i → i < S → cont ⟨List.replicate S Sector.blank, [], false, -1⟩ ⟨0, S⟩ i = Sector.blank := fun i _ hi => by
    rw [cont_now hck rfl (by dsimp only; omega)]
    simp [now, heldS, lastW, List.getD, hi]
  have hc : cnt (cont ⟨List.replicate S Sector.blank, [], false, -1⟩ ⟨0, S⟩) S ep = 0 := cnt_is _ _ _ 0 (by omega) (fun j hj => absurd hj (by omega)) (fun _ => none_good (rest_none hr))
  exact ⟨hck, rfl, rfl, rfl, by simp, hc, by unfold logF; rw [hc]; rfl, by unfold endF; rw [hc]; rfl, hr⟩
end Go.Proofs.YtiegocbdgimimaaGreat.Wal
namespace Go.Proofs.YtiegocbdgimimaaGreat.Wal
open Go.ChangeShapes Go.WideShapes Go.ChangeAt Go.RowKit
open Go.Proofs.YtiegocbdgimimaaGreat.Mem Go.Proofs.YtiegocbdgimimaaGreat.Rec Go.Proofs.YtiegocbdgimimaaGreat.Sector
set_option linter.unusedVariables false
set_option maxRecDepth 100000
open Go.Joins Go.Deep
theorem open_region {H : Type} {enc : TypeId × Value → H} {W : World} {r : Reach} {b0 : Nat} {v : Value} {d : DataW H} {p : List MemPlace} (hv : Value.okWide Tryz.prog W r b0 27 v) (h : DataW.Trod enc Tryz.prog W 0 (fun _ => true) true 27 v d p) :
    ∃ f : Rg, v = rgV f ∧ f.has := by
  obtain ⟨v0, v1, y0, y1, n, rfl, _, _, t0, t1⟩ := open_agg2 Tryz.underlying27 (by kernel_rfl) (by kernel_rfl) hv h
  obtain ⟨a, e0, _, h0⟩ := DataW.trod_int Tryz.underlying3 t0
  obtain ⟨b, e1, _, h1⟩ := DataW.trod_int Tryz.underlying3 t1
  obtain rfl : v0 = .int .i64 a := by simpa using e0
  obtain rfl : v1 = .int .i64 b := by simpa using e1
  have g0 := bounds_i64 h0
  have g1 := bounds_i64 h1
  exact ⟨⟨a, b⟩, rfl, g0.1, g0.2, g1.1, g1.2⟩
theorem open_textz {H : Type} {enc : TypeId × Value → H} {W : World} {n : Nat} {v : Value} {x : DataW H × List MemPlace} (h : DataW.trod enc Tryz.prog W 0 (fun _ => true) true n 22 [v] = some x) : ∃ l, StrsV W v l ∧ ∀ s ∈ l, s.size ≤ maxLen := by
  rcases open_strings Tryz.underlying22 Tryz.underlying9 (by kernel_rfl) h with ⟨hcs, _⟩ | ⟨a, len, cap, ss, hcs, _, hl, hm, hss, _, hc, hz⟩
  · obtain rfl : v = .slice none 0 0 := by simpa using hcs
    exact ⟨[], SlV.nil W, by simp⟩
  · obtain rfl : v = .slice (some a) len cap := by simpa using hcs
    simp only [if_true] at hss
    have hlen : (ss.take len).length = len := by rw [List.length_take]; omega
    refine ⟨ss.take len, ⟨some a, cap, by rw [hlen], by rw [hlen]; exact hl, hm, by simp, fun h => ?_, fun b hb j hj => ?_⟩, fun s hs => hz s (List.mem_of_mem_take hs)⟩
    · rw [hlen] at h; subst h; simp [strC]
    · cases hb
      have hj' : j < len := by rw [strC_len, hlen] at hj; exact hj
      rw [hc j (by omega), strC_get _ j (by rw [hlen]; exact hj')]
      simp [List.getD, show j < ss.length by omega]
end Go.Proofs.YtiegocbdgimimaaGreat.Wal
namespace Go.Proofs.YtiegocbdgimimaaGreat.Wal
open Go.ChangeShapes Go.WideShapes Go.ChangeAt Go.RowKit
open Go.Proofs.YtiegocbdgimimaaGreat.Mem Go.Proofs.YtiegocbdgimimaaGreat.Rec Go.Proofs.YtiegocbdgimimaaGreat.Sector
set_option linter.unusedVariables false
set_option maxRecDepth 100000
def f0w : Fr := ⟨1, 7, 0, ⟨#[]⟩⟩
def f1w : Fr := ⟨1, 7, 1, ⟨#[120]⟩⟩
theorem f0w_has : f0w.has := ⟨by decide, by decide, by decide, by decide⟩
theorem f1w_has : f1w.has := ⟨by decide, by decide, by decide, by decide⟩
theorem rg2_has : Rg.has ⟨0, 2⟩ := ⟨by decide, by decide, by decide, by decide⟩
theorem lives_data : ∃ D, appE l1 ⟨0, 2⟩ 0 f0w = ⟨D, 1, 0⟩ ∧ (Lit.int .i64 D.fuse).wf = true ∧ appE D ⟨0, 2⟩ 1 f1w = ⟨D, 0, 16⟩ ∧ scanE D ⟨0, 2⟩ 7 = ([f0w], 1, 0) ∧ scanE D ⟨0, 2⟩ 8 = ([], 0, 0) := by
  have s0 : Written l1 2 7 0 [] := Written.start (by omega) (by omega)
  have p0 : pcs f0w.pay.size = 0 := rfl
  have p1 : pcs f1w.pay.size = 1 := rfl
  rcases app_live (r := ⟨0, 2⟩) (a := 0) (f := f0w) s0.chk s0.off (by rw [s0.fuse]; decide) (by rw [s0.pend]; decide) (by omega) (by decide) (by decide) with ⟨h, _⟩ | ⟨_, h, _⟩ | ⟨D, h, hf⟩
  · exact absurd h (by decide)
  · rw [p0] at h; exact absurd h (by decide)
  · rw [p0] at h
    obtain ⟨s1, ht⟩ := s0.more (at' := 0) (S := 2) (f := f0w) h hf ⟨by decide, by decide, by decide, by decide⟩ rfl rfl (by decide)
    rw [p0] at s1
    refine ⟨D, h, ?_, ?_, ?_, ?_⟩
    · rw [s1.fuse]; decide
    · rcases app_live (r := ⟨0, 2⟩) (a := 1) (f := f1w) s1.chk s1.off (by rw [s1.fuse]; decide) (by rw [s1.pend]; decide) (by omega) (by decide) (by decide) with ⟨g, _⟩ | ⟨_, _, g⟩ | ⟨e, g, _⟩
      · exact absurd g (by decide)
      · exact g
      · have := (app_ok g).room
        rw [p1] at this; exact absurd this (by decide)
    · unfold scanE
      have hc : walChk D ⟨0, 2⟩ = 0 := s1.chk
      rw [if_neg (by rw [hc]; simp), if_neg (by rw [s1.off]; simp)]
      have e1 : logF (cont D ⟨0, 2⟩) 2 7 = [] ++ [f0w] := s1.log
      have e2 : endF (cont D ⟨0, 2⟩) 2 7 = 0 + (0 + 1) := s1.till
      show (logF (cont D ⟨0, 2⟩) 2 7, endF (cont D ⟨0, 2⟩) 2 7, (0 : Int)) = _
      rw [e1, e2]; rfl
    · unfold scanE
      have hc : walChk D ⟨0, 2⟩ = 0 := s1.chk
      rw [if_neg (by rw [hc]; simp), if_neg (by rw [s1.off]; simp)]
      obtain ⟨e1, e2⟩ := s1.other (o := 8) (by decide)
      have e1 : logF (cont D ⟨0, 2⟩) 2 8 = [] := e1
      have e2 : endF (cont D ⟨0, 2⟩) 2 8 = 0 := e2
      show (logF (cont D ⟨0, 2⟩) 2 8, endF (cont D ⟨0, 2⟩) 2 8, (0 : Int)) = _
      rw [e1, e2]
theorem Apd.open {w : World} {x : Ap} {e : Ending} {w' : World} (h : Apd w x e w') : ∃ so sc po pc, e = .returned (.tuple #[.agg #[.slice so x.d.secs.length sc, .slice po x.d.pend.length pc, .bool x.d.off, .int .i64 x.d.fuse], .int .i64 x.at', .int .i64 x.c]) ∧
    OwnDisk w.heap.size w' (.slice so x.d.secs.length sc) (.slice po x.d.pend.length pc) x.d ∧ Below w.heap.size w w' := by
  obtain ⟨sv, pv, he, ho, hb⟩ := h
  obtain ⟨so, sc, rfl, _⟩ := ownsRow_form ho.secs
  obtain ⟨po, pc, rfl, _⟩ := ownsRow_form ho.pend
  exact ⟨so, sc, po, pc, he, ho, hb⟩
end Go.Proofs.YtiegocbdgimimaaGreat.Wal
namespace Go.Proofs.YtiegocbdgimimaaGreat.Slot
open Go.ChangeShapes Go.WideShapes Go.ChangeAt Go.RowKit
open Go.Proofs.YtiegocbdgimimaaGreat.Mem Go.Proofs.YtiegocbdgimimaaGreat.Rec Go.Proofs.YtiegocbdgimimaaGreat.Sector Go.Proofs.YtiegocbdgimimaaGreat.Wal
set_option linter.unusedVariables false
set_option maxRecDepth 100000
structure Im where
  epoch : Nat
  pay : ByteArray
def imV (m : Im) : Value := .agg #[.int .u64 m.epoch, .string m.pay]
def zeroIm : Im := ⟨0, ⟨#[]⟩⟩
def twiceB (a b : Rg) : Bool := decide (a.f < b.f + b.s) && decide (b.f < a.f + a.s)
def slChk (d : Disk) (a b : Rg) : Int := if walChk d a ≠ 0 then walChk d a else if walChk d b ≠ 0 then walChk d b else if twiceB a b = true then 10 else 0
/-- The image that lies in a slot. -/
def imIn (h : Nat → ByteArray) (s : Nat) : Option Im :=
  if (frAt h s 0).2 ≠ 0 ∧ (frAt h s 0).1.seq = 0 ∧ (frAt h s 0).1.kind = 2 then some ⟨(frAt h s 0).1.epoch, (frAt h s 0).1.pay⟩ else none
theorem imIn_head {h : Nat → ByteArray} {s : Nat} (hs : 1 ≤ s) (hh : (headE (h 0).data.toList).2 ≠ 0) : imIn h s = none := by
  unfold imIn
  have : (frAt h s 0).2 = 0 := by
    rcases Nat.eq_zero_or_pos (frAt h s 0).2 with h0 | h0
    · exact h0
    · have := (of_frAt (Nat.ne_of_gt h0)).headE
      rw [this] at hh; exact absurd rfl hh
  rw [if_neg (fun hx => hx.1 this)]
/-- What the log of the epoch that the first head says tells. -/
theorem imIn_log {h : Nat → ByteArray} {s : Nat} {x : Hd} (hx : headE (h 0).data.toList = (x, 0)) :
    (logF h s x.epoch = [] ∧ imIn h s = none) ∨ (∃ f t, logF h s x.epoch = f :: t ∧ (x.kind ≠ 2 → imIn h s = none) ∧ (x.kind = 2 → imIn h s = some ⟨x.epoch, f.pay⟩)) := by
  by_cases hg : good h s x.epoch 0 = true
  · obtain ⟨l, he, hq⟩ := good_lies hg
    have hp : pos h s 0 = 0 := rfl
    rw [hp] at l he hq
    have hd := l.headE
    rw [hx] at hd
    have hk : x = hdOf (frAt h s 0).1 := congrArg Prod.fst hd
    have hc : 1 ≤ cnt h s x.epoch := cnt_ge h s x.epoch 1 (by omega) (fun j hj => by
      obtain rfl : j = 0 := by omega
      exact hg)
    have hn : (frAt h s 0).2 ≠ 0 := by rw [l.num]; omega
    have hkind : x.kind = (frAt h s 0).1.kind := by rw [hk]; rfl
    have hep : x.epoch = (frAt h s 0).1.epoch := he.symm
    refine .inr ⟨(frAt h s 0).1, (logF h s x.epoch).tail, ?_, fun h2 => ?_, fun h2 => ?_⟩
    · unfold logF
      obtain ⟨c, hcc⟩ : ∃ c, cnt h s x.epoch = c + 1 := ⟨cnt h s x.epoch - 1, by omega⟩
      rw [hcc, List.range_succ_eq_map, List.map_cons]
      rfl
    · unfold imIn; rw [if_neg (fun hz => h2 (hkind.trans hz.2.2))]
    · unfold imIn; rw [if_pos ⟨hn, hq, hkind ▸ h2⟩, ← hep]
  · have hc : cnt h s x.epoch = 0 := cnt_is h s x.epoch 0 (by omega) (fun j hj => absurd hj (by omega)) (fun _ => by simpa using hg)
    refine .inl ⟨by unfold logF; rw [hc]; rfl, ?_⟩
    unfold imIn
    rw [if_neg]
    rintro ⟨h1, h2, h3⟩
    apply hg
    have hd := (of_frAt h1).headE
    rw [hx] at hd
    have hk : x = hdOf (frAt h s 0).1 := congrArg Prod.fst hd
    have hep : (frAt h s 0).1.epoch = x.epoch := by rw [hk]; rfl
    unfold good
    rw [show pos h s 0 = 0 from rfl]
    simp [h1, h2, hep]
/-- What is loaded, from which slot. -/
structure Ld where
  im : Im
  at' : Nat
  c : Int
def pickE : Option Im → Option Im → Ld
  | none, none => ⟨zeroIm, 0, 9⟩
  | some x, none => ⟨x, 0, 0⟩
  | none, some y => ⟨y, 1, 0⟩
  | some x, some y => if x.epoch < y.epoch then ⟨y, 1, 0⟩ else ⟨x, 0, 0⟩
def loadE (d : Disk) (a b : Rg) : Ld :=
  if slChk d a b ≠ 0 then ⟨zeroIm, 0, slChk d a b⟩
  else if d.off = true then ⟨zeroIm, 0, 15⟩
  else pickE (imIn (cont d a) a.s.toNat) (imIn (cont d b) b.s.toNat)
def imFr (m : Im) : Fr := ⟨2, m.epoch, 0, m.pay⟩
/-- The slot for an image, or why not. -/
def slotE (d : Disk) (a b : Rg) (m : Im) : Rg × Int :=
  if (loadE d a b).c ≠ 0 ∧ (loadE d a b).c ≠ 9 then (⟨0, 0⟩, (loadE d a b).c)
  else if fchk 2 m.pay.size ≠ 0 then (⟨0, 0⟩, fchk 2 m.pay.size)
  else if (loadE d a b).c = 9 then (a, 0)
  else if m.epoch ≤ (loadE d a b).im.epoch then (⟨0, 0⟩, 1)
  else (if (loadE d a b).at' = 0 then b else a, 0)
def saveE (d : Disk) (a b : Rg) (m : Im) : Disk × Int :=
  if slChk d a b ≠ 0 then (zeroDisk, slChk d a b)
  else if (slotE d a b m).2 ≠ 0 then (d, (slotE d a b m).2)
  else ((appE d (slotE d a b m).1 0 (imFr m)).d, if (appE d (slotE d a b m).1 0 (imFr m)).c = 16 then 17 else (appE d (slotE d a b m).1 0 (imFr m)).c)
theorem slChk_zero {d : Disk} {a b : Rg} (h : slChk d a b = 0) : walChk d a = 0 ∧ walChk d b = 0 ∧ twiceB a b = false := by
  unfold slChk at h
  by_cases h1 : walChk d a = 0
  · rw [if_neg (by simpa using h1)] at h
    by_cases h2 : walChk d b = 0
    · rw [if_neg (by simpa using h2)] at h
      cases h3 : twiceB a b with
      | true => rw [h3, if_pos rfl] at h; exact absurd h (by decide)
      | false => exact ⟨h1, h2, rfl⟩
    · rw [if_pos h2] at h; exact absurd h h2
  · rw [if_pos h1] at h; exact absurd h h1
end Go.Proofs.YtiegocbdgimimaaGreat.Slot
namespace Go.Proofs.YtiegocbdgimimaaGreat.Slot
open Go.Proofs.YtiegocbdgimimaaGreat.Mem Go.Proofs.YtiegocbdgimimaaGreat.Rec Go.Proofs.YtiegocbdgimimaaGreat.Sector Go.Proofs.YtiegocbdgimimaaGreat.Wal
set_option linter.unusedVariables false
set_option maxRecDepth 10000
theorem imIn_ext {h h' : Nat → ByteArray} {s : Nat} (he : ∀ i, i < s → h' i = h i) : imIn h' s = imIn h s := by
  have : frAt h' s 0 = frAt h s 0 := by
    by_cases h0 : (frAt h s 0).2 = 0
    · by_cases h1 : (frAt h' s 0).2 = 0
      · rw [frAt_none h0, frAt_none h1]
      · exfalso
        have l := of_frAt h1
        have hr := frAt_room h' s 0
        have := frAt_of (l.ext (h' := h) (fun i _ hi => (he i (by omega)).symm))
        rw [this] at h0; exact h1 h0
    · have l := of_frAt h0
      have hr := frAt_room h s 0
      exact frAt_of (l.ext (fun i _ hi => he i (by omega)))
  unfold imIn; rw [this]
theorem imIn_lies {h : Nat → ByteArray} {s n : Nat} {m : Im} (l : Lies h s 0 (imFr m) n) : imIn h s = some m := by
  unfold imIn
  rw [frAt_of l, if_pos ⟨by have := l.num; dsimp only; omega, rfl, rfl⟩]
  rfl
theorem run_code (l : List Stp) : ∀ d, (runE d l).2 ≠ 16 ∧ (runE d l).2 ≠ 17 := by
  have hw : ∀ (d : Disk) (r : Int) (a b : Disk), r ≠ 16 → r ≠ 17 → (workE d r a b).2 ≠ 16 ∧ (workE d r a b).2 ≠ 17 := fun d r a b h1 h2 => by
    unfold workE
    split
    · exact ⟨by simp, by simp⟩
    · split
      · exact ⟨by simp, by simp⟩
      · split
        · exact ⟨h1, h2⟩
        · split
          · exact ⟨by simp, by simp⟩
          · exact ⟨by simp, by simp⟩
  have hs : ∀ d x, (stpE d x).2 ≠ 16 ∧ (stpE d x).2 ≠ 17 := fun d x => by
    cases x with
    | put n s =>
      show (putE d n s).2 ≠ 16 ∧ (putE d n s).2 ≠ 17
      unfold putE
      apply hw
      all_goals
        unfold refuseE
        split
        · decide
        · split
          · decide
          · split <;> decide
    | syn => exact hw _ _ _ _ (by decide) (by decide)
  induction l with
  | nil => intro d; exact ⟨by show (0 : Int) ≠ 16; decide, by show (0 : Int) ≠ 17; decide⟩
  | cons x l ih =>
    intro d
    show (if (stpE d x).2 = 0 then runE (stpE d x).1 l else stpE d x).2 ≠ 16 ∧ (if (stpE d x).2 = 0 then runE (stpE d x).1 l else stpE d x).2 ≠ 17
    split
    · exact ih _
    · exact hs _ _
theorem fchk_code (k n : Nat) : fchk k n = 0 ∨ fchk k n = 1 ∨ fchk k n = 3 := by
  unfold fchk
  split
  · exact .inr (.inl rfl)
  · split
    · exact .inr (.inr rfl)
    · exact .inl rfl
theorem walChk_code (d : Disk) (r : Rg) : walChk d r = 0 ∨ walChk d r = 1 ∨ walChk d r = 13 := by
  unfold walChk
  split
  · exact .inr (.inr rfl)
  · split
    · exact .inr (.inl rfl)
    · exact .inl rfl
theorem slChk_code (d : Disk) (a b : Rg) : slChk d a b = 0 ∨ slChk d a b = 1 ∨ slChk d a b = 13 ∨ slChk d a b = 10 := by
  unfold slChk
  split
  · rcases walChk_code d a with h | h | h <;> simp [h]
  · split
    · rcases walChk_code d b with h | h | h <;> simp [h]
    · split
      · exact .inr (.inr (.inr rfl))
      · exact .inl rfl
theorem pick_code (x y : Option Im) : (pickE x y).c = 0 ∨ (pickE x y).c = 9 := by
  unfold pickE
  split
  · exact .inr rfl
  · exact .inl rfl
  · exact .inl rfl
  · split <;> exact .inl rfl
theorem load_code (d : Disk) (a b : Rg) : (loadE d a b).c ≠ 16 ∧ (loadE d a b).c ≠ 17 := by
  unfold loadE
  split
  · dsimp only; rcases slChk_code d a b with h | h | h | h <;> rw [h] <;> decide
  · split
    · dsimp only; decide
    · rcases pick_code (imIn (cont d a) a.s.toNat) (imIn (cont d b) b.s.toNat) with h | h <;> rw [h] <;> decide
theorem app_size {d : Disk} {r : Rg} {a : Int} {f : Fr} (h : (appE d r a f).c = 16 ∨ (appE d r a f).c = 17) : (appE d r a f).d = d := by
  unfold appE at h ⊢
  by_cases h0 : walChk d r = 0
  · rw [if_neg (by simpa using h0)] at h ⊢
    by_cases h1 : (sectorsE f).2 = 0
    · rw [if_neg (by simpa using h1)] at h ⊢
      by_cases h2 : a < 0 ∨ r.s < a
      · rw [if_pos h2]
      · rw [if_neg h2] at h ⊢
        by_cases h3 : r.s - a < ((sectorsE f).1.length : Int)
        · rw [if_pos h3]
        · rw [if_neg h3] at h ⊢
          have := run_code (layE (r.f + a) ((sectorsE f).1.headD ⟨#[]⟩) (sectorsE f).1.tail) d
          generalize runE d (layE (r.f + a) ((sectorsE f).1.headD ⟨#[]⟩) (sectorsE f).1.tail) = x at h this ⊢
          dsimp only at h ⊢
          exfalso
          by_cases h4 : x.2 = 0
          · rw [if_neg (by simpa using h4)] at h; rcases h with h | h <;> exact absurd h (by simp)
          · rw [if_pos h4] at h; rcases h with h | h
            · exact this.1 h
            · exact this.2 h
    · rw [if_pos h1]
  · exfalso
    rw [if_pos h0] at h
    dsimp only at h
    rcases walChk_code d r with h1 | h1 | h1 <;> rw [h1] at h <;> rcases h with h | h <;> exact absurd h (by decide)
theorem slot_code (d : Disk) (a b : Rg) (m : Im) : (slotE d a b m).2 ≠ 17 := by
  unfold slotE
  split
  · exact (load_code d a b).2
  · split
    · dsimp only; rcases fchk_code 2 m.pay.size with h | h | h <;> rw [h] <;> decide
    · split
      · dsimp only; decide
      · split
        · dsimp only; decide
        · dsimp only; decide
theorem save_size {d : Disk} {a b : Rg} {m : Im} (h : (saveE d a b m).2 = 17) : (saveE d a b m).1 = d := by
  unfold saveE at h ⊢
  by_cases h0 : slChk d a b = 0
  · rw [if_neg (by simpa using h0)] at h ⊢
    by_cases h1 : (slotE d a b m).2 = 0
    · rw [if_neg (by simpa using h1)] at h ⊢
      dsimp only at h ⊢
      by_cases h2 : (appE d (slotE d a b m).1 0 (imFr m)).c = 16
      · exact app_size (.inl h2)
      · rw [if_neg h2] at h; exact app_size (.inr h)
    · rw [if_pos h1]
  · rw [if_pos h0] at h
    dsimp only at h
    rcases slChk_code d a b with h1 | h1 | h1 | h1 <;> rw [h1] at h <;> exact absurd h (by decide)
/-- The slot that has not the newest image. -/
def toE (d : Disk) (a b : Rg) : Rg := if (loadE d a b).c = 0 ∧ (loadE d a b).at' = 0 then b else a
theorem load_zero {d : Disk} {a b : Rg} (h : (loadE d a b).c = 0 ∨ (loadE d a b).c = 9) : slChk d a b = 0 ∧ d.off = false ∧ loadE d a b = pickE (imIn (cont d a) a.s.toNat) (imIn (cont d b) b.s.toNat) := by
  unfold loadE at h ⊢
  by_cases h0 : slChk d a b = 0
  · rw [if_neg (by simpa using h0)] at h ⊢
    cases ho : d.off with
    | true => rw [ho, if_pos rfl] at h; rcases h with h | h <;> exact absurd h (by decide)
    | false => exact ⟨h0, rfl, by simp⟩
  · rw [if_pos h0] at h
    dsimp only at h
    rcases slChk_code d a b with h1 | h1 | h1 | h1 <;> rw [h1] at h h0 <;> first | exact absurd rfl h0 | (rcases h with h | h <;> exact absurd h (by decide))
/-- An image was saved. -/
structure Done (d : Disk) (a b : Rg) (m : Im) (e : Disk) : Prop where
  chk0 : slChk d a b = 0
  off0 : d.off = false
  chk : slChk e a b = 0
  off : e.off = false
  pend : e.pend = []
  len : e.secs.length = d.secs.length
  ok : okB e = true
  small : m.pay.size ≤ 16384
  newer : (loadE d a b).c = 9 ∨ ((loadE d a b).c = 0 ∧ (loadE d a b).im.epoch < m.epoch)
  load : loadE e a b = ⟨m, if (loadE d a b).c = 0 ∧ (loadE d a b).at' = 0 then 1 else 0, 0⟩
  now' : ∀ i : Int, 0 ≤ i → i < d.secs.length → ¬ ((toE d a b).f ≤ i ∧ i < (toE d a b).f + (toE d a b).s) → now e i = now d i
theorem pick_lt {x y : Im} (h : x.epoch < y.epoch) : pickE (some x) (some y) = ⟨y, 1, 0⟩ := by simp [pickE, h]
theorem pick_ge {x y : Im} (h : ¬ x.epoch < y.epoch) : pickE (some x) (some y) = ⟨x, 0, 0⟩ := by simp [pickE, h]
theorem pick_after {x y x' y' : Option Im} {m : Im} (hm : (pickE x y).c = 9 ∨ ((pickE x y).c = 0 ∧ (pickE x y).im.epoch < m.epoch))
    (h : if (pickE x y).c = 0 ∧ (pickE x y).at' = 0 then x' = x ∧ y' = some m else x' = some m ∧ y' = y) :
    pickE x' y' = ⟨m, if (pickE x y).c = 0 ∧ (pickE x y).at' = 0 then 1 else 0, 0⟩ := by
  cases x with
  | none =>
    cases y with
    | none =>
      rw [if_neg (by simp [pickE])] at h ⊢
      rw [h.1, h.2]; rfl
    | some y =>
      rw [if_neg (by simp [pickE])] at h ⊢
      rw [h.1, h.2]
      have : y.epoch < m.epoch := by rcases hm with hm | hm; exact absurd hm (by simp [pickE]); exact hm.2
      exact pick_ge (by omega)
  | some x =>
    cases y with
    | none =>
      rw [if_pos (by simp [pickE])] at h ⊢
      rw [h.1, h.2]
      have : x.epoch < m.epoch := by rcases hm with hm | hm; exact absurd hm (by simp [pickE]); exact hm.2
      exact pick_lt (by omega)
    | some y =>
      by_cases hlt : x.epoch < y.epoch
      · have hp : pickE (some x) (some y) = ⟨y, 1, 0⟩ := by simp [pickE, hlt]
        rw [hp] at hm h ⊢
        rw [if_neg (by simp)] at h ⊢
        rw [h.1, h.2]
        have : y.epoch < m.epoch := by rcases hm with hm | hm; exact absurd hm (by simp); exact hm.2
        exact pick_ge (by omega)
      · have hp : pickE (some x) (some y) = ⟨x, 0, 0⟩ := by simp [pickE, hlt]
        rw [hp] at hm h ⊢
        rw [if_pos (by simp)] at h ⊢
        rw [h.1, h.2]
        have : x.epoch < m.epoch := by rcases hm with hm | hm; exact absurd hm (by simp); exact hm.2
        exact pick_lt (by omega)
theorem slChk_of {d e : Disk} {a b : Rg} (h : slChk d a b = 0) (ok : okB e = true) (hl : e.secs.length = d.secs.length) : slChk e a b = 0 := by
  obtain ⟨h1, h2, h3⟩ := slChk_zero h
  unfold slChk
  rw [walChk_of h1 ok hl, walChk_of h2 ok hl, h3]; simp
theorem twice_out {a b : Rg} (h : twiceB a b = false) : b.f + b.s ≤ a.f ∨ a.f + a.s ≤ b.f := by
  unfold twiceB at h
  rw [Bool.and_eq_false_iff, decide_eq_false_iff_not, decide_eq_false_iff_not] at h
  omega
theorem save_inv {d : Disk} {a b : Rg} {m : Im} {e : Disk} (h : saveE d a b m = (e, 0)) : slChk d a b = 0 ∧ ((loadE d a b).c = 9 ∨ ((loadE d a b).c = 0 ∧ (loadE d a b).im.epoch < m.epoch)) ∧ fchk 2 m.pay.size = 0 ∧ ∃ te, appE d (toE d a b) 0 (imFr m) = ⟨e, te, 0⟩ := by
  unfold saveE at h
  by_cases h0 : slChk d a b = 0
  · rw [if_neg (by simpa using h0)] at h
    by_cases h1 : (slotE d a b m).2 = 0
    · rw [if_neg (by simpa using h1)] at h
      have hfin : ∀ r, (slotE d a b m).1 = r → ∃ te, appE d r 0 (imFr m) = ⟨e, te, 0⟩ := fun r hr => by
        rw [hr] at h
        generalize appE d r 0 (imFr m) = x at h
        obtain ⟨x1, x2, x3⟩ := x
        simp only [Prod.mk.injEq] at h
        obtain ⟨g1, g2⟩ := h
        by_cases h16 : x3 = 16
        · rw [if_pos h16] at g2; exact absurd g2 (by decide)
        · rw [if_neg h16] at g2; exact ⟨x2, by rw [g1, g2]⟩
      unfold slotE at h1
      by_cases k1 : (loadE d a b).c ≠ 0 ∧ (loadE d a b).c ≠ 9
      · rw [if_pos k1] at h1; exact absurd h1 k1.1
      · rw [if_neg k1] at h1
        by_cases k2 : fchk 2 m.pay.size = 0
        · rw [if_neg (by simpa using k2)] at h1
          by_cases k3 : (loadE d a b).c = 9
          · refine ⟨h0, .inl k3, k2, hfin _ ?_⟩
            unfold slotE toE
            rw [if_neg k1, if_neg (by simpa using k2), if_pos k3, if_neg (by rw [k3]; simp)]
          · rw [if_neg k3] at h1
            have k0 : (loadE d a b).c = 0 := Decidable.byContradiction fun hx => k1 ⟨hx, k3⟩
            by_cases k4 : m.epoch ≤ (loadE d a b).im.epoch
            · rw [if_pos k4] at h1; exact absurd h1 (by decide)
            · refine ⟨h0, .inr ⟨k0, by omega⟩, k2, hfin _ ?_⟩
              unfold slotE toE
              rw [if_neg k1, if_neg (by simpa using k2), if_neg k3, if_neg k4]
              dsimp only
              by_cases k5 : (loadE d a b).at' = 0
              · rw [if_pos k5, if_pos ⟨k0, k5⟩]
              · rw [if_neg k5, if_neg (fun hx => k5 hx.2)]
        · rw [if_pos k2] at h1; exact absurd h1 k2
    · rw [if_pos h1] at h
      exact absurd (congrArg Prod.snd h) h1
  · rw [if_pos h0] at h
    exact absurd (congrArg Prod.snd h) h0
theorem save_ok {d : Disk} {a b : Rg} {m : Im} {e : Disk} (hm : m.epoch < 18446744073709551616) (h : saveE d a b m = (e, 0)) : Done d a b m e := by
  obtain ⟨h0, hn, hf, te, ha⟩ := save_inv h
  have x := app_ok ha
  obtain ⟨c1, c2, c3⟩ := slChk_zero h0
  have hout := twice_out c3
  have hck := slChk_of h0 x.ok x.len
  have hps := (fchk_zero hf).2
  obtain ⟨_, _, hl⟩ := load_zero (d := d) (a := a) (b := b) (by rcases hn with hn | hn; exact .inr hn; exact .inl hn.1)
  have li := x.lies (a := 0) ⟨by show 2 < 256; decide, hm, by show 0 < _; decide, by show m.pay.size ≤ _; omega⟩
  have hroom := x.room
  have htill := x.till
  have himp : (imFr m).pay = m.pay := rfl
  rw [himp] at hroom htill
  have hext : ∀ r : Rg, walChk d r = 0 → (r.f + r.s ≤ (toE d a b).f ∨ (toE d a b).f + (toE d a b).s ≤ r.f) → imIn (cont e r) r.s.toNat = imIn (cont d r) r.s.toNat := fun r hr ho => imIn_ext (fun i hi => by
    obtain ⟨q1, q2, q3, q4, q5⟩ := walChk_zero hr
    rw [cont_now (walChk_of hr x.ok x.len) x.off (by omega), cont_now hr x.off0 (by omega), x.now' _ (by omega) (by omega), if_neg (by omega)])
  refine ⟨h0, x.off0, hck, x.off, x.pend, x.len, x.ok, hps, hn, ?_, fun i i0 i1 ho => by rw [x.now' i i0 i1, if_neg (by omega)]⟩
  have he : loadE e a b = pickE (imIn (cont e a) a.s.toNat) (imIn (cont e b) b.s.toNat) := by
    unfold loadE
    rw [if_neg (by simpa using hck), if_neg (by rw [x.off]; simp)]
  rw [he, hl]
  rw [hl] at hn
  refine pick_after hn ?_
  rw [← hl]
  by_cases ht : (loadE d a b).c = 0 ∧ (loadE d a b).at' = 0
  · rw [if_pos ht]
    have hto : toE d a b = b := by unfold toE; rw [if_pos ht]
    rw [hto] at li hext
    exact ⟨hext a c1 (by omega), imIn_lies li⟩
  · rw [if_neg ht]
    have hto : toE d a b = a := by unfold toE; rw [if_neg ht]
    rw [hto] at li hext
    exact ⟨imIn_lies li, hext b c2 (by omega)⟩
/-- Saving on a disk of which the power never goes. -/
theorem save_live {d : Disk} {a b : Rg} {m : Im} (h0 : slChk d a b = 0) (off : d.off = false) (hf : d.fuse < 0) (hp : d.pend.length ≤ 1000) :
    (16384 < m.pay.size ∧ saveE d a b m = (d, 3)) ∨ (m.pay.size ≤ 16384 ∧ (loadE d a b).c = 0 ∧ m.epoch ≤ (loadE d a b).im.epoch ∧ saveE d a b m = (d, 1)) ∨ (m.pay.size ≤ 16384 ∧ (toE d a b).s < (pcs m.pay.size : Nat) + 1 ∧ saveE d a b m = (d, 17)) ∨ (∃ e, saveE d a b m = (e, 0) ∧ e.fuse = d.fuse) := by
  obtain ⟨c1, c2, c3⟩ := slChk_zero h0
  have hlc : (loadE d a b).c = 0 ∨ (loadE d a b).c = 9 := by
    unfold loadE
    rw [if_neg (by simpa using h0), if_neg (by rw [off]; simp)]
    exact pick_code _ _
  have hk1 : ¬ ((loadE d a b).c ≠ 0 ∧ (loadE d a b).c ≠ 9) := fun hx => by rcases hlc with h | h; exact hx.1 h; exact hx.2 h
  unfold saveE
  rw [if_neg (by simpa using h0)]
  by_cases hl : 16384 < m.pay.size
  · have hfc : fchk 2 m.pay.size = 3 := by unfold fchk; rw [if_neg (by decide), if_pos hl]
    have hs : slotE d a b m = (⟨0, 0⟩, 3) := by
      unfold slotE
      rw [if_neg hk1, hfc, if_pos (by decide)]
    rw [hs]
    exact .inl ⟨hl, by rw [if_pos (by decide)]⟩
  · have hfc : fchk 2 m.pay.size = 0 := by unfold fchk; rw [if_neg (by decide), if_neg hl]
    by_cases hle : (loadE d a b).c = 0 ∧ m.epoch ≤ (loadE d a b).im.epoch
    · have hs : slotE d a b m = (⟨0, 0⟩, 1) := by
        unfold slotE
        rw [if_neg hk1, hfc, if_neg (by simp), if_neg (by rw [hle.1]; decide), if_pos hle.2]
      rw [hs]
      exact .inr (.inl ⟨by omega, hle.1, hle.2, by rw [if_pos (by decide)]⟩)
    · have hs : slotE d a b m = (toE d a b, 0) := by
        unfold slotE toE
        rw [if_neg hk1, hfc, if_neg (by simp)]
        rcases hlc with hc | hc
        · rw [if_neg (by rw [hc]; decide), if_neg (fun hx => hle ⟨hc, hx⟩)]
          simp only [hc, true_and]
        · rw [if_pos hc, if_neg (by rw [hc]; simp)]
      rw [hs, if_neg (by simp)]
      have hw : walChk d (toE d a b) = 0 := by unfold toE; split; exact c2; exact c1
      obtain ⟨q1, q2, q3, q4, q5⟩ := walChk_zero hw
      dsimp only
      rcases app_live (r := toE d a b) (a := 0) (f := imFr m) hw off hf hp (by omega) (by omega) (by show 2 ≠ 0; decide) with ⟨g, _⟩ | ⟨g1, g2, g3⟩ | ⟨e, g1, g2⟩
      · exact absurd g hl
      · rw [g3]
        exact .inr (.inr (.inl ⟨g1, by have : (imFr m).pay = m.pay := rfl; rw [this] at g2; omega, rfl⟩))
      · rw [g1]
        exact .inr (.inr (.inr ⟨e, rfl, g2⟩))
/-- A fresh disk with two slots. -/
def fresh (S : Nat) : Disk := ⟨List.replicate (2 * S) Sector.blank, [], false, -1⟩
theorem fresh_chk {S : Nat} (h1 : 1 ≤ S) (h2 : S ≤ 512) : slChk (fresh S) ⟨0, S⟩ ⟨S, S⟩ = 0 := by
  have ok : okB (fresh S) = true := okm (by show 1 ≤ (List.replicate (2 * S) Sector.blank).length; rw [List.length_replicate]; omega) (by show (List.replicate (2 * S) Sector.blank).length ≤ 1024; rw [List.length_replicate]; omega) (by simp [fresh]) (fun s hs => by rw [List.eq_of_mem_replicate hs]; decide) (by simp [fresh])
  have hl : (fresh S).secs.length = 2 * S := by simp [fresh]
  have k1 : walChk (fresh S) ⟨0, S⟩ = 0 := by unfold walChk; rw [ok, if_neg (by simp), if_neg]; rw [hl]; simp [rgB]; omega
  have k2 : walChk (fresh S) ⟨S, S⟩ = 0 := by unfold walChk; rw [ok, if_neg (by simp), if_neg]; rw [hl]; simp [rgB]; omega
  unfold slChk
  rw [k1, k2, if_neg (by simp), if_neg (by simp), if_neg]
  simp [twiceB]
theorem fresh_load {S : Nat} (h1 : 1 ≤ S) (h2 : S ≤ 512) : loadE (fresh S) ⟨0, S⟩ ⟨S, S⟩ = ⟨zeroIm, 0, 9⟩ := by
  have hc := fresh_chk h1 h2
  obtain ⟨c1, c2, _⟩ := slChk_zero hc
  have hn : ∀ i : Int, 0 ≤ i → i < 2 * S → now (fresh S) i = Sector.blank := fun i i0 i1 => by
    unfold now
    have : i.toNat < 2 * S := by omega
    simp [fresh, heldS, lastW, List.getD, this]
  have hi : ∀ r : Rg, walChk (fresh S) r = 0 → r.s = S → r.f + S ≤ 2 * S → imIn (cont (fresh S) r) r.s.toNat = none := fun r hr hs hf => by
    obtain ⟨q1, q2, q3, q4, q5⟩ := walChk_zero hr
    refine imIn_head (by omega) ?_
    rw [cont_now hr rfl (by omega), hn _ (by omega) (by omega), blank_head]
    show (14 : Int) ≠ 0
    decide
  unfold loadE
  rw [if_neg (by simpa using hc), if_neg (by simp [fresh]), hi _ c1 rfl (by dsimp only; omega), hi _ c2 rfl (by dsimp only; omega)]
  rfl
end Go.Proofs.YtiegocbdgimimaaGreat.Slot
namespace Go.Proofs.YtiegocbdgimimaaGreat.Slot
open Go.ChangeShapes Go.WideShapes Go.ChangeAt Go.RowKit
open Go.Proofs.YtiegocbdgimimaaGreat.Mem Go.Proofs.YtiegocbdgimimaaGreat.Rec Go.Proofs.YtiegocbdgimimaaGreat.Sector Go.Proofs.YtiegocbdgimimaaGreat.Wal
set_option linter.unusedVariables false
set_option maxRecDepth 100000
theorem copied_any (d : Disk) (v : Value) (w : World) (h : DiskV w v d) (hn : d.secs.length * 16 ≤ 140737488355328) (hm : d.pend.length * 24 ≤ 140737488355328) :
    Calls Tryz.prog 16 #[v] w (Copied w d) := by
  obtain ⟨sv, pv, rfl, hs, hp⟩ := h
  obtain ⟨so, sc, rfl, _⟩ := hs.form
  obtain ⟨po, pc, rfl, _⟩ := hp.form
  have hs' := hid hs
  have hp' := hid hp
  clear hs hp
  go_enter Tryz.func16, Tryz.ntmps16
  go_wp2_with fail
  refine (cloneStrs_any d.secs _ _ (hs'.out.below (by go_grown)) hn).mono ?_
  rintro e w1 ⟨sv', rfl, hown1, hb1⟩
  have hb1w : Below w.heap.size w w1 := ((Below.refl _ w).alloc (Nat.le_refl _) _ |>.alloc (by simp) _).trans (hb1.mono (by simp; omega))
  have B1 : Blk w1 w.heap.size [.slice so d.secs.length sc, .slice po d.pend.length pc, .bool d.off, .int .i64 d.fuse] 25 := ((Blk.new w _ _).alloc _).below hb1 (by simp; omega)
  have R1 : Blk w1 (w.heap.size + 1) [.slice none 0 0, .slice none 0 0, .bool false, .int .i64 0] 25 := (Blk.new' (w.alloc _) _ _ _ (by simp)).below hb1 (by simp)
  obtain ⟨so', sc', rfl, _⟩ := ownsRow_form hown1
  have hown1' := hid (ownsRow_mono (base' := w.heap.size + 2) hown1 (by simp))
  have hp1 := hid (hp'.out.below hb1w)
  have hb1' := hid hb1w
  have B1' := hid B1
  have R1' := hid R1
  obtain ⟨b0, b1, b2, b3, bf⟩ := B1.four
  clear hown1 hb1 hb1w B1 R1
  go_wp2_with fail
  refine (clonePrs_any d.pend _ _ (hp'.out.below (hb1'.out.setCell (p := ⟨w.heap.size, 0, none⟩) (Nat.le_refl _) _)) hm).mono ?_
  rintro e w2 ⟨pv', rfl, hown2, hb2⟩
  have B2 := (B1'.out.set 0 (.slice so' d.secs.length sc')).below hb2 (by simp [B1'.out.lt])
  have R2 := (R1'.out.other (p := ⟨w.heap.size, 0, none⟩) (by simp) (.slice so' d.secs.length sc')).below hb2 (by simp [R1'.out.lt])
  have hb2' := hid (bt (hb1'.out.setCell (p := ⟨w.heap.size, 0, none⟩) (Nat.le_refl _) (.slice so' d.secs.length sc')) hb2)
  have hown1'' := hid (ownsRow_below (ownsRow_setCell_below hown1'.out (a := ⟨w.heap.size, 0, none⟩) (by simp) (.slice so' d.secs.length sc')) hb2)
  have hown2' := hid hown2
  obtain ⟨po', pc', rfl, _⟩ := ownsRow_form hown2
  have B2' := hid B2
  have R2' := hid R2
  simp only [List.set_cons_zero] at B2
  obtain ⟨b0, b1, b2, b3, bf⟩ := B2.four
  obtain ⟨r0, r1, r2, r3, rf⟩ := R2.four
  have hsz3 : w1.heap.size ≤ w2.heap.size := by have := hb2.size; simpa using this
  clear hown2 hb2 B2 R2
  go_wp2_with fail
  have R5 := ((((R2'.out.other (p := ⟨w.heap.size, 1, none⟩) (by simp) (.slice po' d.pend.length pc')).set 0 (.slice so' d.secs.length sc')).set 1 (.slice po' d.pend.length pc')).set 2 (.bool d.off)).set 3 (.int .i64 d.fuse)
  simp only [List.set_cons_zero, List.set_cons_succ] at R5
  obtain ⟨q0, q1, q2, q3, qf⟩ := R5.four
  clear b0 b1 b2 b3 bf r0 r1 r2 r3 rf
  refine bodyPost_ret (v := .agg #[.slice so' d.secs.length sc', .slice po' d.pend.length pc', .bool d.off, .int .i64 d.fuse]) (by simp [results, Tryz.results16, go_sem, q0, q1, q2, q3]) rfl ?_
  have hsz := R1'.out.lt
  have hsz2 := hb2'.out.size
  refine ⟨_, _, rfl, ⟨?_, w1.heap.size, by omega, ?_, fun k hk => (ownBlock_lt hown1'.out hk).2, ?_⟩, ?_⟩
  · have h := hown1''.out
    exact ownsRow_mono (ownsRow_setCell_below (ownsRow_setCell_below (ownsRow_setCell_below (ownsRow_setCell_below (ownsRow_setCell_below h (by simp) _) (by simp) _) (by simp) _) (by simp) _) (by simp) _) (by omega)
  · simp; exact hsz3
  · have h := hown2'.out
    exact ownsRow_mono (ownsRow_setCell_below (ownsRow_setCell_below (ownsRow_setCell_below (ownsRow_setCell_below (ownsRow_setCell_below h (by simp; omega) _) (by simp; omega) _) (by simp; omega) _) (by simp; omega) _) (by simp; omega) _) (by simp)
  · exact ((((hb2'.out.setCell (by simp) _).setCell (by simp) _).setCell (by simp) _).setCell (by simp) _).setCell (by simp) _
theorem ix0 (a0 a1 b0 b1 : Value) (W : World) : (Instr.index 41 (.agg #[a0, a1, b0, b1]) (.int .i64 0)).run Tryz.prog W = .ok (.agg #[a0, a1]) W := by
  simp [Instr.index, go_sem]
theorem ix1 (a0 a1 b0 b1 : Value) (W : World) : (Instr.index 41 (.agg #[a0, a1, b0, b1]) (.int .i64 1)).run Tryz.prog W = .ok (.agg #[b0, b1]) W := by
  simp [Instr.index, go_sem]
attribute [local go_sem] ix0 ix1
set_option maxHeartbeats 2000000 in
theorem scheck_any (d : Disk) (v : Value) (a b : Rg) (w : World) (h : DiskV w v d) (ha : a.has) (hb : b.has) :
    Calls Tryz.prog 11 #[v, rgV a, rgV b] w fun e w' => e = .returned (.int .i64 (slChk d a b)) ∧ Below w.heap.size w w' := by
  have hv := hid h
  have hca := hid (fun v W (h : DiskV W v d) => wcheck_any d v a W h ha)
  have hcb := hid (fun v W (h : DiskV W v d) => wcheck_any d v b W h hb)
  obtain ⟨sv, pv, rfl, hs, hp⟩ := h
  obtain ⟨so, scap, rfl, _⟩ := hs.form
  obtain ⟨po, pcap, rfl, _⟩ := hp.form
  clear hs hp ha hb
  rw [show rgV a = .agg #[.int .i64 a.f, .int .i64 a.s] from rfl] at hca ⊢
  rw [show rgV b = .agg #[.int .i64 b.f, .int .i64 b.s] from rfl] at hcb ⊢
  go_enter Tryz.func11, Tryz.ntmps11
  go_upto_region 1 with fail
  have D0 := hid (((Blk.new w [.slice so d.secs.length scap, .slice po d.pend.length pcap, .bool d.off, .int .i64 d.fuse] 25).alloc (.cells #[.int .i64 a.f, .int .i64 a.s] 27)).alloc (.cells #[.int .i64 b.f, .int .i64 b.s] 27))
  have A0 := hid ((Blk.new' (w.alloc (.cells #[.slice so d.secs.length scap, .slice po d.pend.length pcap, .bool d.off, .int .i64 d.fuse] 25)) [.int .i64 a.f, .int .i64 a.s] 27 (w.heap.size + 1) (by simp)).alloc (.cells #[.int .i64 b.f, .int .i64 b.s] 27))
  have B0 := hid (Blk.new' ((w.alloc (.cells #[.slice so d.secs.length scap, .slice po d.pend.length pcap, .bool d.off, .int .i64 d.fuse] 25)).alloc (.cells #[.int .i64 a.f, .int .i64 a.s] 27)) [.int .i64 b.f, .int .i64 b.s] 27 (w.heap.size + 2) (by simp))
  have hb0 : Below w.heap.size w (((w.alloc (.cells #[.slice so d.secs.length scap, .slice po d.pend.length pcap, .bool d.off, .int .i64 d.fuse] 25)).alloc (.cells #[.int .i64 a.f, .int .i64 a.s] 27)).alloc (.cells #[.int .i64 b.f, .int .i64 b.s] 27)) := by go_grown
  generalize ((w.alloc (.cells #[.slice so d.secs.length scap, .slice po d.pend.length pcap, .bool d.off, .int .i64 d.fuse] 25)).alloc (.cells #[.int .i64 a.f, .int .i64 a.s] 27)).alloc (.cells #[.int .i64 b.f, .int .i64 b.s] 27) = X0 at D0 A0 B0 hb0 ⊢
  have hb0' := hid hb0
  clear hb0
  obtain ⟨a0, a1, af⟩ := A0.out.two
  obtain ⟨b0, b1, bf⟩ := B0.out.two
  go_wp2_with fail
  clear a0 a1 af b0 b1 bf
  go_loopw [13] (fun i wr => ∃ k : Nat, k ≤ 2 ∧ i = .int .i64 k ∧ (Hid (1 ≤ k → walChk d a = 0) ∧ Hid (2 ≤ k → walChk d b = 0)) ∧ Hid (Below X0.heap.size X0 wr)) (fun i _ => 2 - (intOf i).toNat)
  case atStart => exact ⟨0, by omega, rfl, ⟨hid (fun h => absurd h (by omega)), hid (fun h => absurd h (by omega))⟩, hid (Below.refl _ _)⟩
  case round =>
    obtain ⟨k, hk, rfl, ⟨h1, h2⟩, hbr⟩ := hrel
    rcases (by omega : k = 0 ∨ k = 1 ∨ k = 2) with hk0 | hk0 | hk0
    · clear h1 h2
      obtain rfl : k = 0 := by omega
      have D1 := hid (D0.out.below hbr.out D0.out.lt)
      go_upto_region 4 with fail
      have hal : Below wr.heap.size wr (wr.alloc (.cells #[.int .i64 a.f, .int .i64 a.s] 27)) := (Below.refl _ wr).alloc (Nat.le_refl _) _
      replace D1 := hid (D1.out.below hal D1.out.lt)
      have T1 := hid (Blk.new wr [.int .i64 a.f, .int .i64 a.s] 27)
      have hb1 := hid (bt hbr.out hal)
      generalize wr.heap.size = n1 at T1 ⊢
      generalize wr.alloc (.cells #[.int .i64 a.f, .int .i64 a.s] 27) = X1 at hal D1 T1 hb1 ⊢
      clear hal
      obtain ⟨d0, d1, d2, d3, df⟩ := D1.out.four
      obtain ⟨t0, t1, tf⟩ := T1.out.two
      go_wp2_with fail
      refine (hca.out _ _ (hv.out.below (bt hb0'.out hb1.out))).mono ?_
      rintro e w5 ⟨rfl, b5⟩
      have hb5 := hid (bt hb1.out b5)
      clear d0 d1 d2 d3 df t0 t1 tf b5 D1 T1 hb1
      by_cases hc : walChk d a = 0
      · have hz : (walChk d a != 0) = false := by rw [hc]; rfl
        have hc' := hid hc
        clear hc
        go_wp2_with fail
        go_roundw
        case rel => exact ⟨1, by omega, by go_num, ⟨hid (fun _ => hc'.out), hid (fun h => absurd h (by omega))⟩, hb5⟩
        case measure => simp [intOf]
      · have hz : (walChk d a != 0) = true := by simpa using hc
        have hE : Hid (slChk d a b = walChk d a) := hid (by unfold slChk; rw [if_pos hc])
        clear hc
        generalize walChk d a = c at hz hE ⊢
        go_wp2_with fail
        go_ret
        exact ⟨by rw [hE.out]; rfl, bt hb0'.out hb5.out⟩
    · clear h2
      obtain rfl : k = 1 := by omega
      have D1 := hid (D0.out.below hbr.out D0.out.lt)
      go_upto_region 4 with fail
      have hal : Below wr.heap.size wr (wr.alloc (.cells #[.int .i64 b.f, .int .i64 b.s] 27)) := (Below.refl _ wr).alloc (Nat.le_refl _) _
      replace D1 := hid (D1.out.below hal D1.out.lt)
      have T1 := hid (Blk.new wr [.int .i64 b.f, .int .i64 b.s] 27)
      have hb1 := hid (bt hbr.out hal)
      generalize wr.heap.size = n1 at T1 ⊢
      generalize wr.alloc (.cells #[.int .i64 b.f, .int .i64 b.s] 27) = X1 at hal D1 T1 hb1 ⊢
      clear hal
      obtain ⟨d0, d1, d2, d3, df⟩ := D1.out.four
      obtain ⟨t0, t1, tf⟩ := T1.out.two
      go_wp2_with fail
      refine (hcb.out _ _ (hv.out.below (bt hb0'.out hb1.out))).mono ?_
      rintro e w5 ⟨rfl, b5⟩
      have hb5 := hid (bt hb1.out b5)
      clear d0 d1 d2 d3 df t0 t1 tf b5 D1 T1 hb1
      by_cases hc : walChk d b = 0
      · have hz : (walChk d b != 0) = false := by rw [hc]; rfl
        have hc' := hid hc
        clear hc
        go_wp2_with fail
        go_roundw
        case rel => exact ⟨2, by omega, by go_num, ⟨hid (fun _ => h1.out (by omega)), hid (fun _ => hc'.out)⟩, hb5⟩
        case measure => simp [intOf]
      · have hz : (walChk d b != 0) = true := by simpa using hc
        have hE : Hid (slChk d a b = walChk d b) := hid (by unfold slChk; rw [if_neg (by simpa using h1.out (by omega)), if_pos hc])
        clear hc
        generalize walChk d b = c at hz hE ⊢
        go_wp2_with fail
        go_ret
        exact ⟨by rw [hE.out]; rfl, bt hb0'.out hb5.out⟩
    · obtain rfl : k = 2 := hk0
      have z1 := hid (h1.out (by omega))
      have z2 := hid (h2.out (by omega))
      obtain ⟨_, p2, p3, p4, p5⟩ := walChk_zero z1.out
      obtain ⟨_, q2, q3, q4, q5⟩ := walChk_zero z2.out
      have p6 : a.f + a.s ≤ 1024 := by omega
      have q6 : b.f + b.s ≤ 1024 := by omega
      have p7 : a.s ≤ 1024 := by omega
      have q7 : b.s ≤ 1024 := by omega
      have p8 : a.f ≤ 1024 := by omega
      have q8 : b.f ≤ 1024 := by omega
      clear h1 h2 p4 p5 q4 q5 hk
      have A1 := hid (A0.out.below hbr.out A0.out.lt)
      have B1 := hid (B0.out.below hbr.out B0.out.lt)
      obtain ⟨a0, a1, af⟩ := A1.out.two
      obtain ⟨b0, b1, bf⟩ := B1.out.two
      by_cases t1 : a.f < b.f + b.s
      · by_cases t2 : b.f < a.f + a.s
        · have htw : twiceB a b = true := by simp [twiceB, t1, t2]
          have hE : Hid (slChk d a b = 10) := hid (by unfold slChk; rw [if_neg (by simpa using z1.out), if_neg (by simpa using z2.out), if_pos htw])
          clear htw
          go_wp2_with fail
          go_ret
          exact ⟨by rw [hE.out]; rfl, bt hb0'.out hbr.out⟩
        · have htw : ¬ twiceB a b = true := by simp [twiceB, t2]
          have hE : Hid (slChk d a b = 0) := hid (by unfold slChk; rw [if_neg (by simpa using z1.out), if_neg (by simpa using z2.out), if_neg htw])
          clear htw
          go_wp2_with fail
          go_ret
          exact ⟨by rw [hE.out]; rfl, bt hb0'.out hbr.out⟩
      · have htw : ¬ twiceB a b = true := by simp [twiceB, t1]
        have hE : Hid (slChk d a b = 0) := hid (by unfold slChk; rw [if_neg (by simpa using z1.out), if_neg (by simpa using z2.out), if_neg htw])
        clear htw
        go_wp2_with fail
        go_ret
        exact ⟨by rw [hE.out]; rfl, bt hb0'.out hbr.out⟩
end Go.Proofs.YtiegocbdgimimaaGreat.Slot
namespace Go.Proofs.YtiegocbdgimimaaGreat.Slot
open Go.ChangeShapes Go.WideShapes Go.ChangeAt Go.RowKit
open Go.Proofs.YtiegocbdgimimaaGreat.Mem Go.Proofs.YtiegocbdgimimaaGreat.Rec Go.Proofs.YtiegocbdgimimaaGreat.Sector Go.Proofs.YtiegocbdgimimaaGreat.Wal
set_option linter.unusedVariables false
set_option maxRecDepth 100000
theorem blk2 {w : World} {b : Nat} {a0 a1 b0 b1 : Value} {t : TypeId} (h : Blk w b [a0, a1] t) : Blk ((w.setCell ⟨b, 0, none⟩ b0).setCell ⟨b, 1, none⟩ b1) b [b0, b1] t := (h.set 0 b0).set 1 b1
theorem below2 {w w' : World} {B b : Nat} {b0 b1 : Value} (h : Below B w w') (hb : B ≤ b) : Below B w ((w'.setCell ⟨b, 0, none⟩ b0).setCell ⟨b, 1, none⟩ b1) := (h.setCell (by simpa using hb) _).setCell (by simpa using hb) _
def ImTold (w : World) (x : Option Im) (e : Ending) (w' : World) : Prop := e = .returned (.tuple #[imV (x.getD zeroIm), .bool x.isSome]) ∧ Below w.heap.size w w'
set_option maxHeartbeats 4000000 in
theorem image_nat (secs : List ByteArray) (pend : List (Int × ByteArray)) (fuse : Int) (v : Value) (F S : Nat) (w : World) (h : DiskV w v ⟨secs, pend, false, fuse⟩) (hc : walChk ⟨secs, pend, false, fuse⟩ ⟨F, S⟩ = 0) :
    Calls Tryz.prog 13 #[v, .agg #[.int .i64 (F : Nat), .int .i64 (S : Nat)]] w (ImTold w (imIn (cont ⟨secs, pend, false, fuse⟩ ⟨F, S⟩) S)) := by
  have hv := hid h
  obtain ⟨k1, k2, k3, k4, k5⟩ := walChk_zero hc
  have hS : S ≤ 1024 := by dsimp only at k4 k5 k2; omega
  have hF : F ≤ 1024 := by dsimp only at k4 k5 k3; omega
  have hS1 : 1 ≤ S := by dsimp only at k3; omega
  have hrg := hid (show Rg.has ⟨F, S⟩ from ⟨by dsimp only; omega, by dsimp only; omega, by dsimp only; omega, by dsimp only; omega⟩)
  have hsc := hid (fun ep v W (h : DiskV W v ⟨secs, pend, false, fuse⟩) => show Calls _ _ _ _ (ScTold W (logF (cont ⟨secs, pend, false, fuse⟩ ⟨F, S⟩) S ep, endF (cont ⟨secs, pend, false, fuse⟩ ⟨F, S⟩) S ep, 0)) from by
    have := scan_any ⟨secs, pend, false, fuse⟩ v ⟨F, S⟩ ep W h hrg.out
    unfold scanE at this
    rw [if_neg (by simpa using hc), if_neg (by simp)] at this
    exact this)
  have hrd := hid (fun v W (h : DiskV W v ⟨secs, pend, false, fuse⟩) => read_any ⟨secs, pend, false, fuse⟩ v (F : Int) W h)
  obtain ⟨H, hH⟩ : ∃ H, cont ⟨secs, pend, false, fuse⟩ ⟨F, S⟩ = H := ⟨_, rfl⟩
  have hH0 : (readE ⟨secs, pend, false, fuse⟩ (F : Int)).1 = H 0 := by rw [← hH]; show _ = (readE _ ((F : Int) + ((0 : Nat) : Int))).1; simp
  rw [hH] at hsc ⊢
  rw [hH0] at hrd
  generalize (readE ⟨secs, pend, false, fuse⟩ (F : Int)).2 = rc at hrd
  clear hH hH0
  obtain ⟨sv, pv, rfl, hs, hp⟩ := h
  obtain ⟨so, scap, rfl, _⟩ := hs.form
  obtain ⟨po, pcap, rfl, _⟩ := hp.form
  clear hs hp k1 k2 k3 k4 k5 hc
  dsimp only at hv hsc hrd ⊢
  rw [show rgV ⟨F, S⟩ = .agg #[.int .i64 (F : Nat), .int .i64 (S : Nat)] from rfl] at hsc
  have hSi : (S : Int) ≤ 1024 := by omega
  have hFi : (F : Int) ≤ 1024 := by omega
  go_enter Tryz.func13, Tryz.ntmps13
  go_upto_region 1 with fail
  have D0 := hid (((Blk.new w [.slice so secs.length scap, .slice po pend.length pcap, .bool false, .int .i64 fuse] 25).alloc (.cells #[.int .i64 (F : Nat), .int .i64 (S : Nat)] 27)).alloc (.cells #[.int .u64 0, .string ⟨#[]⟩] 30))
  have R0 := hid ((Blk.new' (w.alloc (.cells #[.slice so secs.length scap, .slice po pend.length pcap, .bool false, .int .i64 fuse] 25)) [.int .i64 (F : Nat), .int .i64 (S : Nat)] 27 (w.heap.size + 1) (by simp)).alloc (.cells #[.int .u64 0, .string ⟨#[]⟩] 30))
  have Z0 := hid (Blk.new' ((w.alloc (.cells #[.slice so secs.length scap, .slice po pend.length pcap, .bool false, .int .i64 fuse] 25)).alloc (.cells #[.int .i64 (F : Nat), .int .i64 (S : Nat)] 27)) [.int .u64 0, .string ⟨#[]⟩] 30 (w.heap.size + 2) (by simp))
  have b0 : Below w.heap.size w (((w.alloc (.cells #[.slice so secs.length scap, .slice po pend.length pcap, .bool false, .int .i64 fuse] 25)).alloc (.cells #[.int .i64 (F : Nat), .int .i64 (S : Nat)] 27)).alloc (.cells #[.int .u64 0, .string ⟨#[]⟩] 30)) := by go_grown
  generalize ((w.alloc (.cells #[.slice so secs.length scap, .slice po pend.length pcap, .bool false, .int .i64 fuse] 25)).alloc (.cells #[.int .i64 (F : Nat), .int .i64 (S : Nat)] 27)).alloc (.cells #[.int .u64 0, .string ⟨#[]⟩] 30) = X0 at D0 R0 Z0 b0 ⊢
  have b0' := hid b0
  clear b0
  obtain ⟨d0, d1, d2, d3, df⟩ := D0.out.four
  obtain ⟨g0, g1, gf⟩ := R0.out.two
  go_wp2_with fail
  refine (hrd.out _ _ (hv.out.below b0'.out)).mono ?_
  rintro e w1 ⟨rfl, b1⟩
  have D1 := hid (D0.out.below b1 D0.out.lt)
  have R1 := hid (R0.out.below b1 R0.out.lt)
  have Z1 := hid (Z0.out.below b1 Z0.out.lt)
  have b1w := hid (bt b0'.out b1)
  clear b1 d0 d1 d2 d3 df g0 g1 gf D0 R0 Z0 b0' hrd
  go_wp2_with fail
  refine (hd_any _ _).mono ?_
  have hno := hid (fun hh => imIn_head (h := H) (s := S) hS1 hh)
  have hyes := hid (fun x hx => imIn_log (h := H) (s := S) (x := x) hx)
  obtain ⟨x, hx⟩ : ∃ x, headE (H 0).data.toList = x := ⟨_, rfl⟩
  rw [hx] at hno hyes ⊢
  clear hx
  obtain ⟨⟨k, ep, sq, ln, sm⟩, c⟩ := x
  dsimp only at hno ⊢
  rintro e w2 ⟨rfl, b2⟩
  unfold hdV
  dsimp only
  have hal : Below w2.heap.size w2 (w2.alloc (.cells #[.int .u8 k, .int .u64 ep, .int .u64 sq, .int .i64 ln, .int .u32 sm] 61)) := (Below.refl _ w2).alloc (Nat.le_refl _) _
  have D2 := hid ((D1.out.below b2 D1.out.lt).below hal (Nat.lt_of_lt_of_le D1.out.lt b2.size))
  have R2 := hid ((R1.out.below b2 R1.out.lt).below hal (Nat.lt_of_lt_of_le R1.out.lt b2.size))
  have Z2 := hid ((Z1.out.below b2 Z1.out.lt).below hal (Nat.lt_of_lt_of_le Z1.out.lt b2.size))
  have H2 := hid (Blk.new w2 [.int .u8 k, .int .u64 ep, .int .u64 sq, .int .i64 ln, .int .u32 sm] 61)
  have b2w := hid (bt (bt b1w.out b2) hal)
  clear b2 D1 R1 Z1 b1w
  go_upto_region 3 with fail
  generalize w2.heap.size = h2 at H2 ⊢
  generalize w2.alloc (.cells #[.int .u8 k, .int .u64 ep, .int .u64 sq, .int .i64 ln, .int .u32 sm] 61) = X2 at hal D2 R2 Z2 H2 b2w ⊢
  clear hal
  by_cases hc : c = 0
  · subst hc
    have hlg := hid (hyes.out ⟨k, ep, sq, ln, sm⟩ rfl)
    dsimp only at hlg
    clear hno hyes
    obtain ⟨d0, d1, d2, d3, df⟩ := D2.out.four
    obtain ⟨g0, g1, gf⟩ := R2.out.two
    obtain ⟨c0, c1, c2, c3, c4, cf⟩ := five H2.out
    go_wp2_with fail
    refine (hsc.out ep _ _ (hv.out.below b2w.out)).mono ?_
    rintro e w4 ⟨ao, cap, rfl, hrow, b4⟩
    dsimp only at hrow
    have Z4 := hid (Z2.out.below b4 Z2.out.lt)
    have H4 := hid (H2.out.below b4 H2.out.lt)
    have b4w := hid (bt b2w.out b4)
    have hfv := hid (FrsV.own hrow rfl)
    clear d0 d1 d2 d3 df g0 g1 gf c0 c1 c2 c3 c4 cf D2 R2 Z2 H2 b2w b4 hrow
    obtain ⟨c0, c1, c2, c3, c4, cf⟩ := five H4.out
    obtain ⟨z0, z1, zf⟩ := Z4.out.two
    dsimp only
    rcases hlg.out with ⟨hl, hn⟩ | ⟨f, t, hl, hn2, hy2⟩
    · rw [hl]
      have hE := hid hn
      clear hl hn hfv hlg
      dsimp only [List.length_nil]
      go_wp2_with fail
      obtain ⟨q0, q1, qf⟩ := (blk2 Z4.out (b0 := .int .u64 0) (b1 := .string ⟨#[]⟩)).two
      refine bodyPost_ret (v := .tuple #[.agg #[.int .u64 0, .string ⟨#[]⟩], .bool false]) (by simp [results, Tryz.results13, go_sem, q0, q1]) rfl ?_
      rw [hE.out]
      exact ⟨rfl, below2 b4w.out (by omega)⟩
    · rw [hl] at hfv ⊢
      by_cases hk : k = 2
      · have hE := hid (hy2 hk)
        have hki : ((k : Int) != 2) = false := by rw [hk]; rfl
        clear hl hn2 hy2 hk hlg
        obtain ⟨tb, toff, tcap, htv, htb, htc⟩ := hfv.out.open (by simp)
        simp only [Value.slice.injEq] at htv
        obtain ⟨rfl, _, rfl⟩ := htv
        obtain ⟨y0, y1, y2, y3⟩ := htc 0 (by simp)
        simp only [Nat.zero_mul, Nat.add_zero, List.getElem_cons_zero] at y3
        clear htc y0 y1 y2
        obtain ⟨n, hn⟩ : ∃ n, (f :: t).length = n + 1 := ⟨t.length, rfl⟩
        rw [hn]
        have hn' := hid hn
        clear hn
        go_upto_region 8 with fail
        go_region
        all_goals
          go_wp2_with fail
          obtain ⟨q0, q1, qf⟩ := (blk2 Z4.out (b0 := .int .u64 (ep : Nat)) (b1 := .string f.pay)).drew.two
          refine bodyPost_ret (v := .tuple #[.agg #[.int .u64 (ep : Nat), .string f.pay], .bool true]) (by simp [results, Tryz.results13, go_sem, q0, q1]) rfl ?_
          rw [hE.out]
          exact ⟨rfl, (below2 b4w.out (by omega)).drew⟩
      · have hE := hid (hn2 hk)
        have hki : ((k : Int) != 2) = true := by rw [bne_iff_ne]; omega
        clear hl hn2 hy2 hk hlg hfv
        dsimp only [List.length_cons]
        go_wp2_with fail
        obtain ⟨q0, q1, qf⟩ := (blk2 Z4.out (b0 := .int .u64 0) (b1 := .string ⟨#[]⟩)).two
        refine bodyPost_ret (v := .tuple #[.agg #[.int .u64 0, .string ⟨#[]⟩], .bool false]) (by simp [results, Tryz.results13, go_sem, q0, q1]) rfl ?_
        rw [hE.out]
        exact ⟨rfl, below2 b4w.out (by omega)⟩
  · have hq : (c != 0) = true := by simpa using hc
    have hE := hid (hno.out hc)
    clear hc hno hyes
    obtain ⟨z0, z1, zf⟩ := Z2.out.two
    go_wp2_with fail
    obtain ⟨q0, q1, qf⟩ := (blk2 Z2.out (b0 := .int .u64 0) (b1 := .string ⟨#[]⟩)).two
    refine bodyPost_ret (v := .tuple #[.agg #[.int .u64 0, .string ⟨#[]⟩], .bool false]) (by simp [results, Tryz.results13, go_sem, q0, q1]) rfl ?_
    rw [hE.out]
    exact ⟨rfl, below2 b2w.out (by omega)⟩
end Go.Proofs.YtiegocbdgimimaaGreat.Slot
namespace Go.Proofs.YtiegocbdgimimaaGreat.Slot
open Go.ChangeShapes Go.WideShapes Go.ChangeAt Go.RowKit
open Go.Proofs.YtiegocbdgimimaaGreat.Mem Go.Proofs.YtiegocbdgimimaaGreat.Rec Go.Proofs.YtiegocbdgimimaaGreat.Sector Go.Proofs.YtiegocbdgimimaaGreat.Wal
set_option linter.unusedVariables false
set_option maxRecDepth 100000
def LdTold (w : World) (x : Ld) (e : Ending) (w' : World) : Prop := e = .returned (.tuple #[imV x.im, .int .i64 (x.at' : Nat), .int .i64 x.c]) ∧ Below w.heap.size w w'
set_option maxHeartbeats 2000000 in
theorem load_bad (d : Disk) (v : Value) (a b : Rg) (w : World) (h : DiskV w v d) (ha : a.has) (hb : b.has) (hc : slChk d a b ≠ 0) :
    Calls Tryz.prog 5 #[v, rgV a, rgV b] w (LdTold w ⟨zeroIm, 0, slChk d a b⟩) := by
  have hcheck := hid (fun v W (h : DiskV W v d) => scheck_any d v a b W h ha hb)
  have hv := hid h
  obtain ⟨sv, pv, rfl, hs, hp⟩ := h
  obtain ⟨so, scap, rfl, _⟩ := hs.form
  obtain ⟨po, pcap, rfl, _⟩ := hp.form
  have hq : (slChk d a b != 0) = true := by simpa using hc
  clear hs hp ha hb hc
  generalize slChk d a b = c at hcheck hq ⊢
  rw [show rgV a = .agg #[.int .i64 a.f, .int .i64 a.s] from rfl, show rgV b = .agg #[.int .i64 b.f, .int .i64 b.s] from rfl] at hcheck ⊢
  go_enter Tryz.func5, Tryz.ntmps5
  go_upto_region 1 with fail
  have D0 := hid ((((Blk.new w [.slice so d.secs.length scap, .slice po d.pend.length pcap, .bool d.off, .int .i64 d.fuse] 25).alloc (.cells #[.int .i64 a.f, .int .i64 a.s] 27)).alloc (.cells #[.int .i64 b.f, .int .i64 b.s] 27)).alloc (.cells #[.int .u64 0, .string ⟨#[]⟩] 30))
  have A0 := hid (((Blk.new' (w.alloc (.cells #[.slice so d.secs.length scap, .slice po d.pend.length pcap, .bool d.off, .int .i64 d.fuse] 25)) [.int .i64 a.f, .int .i64 a.s] 27 (w.heap.size + 1) (by simp)).alloc (.cells #[.int .i64 b.f, .int .i64 b.s] 27)).alloc (.cells #[.int .u64 0, .string ⟨#[]⟩] 30))
  have B0 := hid ((Blk.new' ((w.alloc (.cells #[.slice so d.secs.length scap, .slice po d.pend.length pcap, .bool d.off, .int .i64 d.fuse] 25)).alloc (.cells #[.int .i64 a.f, .int .i64 a.s] 27)) [.int .i64 b.f, .int .i64 b.s] 27 (w.heap.size + 2) (by simp)).alloc (.cells #[.int .u64 0, .string ⟨#[]⟩] 30))
  have Z0 := hid (Blk.new' (((w.alloc (.cells #[.slice so d.secs.length scap, .slice po d.pend.length pcap, .bool d.off, .int .i64 d.fuse] 25)).alloc (.cells #[.int .i64 a.f, .int .i64 a.s] 27)).alloc (.cells #[.int .i64 b.f, .int .i64 b.s] 27)) [.int .u64 0, .string ⟨#[]⟩] 30 (w.heap.size + 3) (by simp))
  have hb0 : Below w.heap.size w ((((w.alloc (.cells #[.slice so d.secs.length scap, .slice po d.pend.length pcap, .bool d.off, .int .i64 d.fuse] 25)).alloc (.cells #[.int .i64 a.f, .int .i64 a.s] 27)).alloc (.cells #[.int .i64 b.f, .int .i64 b.s] 27)).alloc (.cells #[.int .u64 0, .string ⟨#[]⟩] 30)) := by go_grown
  generalize (((w.alloc (.cells #[.slice so d.secs.length scap, .slice po d.pend.length pcap, .bool d.off, .int .i64 d.fuse] 25)).alloc (.cells #[.int .i64 a.f, .int .i64 a.s] 27)).alloc (.cells #[.int .i64 b.f, .int .i64 b.s] 27)).alloc (.cells #[.int .u64 0, .string ⟨#[]⟩] 30) = X0 at D0 A0 B0 Z0 hb0 ⊢
  have hb0' := hid hb0
  clear hb0
  obtain ⟨d0, d1, d2, d3, df⟩ := D0.out.four
  obtain ⟨a0, a1, af⟩ := A0.out.two
  obtain ⟨b0, bb1, bf⟩ := B0.out.two
  go_wp2_with fail
  refine (hcheck.out _ _ (hv.out.below hb0'.out)).mono ?_
  rintro e w1 ⟨rfl, b1⟩
  replace D0 := hid (D0.out.below b1 D0.out.lt)
  replace A0 := hid (A0.out.below b1 A0.out.lt)
  replace B0 := hid (B0.out.below b1 B0.out.lt)
  replace Z0 := hid (Z0.out.below b1 Z0.out.lt)
  have hb1 := hid (bt hb0'.out b1)
  clear d0 d1 d2 d3 df a0 a1 af b0 bb1 bf b1 hb0' hcheck
  obtain ⟨z0, z1, zf⟩ := Z0.out.two
  go_wp2_with fail
  obtain ⟨q0, q1, qf⟩ := (blk2 Z0.out (b0 := .int .u64 0) (b1 := .string ⟨#[]⟩)).two
  refine bodyPost_ret (v := .tuple #[.agg #[.int .u64 0, .string ⟨#[]⟩], .int .i64 0, .int .i64 c]) (by simp [results, Tryz.results5, go_sem, q0, q1]) rfl ?_
  exact ⟨rfl, below2 hb1.out (by omega)⟩
set_option maxHeartbeats 2000000 in
theorem load_off (secs : List ByteArray) (pend : List (Int × ByteArray)) (fuse : Int) (v : Value) (a b : Rg) (w : World) (h : DiskV w v ⟨secs, pend, true, fuse⟩) (ha : a.has) (hb : b.has) (hc : slChk ⟨secs, pend, true, fuse⟩ a b = 0) :
    Calls Tryz.prog 5 #[v, rgV a, rgV b] w (LdTold w ⟨zeroIm, 0, 15⟩) := by
  have hcheck := hid (fun v W (h : DiskV W v ⟨secs, pend, true, fuse⟩) => hc ▸ scheck_any ⟨secs, pend, true, fuse⟩ v a b W h ha hb)
  have hv := hid h
  obtain ⟨sv, pv, rfl, hs, hp⟩ := h
  obtain ⟨so, scap, rfl, _⟩ := hs.form
  obtain ⟨po, pcap, rfl, _⟩ := hp.form
  clear hs hp ha hb hc
  dsimp only at hv hcheck ⊢
  rw [show rgV a = .agg #[.int .i64 a.f, .int .i64 a.s] from rfl, show rgV b = .agg #[.int .i64 b.f, .int .i64 b.s] from rfl] at hcheck ⊢
  go_enter Tryz.func5, Tryz.ntmps5
  go_upto_region 1 with fail
  have D0 := hid ((((Blk.new w [.slice so secs.length scap, .slice po pend.length pcap, .bool true, .int .i64 fuse] 25).alloc (.cells #[.int .i64 a.f, .int .i64 a.s] 27)).alloc (.cells #[.int .i64 b.f, .int .i64 b.s] 27)).alloc (.cells #[.int .u64 0, .string ⟨#[]⟩] 30))
  have A0 := hid (((Blk.new' (w.alloc (.cells #[.slice so secs.length scap, .slice po pend.length pcap, .bool true, .int .i64 fuse] 25)) [.int .i64 a.f, .int .i64 a.s] 27 (w.heap.size + 1) (by simp)).alloc (.cells #[.int .i64 b.f, .int .i64 b.s] 27)).alloc (.cells #[.int .u64 0, .string ⟨#[]⟩] 30))
  have B0 := hid ((Blk.new' ((w.alloc (.cells #[.slice so secs.length scap, .slice po pend.length pcap, .bool true, .int .i64 fuse] 25)).alloc (.cells #[.int .i64 a.f, .int .i64 a.s] 27)) [.int .i64 b.f, .int .i64 b.s] 27 (w.heap.size + 2) (by simp)).alloc (.cells #[.int .u64 0, .string ⟨#[]⟩] 30))
  have Z0 := hid (Blk.new' (((w.alloc (.cells #[.slice so secs.length scap, .slice po pend.length pcap, .bool true, .int .i64 fuse] 25)).alloc (.cells #[.int .i64 a.f, .int .i64 a.s] 27)).alloc (.cells #[.int .i64 b.f, .int .i64 b.s] 27)) [.int .u64 0, .string ⟨#[]⟩] 30 (w.heap.size + 3) (by simp))
  have hb0 : Below w.heap.size w ((((w.alloc (.cells #[.slice so secs.length scap, .slice po pend.length pcap, .bool true, .int .i64 fuse] 25)).alloc (.cells #[.int .i64 a.f, .int .i64 a.s] 27)).alloc (.cells #[.int .i64 b.f, .int .i64 b.s] 27)).alloc (.cells #[.int .u64 0, .string ⟨#[]⟩] 30)) := by go_grown
  generalize (((w.alloc (.cells #[.slice so secs.length scap, .slice po pend.length pcap, .bool true, .int .i64 fuse] 25)).alloc (.cells #[.int .i64 a.f, .int .i64 a.s] 27)).alloc (.cells #[.int .i64 b.f, .int .i64 b.s] 27)).alloc (.cells #[.int .u64 0, .string ⟨#[]⟩] 30) = X0 at D0 A0 B0 Z0 hb0 ⊢
  have hb0' := hid hb0
  clear hb0
  obtain ⟨d0, d1, d2, d3, df⟩ := D0.out.four
  obtain ⟨a0, a1, af⟩ := A0.out.two
  obtain ⟨b0, bb1, bf⟩ := B0.out.two
  go_wp2_with fail
  refine (hcheck.out _ _ (hv.out.below hb0'.out)).mono ?_
  rintro e w1 ⟨rfl, b1⟩
  replace D0 := hid (D0.out.below b1 D0.out.lt)
  replace A0 := hid (A0.out.below b1 A0.out.lt)
  replace B0 := hid (B0.out.below b1 B0.out.lt)
  replace Z0 := hid (Z0.out.below b1 Z0.out.lt)
  have hb1 := hid (bt hb0'.out b1)
  clear d0 d1 d2 d3 df a0 a1 af b0 bb1 bf b1 hb0' hcheck
  obtain ⟨z0, z1, zf⟩ := Z0.out.two
  obtain ⟨d0, d1, d2, d3, df⟩ := D0.out.four
  go_wp2_with fail
  obtain ⟨q0, q1, qf⟩ := (blk2 Z0.out (b0 := .int .u64 0) (b1 := .string ⟨#[]⟩)).two
  refine bodyPost_ret (v := .tuple #[.agg #[.int .u64 0, .string ⟨#[]⟩], .int .i64 0, .int .i64 15]) (by simp [results, Tryz.results5, go_sem, q0, q1]) rfl ?_
  exact ⟨rfl, below2 hb1.out (by omega)⟩
def ldSt (IA IB : Option Im) (k : Nat) : Ld := if k = 0 then ⟨zeroIm, 0, 9⟩ else if k = 1 then pickE IA none else pickE IA IB
set_option maxHeartbeats 8000000 in
theorem load_main (secs : List ByteArray) (pend : List (Int × ByteArray)) (fuse : Int) (v : Value) (F S G T : Nat) (w : World) (h : DiskV w v ⟨secs, pend, false, fuse⟩) (hc : slChk ⟨secs, pend, false, fuse⟩ ⟨F, S⟩ ⟨G, T⟩ = 0) :
    Calls Tryz.prog 5 #[v, .agg #[.int .i64 (F : Nat), .int .i64 (S : Nat)], .agg #[.int .i64 (G : Nat), .int .i64 (T : Nat)]] w (LdTold w (pickE (imIn (cont ⟨secs, pend, false, fuse⟩ ⟨F, S⟩) S) (imIn (cont ⟨secs, pend, false, fuse⟩ ⟨G, T⟩) T))) := by
  obtain ⟨c1, c2, _⟩ := slChk_zero hc
  have hbd : ∀ (f s : Nat), walChk ⟨secs, pend, false, fuse⟩ ⟨f, s⟩ = 0 → Rg.has ⟨f, s⟩ := fun f s hh => by
    obtain ⟨k1, k2, k3, k4, k5⟩ := walChk_zero hh
    dsimp only at k2 k3 k4 k5
    exact ⟨by dsimp only; omega, by dsimp only; omega, by dsimp only; omega, by dsimp only; omega⟩
  have hcheck := hid (fun v W (h : DiskV W v ⟨secs, pend, false, fuse⟩) => hc ▸ scheck_any ⟨secs, pend, false, fuse⟩ v ⟨F, S⟩ ⟨G, T⟩ W h (hbd _ _ c1) (hbd _ _ c2))
  have hIa := hid (fun v W (h : DiskV W v ⟨secs, pend, false, fuse⟩) => image_nat secs pend fuse v F S W h c1)
  have hIb := hid (fun v W (h : DiskV W v ⟨secs, pend, false, fuse⟩) => image_nat secs pend fuse v G T W h c2)
  generalize imIn (cont ⟨secs, pend, false, fuse⟩ ⟨F, S⟩) S = IA at hIa ⊢
  generalize imIn (cont ⟨secs, pend, false, fuse⟩ ⟨G, T⟩) T = IB at hIb ⊢
  have hv := hid h
  obtain ⟨sv, pv, rfl, hs, hp⟩ := h
  obtain ⟨so, scap, rfl, _⟩ := hs.form
  obtain ⟨po, pcap, rfl, _⟩ := hp.form
  clear hs hp hc c1 c2 hbd
  dsimp only at hv hcheck hIa hIb ⊢
  rw [show rgV ⟨F, S⟩ = .agg #[.int .i64 (F : Nat), .int .i64 (S : Nat)] from rfl, show rgV ⟨G, T⟩ = .agg #[.int .i64 (G : Nat), .int .i64 (T : Nat)] from rfl] at hcheck
  go_enter Tryz.func5, Tryz.ntmps5
  go_upto_region 1 with fail
  have D0 := hid ((((Blk.new w [.slice so secs.length scap, .slice po pend.length pcap, .bool false, .int .i64 fuse] 25).alloc (.cells #[.int .i64 (F : Nat), .int .i64 (S : Nat)] 27)).alloc (.cells #[.int .i64 (G : Nat), .int .i64 (T : Nat)] 27)).alloc (.cells #[.int .u64 0, .string ⟨#[]⟩] 30))
  have A0 := hid (((Blk.new' (w.alloc (.cells #[.slice so secs.length scap, .slice po pend.length pcap, .bool false, .int .i64 fuse] 25)) [.int .i64 (F : Nat), .int .i64 (S : Nat)] 27 (w.heap.size + 1) (by simp)).alloc (.cells #[.int .i64 (G : Nat), .int .i64 (T : Nat)] 27)).alloc (.cells #[.int .u64 0, .string ⟨#[]⟩] 30))
  have B0 := hid ((Blk.new' ((w.alloc (.cells #[.slice so secs.length scap, .slice po pend.length pcap, .bool false, .int .i64 fuse] 25)).alloc (.cells #[.int .i64 (F : Nat), .int .i64 (S : Nat)] 27)) [.int .i64 (G : Nat), .int .i64 (T : Nat)] 27 (w.heap.size + 2) (by simp)).alloc (.cells #[.int .u64 0, .string ⟨#[]⟩] 30))
  have Z0 := hid (Blk.new' (((w.alloc (.cells #[.slice so secs.length scap, .slice po pend.length pcap, .bool false, .int .i64 fuse] 25)).alloc (.cells #[.int .i64 (F : Nat), .int .i64 (S : Nat)] 27)).alloc (.cells #[.int .i64 (G : Nat), .int .i64 (T : Nat)] 27)) [.int .u64 0, .string ⟨#[]⟩] 30 (w.heap.size + 3) (by simp))
  have hb0 : Below w.heap.size w ((((w.alloc (.cells #[.slice so secs.length scap, .slice po pend.length pcap, .bool false, .int .i64 fuse] 25)).alloc (.cells #[.int .i64 (F : Nat), .int .i64 (S : Nat)] 27)).alloc (.cells #[.int .i64 (G : Nat), .int .i64 (T : Nat)] 27)).alloc (.cells #[.int .u64 0, .string ⟨#[]⟩] 30)) := by go_grown
  generalize (((w.alloc (.cells #[.slice so secs.length scap, .slice po pend.length pcap, .bool false, .int .i64 fuse] 25)).alloc (.cells #[.int .i64 (F : Nat), .int .i64 (S : Nat)] 27)).alloc (.cells #[.int .i64 (G : Nat), .int .i64 (T : Nat)] 27)).alloc (.cells #[.int .u64 0, .string ⟨#[]⟩] 30) = X0 at D0 A0 B0 Z0 hb0 ⊢
  have hb0' := hid hb0
  clear hb0
  obtain ⟨d0, d1, d2, d3, df⟩ := D0.out.four
  obtain ⟨a0, a1, af⟩ := A0.out.two
  obtain ⟨b0, bb1, bf⟩ := B0.out.two
  go_wp2_with fail
  refine (hcheck.out _ _ (hv.out.below hb0'.out)).mono ?_
  rintro e w1 ⟨rfl, b1⟩
  replace D0 := hid (D0.out.below b1 D0.out.lt)
  replace A0 := hid (A0.out.below b1 A0.out.lt)
  replace B0 := hid (B0.out.below b1 B0.out.lt)
  replace Z0 := hid (Z0.out.below b1 Z0.out.lt)
  have hb1 := hid (bt hb0'.out b1)
  clear d0 d1 d2 d3 df a0 a1 af b0 bb1 bf b1 hb0' hcheck
  obtain ⟨d0, d1, d2, d3, df⟩ := D0.out.four
  obtain ⟨a0, a1, af⟩ := A0.out.two
  obtain ⟨b0, b1, bf⟩ := B0.out.two
  have hlA := A0.out.lt
  have hlB := B0.out.lt
  go_upto_region 7 with fail
  clear d0 d1 d2 d3 df a0 a1 af b0 b1 bf hlA hlB
  have hal : Below w1.heap.size w1 (w1.alloc (.cells #[.int .u64 0, .string ⟨#[]⟩] 30)) := (Below.refl _ w1).alloc (Nat.le_refl _) _
  have N0 := hid (Blk.new w1 [.int .u64 0, .string ⟨#[]⟩] 30)
  have hn2 := hid (show w.heap.size + 3 < w1.heap.size from Z0.out.lt)
  replace D0 := hid (D0.out.below hal D0.out.lt)
  replace A0 := hid (A0.out.below hal A0.out.lt)
  replace B0 := hid (B0.out.below hal B0.out.lt)
  replace Z0 := hid (Z0.out.below hal Z0.out.lt)
  replace hb1 := hid (bt hb1.out hal)
  generalize w1.heap.size = n2 at N0 hn2 ⊢
  generalize w1.alloc (.cells #[.int .u64 0, .string ⟨#[]⟩] 30) = X1 at hal D0 A0 B0 Z0 N0 hb1 ⊢
  clear hal
  obtain ⟨a0, a1, af⟩ := A0.out.two
  obtain ⟨b0, b1, bf⟩ := B0.out.two
  go_upto_region 9 with fail
  clear a0 a1 af b0 b1 bf
  have hal : Below X1.heap.size X1 (X1.alloc (.cells #[.int .i64 (F : Nat), .int .i64 (S : Nat), .int .i64 (G : Nat), .int .i64 (T : Nat)] 41)) := (Below.refl _ X1).alloc (Nat.le_refl _) _
  have S0 := hid (Blk.new X1 [.int .i64 (F : Nat), .int .i64 (S : Nat), .int .i64 (G : Nat), .int .i64 (T : Nat)] 41)
  have hn3 := hid (show n2 < X1.heap.size from N0.out.lt)
  replace D0 := hid (D0.out.below hal D0.out.lt)
  replace Z0 := hid (Z0.out.below hal Z0.out.lt)
  replace N0 := hid (N0.out.below hal N0.out.lt)
  have hbw := hid (bt hb1.out hal)
  generalize X1.heap.size = n3 at S0 hn3 ⊢
  generalize X1.alloc (.cells #[.int .i64 (F : Nat), .int .i64 (S : Nat), .int .i64 (G : Nat), .int .i64 (T : Nat)] 41) = X2 at hal D0 S0 Z0 N0 hbw ⊢
  clear hal A0 B0 hb1
  go_wp2_with fail
  go_loopw [11, 12, 31] (fun s11 s12 i wr => ∃ k : Nat, k ≤ 2 ∧ i = .int .i64 k ∧ s11 = .int .i64 ((ldSt IA IB k).at' : Nat) ∧ s12 = .int .i64 (ldSt IA IB k).c ∧ Hid (Blk wr w.heap.size [.slice so secs.length scap, .slice po pend.length pcap, .bool false, .int .i64 fuse] 25) ∧ Hid (Blk wr n3 [.int .i64 (F : Nat), .int .i64 (S : Nat), .int .i64 (G : Nat), .int .i64 (T : Nat)] 41) ∧ Hid (Blk wr n2 [.int .u64 ((ldSt IA IB k).im.epoch : Nat), .string (ldSt IA IB k).im.pay] 30) ∧ Hid (Blk wr (w.heap.size + 3) [.int .u64 0, .string ⟨#[]⟩] 30) ∧ Hid (Below w.heap.size w wr)) (fun _ _ i _ => 2 - (intOf i).toNat)
  case atStart => exact ⟨0, by omega, rfl, rfl, rfl, D0, S0, N0, Z0, hbw⟩
  case round =>
    clear D0 S0 N0 Z0 hbw
    obtain ⟨k, hk, rfl, rfl, rfl, D0, S0, N0, Z0, hbw⟩ := hrel
    rcases (by omega : k = 0 ∨ k = 1 ∨ k = 2) with hk0 | hk0 | hk0
    · subst hk0
      have D1 := hid (D0.out)
      go_upto_region 12 with fail
      go_cut [15, 16] (fun s15 s16 wx => ∃ p, s15 = .pointer (some ⟨p, 0, none⟩) ∧ s16 = .bool IA.isSome ∧ Hid (Blk wx p [.int .u64 ((IA.getD zeroIm).epoch : Nat), .string (IA.getD zeroIm).pay] 30) ∧ Hid (Below wr.heap.size wr wx))
      case first =>
        have hmix : Tryz.prog.follows .mixedOrders = true := by kernel_rfl
        refine wp_region_any hmix ?_
        clear hmix
        rw [show ({ heap := wr.heap, tape := wr.tape, drawn := wr.drawn + 1, os := wr.os, output := wr.output } : World) = wr.drew from rfl]
        have hcur := hid ((Below.refl wr.heap.size wr).drew)
        replace D1 := hid D1.out.drew
        have S1 := hid S0.out.drew
        generalize wr.drew = V0 at D1 S1 hcur ⊢
        refine wpAny_take (i := 1) (v := ?_) rfl (by kernel_rfl) (by kernel_rfl) (by kernel_rfl) (fun _ _ _ h => h) (Or.inl ⟨by rfl, ?_⟩) ?_
        rotate_left 1
        (intro w; go_simp; try with_reducible rfl)
        (try simp only [Act.put, List.getElem_toArray, List.getElem_cons_zero, List.getElem_cons_succ, List.setIfInBounds_toArray, List.set_cons_zero, List.set_cons_succ])
        refine wpAny_take (i := 2) (v := ?_) rfl (by kernel_rfl) (by kernel_rfl) (by kernel_rfl) (fun _ _ _ h => h) (Or.inl ⟨by rfl, ?_⟩) ?_
        rotate_left 1
        (intro w; go_simp; try with_reducible rfl)
        (try simp only [Act.put, List.getElem_toArray, List.getElem_cons_zero, List.getElem_cons_succ, List.setIfInBounds_toArray, List.set_cons_zero, List.set_cons_succ])
        refine wpAny_ready (rs := [0, 3, 8]) (by kernel_rfl) (by simp) ?_
        refine AllReady.cons rfl (fun K hK => ?_) ?_
        · skip
          obtain ⟨d0, d1, d2, d3, df⟩ := D1.out.four
          go_simp
          clear d0 d1 d2 d3 df
          refine hK _ _ ?_
          clear hK K
          (try simp only [Act.put, List.getElem_toArray, List.getElem_cons_zero, List.getElem_cons_succ, List.setIfInBounds_toArray, List.set_cons_zero, List.set_cons_succ])
          refine wpAny_ready (rs := [3, 8]) (by kernel_rfl) (by simp) ?_
          refine AllReady.cons rfl (fun K hK => ?_) ?_
          · skip
            obtain ⟨r0, r1, r2, r3, rf⟩ := S1.out.four
            go_simp
            clear r0 r1 r2 r3 rf
            refine hK _ _ ?_
            clear hK K
            (try simp only [Act.put, List.getElem_toArray, List.getElem_cons_zero, List.getElem_cons_succ, List.setIfInBounds_toArray, List.set_cons_zero, List.set_cons_succ])
            refine wpAny_ready (rs := [4, 8]) (by kernel_rfl) (by simp) ?_
            refine AllReady.cons rfl (fun K hK => ?_) ?_
            · skip
              go_simp
              (with_reducible refine (hIa.out _ _ (hv.out.below (bt hbw.out hcur.out))).mono ?_)
              rintro e V1 ⟨rfl, b4⟩
              unfold imV
              try dsimp only
              refine hK _ _ ?_
              clear hK K
              (try simp only [Act.put, List.getElem_toArray, List.getElem_cons_zero, List.getElem_cons_succ, List.setIfInBounds_toArray, List.set_cons_zero, List.set_cons_succ])
              replace D1 := hid (D1.out.below b4 D1.out.lt)
              replace S1 := hid (S1.out.below b4 S1.out.lt)
              replace hcur := hid (bt hcur.out b4)
              clear b4
              refine wpAny_take (i := 5) (v := ?_) rfl (by kernel_rfl) (by kernel_rfl) (by kernel_rfl) (fun _ _ _ h => h) (Or.inl ⟨by rfl, ?_⟩) ?_
              rotate_left 1
              (intro w; go_simp; try with_reducible rfl)
              (try simp only [Act.put, List.getElem_toArray, List.getElem_cons_zero, List.getElem_cons_succ, List.setIfInBounds_toArray, List.set_cons_zero, List.set_cons_succ])
              refine wpAny_take (i := 6) (v := ?_) rfl (by kernel_rfl) (by kernel_rfl) (by kernel_rfl) (fun _ _ _ h => h) (Or.inl ⟨by rfl, ?_⟩) ?_
              rotate_left 1
              (intro w; go_simp; try with_reducible rfl)
              (try simp only [Act.put, List.getElem_toArray, List.getElem_cons_zero, List.getElem_cons_succ, List.setIfInBounds_toArray, List.set_cons_zero, List.set_cons_succ])
              refine wpAny_take (i := 7) (v := ?_) rfl (by kernel_rfl) (by kernel_rfl) (by kernel_rfl) (fun _ _ _ h => h) (Or.inl ⟨by rfl, ?_⟩) ?_
              rotate_left 1
              (intro w; go_simp; try with_reducible rfl)
              (try simp only [Act.put, List.getElem_toArray, List.getElem_cons_zero, List.getElem_cons_succ, List.setIfInBounds_toArray, List.set_cons_zero, List.set_cons_succ])
              refine wpAny_ready (rs := [8]) (by kernel_rfl) (by simp) ?_
              refine AllReady.cons rfl (fun K hK => ?_) AllReady.nil
              go_simp
              refine hK _ _ ?_
              clear hK K
              (try simp only [Act.put, List.getElem_toArray, List.getElem_cons_zero, List.getElem_cons_succ, List.setIfInBounds_toArray, List.set_cons_zero, List.set_cons_succ])
              have hal : Below V1.heap.size V1 (V1.alloc (.cells #[.int .u64 0, .string ⟨#[]⟩] 30)) := (Below.refl _ _).alloc (Nat.le_refl _) _
              replace D1 := hid (D1.out.below hal D1.out.lt)
              replace S1 := hid (S1.out.below hal S1.out.lt)
              have hp := hid (Blk.new V1 [.int .u64 0, .string ⟨#[]⟩] 30)
              have hpB := hid hcur.out.size
              replace hcur := hid (bt hcur.out hal)
              clear hal
              generalize V1.alloc (.cells #[.int .u64 0, .string ⟨#[]⟩] 30) = V2 at D1 S1 hp hcur ⊢
              refine wpAny_ready (rs := [9]) (by kernel_rfl) (by simp) ?_
              refine AllReady.cons rfl (fun K hK => ?_) AllReady.nil
              obtain ⟨p0, p1, pf⟩ := hp.out.two
              go_simp
              clear p0 p1 pf
              refine hK _ _ ?_
              clear hK K
              (try simp only [Act.put, List.getElem_toArray, List.getElem_cons_zero, List.getElem_cons_succ, List.setIfInBounds_toArray, List.set_cons_zero, List.set_cons_succ])
              refine wpAny_take (i := 10) (v := ?_) rfl (by kernel_rfl) (by kernel_rfl) (by kernel_rfl) (fun _ _ _ h => h) (Or.inl ⟨by rfl, ?_⟩) ?_
              rotate_left 1
              (intro w; go_simp; try with_reducible rfl)
              (try simp only [Act.put, List.getElem_toArray, List.getElem_cons_zero, List.getElem_cons_succ, List.setIfInBounds_toArray, List.set_cons_zero, List.set_cons_succ])
              refine wpAny_done (by kernel_rfl) ?_ _
              have hp2 := hid (blk2 hp.out (b0 := .int .u64 ((IA.getD zeroIm).epoch : Nat)) (b1 := .string (IA.getD zeroIm).pay))
              have hc2 := hid (below2 (b0 := .int .u64 ((IA.getD zeroIm).epoch : Nat)) (b1 := .string (IA.getD zeroIm).pay) hcur.out hpB.out)
              go_wp2_with fail
              go_meet
              exact ⟨_, rfl, rfl, hp2, hc2⟩
            refine AllReady.cons rfl (fun K hK => ?_) AllReady.nil
            go_simp
            refine hK _ _ ?_
            clear hK K
            (try simp only [Act.put, List.getElem_toArray, List.getElem_cons_zero, List.getElem_cons_succ, List.setIfInBounds_toArray, List.set_cons_zero, List.set_cons_succ])
            have hal : Below V0.heap.size V0 (V0.alloc (.cells #[.int .u64 0, .string ⟨#[]⟩] 30)) := (Below.refl _ _).alloc (Nat.le_refl _) _
            replace D1 := hid (D1.out.below hal D1.out.lt)
            replace S1 := hid (S1.out.below hal S1.out.lt)
            have hp := hid (Blk.new V0 [.int .u64 0, .string ⟨#[]⟩] 30)
            have hpB := hid hcur.out.size
            replace hcur := hid (bt hcur.out hal)
            clear hal
            generalize V0.alloc (.cells #[.int .u64 0, .string ⟨#[]⟩] 30) = V1 at D1 S1 hp hcur ⊢
            refine wpAny_ready (rs := [4]) (by kernel_rfl) (by simp) ?_
            refine AllReady.cons rfl (fun K hK => ?_) AllReady.nil
            go_simp
            (with_reducible refine (hIa.out _ _ (hv.out.below (bt hbw.out hcur.out))).mono ?_)
            rintro e V2 ⟨rfl, b4⟩
            unfold imV
            try dsimp only
            refine hK _ _ ?_
            clear hK K
            (try simp only [Act.put, List.getElem_toArray, List.getElem_cons_zero, List.getElem_cons_succ, List.setIfInBounds_toArray, List.set_cons_zero, List.set_cons_succ])
            replace D1 := hid (D1.out.below b4 D1.out.lt)
            replace S1 := hid (S1.out.below b4 S1.out.lt)
            replace hp := hid (hp.out.below b4 hp.out.lt)
            replace hcur := hid (bt hcur.out b4)
            clear b4
            refine wpAny_take (i := 5) (v := ?_) rfl (by kernel_rfl) (by kernel_rfl) (by kernel_rfl) (fun _ _ _ h => h) (Or.inl ⟨by rfl, ?_⟩) ?_
            rotate_left 1
            (intro w; go_simp; try with_reducible rfl)
            (try simp only [Act.put, List.getElem_toArray, List.getElem_cons_zero, List.getElem_cons_succ, List.setIfInBounds_toArray, List.set_cons_zero, List.set_cons_succ])
            refine wpAny_take (i := 6) (v := ?_) rfl (by kernel_rfl) (by kernel_rfl) (by kernel_rfl) (fun _ _ _ h => h) (Or.inl ⟨by rfl, ?_⟩) ?_
            rotate_left 1
            (intro w; go_simp; try with_reducible rfl)
            (try simp only [Act.put, List.getElem_toArray, List.getElem_cons_zero, List.getElem_cons_succ, List.setIfInBounds_toArray, List.set_cons_zero, List.set_cons_succ])
            refine wpAny_take (i := 7) (v := ?_) rfl (by kernel_rfl) (by kernel_rfl) (by kernel_rfl) (fun _ _ _ h => h) (Or.inl ⟨by rfl, ?_⟩) ?_
            rotate_left 1
            (intro w; go_simp; try with_reducible rfl)
            (try simp only [Act.put, List.getElem_toArray, List.getElem_cons_zero, List.getElem_cons_succ, List.setIfInBounds_toArray, List.set_cons_zero, List.set_cons_succ])
            refine wpAny_ready (rs := [9]) (by kernel_rfl) (by simp) ?_
            refine AllReady.cons rfl (fun K hK => ?_) AllReady.nil
            obtain ⟨p0, p1, pf⟩ := hp.out.two
            go_simp
            clear p0 p1 pf
            refine hK _ _ ?_
            clear hK K
            (try simp only [Act.put, List.getElem_toArray, List.getElem_cons_zero, List.getElem_cons_succ, List.setIfInBounds_toArray, List.set_cons_zero, List.set_cons_succ])
            refine wpAny_take (i := 10) (v := ?_) rfl (by kernel_rfl) (by kernel_rfl) (by kernel_rfl) (fun _ _ _ h => h) (Or.inl ⟨by rfl, ?_⟩) ?_
            rotate_left 1
            (intro w; go_simp; try with_reducible rfl)
            (try simp only [Act.put, List.getElem_toArray, List.getElem_cons_zero, List.getElem_cons_succ, List.setIfInBounds_toArray, List.set_cons_zero, List.set_cons_succ])
            refine wpAny_done (by kernel_rfl) ?_ _
            have hp2 := hid (blk2 hp.out (b0 := .int .u64 ((IA.getD zeroIm).epoch : Nat)) (b1 := .string (IA.getD zeroIm).pay))
            have hc2 := hid (below2 (b0 := .int .u64 ((IA.getD zeroIm).epoch : Nat)) (b1 := .string (IA.getD zeroIm).pay) hcur.out hpB.out)
            go_wp2_with fail
            go_meet
            exact ⟨_, rfl, rfl, hp2, hc2⟩
          refine AllReady.cons rfl (fun K hK => ?_) AllReady.nil
          go_simp
          refine hK _ _ ?_
          clear hK K
          (try simp only [Act.put, List.getElem_toArray, List.getElem_cons_zero, List.getElem_cons_succ, List.setIfInBounds_toArray, List.set_cons_zero, List.set_cons_succ])
          have hal : Below V0.heap.size V0 (V0.alloc (.cells #[.int .u64 0, .string ⟨#[]⟩] 30)) := (Below.refl _ _).alloc (Nat.le_refl _) _
          replace D1 := hid (D1.out.below hal D1.out.lt)
          replace S1 := hid (S1.out.below hal S1.out.lt)
          have hp := hid (Blk.new V0 [.int .u64 0, .string ⟨#[]⟩] 30)
          have hpB := hid hcur.out.size
          replace hcur := hid (bt hcur.out hal)
          clear hal
          generalize V0.alloc (.cells #[.int .u64 0, .string ⟨#[]⟩] 30) = V1 at D1 S1 hp hcur ⊢
          refine wpAny_ready (rs := [3]) (by kernel_rfl) (by simp) ?_
          refine AllReady.cons rfl (fun K hK => ?_) AllReady.nil
          obtain ⟨r0, r1, r2, r3, rf⟩ := S1.out.four
          go_simp
          clear r0 r1 r2 r3 rf
          refine hK _ _ ?_
          clear hK K
          (try simp only [Act.put, List.getElem_toArray, List.getElem_cons_zero, List.getElem_cons_succ, List.setIfInBounds_toArray, List.set_cons_zero, List.set_cons_succ])
          refine wpAny_ready (rs := [4]) (by kernel_rfl) (by simp) ?_
          refine AllReady.cons rfl (fun K hK => ?_) AllReady.nil
          go_simp
          (with_reducible refine (hIa.out _ _ (hv.out.below (bt hbw.out hcur.out))).mono ?_)
          rintro e V2 ⟨rfl, b4⟩
          unfold imV
          try dsimp only
          refine hK _ _ ?_
          clear hK K
          (try simp only [Act.put, List.getElem_toArray, List.getElem_cons_zero, List.getElem_cons_succ, List.setIfInBounds_toArray, List.set_cons_zero, List.set_cons_succ])
          replace D1 := hid (D1.out.below b4 D1.out.lt)
          replace S1 := hid (S1.out.below b4 S1.out.lt)
          replace hp := hid (hp.out.below b4 hp.out.lt)
          replace hcur := hid (bt hcur.out b4)
          clear b4
          refine wpAny_take (i := 5) (v := ?_) rfl (by kernel_rfl) (by kernel_rfl) (by kernel_rfl) (fun _ _ _ h => h) (Or.inl ⟨by rfl, ?_⟩) ?_
          rotate_left 1
          (intro w; go_simp; try with_reducible rfl)
          (try simp only [Act.put, List.getElem_toArray, List.getElem_cons_zero, List.getElem_cons_succ, List.setIfInBounds_toArray, List.set_cons_zero, List.set_cons_succ])
          refine wpAny_take (i := 6) (v := ?_) rfl (by kernel_rfl) (by kernel_rfl) (by kernel_rfl) (fun _ _ _ h => h) (Or.inl ⟨by rfl, ?_⟩) ?_
          rotate_left 1
          (intro w; go_simp; try with_reducible rfl)
          (try simp only [Act.put, List.getElem_toArray, List.getElem_cons_zero, List.getElem_cons_succ, List.setIfInBounds_toArray, List.set_cons_zero, List.set_cons_succ])
          refine wpAny_take (i := 7) (v := ?_) rfl (by kernel_rfl) (by kernel_rfl) (by kernel_rfl) (fun _ _ _ h => h) (Or.inl ⟨by rfl, ?_⟩) ?_
          rotate_left 1
          (intro w; go_simp; try with_reducible rfl)
          (try simp only [Act.put, List.getElem_toArray, List.getElem_cons_zero, List.getElem_cons_succ, List.setIfInBounds_toArray, List.set_cons_zero, List.set_cons_succ])
          refine wpAny_ready (rs := [9]) (by kernel_rfl) (by simp) ?_
          refine AllReady.cons rfl (fun K hK => ?_) AllReady.nil
          obtain ⟨p0, p1, pf⟩ := hp.out.two
          go_simp
          clear p0 p1 pf
          refine hK _ _ ?_
          clear hK K
          (try simp only [Act.put, List.getElem_toArray, List.getElem_cons_zero, List.getElem_cons_succ, List.setIfInBounds_toArray, List.set_cons_zero, List.set_cons_succ])
          refine wpAny_take (i := 10) (v := ?_) rfl (by kernel_rfl) (by kernel_rfl) (by kernel_rfl) (fun _ _ _ h => h) (Or.inl ⟨by rfl, ?_⟩) ?_
          rotate_left 1
          (intro w; go_simp; try with_reducible rfl)
          (try simp only [Act.put, List.getElem_toArray, List.getElem_cons_zero, List.getElem_cons_succ, List.setIfInBounds_toArray, List.set_cons_zero, List.set_cons_succ])
          refine wpAny_done (by kernel_rfl) ?_ _
          have hp2 := hid (blk2 hp.out (b0 := .int .u64 ((IA.getD zeroIm).epoch : Nat)) (b1 := .string (IA.getD zeroIm).pay))
          have hc2 := hid (below2 (b0 := .int .u64 ((IA.getD zeroIm).epoch : Nat)) (b1 := .string (IA.getD zeroIm).pay) hcur.out hpB.out)
          go_wp2_with fail
          go_meet
          exact ⟨_, rfl, rfl, hp2, hc2⟩
        refine AllReady.cons rfl (fun K hK => ?_) ?_
        · skip
          obtain ⟨r0, r1, r2, r3, rf⟩ := S1.out.four
          go_simp
          clear r0 r1 r2 r3 rf
          refine hK _ _ ?_
          clear hK K
          (try simp only [Act.put, List.getElem_toArray, List.getElem_cons_zero, List.getElem_cons_succ, List.setIfInBounds_toArray, List.set_cons_zero, List.set_cons_succ])
          refine wpAny_ready (rs := [0, 8]) (by kernel_rfl) (by simp) ?_
          refine AllReady.cons rfl (fun K hK => ?_) ?_
          · skip
            obtain ⟨d0, d1, d2, d3, df⟩ := D1.out.four
            go_simp
            clear d0 d1 d2 d3 df
            refine hK _ _ ?_
            clear hK K
            (try simp only [Act.put, List.getElem_toArray, List.getElem_cons_zero, List.getElem_cons_succ, List.setIfInBounds_toArray, List.set_cons_zero, List.set_cons_succ])
            refine wpAny_ready (rs := [4, 8]) (by kernel_rfl) (by simp) ?_
            refine AllReady.cons rfl (fun K hK => ?_) ?_
            · skip
              go_simp
              (with_reducible refine (hIa.out _ _ (hv.out.below (bt hbw.out hcur.out))).mono ?_)
              rintro e V1 ⟨rfl, b4⟩
              unfold imV
              try dsimp only
              refine hK _ _ ?_
              clear hK K
              (try simp only [Act.put, List.getElem_toArray, List.getElem_cons_zero, List.getElem_cons_succ, List.setIfInBounds_toArray, List.set_cons_zero, List.set_cons_succ])
              replace D1 := hid (D1.out.below b4 D1.out.lt)
              replace S1 := hid (S1.out.below b4 S1.out.lt)
              replace hcur := hid (bt hcur.out b4)
              clear b4
              refine wpAny_take (i := 5) (v := ?_) rfl (by kernel_rfl) (by kernel_rfl) (by kernel_rfl) (fun _ _ _ h => h) (Or.inl ⟨by rfl, ?_⟩) ?_
              rotate_left 1
              (intro w; go_simp; try with_reducible rfl)
              (try simp only [Act.put, List.getElem_toArray, List.getElem_cons_zero, List.getElem_cons_succ, List.setIfInBounds_toArray, List.set_cons_zero, List.set_cons_succ])
              refine wpAny_take (i := 6) (v := ?_) rfl (by kernel_rfl) (by kernel_rfl) (by kernel_rfl) (fun _ _ _ h => h) (Or.inl ⟨by rfl, ?_⟩) ?_
              rotate_left 1
              (intro w; go_simp; try with_reducible rfl)
              (try simp only [Act.put, List.getElem_toArray, List.getElem_cons_zero, List.getElem_cons_succ, List.setIfInBounds_toArray, List.set_cons_zero, List.set_cons_succ])
              refine wpAny_take (i := 7) (v := ?_) rfl (by kernel_rfl) (by kernel_rfl) (by kernel_rfl) (fun _ _ _ h => h) (Or.inl ⟨by rfl, ?_⟩) ?_
              rotate_left 1
              (intro w; go_simp; try with_reducible rfl)
              (try simp only [Act.put, List.getElem_toArray, List.getElem_cons_zero, List.getElem_cons_succ, List.setIfInBounds_toArray, List.set_cons_zero, List.set_cons_succ])
              refine wpAny_ready (rs := [8]) (by kernel_rfl) (by simp) ?_
              refine AllReady.cons rfl (fun K hK => ?_) AllReady.nil
              go_simp
              refine hK _ _ ?_
              clear hK K
              (try simp only [Act.put, List.getElem_toArray, List.getElem_cons_zero, List.getElem_cons_succ, List.setIfInBounds_toArray, List.set_cons_zero, List.set_cons_succ])
              have hal : Below V1.heap.size V1 (V1.alloc (.cells #[.int .u64 0, .string ⟨#[]⟩] 30)) := (Below.refl _ _).alloc (Nat.le_refl _) _
              replace D1 := hid (D1.out.below hal D1.out.lt)
              replace S1 := hid (S1.out.below hal S1.out.lt)
              have hp := hid (Blk.new V1 [.int .u64 0, .string ⟨#[]⟩] 30)
              have hpB := hid hcur.out.size
              replace hcur := hid (bt hcur.out hal)
              clear hal
              generalize V1.alloc (.cells #[.int .u64 0, .string ⟨#[]⟩] 30) = V2 at D1 S1 hp hcur ⊢
              refine wpAny_ready (rs := [9]) (by kernel_rfl) (by simp) ?_
              refine AllReady.cons rfl (fun K hK => ?_) AllReady.nil
              obtain ⟨p0, p1, pf⟩ := hp.out.two
              go_simp
              clear p0 p1 pf
              refine hK _ _ ?_
              clear hK K
              (try simp only [Act.put, List.getElem_toArray, List.getElem_cons_zero, List.getElem_cons_succ, List.setIfInBounds_toArray, List.set_cons_zero, List.set_cons_succ])
              refine wpAny_take (i := 10) (v := ?_) rfl (by kernel_rfl) (by kernel_rfl) (by kernel_rfl) (fun _ _ _ h => h) (Or.inl ⟨by rfl, ?_⟩) ?_
              rotate_left 1
              (intro w; go_simp; try with_reducible rfl)
              (try simp only [Act.put, List.getElem_toArray, List.getElem_cons_zero, List.getElem_cons_succ, List.setIfInBounds_toArray, List.set_cons_zero, List.set_cons_succ])
              refine wpAny_done (by kernel_rfl) ?_ _
              have hp2 := hid (blk2 hp.out (b0 := .int .u64 ((IA.getD zeroIm).epoch : Nat)) (b1 := .string (IA.getD zeroIm).pay))
              have hc2 := hid (below2 (b0 := .int .u64 ((IA.getD zeroIm).epoch : Nat)) (b1 := .string (IA.getD zeroIm).pay) hcur.out hpB.out)
              go_wp2_with fail
              go_meet
              exact ⟨_, rfl, rfl, hp2, hc2⟩
            refine AllReady.cons rfl (fun K hK => ?_) AllReady.nil
            go_simp
            refine hK _ _ ?_
            clear hK K
            (try simp only [Act.put, List.getElem_toArray, List.getElem_cons_zero, List.getElem_cons_succ, List.setIfInBounds_toArray, List.set_cons_zero, List.set_cons_succ])
            have hal : Below V0.heap.size V0 (V0.alloc (.cells #[.int .u64 0, .string ⟨#[]⟩] 30)) := (Below.refl _ _).alloc (Nat.le_refl _) _
            replace D1 := hid (D1.out.below hal D1.out.lt)
            replace S1 := hid (S1.out.below hal S1.out.lt)
            have hp := hid (Blk.new V0 [.int .u64 0, .string ⟨#[]⟩] 30)
            have hpB := hid hcur.out.size
            replace hcur := hid (bt hcur.out hal)
            clear hal
            generalize V0.alloc (.cells #[.int .u64 0, .string ⟨#[]⟩] 30) = V1 at D1 S1 hp hcur ⊢
            refine wpAny_ready (rs := [4]) (by kernel_rfl) (by simp) ?_
            refine AllReady.cons rfl (fun K hK => ?_) AllReady.nil
            go_simp
            (with_reducible refine (hIa.out _ _ (hv.out.below (bt hbw.out hcur.out))).mono ?_)
            rintro e V2 ⟨rfl, b4⟩
            unfold imV
            try dsimp only
            refine hK _ _ ?_
            clear hK K
            (try simp only [Act.put, List.getElem_toArray, List.getElem_cons_zero, List.getElem_cons_succ, List.setIfInBounds_toArray, List.set_cons_zero, List.set_cons_succ])
            replace D1 := hid (D1.out.below b4 D1.out.lt)
            replace S1 := hid (S1.out.below b4 S1.out.lt)
            replace hp := hid (hp.out.below b4 hp.out.lt)
            replace hcur := hid (bt hcur.out b4)
            clear b4
            refine wpAny_take (i := 5) (v := ?_) rfl (by kernel_rfl) (by kernel_rfl) (by kernel_rfl) (fun _ _ _ h => h) (Or.inl ⟨by rfl, ?_⟩) ?_
            rotate_left 1
            (intro w; go_simp; try with_reducible rfl)
            (try simp only [Act.put, List.getElem_toArray, List.getElem_cons_zero, List.getElem_cons_succ, List.setIfInBounds_toArray, List.set_cons_zero, List.set_cons_succ])
            refine wpAny_take (i := 6) (v := ?_) rfl (by kernel_rfl) (by kernel_rfl) (by kernel_rfl) (fun _ _ _ h => h) (Or.inl ⟨by rfl, ?_⟩) ?_
            rotate_left 1
            (intro w; go_simp; try with_reducible rfl)
            (try simp only [Act.put, List.getElem_toArray, List.getElem_cons_zero, List.getElem_cons_succ, List.setIfInBounds_toArray, List.set_cons_zero, List.set_cons_succ])
            refine wpAny_take (i := 7) (v := ?_) rfl (by kernel_rfl) (by kernel_rfl) (by kernel_rfl) (fun _ _ _ h => h) (Or.inl ⟨by rfl, ?_⟩) ?_
            rotate_left 1
            (intro w; go_simp; try with_reducible rfl)
            (try simp only [Act.put, List.getElem_toArray, List.getElem_cons_zero, List.getElem_cons_succ, List.setIfInBounds_toArray, List.set_cons_zero, List.set_cons_succ])
            refine wpAny_ready (rs := [9]) (by kernel_rfl) (by simp) ?_
            refine AllReady.cons rfl (fun K hK => ?_) AllReady.nil
            obtain ⟨p0, p1, pf⟩ := hp.out.two
            go_simp
            clear p0 p1 pf
            refine hK _ _ ?_
            clear hK K
            (try simp only [Act.put, List.getElem_toArray, List.getElem_cons_zero, List.getElem_cons_succ, List.setIfInBounds_toArray, List.set_cons_zero, List.set_cons_succ])
            refine wpAny_take (i := 10) (v := ?_) rfl (by kernel_rfl) (by kernel_rfl) (by kernel_rfl) (fun _ _ _ h => h) (Or.inl ⟨by rfl, ?_⟩) ?_
            rotate_left 1
            (intro w; go_simp; try with_reducible rfl)
            (try simp only [Act.put, List.getElem_toArray, List.getElem_cons_zero, List.getElem_cons_succ, List.setIfInBounds_toArray, List.set_cons_zero, List.set_cons_succ])
            refine wpAny_done (by kernel_rfl) ?_ _
            have hp2 := hid (blk2 hp.out (b0 := .int .u64 ((IA.getD zeroIm).epoch : Nat)) (b1 := .string (IA.getD zeroIm).pay))
            have hc2 := hid (below2 (b0 := .int .u64 ((IA.getD zeroIm).epoch : Nat)) (b1 := .string (IA.getD zeroIm).pay) hcur.out hpB.out)
            go_wp2_with fail
            go_meet
            exact ⟨_, rfl, rfl, hp2, hc2⟩
          refine AllReady.cons rfl (fun K hK => ?_) AllReady.nil
          go_simp
          refine hK _ _ ?_
          clear hK K
          (try simp only [Act.put, List.getElem_toArray, List.getElem_cons_zero, List.getElem_cons_succ, List.setIfInBounds_toArray, List.set_cons_zero, List.set_cons_succ])
          have hal : Below V0.heap.size V0 (V0.alloc (.cells #[.int .u64 0, .string ⟨#[]⟩] 30)) := (Below.refl _ _).alloc (Nat.le_refl _) _
          replace D1 := hid (D1.out.below hal D1.out.lt)
          replace S1 := hid (S1.out.below hal S1.out.lt)
          have hp := hid (Blk.new V0 [.int .u64 0, .string ⟨#[]⟩] 30)
          have hpB := hid hcur.out.size
          replace hcur := hid (bt hcur.out hal)
          clear hal
          generalize V0.alloc (.cells #[.int .u64 0, .string ⟨#[]⟩] 30) = V1 at D1 S1 hp hcur ⊢
          refine wpAny_ready (rs := [0]) (by kernel_rfl) (by simp) ?_
          refine AllReady.cons rfl (fun K hK => ?_) AllReady.nil
          obtain ⟨d0, d1, d2, d3, df⟩ := D1.out.four
          go_simp
          clear d0 d1 d2 d3 df
          refine hK _ _ ?_
          clear hK K
          (try simp only [Act.put, List.getElem_toArray, List.getElem_cons_zero, List.getElem_cons_succ, List.setIfInBounds_toArray, List.set_cons_zero, List.set_cons_succ])
          refine wpAny_ready (rs := [4]) (by kernel_rfl) (by simp) ?_
          refine AllReady.cons rfl (fun K hK => ?_) AllReady.nil
          go_simp
          (with_reducible refine (hIa.out _ _ (hv.out.below (bt hbw.out hcur.out))).mono ?_)
          rintro e V2 ⟨rfl, b4⟩
          unfold imV
          try dsimp only
          refine hK _ _ ?_
          clear hK K
          (try simp only [Act.put, List.getElem_toArray, List.getElem_cons_zero, List.getElem_cons_succ, List.setIfInBounds_toArray, List.set_cons_zero, List.set_cons_succ])
          replace D1 := hid (D1.out.below b4 D1.out.lt)
          replace S1 := hid (S1.out.below b4 S1.out.lt)
          replace hp := hid (hp.out.below b4 hp.out.lt)
          replace hcur := hid (bt hcur.out b4)
          clear b4
          refine wpAny_take (i := 5) (v := ?_) rfl (by kernel_rfl) (by kernel_rfl) (by kernel_rfl) (fun _ _ _ h => h) (Or.inl ⟨by rfl, ?_⟩) ?_
          rotate_left 1
          (intro w; go_simp; try with_reducible rfl)
          (try simp only [Act.put, List.getElem_toArray, List.getElem_cons_zero, List.getElem_cons_succ, List.setIfInBounds_toArray, List.set_cons_zero, List.set_cons_succ])
          refine wpAny_take (i := 6) (v := ?_) rfl (by kernel_rfl) (by kernel_rfl) (by kernel_rfl) (fun _ _ _ h => h) (Or.inl ⟨by rfl, ?_⟩) ?_
          rotate_left 1
          (intro w; go_simp; try with_reducible rfl)
          (try simp only [Act.put, List.getElem_toArray, List.getElem_cons_zero, List.getElem_cons_succ, List.setIfInBounds_toArray, List.set_cons_zero, List.set_cons_succ])
          refine wpAny_take (i := 7) (v := ?_) rfl (by kernel_rfl) (by kernel_rfl) (by kernel_rfl) (fun _ _ _ h => h) (Or.inl ⟨by rfl, ?_⟩) ?_
          rotate_left 1
          (intro w; go_simp; try with_reducible rfl)
          (try simp only [Act.put, List.getElem_toArray, List.getElem_cons_zero, List.getElem_cons_succ, List.setIfInBounds_toArray, List.set_cons_zero, List.set_cons_succ])
          refine wpAny_ready (rs := [9]) (by kernel_rfl) (by simp) ?_
          refine AllReady.cons rfl (fun K hK => ?_) AllReady.nil
          obtain ⟨p0, p1, pf⟩ := hp.out.two
          go_simp
          clear p0 p1 pf
          refine hK _ _ ?_
          clear hK K
          (try simp only [Act.put, List.getElem_toArray, List.getElem_cons_zero, List.getElem_cons_succ, List.setIfInBounds_toArray, List.set_cons_zero, List.set_cons_succ])
          refine wpAny_take (i := 10) (v := ?_) rfl (by kernel_rfl) (by kernel_rfl) (by kernel_rfl) (fun _ _ _ h => h) (Or.inl ⟨by rfl, ?_⟩) ?_
          rotate_left 1
          (intro w; go_simp; try with_reducible rfl)
          (try simp only [Act.put, List.getElem_toArray, List.getElem_cons_zero, List.getElem_cons_succ, List.setIfInBounds_toArray, List.set_cons_zero, List.set_cons_succ])
          refine wpAny_done (by kernel_rfl) ?_ _
          have hp2 := hid (blk2 hp.out (b0 := .int .u64 ((IA.getD zeroIm).epoch : Nat)) (b1 := .string (IA.getD zeroIm).pay))
          have hc2 := hid (below2 (b0 := .int .u64 ((IA.getD zeroIm).epoch : Nat)) (b1 := .string (IA.getD zeroIm).pay) hcur.out hpB.out)
          go_wp2_with fail
          go_meet
          exact ⟨_, rfl, rfl, hp2, hc2⟩
        refine AllReady.cons rfl (fun K hK => ?_) AllReady.nil
        go_simp
        refine hK _ _ ?_
        clear hK K
        (try simp only [Act.put, List.getElem_toArray, List.getElem_cons_zero, List.getElem_cons_succ, List.setIfInBounds_toArray, List.set_cons_zero, List.set_cons_succ])
        have hal : Below V0.heap.size V0 (V0.alloc (.cells #[.int .u64 0, .string ⟨#[]⟩] 30)) := (Below.refl _ _).alloc (Nat.le_refl _) _
        replace D1 := hid (D1.out.below hal D1.out.lt)
        replace S1 := hid (S1.out.below hal S1.out.lt)
        have hp := hid (Blk.new V0 [.int .u64 0, .string ⟨#[]⟩] 30)
        have hpB := hid hcur.out.size
        replace hcur := hid (bt hcur.out hal)
        clear hal
        generalize V0.alloc (.cells #[.int .u64 0, .string ⟨#[]⟩] 30) = V1 at D1 S1 hp hcur ⊢
        refine wpAny_ready (rs := [0, 3]) (by kernel_rfl) (by simp) ?_
        refine AllReady.cons rfl (fun K hK => ?_) ?_
        · skip
          obtain ⟨d0, d1, d2, d3, df⟩ := D1.out.four
          go_simp
          clear d0 d1 d2 d3 df
          refine hK _ _ ?_
          clear hK K
          (try simp only [Act.put, List.getElem_toArray, List.getElem_cons_zero, List.getElem_cons_succ, List.setIfInBounds_toArray, List.set_cons_zero, List.set_cons_succ])
          refine wpAny_ready (rs := [3]) (by kernel_rfl) (by simp) ?_
          refine AllReady.cons rfl (fun K hK => ?_) AllReady.nil
          obtain ⟨r0, r1, r2, r3, rf⟩ := S1.out.four
          go_simp
          clear r0 r1 r2 r3 rf
          refine hK _ _ ?_
          clear hK K
          (try simp only [Act.put, List.getElem_toArray, List.getElem_cons_zero, List.getElem_cons_succ, List.setIfInBounds_toArray, List.set_cons_zero, List.set_cons_succ])
          refine wpAny_ready (rs := [4]) (by kernel_rfl) (by simp) ?_
          refine AllReady.cons rfl (fun K hK => ?_) AllReady.nil
          go_simp
          (with_reducible refine (hIa.out _ _ (hv.out.below (bt hbw.out hcur.out))).mono ?_)
          rintro e V2 ⟨rfl, b4⟩
          unfold imV
          try dsimp only
          refine hK _ _ ?_
          clear hK K
          (try simp only [Act.put, List.getElem_toArray, List.getElem_cons_zero, List.getElem_cons_succ, List.setIfInBounds_toArray, List.set_cons_zero, List.set_cons_succ])
          replace D1 := hid (D1.out.below b4 D1.out.lt)
          replace S1 := hid (S1.out.below b4 S1.out.lt)
          replace hp := hid (hp.out.below b4 hp.out.lt)
          replace hcur := hid (bt hcur.out b4)
          clear b4
          refine wpAny_take (i := 5) (v := ?_) rfl (by kernel_rfl) (by kernel_rfl) (by kernel_rfl) (fun _ _ _ h => h) (Or.inl ⟨by rfl, ?_⟩) ?_
          rotate_left 1
          (intro w; go_simp; try with_reducible rfl)
          (try simp only [Act.put, List.getElem_toArray, List.getElem_cons_zero, List.getElem_cons_succ, List.setIfInBounds_toArray, List.set_cons_zero, List.set_cons_succ])
          refine wpAny_take (i := 6) (v := ?_) rfl (by kernel_rfl) (by kernel_rfl) (by kernel_rfl) (fun _ _ _ h => h) (Or.inl ⟨by rfl, ?_⟩) ?_
          rotate_left 1
          (intro w; go_simp; try with_reducible rfl)
          (try simp only [Act.put, List.getElem_toArray, List.getElem_cons_zero, List.getElem_cons_succ, List.setIfInBounds_toArray, List.set_cons_zero, List.set_cons_succ])
          refine wpAny_take (i := 7) (v := ?_) rfl (by kernel_rfl) (by kernel_rfl) (by kernel_rfl) (fun _ _ _ h => h) (Or.inl ⟨by rfl, ?_⟩) ?_
          rotate_left 1
          (intro w; go_simp; try with_reducible rfl)
          (try simp only [Act.put, List.getElem_toArray, List.getElem_cons_zero, List.getElem_cons_succ, List.setIfInBounds_toArray, List.set_cons_zero, List.set_cons_succ])
          refine wpAny_ready (rs := [9]) (by kernel_rfl) (by simp) ?_
          refine AllReady.cons rfl (fun K hK => ?_) AllReady.nil
          obtain ⟨p0, p1, pf⟩ := hp.out.two
          go_simp
          clear p0 p1 pf
          refine hK _ _ ?_
          clear hK K
          (try simp only [Act.put, List.getElem_toArray, List.getElem_cons_zero, List.getElem_cons_succ, List.setIfInBounds_toArray, List.set_cons_zero, List.set_cons_succ])
          refine wpAny_take (i := 10) (v := ?_) rfl (by kernel_rfl) (by kernel_rfl) (by kernel_rfl) (fun _ _ _ h => h) (Or.inl ⟨by rfl, ?_⟩) ?_
          rotate_left 1
          (intro w; go_simp; try with_reducible rfl)
          (try simp only [Act.put, List.getElem_toArray, List.getElem_cons_zero, List.getElem_cons_succ, List.setIfInBounds_toArray, List.set_cons_zero, List.set_cons_succ])
          refine wpAny_done (by kernel_rfl) ?_ _
          have hp2 := hid (blk2 hp.out (b0 := .int .u64 ((IA.getD zeroIm).epoch : Nat)) (b1 := .string (IA.getD zeroIm).pay))
          have hc2 := hid (below2 (b0 := .int .u64 ((IA.getD zeroIm).epoch : Nat)) (b1 := .string (IA.getD zeroIm).pay) hcur.out hpB.out)
          go_wp2_with fail
          go_meet
          exact ⟨_, rfl, rfl, hp2, hc2⟩
        refine AllReady.cons rfl (fun K hK => ?_) AllReady.nil
        obtain ⟨r0, r1, r2, r3, rf⟩ := S1.out.four
        go_simp
        clear r0 r1 r2 r3 rf
        refine hK _ _ ?_
        clear hK K
        (try simp only [Act.put, List.getElem_toArray, List.getElem_cons_zero, List.getElem_cons_succ, List.setIfInBounds_toArray, List.set_cons_zero, List.set_cons_succ])
        refine wpAny_ready (rs := [0]) (by kernel_rfl) (by simp) ?_
        refine AllReady.cons rfl (fun K hK => ?_) AllReady.nil
        obtain ⟨d0, d1, d2, d3, df⟩ := D1.out.four
        go_simp
        clear d0 d1 d2 d3 df
        refine hK _ _ ?_
        clear hK K
        (try simp only [Act.put, List.getElem_toArray, List.getElem_cons_zero, List.getElem_cons_succ, List.setIfInBounds_toArray, List.set_cons_zero, List.set_cons_succ])
        refine wpAny_ready (rs := [4]) (by kernel_rfl) (by simp) ?_
        refine AllReady.cons rfl (fun K hK => ?_) AllReady.nil
        go_simp
        (with_reducible refine (hIa.out _ _ (hv.out.below (bt hbw.out hcur.out))).mono ?_)
        rintro e V2 ⟨rfl, b4⟩
        unfold imV
        try dsimp only
        refine hK _ _ ?_
        clear hK K
        (try simp only [Act.put, List.getElem_toArray, List.getElem_cons_zero, List.getElem_cons_succ, List.setIfInBounds_toArray, List.set_cons_zero, List.set_cons_succ])
        replace D1 := hid (D1.out.below b4 D1.out.lt)
        replace S1 := hid (S1.out.below b4 S1.out.lt)
        replace hp := hid (hp.out.below b4 hp.out.lt)
        replace hcur := hid (bt hcur.out b4)
        clear b4
        refine wpAny_take (i := 5) (v := ?_) rfl (by kernel_rfl) (by kernel_rfl) (by kernel_rfl) (fun _ _ _ h => h) (Or.inl ⟨by rfl, ?_⟩) ?_
        rotate_left 1
        (intro w; go_simp; try with_reducible rfl)
        (try simp only [Act.put, List.getElem_toArray, List.getElem_cons_zero, List.getElem_cons_succ, List.setIfInBounds_toArray, List.set_cons_zero, List.set_cons_succ])
        refine wpAny_take (i := 6) (v := ?_) rfl (by kernel_rfl) (by kernel_rfl) (by kernel_rfl) (fun _ _ _ h => h) (Or.inl ⟨by rfl, ?_⟩) ?_
        rotate_left 1
        (intro w; go_simp; try with_reducible rfl)
        (try simp only [Act.put, List.getElem_toArray, List.getElem_cons_zero, List.getElem_cons_succ, List.setIfInBounds_toArray, List.set_cons_zero, List.set_cons_succ])
        refine wpAny_take (i := 7) (v := ?_) rfl (by kernel_rfl) (by kernel_rfl) (by kernel_rfl) (fun _ _ _ h => h) (Or.inl ⟨by rfl, ?_⟩) ?_
        rotate_left 1
        (intro w; go_simp; try with_reducible rfl)
        (try simp only [Act.put, List.getElem_toArray, List.getElem_cons_zero, List.getElem_cons_succ, List.setIfInBounds_toArray, List.set_cons_zero, List.set_cons_succ])
        refine wpAny_ready (rs := [9]) (by kernel_rfl) (by simp) ?_
        refine AllReady.cons rfl (fun K hK => ?_) AllReady.nil
        obtain ⟨p0, p1, pf⟩ := hp.out.two
        go_simp
        clear p0 p1 pf
        refine hK _ _ ?_
        clear hK K
        (try simp only [Act.put, List.getElem_toArray, List.getElem_cons_zero, List.getElem_cons_succ, List.setIfInBounds_toArray, List.set_cons_zero, List.set_cons_succ])
        refine wpAny_take (i := 10) (v := ?_) rfl (by kernel_rfl) (by kernel_rfl) (by kernel_rfl) (fun _ _ _ h => h) (Or.inl ⟨by rfl, ?_⟩) ?_
        rotate_left 1
        (intro w; go_simp; try with_reducible rfl)
        (try simp only [Act.put, List.getElem_toArray, List.getElem_cons_zero, List.getElem_cons_succ, List.setIfInBounds_toArray, List.set_cons_zero, List.set_cons_succ])
        refine wpAny_done (by kernel_rfl) ?_ _
        have hp2 := hid (blk2 hp.out (b0 := .int .u64 ((IA.getD zeroIm).epoch : Nat)) (b1 := .string (IA.getD zeroIm).pay))
        have hc2 := hid (below2 (b0 := .int .u64 ((IA.getD zeroIm).epoch : Nat)) (b1 := .string (IA.getD zeroIm).pay) hcur.out hpB.out)
        go_wp2_with fail
        go_meet
        exact ⟨_, rfl, rfl, hp2, hc2⟩
      case rest =>
        clear D1
        obtain ⟨p, rfl, rfl, P1, hbx⟩ := hcut
        have D2 := hid (D0.out.below hbx.out D0.out.lt)
        have S2 := hid (S0.out.below hbx.out S0.out.lt)
        have N2 := hid (N0.out.below hbx.out N0.out.lt)
        have Z2 := hid (Z0.out.below hbx.out Z0.out.lt)
        have hb2 := hid (bt hbw.out hbx.out)
        clear D0 S0 N0 Z0 hbw hbx
        cases IA with
        | none =>
          rw [show ldSt none IB 0 = ⟨zeroIm, 0, 9⟩ from rfl] at N2 ⊢
          dsimp only [zeroIm, Option.getD_none, Option.isSome_none] at N2 P1 ⊢
          obtain ⟨p0, p1, pf⟩ := P1.out.two
          obtain ⟨m0, m1, mf⟩ := N2.out.two
          go_wp2_with fail
          go_roundw
          case rel => exact ⟨1, by omega, by go_num, rfl, rfl, D2, S2, N2, Z2, hb2⟩
          case measure => simp [intOf]
        | some x =>
          rw [show ldSt (some x) IB 0 = ⟨zeroIm, 0, 9⟩ from rfl] at N2 ⊢
          dsimp only [zeroIm, Option.getD_some, Option.isSome_some] at N2 P1 ⊢
          obtain ⟨p0, p1, pf⟩ := P1.out.two
          obtain ⟨m0, m1, mf⟩ := N2.out.two
          have N3 := hid (blk2 N2.out (b0 := .int .u64 (x.epoch : Nat)) (b1 := .string x.pay))
          have o2 := fun (b : Nat) (cs : List Value) (t : TypeId) (hb : Blk wc b cs t) (hne : b ≠ n2) => (hb.other (p := ⟨n2, 0, none⟩) (by simpa using Ne.symm hne) (.int .u64 (x.epoch : Nat))).other (p := ⟨n2, 1, none⟩) (by simpa using Ne.symm hne) (.string x.pay)
          have D3 := hid (o2 _ _ _ D2.out (by have := hn2.out; have := hn3.out; omega))
          have S3 := hid (o2 _ _ _ S2.out (by have := hn2.out; have := hn3.out; omega))
          have Z3 := hid (o2 _ _ _ Z2.out (by have := hn2.out; have := hn3.out; omega))
          have hb3 := hid (below2 (b0 := .int .u64 (x.epoch : Nat)) (b1 := .string x.pay) hb2.out (by have := hn2.out; omega : w.heap.size ≤ n2))
          clear o2
          go_wp2_with fail
          go_roundw
          case rel => exact ⟨1, by omega, by go_num, rfl, rfl, D3, S3, N3, Z3, hb3⟩
          case measure => simp [intOf]
    · subst hk0
      have D1 := hid (D0.out)
      go_upto_region 12 with fail
      go_cut [15, 16] (fun s15 s16 wx => ∃ p, s15 = .pointer (some ⟨p, 0, none⟩) ∧ s16 = .bool IB.isSome ∧ Hid (Blk wx p [.int .u64 ((IB.getD zeroIm).epoch : Nat), .string (IB.getD zeroIm).pay] 30) ∧ Hid (Below wr.heap.size wr wx))
      case first =>
        have hmix : Tryz.prog.follows .mixedOrders = true := by kernel_rfl
        refine wp_region_any hmix ?_
        clear hmix
        rw [show ({ heap := wr.heap, tape := wr.tape, drawn := wr.drawn + 1, os := wr.os, output := wr.output } : World) = wr.drew from rfl]
        have hcur := hid ((Below.refl wr.heap.size wr).drew)
        replace D1 := hid D1.out.drew
        have S1 := hid S0.out.drew
        generalize wr.drew = V0 at D1 S1 hcur ⊢
        refine wpAny_take (i := 1) (v := ?_) rfl (by kernel_rfl) (by kernel_rfl) (by kernel_rfl) (fun _ _ _ h => h) (Or.inl ⟨by rfl, ?_⟩) ?_
        rotate_left 1
        (intro w; go_simp; try with_reducible rfl)
        (try simp only [Act.put, List.getElem_toArray, List.getElem_cons_zero, List.getElem_cons_succ, List.setIfInBounds_toArray, List.set_cons_zero, List.set_cons_succ])
        refine wpAny_take (i := 2) (v := ?_) rfl (by kernel_rfl) (by kernel_rfl) (by kernel_rfl) (fun _ _ _ h => h) (Or.inl ⟨by rfl, ?_⟩) ?_
        rotate_left 1
        (intro w; go_simp; try with_reducible rfl)
        (try simp only [Act.put, List.getElem_toArray, List.getElem_cons_zero, List.getElem_cons_succ, List.setIfInBounds_toArray, List.set_cons_zero, List.set_cons_succ])
        refine wpAny_ready (rs := [0, 3, 8]) (by kernel_rfl) (by simp) ?_
        refine AllReady.cons rfl (fun K hK => ?_) ?_
        · skip
          obtain ⟨d0, d1, d2, d3, df⟩ := D1.out.four
          go_simp
          clear d0 d1 d2 d3 df
          refine hK _ _ ?_
          clear hK K
          (try simp only [Act.put, List.getElem_toArray, List.getElem_cons_zero, List.getElem_cons_succ, List.setIfInBounds_toArray, List.set_cons_zero, List.set_cons_succ])
          refine wpAny_ready (rs := [3, 8]) (by kernel_rfl) (by simp) ?_
          refine AllReady.cons rfl (fun K hK => ?_) ?_
          · skip
            obtain ⟨r0, r1, r2, r3, rf⟩ := S1.out.four
            go_simp
            clear r0 r1 r2 r3 rf
            refine hK _ _ ?_
            clear hK K
            (try simp only [Act.put, List.getElem_toArray, List.getElem_cons_zero, List.getElem_cons_succ, List.setIfInBounds_toArray, List.set_cons_zero, List.set_cons_succ])
            refine wpAny_ready (rs := [4, 8]) (by kernel_rfl) (by simp) ?_
            refine AllReady.cons rfl (fun K hK => ?_) ?_
            · skip
              go_simp
              (with_reducible refine (hIb.out _ _ (hv.out.below (bt hbw.out hcur.out))).mono ?_)
              rintro e V1 ⟨rfl, b4⟩
              unfold imV
              try dsimp only
              refine hK _ _ ?_
              clear hK K
              (try simp only [Act.put, List.getElem_toArray, List.getElem_cons_zero, List.getElem_cons_succ, List.setIfInBounds_toArray, List.set_cons_zero, List.set_cons_succ])
              replace D1 := hid (D1.out.below b4 D1.out.lt)
              replace S1 := hid (S1.out.below b4 S1.out.lt)
              replace hcur := hid (bt hcur.out b4)
              clear b4
              refine wpAny_take (i := 5) (v := ?_) rfl (by kernel_rfl) (by kernel_rfl) (by kernel_rfl) (fun _ _ _ h => h) (Or.inl ⟨by rfl, ?_⟩) ?_
              rotate_left 1
              (intro w; go_simp; try with_reducible rfl)
              (try simp only [Act.put, List.getElem_toArray, List.getElem_cons_zero, List.getElem_cons_succ, List.setIfInBounds_toArray, List.set_cons_zero, List.set_cons_succ])
              refine wpAny_take (i := 6) (v := ?_) rfl (by kernel_rfl) (by kernel_rfl) (by kernel_rfl) (fun _ _ _ h => h) (Or.inl ⟨by rfl, ?_⟩) ?_
              rotate_left 1
              (intro w; go_simp; try with_reducible rfl)
              (try simp only [Act.put, List.getElem_toArray, List.getElem_cons_zero, List.getElem_cons_succ, List.setIfInBounds_toArray, List.set_cons_zero, List.set_cons_succ])
              refine wpAny_take (i := 7) (v := ?_) rfl (by kernel_rfl) (by kernel_rfl) (by kernel_rfl) (fun _ _ _ h => h) (Or.inl ⟨by rfl, ?_⟩) ?_
              rotate_left 1
              (intro w; go_simp; try with_reducible rfl)
              (try simp only [Act.put, List.getElem_toArray, List.getElem_cons_zero, List.getElem_cons_succ, List.setIfInBounds_toArray, List.set_cons_zero, List.set_cons_succ])
              refine wpAny_ready (rs := [8]) (by kernel_rfl) (by simp) ?_
              refine AllReady.cons rfl (fun K hK => ?_) AllReady.nil
              go_simp
              refine hK _ _ ?_
              clear hK K
              (try simp only [Act.put, List.getElem_toArray, List.getElem_cons_zero, List.getElem_cons_succ, List.setIfInBounds_toArray, List.set_cons_zero, List.set_cons_succ])
              have hal : Below V1.heap.size V1 (V1.alloc (.cells #[.int .u64 0, .string ⟨#[]⟩] 30)) := (Below.refl _ _).alloc (Nat.le_refl _) _
              replace D1 := hid (D1.out.below hal D1.out.lt)
              replace S1 := hid (S1.out.below hal S1.out.lt)
              have hp := hid (Blk.new V1 [.int .u64 0, .string ⟨#[]⟩] 30)
              have hpB := hid hcur.out.size
              replace hcur := hid (bt hcur.out hal)
              clear hal
              generalize V1.alloc (.cells #[.int .u64 0, .string ⟨#[]⟩] 30) = V2 at D1 S1 hp hcur ⊢
              refine wpAny_ready (rs := [9]) (by kernel_rfl) (by simp) ?_
              refine AllReady.cons rfl (fun K hK => ?_) AllReady.nil
              obtain ⟨p0, p1, pf⟩ := hp.out.two
              go_simp
              clear p0 p1 pf
              refine hK _ _ ?_
              clear hK K
              (try simp only [Act.put, List.getElem_toArray, List.getElem_cons_zero, List.getElem_cons_succ, List.setIfInBounds_toArray, List.set_cons_zero, List.set_cons_succ])
              refine wpAny_take (i := 10) (v := ?_) rfl (by kernel_rfl) (by kernel_rfl) (by kernel_rfl) (fun _ _ _ h => h) (Or.inl ⟨by rfl, ?_⟩) ?_
              rotate_left 1
              (intro w; go_simp; try with_reducible rfl)
              (try simp only [Act.put, List.getElem_toArray, List.getElem_cons_zero, List.getElem_cons_succ, List.setIfInBounds_toArray, List.set_cons_zero, List.set_cons_succ])
              refine wpAny_done (by kernel_rfl) ?_ _
              have hp2 := hid (blk2 hp.out (b0 := .int .u64 ((IB.getD zeroIm).epoch : Nat)) (b1 := .string (IB.getD zeroIm).pay))
              have hc2 := hid (below2 (b0 := .int .u64 ((IB.getD zeroIm).epoch : Nat)) (b1 := .string (IB.getD zeroIm).pay) hcur.out hpB.out)
              go_wp2_with fail
              go_meet
              exact ⟨_, rfl, rfl, hp2, hc2⟩
            refine AllReady.cons rfl (fun K hK => ?_) AllReady.nil
            go_simp
            refine hK _ _ ?_
            clear hK K
            (try simp only [Act.put, List.getElem_toArray, List.getElem_cons_zero, List.getElem_cons_succ, List.setIfInBounds_toArray, List.set_cons_zero, List.set_cons_succ])
            have hal : Below V0.heap.size V0 (V0.alloc (.cells #[.int .u64 0, .string ⟨#[]⟩] 30)) := (Below.refl _ _).alloc (Nat.le_refl _) _
            replace D1 := hid (D1.out.below hal D1.out.lt)
            replace S1 := hid (S1.out.below hal S1.out.lt)
            have hp := hid (Blk.new V0 [.int .u64 0, .string ⟨#[]⟩] 30)
            have hpB := hid hcur.out.size
            replace hcur := hid (bt hcur.out hal)
            clear hal
            generalize V0.alloc (.cells #[.int .u64 0, .string ⟨#[]⟩] 30) = V1 at D1 S1 hp hcur ⊢
            refine wpAny_ready (rs := [4]) (by kernel_rfl) (by simp) ?_
            refine AllReady.cons rfl (fun K hK => ?_) AllReady.nil
            go_simp
            (with_reducible refine (hIb.out _ _ (hv.out.below (bt hbw.out hcur.out))).mono ?_)
            rintro e V2 ⟨rfl, b4⟩
            unfold imV
            try dsimp only
            refine hK _ _ ?_
            clear hK K
            (try simp only [Act.put, List.getElem_toArray, List.getElem_cons_zero, List.getElem_cons_succ, List.setIfInBounds_toArray, List.set_cons_zero, List.set_cons_succ])
            replace D1 := hid (D1.out.below b4 D1.out.lt)
            replace S1 := hid (S1.out.below b4 S1.out.lt)
            replace hp := hid (hp.out.below b4 hp.out.lt)
            replace hcur := hid (bt hcur.out b4)
            clear b4
            refine wpAny_take (i := 5) (v := ?_) rfl (by kernel_rfl) (by kernel_rfl) (by kernel_rfl) (fun _ _ _ h => h) (Or.inl ⟨by rfl, ?_⟩) ?_
            rotate_left 1
            (intro w; go_simp; try with_reducible rfl)
            (try simp only [Act.put, List.getElem_toArray, List.getElem_cons_zero, List.getElem_cons_succ, List.setIfInBounds_toArray, List.set_cons_zero, List.set_cons_succ])
            refine wpAny_take (i := 6) (v := ?_) rfl (by kernel_rfl) (by kernel_rfl) (by kernel_rfl) (fun _ _ _ h => h) (Or.inl ⟨by rfl, ?_⟩) ?_
            rotate_left 1
            (intro w; go_simp; try with_reducible rfl)
            (try simp only [Act.put, List.getElem_toArray, List.getElem_cons_zero, List.getElem_cons_succ, List.setIfInBounds_toArray, List.set_cons_zero, List.set_cons_succ])
            refine wpAny_take (i := 7) (v := ?_) rfl (by kernel_rfl) (by kernel_rfl) (by kernel_rfl) (fun _ _ _ h => h) (Or.inl ⟨by rfl, ?_⟩) ?_
            rotate_left 1
            (intro w; go_simp; try with_reducible rfl)
            (try simp only [Act.put, List.getElem_toArray, List.getElem_cons_zero, List.getElem_cons_succ, List.setIfInBounds_toArray, List.set_cons_zero, List.set_cons_succ])
            refine wpAny_ready (rs := [9]) (by kernel_rfl) (by simp) ?_
            refine AllReady.cons rfl (fun K hK => ?_) AllReady.nil
            obtain ⟨p0, p1, pf⟩ := hp.out.two
            go_simp
            clear p0 p1 pf
            refine hK _ _ ?_
            clear hK K
            (try simp only [Act.put, List.getElem_toArray, List.getElem_cons_zero, List.getElem_cons_succ, List.setIfInBounds_toArray, List.set_cons_zero, List.set_cons_succ])
            refine wpAny_take (i := 10) (v := ?_) rfl (by kernel_rfl) (by kernel_rfl) (by kernel_rfl) (fun _ _ _ h => h) (Or.inl ⟨by rfl, ?_⟩) ?_
            rotate_left 1
            (intro w; go_simp; try with_reducible rfl)
            (try simp only [Act.put, List.getElem_toArray, List.getElem_cons_zero, List.getElem_cons_succ, List.setIfInBounds_toArray, List.set_cons_zero, List.set_cons_succ])
            refine wpAny_done (by kernel_rfl) ?_ _
            have hp2 := hid (blk2 hp.out (b0 := .int .u64 ((IB.getD zeroIm).epoch : Nat)) (b1 := .string (IB.getD zeroIm).pay))
            have hc2 := hid (below2 (b0 := .int .u64 ((IB.getD zeroIm).epoch : Nat)) (b1 := .string (IB.getD zeroIm).pay) hcur.out hpB.out)
            go_wp2_with fail
            go_meet
            exact ⟨_, rfl, rfl, hp2, hc2⟩
          refine AllReady.cons rfl (fun K hK => ?_) AllReady.nil
          go_simp
          refine hK _ _ ?_
          clear hK K
          (try simp only [Act.put, List.getElem_toArray, List.getElem_cons_zero, List.getElem_cons_succ, List.setIfInBounds_toArray, List.set_cons_zero, List.set_cons_succ])
          have hal : Below V0.heap.size V0 (V0.alloc (.cells #[.int .u64 0, .string ⟨#[]⟩] 30)) := (Below.refl _ _).alloc (Nat.le_refl _) _
          replace D1 := hid (D1.out.below hal D1.out.lt)
          replace S1 := hid (S1.out.below hal S1.out.lt)
          have hp := hid (Blk.new V0 [.int .u64 0, .string ⟨#[]⟩] 30)
          have hpB := hid hcur.out.size
          replace hcur := hid (bt hcur.out hal)
          clear hal
          generalize V0.alloc (.cells #[.int .u64 0, .string ⟨#[]⟩] 30) = V1 at D1 S1 hp hcur ⊢
          refine wpAny_ready (rs := [3]) (by kernel_rfl) (by simp) ?_
          refine AllReady.cons rfl (fun K hK => ?_) AllReady.nil
          obtain ⟨r0, r1, r2, r3, rf⟩ := S1.out.four
          go_simp
          clear r0 r1 r2 r3 rf
          refine hK _ _ ?_
          clear hK K
          (try simp only [Act.put, List.getElem_toArray, List.getElem_cons_zero, List.getElem_cons_succ, List.setIfInBounds_toArray, List.set_cons_zero, List.set_cons_succ])
          refine wpAny_ready (rs := [4]) (by kernel_rfl) (by simp) ?_
          refine AllReady.cons rfl (fun K hK => ?_) AllReady.nil
          go_simp
          (with_reducible refine (hIb.out _ _ (hv.out.below (bt hbw.out hcur.out))).mono ?_)
          rintro e V2 ⟨rfl, b4⟩
          unfold imV
          try dsimp only
          refine hK _ _ ?_
          clear hK K
          (try simp only [Act.put, List.getElem_toArray, List.getElem_cons_zero, List.getElem_cons_succ, List.setIfInBounds_toArray, List.set_cons_zero, List.set_cons_succ])
          replace D1 := hid (D1.out.below b4 D1.out.lt)
          replace S1 := hid (S1.out.below b4 S1.out.lt)
          replace hp := hid (hp.out.below b4 hp.out.lt)
          replace hcur := hid (bt hcur.out b4)
          clear b4
          refine wpAny_take (i := 5) (v := ?_) rfl (by kernel_rfl) (by kernel_rfl) (by kernel_rfl) (fun _ _ _ h => h) (Or.inl ⟨by rfl, ?_⟩) ?_
          rotate_left 1
          (intro w; go_simp; try with_reducible rfl)
          (try simp only [Act.put, List.getElem_toArray, List.getElem_cons_zero, List.getElem_cons_succ, List.setIfInBounds_toArray, List.set_cons_zero, List.set_cons_succ])
          refine wpAny_take (i := 6) (v := ?_) rfl (by kernel_rfl) (by kernel_rfl) (by kernel_rfl) (fun _ _ _ h => h) (Or.inl ⟨by rfl, ?_⟩) ?_
          rotate_left 1
          (intro w; go_simp; try with_reducible rfl)
          (try simp only [Act.put, List.getElem_toArray, List.getElem_cons_zero, List.getElem_cons_succ, List.setIfInBounds_toArray, List.set_cons_zero, List.set_cons_succ])
          refine wpAny_take (i := 7) (v := ?_) rfl (by kernel_rfl) (by kernel_rfl) (by kernel_rfl) (fun _ _ _ h => h) (Or.inl ⟨by rfl, ?_⟩) ?_
          rotate_left 1
          (intro w; go_simp; try with_reducible rfl)
          (try simp only [Act.put, List.getElem_toArray, List.getElem_cons_zero, List.getElem_cons_succ, List.setIfInBounds_toArray, List.set_cons_zero, List.set_cons_succ])
          refine wpAny_ready (rs := [9]) (by kernel_rfl) (by simp) ?_
          refine AllReady.cons rfl (fun K hK => ?_) AllReady.nil
          obtain ⟨p0, p1, pf⟩ := hp.out.two
          go_simp
          clear p0 p1 pf
          refine hK _ _ ?_
          clear hK K
          (try simp only [Act.put, List.getElem_toArray, List.getElem_cons_zero, List.getElem_cons_succ, List.setIfInBounds_toArray, List.set_cons_zero, List.set_cons_succ])
          refine wpAny_take (i := 10) (v := ?_) rfl (by kernel_rfl) (by kernel_rfl) (by kernel_rfl) (fun _ _ _ h => h) (Or.inl ⟨by rfl, ?_⟩) ?_
          rotate_left 1
          (intro w; go_simp; try with_reducible rfl)
          (try simp only [Act.put, List.getElem_toArray, List.getElem_cons_zero, List.getElem_cons_succ, List.setIfInBounds_toArray, List.set_cons_zero, List.set_cons_succ])
          refine wpAny_done (by kernel_rfl) ?_ _
          have hp2 := hid (blk2 hp.out (b0 := .int .u64 ((IB.getD zeroIm).epoch : Nat)) (b1 := .string (IB.getD zeroIm).pay))
          have hc2 := hid (below2 (b0 := .int .u64 ((IB.getD zeroIm).epoch : Nat)) (b1 := .string (IB.getD zeroIm).pay) hcur.out hpB.out)
          go_wp2_with fail
          go_meet
          exact ⟨_, rfl, rfl, hp2, hc2⟩
        refine AllReady.cons rfl (fun K hK => ?_) ?_
        · skip
          obtain ⟨r0, r1, r2, r3, rf⟩ := S1.out.four
          go_simp
          clear r0 r1 r2 r3 rf
          refine hK _ _ ?_
          clear hK K
          (try simp only [Act.put, List.getElem_toArray, List.getElem_cons_zero, List.getElem_cons_succ, List.setIfInBounds_toArray, List.set_cons_zero, List.set_cons_succ])
          refine wpAny_ready (rs := [0, 8]) (by kernel_rfl) (by simp) ?_
          refine AllReady.cons rfl (fun K hK => ?_) ?_
          · skip
            obtain ⟨d0, d1, d2, d3, df⟩ := D1.out.four
            go_simp
            clear d0 d1 d2 d3 df
            refine hK _ _ ?_
            clear hK K
            (try simp only [Act.put, List.getElem_toArray, List.getElem_cons_zero, List.getElem_cons_succ, List.setIfInBounds_toArray, List.set_cons_zero, List.set_cons_succ])
            refine wpAny_ready (rs := [4, 8]) (by kernel_rfl) (by simp) ?_
            refine AllReady.cons rfl (fun K hK => ?_) ?_
            · skip
              go_simp
              (with_reducible refine (hIb.out _ _ (hv.out.below (bt hbw.out hcur.out))).mono ?_)
              rintro e V1 ⟨rfl, b4⟩
              unfold imV
              try dsimp only
              refine hK _ _ ?_
              clear hK K
              (try simp only [Act.put, List.getElem_toArray, List.getElem_cons_zero, List.getElem_cons_succ, List.setIfInBounds_toArray, List.set_cons_zero, List.set_cons_succ])
              replace D1 := hid (D1.out.below b4 D1.out.lt)
              replace S1 := hid (S1.out.below b4 S1.out.lt)
              replace hcur := hid (bt hcur.out b4)
              clear b4
              refine wpAny_take (i := 5) (v := ?_) rfl (by kernel_rfl) (by kernel_rfl) (by kernel_rfl) (fun _ _ _ h => h) (Or.inl ⟨by rfl, ?_⟩) ?_
              rotate_left 1
              (intro w; go_simp; try with_reducible rfl)
              (try simp only [Act.put, List.getElem_toArray, List.getElem_cons_zero, List.getElem_cons_succ, List.setIfInBounds_toArray, List.set_cons_zero, List.set_cons_succ])
              refine wpAny_take (i := 6) (v := ?_) rfl (by kernel_rfl) (by kernel_rfl) (by kernel_rfl) (fun _ _ _ h => h) (Or.inl ⟨by rfl, ?_⟩) ?_
              rotate_left 1
              (intro w; go_simp; try with_reducible rfl)
              (try simp only [Act.put, List.getElem_toArray, List.getElem_cons_zero, List.getElem_cons_succ, List.setIfInBounds_toArray, List.set_cons_zero, List.set_cons_succ])
              refine wpAny_take (i := 7) (v := ?_) rfl (by kernel_rfl) (by kernel_rfl) (by kernel_rfl) (fun _ _ _ h => h) (Or.inl ⟨by rfl, ?_⟩) ?_
              rotate_left 1
              (intro w; go_simp; try with_reducible rfl)
              (try simp only [Act.put, List.getElem_toArray, List.getElem_cons_zero, List.getElem_cons_succ, List.setIfInBounds_toArray, List.set_cons_zero, List.set_cons_succ])
              refine wpAny_ready (rs := [8]) (by kernel_rfl) (by simp) ?_
              refine AllReady.cons rfl (fun K hK => ?_) AllReady.nil
              go_simp
              refine hK _ _ ?_
              clear hK K
              (try simp only [Act.put, List.getElem_toArray, List.getElem_cons_zero, List.getElem_cons_succ, List.setIfInBounds_toArray, List.set_cons_zero, List.set_cons_succ])
              have hal : Below V1.heap.size V1 (V1.alloc (.cells #[.int .u64 0, .string ⟨#[]⟩] 30)) := (Below.refl _ _).alloc (Nat.le_refl _) _
              replace D1 := hid (D1.out.below hal D1.out.lt)
              replace S1 := hid (S1.out.below hal S1.out.lt)
              have hp := hid (Blk.new V1 [.int .u64 0, .string ⟨#[]⟩] 30)
              have hpB := hid hcur.out.size
              replace hcur := hid (bt hcur.out hal)
              clear hal
              generalize V1.alloc (.cells #[.int .u64 0, .string ⟨#[]⟩] 30) = V2 at D1 S1 hp hcur ⊢
              refine wpAny_ready (rs := [9]) (by kernel_rfl) (by simp) ?_
              refine AllReady.cons rfl (fun K hK => ?_) AllReady.nil
              obtain ⟨p0, p1, pf⟩ := hp.out.two
              go_simp
              clear p0 p1 pf
              refine hK _ _ ?_
              clear hK K
              (try simp only [Act.put, List.getElem_toArray, List.getElem_cons_zero, List.getElem_cons_succ, List.setIfInBounds_toArray, List.set_cons_zero, List.set_cons_succ])
              refine wpAny_take (i := 10) (v := ?_) rfl (by kernel_rfl) (by kernel_rfl) (by kernel_rfl) (fun _ _ _ h => h) (Or.inl ⟨by rfl, ?_⟩) ?_
              rotate_left 1
              (intro w; go_simp; try with_reducible rfl)
              (try simp only [Act.put, List.getElem_toArray, List.getElem_cons_zero, List.getElem_cons_succ, List.setIfInBounds_toArray, List.set_cons_zero, List.set_cons_succ])
              refine wpAny_done (by kernel_rfl) ?_ _
              have hp2 := hid (blk2 hp.out (b0 := .int .u64 ((IB.getD zeroIm).epoch : Nat)) (b1 := .string (IB.getD zeroIm).pay))
              have hc2 := hid (below2 (b0 := .int .u64 ((IB.getD zeroIm).epoch : Nat)) (b1 := .string (IB.getD zeroIm).pay) hcur.out hpB.out)
              go_wp2_with fail
              go_meet
              exact ⟨_, rfl, rfl, hp2, hc2⟩
            refine AllReady.cons rfl (fun K hK => ?_) AllReady.nil
            go_simp
            refine hK _ _ ?_
            clear hK K
            (try simp only [Act.put, List.getElem_toArray, List.getElem_cons_zero, List.getElem_cons_succ, List.setIfInBounds_toArray, List.set_cons_zero, List.set_cons_succ])
            have hal : Below V0.heap.size V0 (V0.alloc (.cells #[.int .u64 0, .string ⟨#[]⟩] 30)) := (Below.refl _ _).alloc (Nat.le_refl _) _
            replace D1 := hid (D1.out.below hal D1.out.lt)
            replace S1 := hid (S1.out.below hal S1.out.lt)
            have hp := hid (Blk.new V0 [.int .u64 0, .string ⟨#[]⟩] 30)
            have hpB := hid hcur.out.size
            replace hcur := hid (bt hcur.out hal)
            clear hal
            generalize V0.alloc (.cells #[.int .u64 0, .string ⟨#[]⟩] 30) = V1 at D1 S1 hp hcur ⊢
            refine wpAny_ready (rs := [4]) (by kernel_rfl) (by simp) ?_
            refine AllReady.cons rfl (fun K hK => ?_) AllReady.nil
            go_simp
            (with_reducible refine (hIb.out _ _ (hv.out.below (bt hbw.out hcur.out))).mono ?_)
            rintro e V2 ⟨rfl, b4⟩
            unfold imV
            try dsimp only
            refine hK _ _ ?_
            clear hK K
            (try simp only [Act.put, List.getElem_toArray, List.getElem_cons_zero, List.getElem_cons_succ, List.setIfInBounds_toArray, List.set_cons_zero, List.set_cons_succ])
            replace D1 := hid (D1.out.below b4 D1.out.lt)
            replace S1 := hid (S1.out.below b4 S1.out.lt)
            replace hp := hid (hp.out.below b4 hp.out.lt)
            replace hcur := hid (bt hcur.out b4)
            clear b4
            refine wpAny_take (i := 5) (v := ?_) rfl (by kernel_rfl) (by kernel_rfl) (by kernel_rfl) (fun _ _ _ h => h) (Or.inl ⟨by rfl, ?_⟩) ?_
            rotate_left 1
            (intro w; go_simp; try with_reducible rfl)
            (try simp only [Act.put, List.getElem_toArray, List.getElem_cons_zero, List.getElem_cons_succ, List.setIfInBounds_toArray, List.set_cons_zero, List.set_cons_succ])
            refine wpAny_take (i := 6) (v := ?_) rfl (by kernel_rfl) (by kernel_rfl) (by kernel_rfl) (fun _ _ _ h => h) (Or.inl ⟨by rfl, ?_⟩) ?_
            rotate_left 1
            (intro w; go_simp; try with_reducible rfl)
            (try simp only [Act.put, List.getElem_toArray, List.getElem_cons_zero, List.getElem_cons_succ, List.setIfInBounds_toArray, List.set_cons_zero, List.set_cons_succ])
            refine wpAny_take (i := 7) (v := ?_) rfl (by kernel_rfl) (by kernel_rfl) (by kernel_rfl) (fun _ _ _ h => h) (Or.inl ⟨by rfl, ?_⟩) ?_
            rotate_left 1
            (intro w; go_simp; try with_reducible rfl)
            (try simp only [Act.put, List.getElem_toArray, List.getElem_cons_zero, List.getElem_cons_succ, List.setIfInBounds_toArray, List.set_cons_zero, List.set_cons_succ])
            refine wpAny_ready (rs := [9]) (by kernel_rfl) (by simp) ?_
            refine AllReady.cons rfl (fun K hK => ?_) AllReady.nil
            obtain ⟨p0, p1, pf⟩ := hp.out.two
            go_simp
            clear p0 p1 pf
            refine hK _ _ ?_
            clear hK K
            (try simp only [Act.put, List.getElem_toArray, List.getElem_cons_zero, List.getElem_cons_succ, List.setIfInBounds_toArray, List.set_cons_zero, List.set_cons_succ])
            refine wpAny_take (i := 10) (v := ?_) rfl (by kernel_rfl) (by kernel_rfl) (by kernel_rfl) (fun _ _ _ h => h) (Or.inl ⟨by rfl, ?_⟩) ?_
            rotate_left 1
            (intro w; go_simp; try with_reducible rfl)
            (try simp only [Act.put, List.getElem_toArray, List.getElem_cons_zero, List.getElem_cons_succ, List.setIfInBounds_toArray, List.set_cons_zero, List.set_cons_succ])
            refine wpAny_done (by kernel_rfl) ?_ _
            have hp2 := hid (blk2 hp.out (b0 := .int .u64 ((IB.getD zeroIm).epoch : Nat)) (b1 := .string (IB.getD zeroIm).pay))
            have hc2 := hid (below2 (b0 := .int .u64 ((IB.getD zeroIm).epoch : Nat)) (b1 := .string (IB.getD zeroIm).pay) hcur.out hpB.out)
            go_wp2_with fail
            go_meet
            exact ⟨_, rfl, rfl, hp2, hc2⟩
          refine AllReady.cons rfl (fun K hK => ?_) AllReady.nil
          go_simp
          refine hK _ _ ?_
          clear hK K
          (try simp only [Act.put, List.getElem_toArray, List.getElem_cons_zero, List.getElem_cons_succ, List.setIfInBounds_toArray, List.set_cons_zero, List.set_cons_succ])
          have hal : Below V0.heap.size V0 (V0.alloc (.cells #[.int .u64 0, .string ⟨#[]⟩] 30)) := (Below.refl _ _).alloc (Nat.le_refl _) _
          replace D1 := hid (D1.out.below hal D1.out.lt)
          replace S1 := hid (S1.out.below hal S1.out.lt)
          have hp := hid (Blk.new V0 [.int .u64 0, .string ⟨#[]⟩] 30)
          have hpB := hid hcur.out.size
          replace hcur := hid (bt hcur.out hal)
          clear hal
          generalize V0.alloc (.cells #[.int .u64 0, .string ⟨#[]⟩] 30) = V1 at D1 S1 hp hcur ⊢
          refine wpAny_ready (rs := [0]) (by kernel_rfl) (by simp) ?_
          refine AllReady.cons rfl (fun K hK => ?_) AllReady.nil
          obtain ⟨d0, d1, d2, d3, df⟩ := D1.out.four
          go_simp
          clear d0 d1 d2 d3 df
          refine hK _ _ ?_
          clear hK K
          (try simp only [Act.put, List.getElem_toArray, List.getElem_cons_zero, List.getElem_cons_succ, List.setIfInBounds_toArray, List.set_cons_zero, List.set_cons_succ])
          refine wpAny_ready (rs := [4]) (by kernel_rfl) (by simp) ?_
          refine AllReady.cons rfl (fun K hK => ?_) AllReady.nil
          go_simp
          (with_reducible refine (hIb.out _ _ (hv.out.below (bt hbw.out hcur.out))).mono ?_)
          rintro e V2 ⟨rfl, b4⟩
          unfold imV
          try dsimp only
          refine hK _ _ ?_
          clear hK K
          (try simp only [Act.put, List.getElem_toArray, List.getElem_cons_zero, List.getElem_cons_succ, List.setIfInBounds_toArray, List.set_cons_zero, List.set_cons_succ])
          replace D1 := hid (D1.out.below b4 D1.out.lt)
          replace S1 := hid (S1.out.below b4 S1.out.lt)
          replace hp := hid (hp.out.below b4 hp.out.lt)
          replace hcur := hid (bt hcur.out b4)
          clear b4
          refine wpAny_take (i := 5) (v := ?_) rfl (by kernel_rfl) (by kernel_rfl) (by kernel_rfl) (fun _ _ _ h => h) (Or.inl ⟨by rfl, ?_⟩) ?_
          rotate_left 1
          (intro w; go_simp; try with_reducible rfl)
          (try simp only [Act.put, List.getElem_toArray, List.getElem_cons_zero, List.getElem_cons_succ, List.setIfInBounds_toArray, List.set_cons_zero, List.set_cons_succ])
          refine wpAny_take (i := 6) (v := ?_) rfl (by kernel_rfl) (by kernel_rfl) (by kernel_rfl) (fun _ _ _ h => h) (Or.inl ⟨by rfl, ?_⟩) ?_
          rotate_left 1
          (intro w; go_simp; try with_reducible rfl)
          (try simp only [Act.put, List.getElem_toArray, List.getElem_cons_zero, List.getElem_cons_succ, List.setIfInBounds_toArray, List.set_cons_zero, List.set_cons_succ])
          refine wpAny_take (i := 7) (v := ?_) rfl (by kernel_rfl) (by kernel_rfl) (by kernel_rfl) (fun _ _ _ h => h) (Or.inl ⟨by rfl, ?_⟩) ?_
          rotate_left 1
          (intro w; go_simp; try with_reducible rfl)
          (try simp only [Act.put, List.getElem_toArray, List.getElem_cons_zero, List.getElem_cons_succ, List.setIfInBounds_toArray, List.set_cons_zero, List.set_cons_succ])
          refine wpAny_ready (rs := [9]) (by kernel_rfl) (by simp) ?_
          refine AllReady.cons rfl (fun K hK => ?_) AllReady.nil
          obtain ⟨p0, p1, pf⟩ := hp.out.two
          go_simp
          clear p0 p1 pf
          refine hK _ _ ?_
          clear hK K
          (try simp only [Act.put, List.getElem_toArray, List.getElem_cons_zero, List.getElem_cons_succ, List.setIfInBounds_toArray, List.set_cons_zero, List.set_cons_succ])
          refine wpAny_take (i := 10) (v := ?_) rfl (by kernel_rfl) (by kernel_rfl) (by kernel_rfl) (fun _ _ _ h => h) (Or.inl ⟨by rfl, ?_⟩) ?_
          rotate_left 1
          (intro w; go_simp; try with_reducible rfl)
          (try simp only [Act.put, List.getElem_toArray, List.getElem_cons_zero, List.getElem_cons_succ, List.setIfInBounds_toArray, List.set_cons_zero, List.set_cons_succ])
          refine wpAny_done (by kernel_rfl) ?_ _
          have hp2 := hid (blk2 hp.out (b0 := .int .u64 ((IB.getD zeroIm).epoch : Nat)) (b1 := .string (IB.getD zeroIm).pay))
          have hc2 := hid (below2 (b0 := .int .u64 ((IB.getD zeroIm).epoch : Nat)) (b1 := .string (IB.getD zeroIm).pay) hcur.out hpB.out)
          go_wp2_with fail
          go_meet
          exact ⟨_, rfl, rfl, hp2, hc2⟩
        refine AllReady.cons rfl (fun K hK => ?_) AllReady.nil
        go_simp
        refine hK _ _ ?_
        clear hK K
        (try simp only [Act.put, List.getElem_toArray, List.getElem_cons_zero, List.getElem_cons_succ, List.setIfInBounds_toArray, List.set_cons_zero, List.set_cons_succ])
        have hal : Below V0.heap.size V0 (V0.alloc (.cells #[.int .u64 0, .string ⟨#[]⟩] 30)) := (Below.refl _ _).alloc (Nat.le_refl _) _
        replace D1 := hid (D1.out.below hal D1.out.lt)
        replace S1 := hid (S1.out.below hal S1.out.lt)
        have hp := hid (Blk.new V0 [.int .u64 0, .string ⟨#[]⟩] 30)
        have hpB := hid hcur.out.size
        replace hcur := hid (bt hcur.out hal)
        clear hal
        generalize V0.alloc (.cells #[.int .u64 0, .string ⟨#[]⟩] 30) = V1 at D1 S1 hp hcur ⊢
        refine wpAny_ready (rs := [0, 3]) (by kernel_rfl) (by simp) ?_
        refine AllReady.cons rfl (fun K hK => ?_) ?_
        · skip
          obtain ⟨d0, d1, d2, d3, df⟩ := D1.out.four
          go_simp
          clear d0 d1 d2 d3 df
          refine hK _ _ ?_
          clear hK K
          (try simp only [Act.put, List.getElem_toArray, List.getElem_cons_zero, List.getElem_cons_succ, List.setIfInBounds_toArray, List.set_cons_zero, List.set_cons_succ])
          refine wpAny_ready (rs := [3]) (by kernel_rfl) (by simp) ?_
          refine AllReady.cons rfl (fun K hK => ?_) AllReady.nil
          obtain ⟨r0, r1, r2, r3, rf⟩ := S1.out.four
          go_simp
          clear r0 r1 r2 r3 rf
          refine hK _ _ ?_
          clear hK K
          (try simp only [Act.put, List.getElem_toArray, List.getElem_cons_zero, List.getElem_cons_succ, List.setIfInBounds_toArray, List.set_cons_zero, List.set_cons_succ])
          refine wpAny_ready (rs := [4]) (by kernel_rfl) (by simp) ?_
          refine AllReady.cons rfl (fun K hK => ?_) AllReady.nil
          go_simp
          (with_reducible refine (hIb.out _ _ (hv.out.below (bt hbw.out hcur.out))).mono ?_)
          rintro e V2 ⟨rfl, b4⟩
          unfold imV
          try dsimp only
          refine hK _ _ ?_
          clear hK K
          (try simp only [Act.put, List.getElem_toArray, List.getElem_cons_zero, List.getElem_cons_succ, List.setIfInBounds_toArray, List.set_cons_zero, List.set_cons_succ])
          replace D1 := hid (D1.out.below b4 D1.out.lt)
          replace S1 := hid (S1.out.below b4 S1.out.lt)
          replace hp := hid (hp.out.below b4 hp.out.lt)
          replace hcur := hid (bt hcur.out b4)
          clear b4
          refine wpAny_take (i := 5) (v := ?_) rfl (by kernel_rfl) (by kernel_rfl) (by kernel_rfl) (fun _ _ _ h => h) (Or.inl ⟨by rfl, ?_⟩) ?_
          rotate_left 1
          (intro w; go_simp; try with_reducible rfl)
          (try simp only [Act.put, List.getElem_toArray, List.getElem_cons_zero, List.getElem_cons_succ, List.setIfInBounds_toArray, List.set_cons_zero, List.set_cons_succ])
          refine wpAny_take (i := 6) (v := ?_) rfl (by kernel_rfl) (by kernel_rfl) (by kernel_rfl) (fun _ _ _ h => h) (Or.inl ⟨by rfl, ?_⟩) ?_
          rotate_left 1
          (intro w; go_simp; try with_reducible rfl)
          (try simp only [Act.put, List.getElem_toArray, List.getElem_cons_zero, List.getElem_cons_succ, List.setIfInBounds_toArray, List.set_cons_zero, List.set_cons_succ])
          refine wpAny_take (i := 7) (v := ?_) rfl (by kernel_rfl) (by kernel_rfl) (by kernel_rfl) (fun _ _ _ h => h) (Or.inl ⟨by rfl, ?_⟩) ?_
          rotate_left 1
          (intro w; go_simp; try with_reducible rfl)
          (try simp only [Act.put, List.getElem_toArray, List.getElem_cons_zero, List.getElem_cons_succ, List.setIfInBounds_toArray, List.set_cons_zero, List.set_cons_succ])
          refine wpAny_ready (rs := [9]) (by kernel_rfl) (by simp) ?_
          refine AllReady.cons rfl (fun K hK => ?_) AllReady.nil
          obtain ⟨p0, p1, pf⟩ := hp.out.two
          go_simp
          clear p0 p1 pf
          refine hK _ _ ?_
          clear hK K
          (try simp only [Act.put, List.getElem_toArray, List.getElem_cons_zero, List.getElem_cons_succ, List.setIfInBounds_toArray, List.set_cons_zero, List.set_cons_succ])
          refine wpAny_take (i := 10) (v := ?_) rfl (by kernel_rfl) (by kernel_rfl) (by kernel_rfl) (fun _ _ _ h => h) (Or.inl ⟨by rfl, ?_⟩) ?_
          rotate_left 1
          (intro w; go_simp; try with_reducible rfl)
          (try simp only [Act.put, List.getElem_toArray, List.getElem_cons_zero, List.getElem_cons_succ, List.setIfInBounds_toArray, List.set_cons_zero, List.set_cons_succ])
          refine wpAny_done (by kernel_rfl) ?_ _
          have hp2 := hid (blk2 hp.out (b0 := .int .u64 ((IB.getD zeroIm).epoch : Nat)) (b1 := .string (IB.getD zeroIm).pay))
          have hc2 := hid (below2 (b0 := .int .u64 ((IB.getD zeroIm).epoch : Nat)) (b1 := .string (IB.getD zeroIm).pay) hcur.out hpB.out)
          go_wp2_with fail
          go_meet
          exact ⟨_, rfl, rfl, hp2, hc2⟩
        refine AllReady.cons rfl (fun K hK => ?_) AllReady.nil
        obtain ⟨r0, r1, r2, r3, rf⟩ := S1.out.four
        go_simp
        clear r0 r1 r2 r3 rf
        refine hK _ _ ?_
        clear hK K
        (try simp only [Act.put, List.getElem_toArray, List.getElem_cons_zero, List.getElem_cons_succ, List.setIfInBounds_toArray, List.set_cons_zero, List.set_cons_succ])
        refine wpAny_ready (rs := [0]) (by kernel_rfl) (by simp) ?_
        refine AllReady.cons rfl (fun K hK => ?_) AllReady.nil
        obtain ⟨d0, d1, d2, d3, df⟩ := D1.out.four
        go_simp
        clear d0 d1 d2 d3 df
        refine hK _ _ ?_
        clear hK K
        (try simp only [Act.put, List.getElem_toArray, List.getElem_cons_zero, List.getElem_cons_succ, List.setIfInBounds_toArray, List.set_cons_zero, List.set_cons_succ])
        refine wpAny_ready (rs := [4]) (by kernel_rfl) (by simp) ?_
        refine AllReady.cons rfl (fun K hK => ?_) AllReady.nil
        go_simp
        (with_reducible refine (hIb.out _ _ (hv.out.below (bt hbw.out hcur.out))).mono ?_)
        rintro e V2 ⟨rfl, b4⟩
        unfold imV
        try dsimp only
        refine hK _ _ ?_
        clear hK K
        (try simp only [Act.put, List.getElem_toArray, List.getElem_cons_zero, List.getElem_cons_succ, List.setIfInBounds_toArray, List.set_cons_zero, List.set_cons_succ])
        replace D1 := hid (D1.out.below b4 D1.out.lt)
        replace S1 := hid (S1.out.below b4 S1.out.lt)
        replace hp := hid (hp.out.below b4 hp.out.lt)
        replace hcur := hid (bt hcur.out b4)
        clear b4
        refine wpAny_take (i := 5) (v := ?_) rfl (by kernel_rfl) (by kernel_rfl) (by kernel_rfl) (fun _ _ _ h => h) (Or.inl ⟨by rfl, ?_⟩) ?_
        rotate_left 1
        (intro w; go_simp; try with_reducible rfl)
        (try simp only [Act.put, List.getElem_toArray, List.getElem_cons_zero, List.getElem_cons_succ, List.setIfInBounds_toArray, List.set_cons_zero, List.set_cons_succ])
        refine wpAny_take (i := 6) (v := ?_) rfl (by kernel_rfl) (by kernel_rfl) (by kernel_rfl) (fun _ _ _ h => h) (Or.inl ⟨by rfl, ?_⟩) ?_
        rotate_left 1
        (intro w; go_simp; try with_reducible rfl)
        (try simp only [Act.put, List.getElem_toArray, List.getElem_cons_zero, List.getElem_cons_succ, List.setIfInBounds_toArray, List.set_cons_zero, List.set_cons_succ])
        refine wpAny_take (i := 7) (v := ?_) rfl (by kernel_rfl) (by kernel_rfl) (by kernel_rfl) (fun _ _ _ h => h) (Or.inl ⟨by rfl, ?_⟩) ?_
        rotate_left 1
        (intro w; go_simp; try with_reducible rfl)
        (try simp only [Act.put, List.getElem_toArray, List.getElem_cons_zero, List.getElem_cons_succ, List.setIfInBounds_toArray, List.set_cons_zero, List.set_cons_succ])
        refine wpAny_ready (rs := [9]) (by kernel_rfl) (by simp) ?_
        refine AllReady.cons rfl (fun K hK => ?_) AllReady.nil
        obtain ⟨p0, p1, pf⟩ := hp.out.two
        go_simp
        clear p0 p1 pf
        refine hK _ _ ?_
        clear hK K
        (try simp only [Act.put, List.getElem_toArray, List.getElem_cons_zero, List.getElem_cons_succ, List.setIfInBounds_toArray, List.set_cons_zero, List.set_cons_succ])
        refine wpAny_take (i := 10) (v := ?_) rfl (by kernel_rfl) (by kernel_rfl) (by kernel_rfl) (fun _ _ _ h => h) (Or.inl ⟨by rfl, ?_⟩) ?_
        rotate_left 1
        (intro w; go_simp; try with_reducible rfl)
        (try simp only [Act.put, List.getElem_toArray, List.getElem_cons_zero, List.getElem_cons_succ, List.setIfInBounds_toArray, List.set_cons_zero, List.set_cons_succ])
        refine wpAny_done (by kernel_rfl) ?_ _
        have hp2 := hid (blk2 hp.out (b0 := .int .u64 ((IB.getD zeroIm).epoch : Nat)) (b1 := .string (IB.getD zeroIm).pay))
        have hc2 := hid (below2 (b0 := .int .u64 ((IB.getD zeroIm).epoch : Nat)) (b1 := .string (IB.getD zeroIm).pay) hcur.out hpB.out)
        go_wp2_with fail
        go_meet
        exact ⟨_, rfl, rfl, hp2, hc2⟩
      case rest =>
        clear D1
        obtain ⟨p, rfl, rfl, P1, hbx⟩ := hcut
        have D2 := hid (D0.out.below hbx.out D0.out.lt)
        have S2 := hid (S0.out.below hbx.out S0.out.lt)
        have N2 := hid (N0.out.below hbx.out N0.out.lt)
        have Z2 := hid (Z0.out.below hbx.out Z0.out.lt)
        have hb2 := hid (bt hbw.out hbx.out)
        clear D0 S0 N0 Z0 hbw hbx
        cases IA with
        | none =>
          rw [show ldSt none IB 1 = ⟨zeroIm, 0, 9⟩ from rfl] at N2 ⊢
          cases IB with
          | none =>
            dsimp only [zeroIm, Option.getD_none, Option.isSome_none] at N2 P1 ⊢
            obtain ⟨p0, p1, pf⟩ := P1.out.two
            obtain ⟨m0, m1, mf⟩ := N2.out.two
            go_wp2_with fail
            go_roundw
            case rel => exact ⟨2, by omega, by go_num, rfl, rfl, D2, S2, N2, Z2, hb2⟩
            case measure => simp [intOf]
          | some y =>
            dsimp only [zeroIm, Option.getD_some, Option.isSome_some] at N2 P1 ⊢
            obtain ⟨p0, p1, pf⟩ := P1.out.two
            obtain ⟨m0, m1, mf⟩ := N2.out.two
            have N3 := hid (blk2 N2.out (b0 := .int .u64 (y.epoch : Nat)) (b1 := .string y.pay))
            have o2 := fun (b : Nat) (cs : List Value) (t : TypeId) (hb : Blk wc b cs t) (hne : b ≠ n2) => (hb.other (p := ⟨n2, 0, none⟩) (by simpa using Ne.symm hne) (.int .u64 (y.epoch : Nat))).other (p := ⟨n2, 1, none⟩) (by simpa using Ne.symm hne) (.string y.pay)
            have D3 := hid (o2 _ _ _ D2.out (by have := hn2.out; have := hn3.out; omega))
            have S3 := hid (o2 _ _ _ S2.out (by have := hn2.out; have := hn3.out; omega))
            have Z3 := hid (o2 _ _ _ Z2.out (by have := hn2.out; have := hn3.out; omega))
            have hb3 := hid (below2 (b0 := .int .u64 (y.epoch : Nat)) (b1 := .string y.pay) hb2.out (by have := hn2.out; omega : w.heap.size ≤ n2))
            clear o2
            go_wp2_with fail
            go_roundw
            case rel => exact ⟨2, by omega, by go_num, rfl, rfl, D3, S3, N3, Z3, hb3⟩
            case measure => simp [intOf]
        | some x =>
          rw [show ldSt (some x) IB 1 = ⟨x, 0, 0⟩ from rfl] at N2 ⊢
          cases IB with
          | none =>
            dsimp only [zeroIm, Option.getD_none, Option.isSome_none] at N2 P1 ⊢
            obtain ⟨p0, p1, pf⟩ := P1.out.two
            obtain ⟨m0, m1, mf⟩ := N2.out.two
            go_wp2_with fail
            go_roundw
            case rel => exact ⟨2, by omega, by go_num, rfl, rfl, D2, S2, N2, Z2, hb2⟩
            case measure => simp [intOf]
          | some y =>
            dsimp only [zeroIm, Option.getD_some, Option.isSome_some] at N2 P1 ⊢
            obtain ⟨p0, p1, pf⟩ := P1.out.two
            obtain ⟨m0, m1, mf⟩ := N2.out.two
            by_cases hlt : x.epoch < y.epoch
            · have hli : (x.epoch : Int) < (y.epoch : Int) := by omega
              have hst := hid (show ldSt (some x) (some y) 2 = ⟨y, 1, 0⟩ from if_pos hlt)
              clear hlt
              have N3 := hid (blk2 N2.out (b0 := .int .u64 (y.epoch : Nat)) (b1 := .string y.pay))
              have o2 := fun (b : Nat) (cs : List Value) (t : TypeId) (hb : Blk wc b cs t) (hne : b ≠ n2) => (hb.other (p := ⟨n2, 0, none⟩) (by simpa using Ne.symm hne) (.int .u64 (y.epoch : Nat))).other (p := ⟨n2, 1, none⟩) (by simpa using Ne.symm hne) (.string y.pay)
              have D3 := hid (o2 _ _ _ D2.out (by have := hn2.out; have := hn3.out; omega))
              have S3 := hid (o2 _ _ _ S2.out (by have := hn2.out; have := hn3.out; omega))
              have Z3 := hid (o2 _ _ _ Z2.out (by have := hn2.out; have := hn3.out; omega))
              have hb3 := hid (below2 (b0 := .int .u64 (y.epoch : Nat)) (b1 := .string y.pay) hb2.out (by have := hn2.out; omega : w.heap.size ≤ n2))
              clear o2
              go_wp2_with fail
              go_roundw
              case rel => exact ⟨2, by omega, by go_num, by rw [hst.out], by rw [hst.out], D3, S3, by rw [hst.out]; exact N3, Z3, hb3⟩
              case measure => simp [intOf]
            · have hli : ¬ (x.epoch : Int) < (y.epoch : Int) := by omega
              have hst := hid (show ldSt (some x) (some y) 2 = ⟨x, 0, 0⟩ from if_neg hlt)
              clear hlt
              go_wp2_with fail
              go_roundw
              case rel => exact ⟨2, by omega, by go_num, by rw [hst.out], by rw [hst.out], D2, S2, by rw [hst.out]; exact N2, Z2, hb2⟩
              case measure => simp [intOf]
    · subst hk0
      have hst := hid (show ldSt IA IB 2 = pickE IA IB from rfl)
      rw [hst.out] at N0 ⊢
      obtain ⟨X, hX⟩ : ∃ X, pickE IA IB = X := ⟨_, rfl⟩
      rw [hX] at N0 ⊢
      have hX' := hid hX
      obtain ⟨⟨xe, xp⟩, xa, xc⟩ := X
      clear hX hst
      dsimp only at N0 ⊢
      obtain ⟨m0, m1, mf⟩ := N0.out.two
      obtain ⟨z0, z1, zf⟩ := Z0.out.two
      go_wp2_with fail
      obtain ⟨q0, q1, qf⟩ := (blk2 Z0.out (b0 := .int .u64 (xe : Nat)) (b1 := .string xp)).two
      refine bodyPost_ret (v := .tuple #[.agg #[.int .u64 (xe : Nat), .string xp], .int .i64 (xa : Nat), .int .i64 xc]) (by simp [results, Tryz.results5, go_sem, q0, q1]) rfl ?_
      rw [hX'.out]
      exact ⟨rfl, below2 hbw.out (by omega)⟩
end Go.Proofs.YtiegocbdgimimaaGreat.Slot
namespace Go.Proofs.YtiegocbdgimimaaGreat.Slot
open Go.ChangeShapes Go.WideShapes Go.ChangeAt Go.RowKit
open Go.Proofs.YtiegocbdgimimaaGreat.Mem Go.Proofs.YtiegocbdgimimaaGreat.Rec Go.Proofs.YtiegocbdgimimaaGreat.Sector Go.Proofs.YtiegocbdgimimaaGreat.Wal
set_option linter.unusedVariables false
set_option maxRecDepth 100000
theorem load_any (d : Disk) (v : Value) (a b : Rg) (w : World) (h : DiskV w v d) (ha : a.has) (hb : b.has) :
    Calls Tryz.prog 5 #[v, rgV a, rgV b] w (LdTold w (loadE d a b)) := by
  unfold loadE
  by_cases hc : slChk d a b = 0
  · rw [if_neg (by simpa using hc)]
    obtain ⟨secs, pend, off, fuse⟩ := d
    cases off with
    | true => rw [if_pos rfl]; exact load_off secs pend fuse v a b w h ha hb hc
    | false =>
      rw [if_neg (by simp)]
      obtain ⟨c1, c2, _⟩ := slChk_zero hc
      obtain ⟨_, k2, k3, _, _⟩ := walChk_zero c1
      obtain ⟨_, q2, q3, _, _⟩ := walChk_zero c2
      obtain ⟨af, az⟩ := a
      obtain ⟨bf, bz⟩ := b
      dsimp only at k2 k3 q2 q3
      obtain ⟨F, rfl⟩ : ∃ F : Nat, af = F := ⟨af.toNat, by omega⟩
      obtain ⟨S, rfl⟩ : ∃ S : Nat, az = S := ⟨az.toNat, by omega⟩
      obtain ⟨G, rfl⟩ : ∃ G : Nat, bf = G := ⟨bf.toNat, by omega⟩
      obtain ⟨T, rfl⟩ : ∃ T : Nat, bz = T := ⟨bz.toNat, by omega⟩
      exact load_main secs pend fuse v F S G T w h hc
  · rw [if_pos (by simpa using hc)]
    exact load_bad d v a b w h ha hb hc
theorem load_at (d : Disk) (a b : Rg) : (loadE d a b).at' ≤ 1 := by
  unfold loadE
  split
  · exact Nat.zero_le _
  · split
    · exact Nat.zero_le _
    · unfold pickE
      split
      · exact Nat.zero_le _
      · exact Nat.zero_le _
      · exact Nat.le_refl _
      · split
        · exact Nat.le_refl _
        · exact Nat.zero_le _
def Im.has (m : Im) : Prop := m.epoch < 18446744073709551616 ∧ m.pay.size ≤ 9223372036854775807
def SlTold (w : World) (x : Rg × Int) (e : Ending) (w' : World) : Prop := e = .returned (.tuple #[rgV x.1, .int .i64 x.2]) ∧ Below w.heap.size w w'
set_option maxHeartbeats 4000000 in
theorem slotFor_any (d : Disk) (v : Value) (a b : Rg) (m : Im) (w : World) (h : DiskV w v d) (ha : a.has) (hb : b.has) (hm : m.has) :
    Calls Tryz.prog 15 #[v, rgV a, rgV b, frV (imFr m)] w (SlTold w (slotE d a b m)) := by
  have hv := hid h
  have hld := hid (fun v W (h : DiskV W v d) => load_any d v a b W h ha hb)
  have hat := hid (load_at d a b)
  have hsl := hid (show slotE d a b m = if (loadE d a b).c ≠ 0 ∧ (loadE d a b).c ≠ 9 then (⟨0, 0⟩, (loadE d a b).c) else if fchk 2 m.pay.size ≠ 0 then (⟨0, 0⟩, fchk 2 m.pay.size) else if (loadE d a b).c = 9 then (a, 0) else if m.epoch ≤ (loadE d a b).im.epoch then (⟨0, 0⟩, 1) else (if (loadE d a b).at' = 0 then b else a, 0) from rfl)
  have hfc := hid (fun W => fcheck_any 2 m.epoch 0 m.pay W hm.2)
  generalize loadE d a b = X at hld hat hsl
  obtain ⟨sv, pv, rfl, hs, hp⟩ := h
  obtain ⟨so, scap, rfl, _⟩ := hs.form
  obtain ⟨po, pcap, rfl, _⟩ := hp.form
  have hme := hm.1
  clear hs hp ha hb hm
  rw [show rgV a = .agg #[.int .i64 a.f, .int .i64 a.s] from rfl, show rgV b = .agg #[.int .i64 b.f, .int .i64 b.s] from rfl] at hld ⊢
  rw [show frV (imFr m) = .agg #[.int .u8 2, .int .u64 (m.epoch : Nat), .int .u64 0, .string m.pay] from rfl]
  rw [show (Value.int .u8 ((2 : Nat) : Int)) = .int .u8 2 from rfl, show (Value.int .u64 ((0 : Nat) : Int)) = .int .u64 0 from rfl] at hfc
  go_enter Tryz.func15, Tryz.ntmps15
  go_upto_region 1 with fail
  have D0 := hid (((((Blk.new w [.slice so d.secs.length scap, .slice po d.pend.length pcap, .bool d.off, .int .i64 d.fuse] 25).alloc (.cells #[.int .i64 a.f, .int .i64 a.s] 27)).alloc (.cells #[.int .i64 b.f, .int .i64 b.s] 27)).alloc (.cells #[.int .u8 2, .int .u64 (m.epoch : Nat), .int .u64 0, .string m.pay] 45)).alloc (.cells #[.int .i64 0, .int .i64 0] 27))
  have A0 := hid ((((Blk.new' (w.alloc (.cells #[.slice so d.secs.length scap, .slice po d.pend.length pcap, .bool d.off, .int .i64 d.fuse] 25)) [.int .i64 a.f, .int .i64 a.s] 27 (w.heap.size + 1) (by simp)).alloc (.cells #[.int .i64 b.f, .int .i64 b.s] 27)).alloc (.cells #[.int .u8 2, .int .u64 (m.epoch : Nat), .int .u64 0, .string m.pay] 45)).alloc (.cells #[.int .i64 0, .int .i64 0] 27))
  have B0 := hid (((Blk.new' ((w.alloc (.cells #[.slice so d.secs.length scap, .slice po d.pend.length pcap, .bool d.off, .int .i64 d.fuse] 25)).alloc (.cells #[.int .i64 a.f, .int .i64 a.s] 27)) [.int .i64 b.f, .int .i64 b.s] 27 (w.heap.size + 2) (by simp)).alloc (.cells #[.int .u8 2, .int .u64 (m.epoch : Nat), .int .u64 0, .string m.pay] 45)).alloc (.cells #[.int .i64 0, .int .i64 0] 27))
  have F0 := hid ((Blk.new' (((w.alloc (.cells #[.slice so d.secs.length scap, .slice po d.pend.length pcap, .bool d.off, .int .i64 d.fuse] 25)).alloc (.cells #[.int .i64 a.f, .int .i64 a.s] 27)).alloc (.cells #[.int .i64 b.f, .int .i64 b.s] 27)) [.int .u8 2, .int .u64 (m.epoch : Nat), .int .u64 0, .string m.pay] 45 (w.heap.size + 3) (by simp)).alloc (.cells #[.int .i64 0, .int .i64 0] 27))
  have Z0 := hid (Blk.new' ((((w.alloc (.cells #[.slice so d.secs.length scap, .slice po d.pend.length pcap, .bool d.off, .int .i64 d.fuse] 25)).alloc (.cells #[.int .i64 a.f, .int .i64 a.s] 27)).alloc (.cells #[.int .i64 b.f, .int .i64 b.s] 27)).alloc (.cells #[.int .u8 2, .int .u64 (m.epoch : Nat), .int .u64 0, .string m.pay] 45)) [.int .i64 0, .int .i64 0] 27 (w.heap.size + 4) (by simp))
  have hb0 : Below w.heap.size w (((((w.alloc (.cells #[.slice so d.secs.length scap, .slice po d.pend.length pcap, .bool d.off, .int .i64 d.fuse] 25)).alloc (.cells #[.int .i64 a.f, .int .i64 a.s] 27)).alloc (.cells #[.int .i64 b.f, .int .i64 b.s] 27)).alloc (.cells #[.int .u8 2, .int .u64 (m.epoch : Nat), .int .u64 0, .string m.pay] 45)).alloc (.cells #[.int .i64 0, .int .i64 0] 27)) := by go_grown
  generalize ((((w.alloc (.cells #[.slice so d.secs.length scap, .slice po d.pend.length pcap, .bool d.off, .int .i64 d.fuse] 25)).alloc (.cells #[.int .i64 a.f, .int .i64 a.s] 27)).alloc (.cells #[.int .i64 b.f, .int .i64 b.s] 27)).alloc (.cells #[.int .u8 2, .int .u64 (m.epoch : Nat), .int .u64 0, .string m.pay] 45)).alloc (.cells #[.int .i64 0, .int .i64 0] 27) = X0 at D0 A0 B0 F0 Z0 hb0 ⊢
  have hb0' := hid hb0
  clear hb0
  obtain ⟨d0, d1, d2, d3, df⟩ := D0.out.four
  obtain ⟨a0, a1, af⟩ := A0.out.two
  obtain ⟨b0, b1, bf⟩ := B0.out.two
  go_wp2_with fail
  refine (hld.out _ _ (hv.out.below hb0'.out)).mono ?_
  rintro e w1 ⟨rfl, b1⟩
  replace D0 := hid (D0.out.below b1 D0.out.lt)
  replace A0 := hid (A0.out.below b1 A0.out.lt)
  replace B0 := hid (B0.out.below b1 B0.out.lt)
  replace F0 := hid (F0.out.below b1 F0.out.lt)
  replace Z0 := hid (Z0.out.below b1 Z0.out.lt)
  replace hb0' := hid (bt hb0'.out b1)
  clear d0 d1 d2 d3 df a0 a1 af b0 b1 bf
  unfold imV
  have hal : Below w1.heap.size w1 (w1.alloc (.cells #[.int .u64 (X.im.epoch : Nat), .string X.im.pay] 30)) := (Below.refl _ w1).alloc (Nat.le_refl _) _
  have I0 := hid (Blk.new w1 [.int .u64 (X.im.epoch : Nat), .string X.im.pay] 30)
  replace D0 := hid (D0.out.below hal D0.out.lt)
  replace A0 := hid (A0.out.below hal A0.out.lt)
  replace B0 := hid (B0.out.below hal B0.out.lt)
  replace F0 := hid (F0.out.below hal F0.out.lt)
  replace Z0 := hid (Z0.out.below hal Z0.out.lt)
  replace hb0' := hid (bt hb0'.out hal)
  clear hld
  go_upto_region 2 with fail
  generalize w1.heap.size = n1 at I0 ⊢
  generalize w1.alloc (.cells #[.int .u64 (X.im.epoch : Nat), .string X.im.pay] 30) = X1 at hal D0 A0 B0 F0 Z0 I0 hb0' ⊢
  clear hal
  by_cases h9 : X.c = 9
  · have h9i : (X.c == 9) = true := by rw [h9]; rfl
    have h0i : (X.c != 0) = true := by rw [h9]; rfl
    replace hsl : Hid (slotE d a b m = if fchk 2 m.pay.size ≠ 0 then (⟨0, 0⟩, fchk 2 m.pay.size) else (a, 0)) := hid (by rw [hsl.out, if_neg (fun hx => hx.2 h9)]; split <;> first | rfl | rw [if_pos h9])
    clear h9
    generalize X.c = xc at h9i h0i ⊢
    obtain ⟨f0, f1, f2, f3, ff⟩ := F0.out.four
    go_wp2_with fail
    refine (hfc.out _).mono ?_
    rintro e w3 ⟨rfl, b3⟩
    replace A0 := hid (A0.out.below b3 A0.out.lt)
    replace Z0 := hid (Z0.out.below b3 Z0.out.lt)
    replace hb0' := hid (bt hb0'.out b3)
    clear f0 f1 f2 f3 ff b3 hfc h0i
    by_cases hf : fchk 2 m.pay.size = 0
    · have hfi : (fchk 2 m.pay.size != 0) = false := by rw [hf]; rfl
      have hE : Hid (slotE d a b m = (a, 0)) := hid (by rw [hsl.out, if_neg (by simpa using hf)])
      clear hf
      obtain ⟨a0, a1, af⟩ := A0.out.two
      obtain ⟨z0, z1, zf⟩ := Z0.out.two
      go_wp2_with fail
      obtain ⟨q0, q1, qf⟩ := (blk2 Z0.out (b0 := .int .i64 a.f) (b1 := .int .i64 a.s)).two
      refine bodyPost_ret (v := .tuple #[.agg #[.int .i64 a.f, .int .i64 a.s], .int .i64 0]) (by simp [results, Tryz.results15, go_sem, q0, q1]) rfl ?_
      rw [hE.out]
      exact ⟨rfl, below2 hb0'.out (by omega)⟩
    · have hfi : (fchk 2 m.pay.size != 0) = true := by simpa using hf
      have hE : Hid (slotE d a b m = (⟨0, 0⟩, fchk 2 m.pay.size)) := hid (by rw [hsl.out, if_pos hf])
      clear hf
      generalize fchk 2 m.pay.size = fc at hfi hE ⊢
      obtain ⟨z0, z1, zf⟩ := Z0.out.two
      go_wp2_with fail
      obtain ⟨q0, q1, qf⟩ := (blk2 Z0.out (b0 := .int .i64 0) (b1 := .int .i64 0)).two
      refine bodyPost_ret (v := .tuple #[.agg #[.int .i64 0, .int .i64 0], .int .i64 fc]) (by simp [results, Tryz.results15, go_sem, q0, q1]) rfl ?_
      rw [hE.out]
      exact ⟨rfl, below2 hb0'.out (by omega)⟩
  · have h9i : (X.c == 9) = false := beq_eq_false_iff_ne.2 h9
    by_cases h0 : X.c = 0
    · have h0i : (X.c != 0) = false := by rw [h0]; rfl
      replace hsl : Hid (slotE d a b m = if fchk 2 m.pay.size ≠ 0 then (⟨0, 0⟩, fchk 2 m.pay.size) else if m.epoch ≤ X.im.epoch then (⟨0, 0⟩, 1) else (if X.at' = 0 then b else a, 0)) := hid (by rw [hsl.out, if_neg (fun hx => hx.1 h0), if_neg h9])
      clear h9 h0
      generalize X.c = xc at h9i h0i ⊢
      obtain ⟨f0, f1, f2, f3, ff⟩ := F0.out.four
      go_wp2_with fail
      refine (hfc.out _).mono ?_
      rintro e w3 ⟨rfl, b3⟩
      replace A0 := hid (A0.out.below b3 A0.out.lt)
      replace B0 := hid (B0.out.below b3 B0.out.lt)
      replace F0 := hid (F0.out.below b3 F0.out.lt)
      replace I0 := hid (I0.out.below b3 I0.out.lt)
      replace Z0 := hid (Z0.out.below b3 Z0.out.lt)
      replace hb0' := hid (bt hb0'.out b3)
      clear f0 f1 f2 f3 ff b3 hfc h0i
      by_cases hf : fchk 2 m.pay.size = 0
      · have hfi : (fchk 2 m.pay.size != 0) = false := by rw [hf]; rfl
        replace hsl : Hid (slotE d a b m = if m.epoch ≤ X.im.epoch then (⟨0, 0⟩, 1) else (if X.at' = 0 then b else a, 0)) := hid (by rw [hsl.out, if_neg (by simpa using hf)])
        clear hf
        obtain ⟨f0, f1, f2, f3, ff⟩ := F0.out.four
        obtain ⟨i0, i1, iF⟩ := I0.out.two
        obtain ⟨z0, z1, zf⟩ := Z0.out.two
        by_cases hle : m.epoch ≤ X.im.epoch
        · have hli : (m.epoch : Int) ≤ (X.im.epoch : Int) := by omega
          have hE : Hid (slotE d a b m = (⟨0, 0⟩, 1)) := hid (by rw [hsl.out, if_pos hle])
          clear hle
          go_wp2_with fail
          obtain ⟨q0, q1, qf⟩ := (blk2 Z0.out (b0 := .int .i64 0) (b1 := .int .i64 0)).two
          refine bodyPost_ret (v := .tuple #[.agg #[.int .i64 0, .int .i64 0], .int .i64 1]) (by simp [results, Tryz.results15, go_sem, q0, q1]) rfl ?_
          rw [hE.out]
          exact ⟨rfl, below2 hb0'.out (by omega)⟩
        · have hli : ¬ (m.epoch : Int) ≤ (X.im.epoch : Int) := by omega
          replace hsl : Hid (slotE d a b m = (if X.at' = 0 then b else a, 0)) := hid (by rw [hsl.out, if_neg hle])
          clear hle
          obtain ⟨a0, a1, af⟩ := A0.out.two
          obtain ⟨b0, b1, bf⟩ := B0.out.two
          go_upto_region 13 with fail
          clear a0 a1 af b0 b1 bf f0 f1 f2 f3 ff i0 i1 iF z0 z1 zf
          have hal : Below w3.heap.size w3 (w3.alloc (.cells #[.int .i64 a.f, .int .i64 a.s, .int .i64 b.f, .int .i64 b.s] 41)) := (Below.refl _ w3).alloc (Nat.le_refl _) _
          have S0 := hid (Blk.new w3 [.int .i64 a.f, .int .i64 a.s, .int .i64 b.f, .int .i64 b.s] 41)
          replace Z0 := hid (Z0.out.below hal Z0.out.lt)
          replace hb0' := hid (bt hb0'.out hal)
          generalize w3.heap.size = n3 at S0 ⊢
          generalize w3.alloc (.cells #[.int .i64 a.f, .int .i64 a.s, .int .i64 b.f, .int .i64 b.s] 41) = X3 at hal Z0 S0 hb0' ⊢
          clear hal
          obtain ⟨s0, s1, s2, s3, sf⟩ := S0.out.four
          obtain ⟨z0, z1, zf⟩ := Z0.out.two
          have hx1 := hat.out
          rcases (by omega : X.at' = 0 ∨ X.at' = 1) with hx0 | hx0
          · have hE : Hid (slotE d a b m = (b, 0)) := hid (by rw [hsl.out, if_pos hx0])
            rw [hx0]
            clear hx0 hx1
            go_wp2_with fail
            obtain ⟨q0, q1, qf⟩ := (blk2 Z0.out (b0 := .int .i64 b.f) (b1 := .int .i64 b.s)).two
            refine bodyPost_ret (v := .tuple #[.agg #[.int .i64 b.f, .int .i64 b.s], .int .i64 0]) (by simp [results, Tryz.results15, go_sem, q0, q1]) rfl ?_
            rw [hE.out]
            exact ⟨rfl, below2 hb0'.out (by omega)⟩
          · have hE : Hid (slotE d a b m = (a, 0)) := hid (by rw [hsl.out, if_neg (by omega)])
            rw [hx0]
            clear hx0 hx1
            go_wp2_with fail
            obtain ⟨q0, q1, qf⟩ := (blk2 Z0.out (b0 := .int .i64 a.f) (b1 := .int .i64 a.s)).two
            refine bodyPost_ret (v := .tuple #[.agg #[.int .i64 a.f, .int .i64 a.s], .int .i64 0]) (by simp [results, Tryz.results15, go_sem, q0, q1]) rfl ?_
            rw [hE.out]
            exact ⟨rfl, below2 hb0'.out (by omega)⟩
      · have hfi : (fchk 2 m.pay.size != 0) = true := by simpa using hf
        have hE : Hid (slotE d a b m = (⟨0, 0⟩, fchk 2 m.pay.size)) := hid (by rw [hsl.out, if_pos hf])
        clear hf
        generalize fchk 2 m.pay.size = fc at hfi hE ⊢
        obtain ⟨z0, z1, zf⟩ := Z0.out.two
        go_wp2_with fail
        obtain ⟨q0, q1, qf⟩ := (blk2 Z0.out (b0 := .int .i64 0) (b1 := .int .i64 0)).two
        refine bodyPost_ret (v := .tuple #[.agg #[.int .i64 0, .int .i64 0], .int .i64 fc]) (by simp [results, Tryz.results15, go_sem, q0, q1]) rfl ?_
        rw [hE.out]
        exact ⟨rfl, below2 hb0'.out (by omega)⟩
    · have h0i : (X.c != 0) = true := by simpa using h0
      have hE : Hid (slotE d a b m = (⟨0, 0⟩, X.c)) := hid (by rw [hsl.out, if_pos ⟨h0, h9⟩])
      clear h9 h0
      generalize X.c = xc at h9i h0i hE ⊢
      obtain ⟨z0, z1, zf⟩ := Z0.out.two
      go_wp2_with fail
      obtain ⟨q0, q1, qf⟩ := (blk2 Z0.out (b0 := .int .i64 0) (b1 := .int .i64 0)).two
      refine bodyPost_ret (v := .tuple #[.agg #[.int .i64 0, .int .i64 0], .int .i64 xc]) (by simp [results, Tryz.results15, go_sem, q0, q1]) rfl ?_
      rw [hE.out]
      exact ⟨rfl, below2 hb0'.out (by omega)⟩
end Go.Proofs.YtiegocbdgimimaaGreat.Slot
namespace Go.Proofs.YtiegocbdgimimaaGreat.Slot
open Go.ChangeShapes Go.WideShapes Go.ChangeAt Go.RowKit
open Go.Proofs.YtiegocbdgimimaaGreat.Mem Go.Proofs.YtiegocbdgimimaaGreat.Rec Go.Proofs.YtiegocbdgimimaaGreat.Sector Go.Proofs.YtiegocbdgimimaaGreat.Wal
set_option linter.unusedVariables false
set_option maxRecDepth 100000
def Svd (w : World) (x : Disk × Int) (e0 : Ending) (w' : World) : Prop :=
  ∃ sv pv, e0 = .returned (.tuple #[.agg #[sv, pv, .bool x.1.off, .int .i64 x.1.fuse], .int .i64 x.2]) ∧ OwnDisk w.heap.size w' sv pv x.1 ∧ Below w.heap.size w w'
theorem imFr_has {m : Im} (h : m.has) : (imFr m).has := by
  obtain ⟨h1, h2⟩ := h
  constructor <;> first | (show (2 : Nat) < _; omega) | (show (0 : Nat) < _; omega) | exact h1 | exact h2 | (dsimp only [imFr]; omega)
theorem slotE_has {d : Disk} {a b : Rg} {m : Im} (ha : a.has) (hb : b.has) : (slotE d a b m).1.has := by
  have h0 : Rg.has ⟨0, 0⟩ := ⟨by decide, by decide, by decide, by decide⟩
  unfold slotE
  split
  · exact h0
  · split
    · exact h0
    · split
      · exact ha
      · split
        · exact h0
        · dsimp only
          split
          · exact hb
          · exact ha
set_option maxHeartbeats 8000000 in
theorem save_any (d : Disk) (v : Value) (a b : Rg) (m : Im) (w : World) (h : DiskV w v d) (hfu : (Lit.int .i64 d.fuse).wf = true) (ha : a.has) (hb : b.has) (hm : m.has) :
    Calls Tryz.prog 7 #[v, rgV a, rgV b, imV m] w (Svd w (saveE d a b m)) := by
  have hv := hid h
  have hcheck := hid (fun v W (h : DiskV W v d) => scheck_any d v a b W h ha hb)
  have hslot := hid (fun v W (h : DiskV W v d) => slotFor_any d v a b m W h ha hb hm)
  have happ := hid (fun v W (h : DiskV W v d) => append_any d v (slotE d a b m).1 0 (imFr m) W h hfu (slotE_has ha hb) (by decide) (imFr_has hm))
  have hsE := hid (show saveE d a b m = if slChk d a b ≠ 0 then (zeroDisk, slChk d a b) else if (slotE d a b m).2 ≠ 0 then (d, (slotE d a b m).2) else ((appE d (slotE d a b m).1 0 (imFr m)).d, if (appE d (slotE d a b m).1 0 (imFr m)).c = 16 then 17 else (appE d (slotE d a b m).1 0 (imFr m)).c) from rfl)
  generalize slotE d a b m = X at hslot happ hsE
  obtain ⟨sv, pv, rfl, hs, hp⟩ := h
  obtain ⟨so, scap, rfl, _⟩ := hs.form
  obtain ⟨po, pcap, rfl, _⟩ := hp.form
  clear hs hp ha hb hm hfu
  rw [show rgV a = .agg #[.int .i64 a.f, .int .i64 a.s] from rfl, show rgV b = .agg #[.int .i64 b.f, .int .i64 b.s] from rfl] at hcheck hslot ⊢
  rw [show frV (imFr m) = .agg #[.int .u8 2, .int .u64 (m.epoch : Nat), .int .u64 0, .string m.pay] from rfl] at hslot happ
  rw [show rgV X.1 = .agg #[.int .i64 X.1.f, .int .i64 X.1.s] from rfl] at happ
  rw [show imV m = .agg #[.int .u64 (m.epoch : Nat), .string m.pay] from rfl]
  go_enter Tryz.func7, Tryz.ntmps7
  go_upto_region 1 with fail
  have D0 := hid (((((Blk.new w [.slice so d.secs.length scap, .slice po d.pend.length pcap, .bool d.off, .int .i64 d.fuse] 25).alloc (.cells #[.int .i64 a.f, .int .i64 a.s] 27)).alloc (.cells #[.int .i64 b.f, .int .i64 b.s] 27)).alloc (.cells #[.int .u64 (m.epoch : Nat), .string m.pay] 30)).alloc (.cells #[.slice none 0 0, .slice none 0 0, .bool false, .int .i64 0] 25))
  have A0 := hid ((((Blk.new' (w.alloc (.cells #[.slice so d.secs.length scap, .slice po d.pend.length pcap, .bool d.off, .int .i64 d.fuse] 25)) [.int .i64 a.f, .int .i64 a.s] 27 (w.heap.size + 1) (by simp)).alloc (.cells #[.int .i64 b.f, .int .i64 b.s] 27)).alloc (.cells #[.int .u64 (m.epoch : Nat), .string m.pay] 30)).alloc (.cells #[.slice none 0 0, .slice none 0 0, .bool false, .int .i64 0] 25))
  have B0 := hid (((Blk.new' ((w.alloc (.cells #[.slice so d.secs.length scap, .slice po d.pend.length pcap, .bool d.off, .int .i64 d.fuse] 25)).alloc (.cells #[.int .i64 a.f, .int .i64 a.s] 27)) [.int .i64 b.f, .int .i64 b.s] 27 (w.heap.size + 2) (by simp)).alloc (.cells #[.int .u64 (m.epoch : Nat), .string m.pay] 30)).alloc (.cells #[.slice none 0 0, .slice none 0 0, .bool false, .int .i64 0] 25))
  have M0 := hid ((Blk.new' (((w.alloc (.cells #[.slice so d.secs.length scap, .slice po d.pend.length pcap, .bool d.off, .int .i64 d.fuse] 25)).alloc (.cells #[.int .i64 a.f, .int .i64 a.s] 27)).alloc (.cells #[.int .i64 b.f, .int .i64 b.s] 27)) [.int .u64 (m.epoch : Nat), .string m.pay] 30 (w.heap.size + 3) (by simp)).alloc (.cells #[.slice none 0 0, .slice none 0 0, .bool false, .int .i64 0] 25))
  have Z0 := hid (Blk.new' ((((w.alloc (.cells #[.slice so d.secs.length scap, .slice po d.pend.length pcap, .bool d.off, .int .i64 d.fuse] 25)).alloc (.cells #[.int .i64 a.f, .int .i64 a.s] 27)).alloc (.cells #[.int .i64 b.f, .int .i64 b.s] 27)).alloc (.cells #[.int .u64 (m.epoch : Nat), .string m.pay] 30)) [.slice none 0 0, .slice none 0 0, .bool false, .int .i64 0] 25 (w.heap.size + 4) (by simp))
  have hb0 : Below w.heap.size w (((((w.alloc (.cells #[.slice so d.secs.length scap, .slice po d.pend.length pcap, .bool d.off, .int .i64 d.fuse] 25)).alloc (.cells #[.int .i64 a.f, .int .i64 a.s] 27)).alloc (.cells #[.int .i64 b.f, .int .i64 b.s] 27)).alloc (.cells #[.int .u64 (m.epoch : Nat), .string m.pay] 30)).alloc (.cells #[.slice none 0 0, .slice none 0 0, .bool false, .int .i64 0] 25)) := by go_grown
  generalize ((((w.alloc (.cells #[.slice so d.secs.length scap, .slice po d.pend.length pcap, .bool d.off, .int .i64 d.fuse] 25)).alloc (.cells #[.int .i64 a.f, .int .i64 a.s] 27)).alloc (.cells #[.int .i64 b.f, .int .i64 b.s] 27)).alloc (.cells #[.int .u64 (m.epoch : Nat), .string m.pay] 30)).alloc (.cells #[.slice none 0 0, .slice none 0 0, .bool false, .int .i64 0] 25) = X0 at D0 A0 B0 M0 Z0 hb0 ⊢
  have hb0' := hid hb0
  clear hb0
  obtain ⟨d0, d1, d2, d3, df⟩ := D0.out.four
  obtain ⟨a0, a1, af⟩ := A0.out.two
  obtain ⟨b0, b1, bf⟩ := B0.out.two
  go_wp2_with fail
  refine (hcheck.out _ _ (hv.out.below hb0'.out)).mono ?_
  rintro e w1 ⟨rfl, b1'⟩
  replace D0 := hid (D0.out.below b1' D0.out.lt)
  replace A0 := hid (A0.out.below b1' A0.out.lt)
  replace B0 := hid (B0.out.below b1' B0.out.lt)
  replace M0 := hid (M0.out.below b1' M0.out.lt)
  replace Z0 := hid (Z0.out.below b1' Z0.out.lt)
  replace hb0' := hid (bt hb0'.out b1')
  clear d0 d1 d2 d3 df a0 a1 af b0 b1 bf
  by_cases hc : slChk d a b = 0
  · obtain ⟨c1, _, _⟩ := slChk_zero hc
    have hck := walChk_zero c1
    have hls := hid (okB_secs hck.1)
    have hlp := hid (okB_pend hck.1)
    replace hsE : Hid (saveE d a b m = if X.2 ≠ 0 then (d, X.2) else ((appE d X.1 0 (imFr m)).d, if (appE d X.1 0 (imFr m)).c = 16 then 17 else (appE d X.1 0 (imFr m)).c)) := hid (by rw [hsE.out, if_neg (by simpa using hc)])
    rw [hc]
    clear hc c1 hck hcheck b1'
    obtain ⟨m0, m1, mf⟩ := M0.out.two
    go_upto_region 5 with fail
    have hal : Below w1.heap.size w1 (w1.alloc (.cells #[.int .u8 2, .int .u64 (m.epoch : Nat), .int .u64 0, .string m.pay] 45)) := (Below.refl _ w1).alloc (Nat.le_refl _) _
    have F0 := hid (Blk.new w1 [.int .u8 2, .int .u64 (m.epoch : Nat), .int .u64 0, .string m.pay] 45)
    clear m0 m1 mf
    replace D0 := hid (D0.out.below hal D0.out.lt)
    replace A0 := hid (A0.out.below hal A0.out.lt)
    replace B0 := hid (B0.out.below hal B0.out.lt)
    replace Z0 := hid (Z0.out.below hal Z0.out.lt)
    replace hb0' := hid (bt hb0'.out hal)
    generalize w1.heap.size = n1 at F0 ⊢
    generalize w1.alloc (.cells #[.int .u8 2, .int .u64 (m.epoch : Nat), .int .u64 0, .string m.pay] 45) = X1 at hal D0 A0 B0 F0 Z0 hb0' ⊢
    clear hal M0
    obtain ⟨d0, d1, d2, d3, df⟩ := D0.out.four
    obtain ⟨a0, a1, af⟩ := A0.out.two
    obtain ⟨b0, b1, bf⟩ := B0.out.two
    obtain ⟨f0, f1, f2, f3, ff⟩ := F0.out.four
    go_upto_region 6 with fail
    refine (hslot.out _ _ (hv.out.below hb0'.out)).mono ?_
    rintro e w3 ⟨rfl, b3⟩
    replace D0 := hid (D0.out.below b3 D0.out.lt)
    replace F0 := hid (F0.out.below b3 F0.out.lt)
    replace Z0 := hid (Z0.out.below b3 Z0.out.lt)
    replace hb0' := hid (bt hb0'.out b3)
    clear d0 d1 d2 d3 df a0 a1 af b0 b1 bf f0 f1 f2 f3 ff
    clear b3 hslot A0 B0
    rw [show rgV X.1 = .agg #[.int .i64 X.1.f, .int .i64 X.1.s] from rfl]
    try dsimp only
    have hal : Below w3.heap.size w3 (w3.alloc (.cells #[.int .i64 X.1.f, .int .i64 X.1.s] 27)) := (Below.refl _ w3).alloc (Nat.le_refl _) _
    have S0 := hid (Blk.new w3 [.int .i64 X.1.f, .int .i64 X.1.s] 27)
    go_upto_region 6 with fail
    replace D0 := hid (D0.out.below hal D0.out.lt)
    replace F0 := hid (F0.out.below hal F0.out.lt)
    replace Z0 := hid (Z0.out.below hal Z0.out.lt)
    replace hb0' := hid (bt hb0'.out hal)
    generalize w3.heap.size = n3 at S0 ⊢
    generalize w3.alloc (.cells #[.int .i64 X.1.f, .int .i64 X.1.s] 27) = X3 at hal D0 F0 S0 Z0 hb0' ⊢
    clear hal
    by_cases hx : X.2 = 0
    · have hxi : (X.2 != 0) = false := by rw [hx]; rfl
      replace hsE : Hid (saveE d a b m = ((appE d X.1 0 (imFr m)).d, if (appE d X.1 0 (imFr m)).c = 16 then 17 else (appE d X.1 0 (imFr m)).c)) := hid (by rw [hsE.out, if_neg (by simpa using hx)])
      clear hx
      generalize X.2 = xc at hxi ⊢
      generalize appE d X.1 0 (imFr m) = x at happ hsE
      obtain ⟨d0, d1, d2, d3, df⟩ := D0.out.four
      obtain ⟨f0, f1, f2, f3, ff⟩ := F0.out.four
      obtain ⟨s0, s1, sf⟩ := S0.out.two
      go_upto_region 9 with fail
      refine (happ.out _ _ (hv.out.below hb0'.out)).mono ?_
      rintro e w4 hr4
      obtain ⟨so4, sc4, po4, pc4, rfl, o4, b4⟩ := hr4.open
      clear hr4
      have hsz := Z0.out.lt
      have o4' := hid (o4.mono (B' := w.heap.size + 5) (by omega))
      replace D0 := hid (D0.out.below b4 D0.out.lt)
      replace Z0 := hid (Z0.out.below b4 Z0.out.lt)
      replace hb0' := hid (bt hb0'.out b4)
      clear d0 d1 d2 d3 df f0 f1 f2 f3 ff s0 s1 sf
      clear o4 b4 F0 S0 hsz happ
      obtain ⟨d0, d1, d2, d3, df⟩ := D0.out.four
      go_upto_region 9 with fail
      obtain ⟨D3, O3, b3⟩ := box4 D0.out o4'.out (by omega : w.heap.size < w.heap.size + 5) hb0'.out (Nat.le_refl _) (.slice so4 x.d.secs.length sc4) (.slice po4 x.d.pend.length pc4) (.bool x.d.off) (.int .i64 x.d.fuse)
      have Z3 := hid ((((Z0.out.other (p := ⟨w.heap.size, 0, none⟩) (by simp) (.slice so4 x.d.secs.length sc4)).other (p := ⟨w.heap.size, 1, none⟩) (by simp) (.slice po4 x.d.pend.length pc4)).other (p := ⟨w.heap.size, 2, none⟩) (by simp) (.bool x.d.off)).other (p := ⟨w.heap.size, 3, none⟩) (by simp) (.int .i64 x.d.fuse))
      clear d0 d1 d2 d3 df D0 Z0 o4' hb0'
      generalize (((w4.setCell ⟨w.heap.size, 0, none⟩ (.slice so4 x.d.secs.length sc4)).setCell ⟨w.heap.size, 1, none⟩ (.slice po4 x.d.pend.length pc4)).setCell ⟨w.heap.size, 2, none⟩ (.bool x.d.off)).setCell ⟨w.heap.size, 3, none⟩ (.int .i64 x.d.fuse) = X4 at D3 Z3 O3 b3 ⊢
      by_cases h16 : x.c = 16
      · have h16i : (x.c == 16) = true := by rw [h16]; rfl
        have hE : Hid (saveE d a b m = (x.d, 17)) := hid (by rw [hsE.out, if_pos h16])
        clear h16
        obtain ⟨d0, d1, d2, d3, df⟩ := D3.out.four
        obtain ⟨z0, z1, z2, z3, zf⟩ := Z3.out.four
        obtain ⟨Z5, O5, b5⟩ := box4 Z3.out O3.out (by omega : w.heap.size + 4 < w.heap.size + 5) b3.out (by omega : w.heap.size ≤ w.heap.size + 4) (.slice so4 x.d.secs.length sc4) (.slice po4 x.d.pend.length pc4) (.bool x.d.off) (.int .i64 x.d.fuse)
        go_wp2_with fail
        obtain ⟨q0, q1, q2, q3, qf⟩ := Z5.out.four
        refine bodyPost_ret (v := .tuple #[.agg #[.slice so4 x.d.secs.length sc4, .slice po4 x.d.pend.length pc4, .bool x.d.off, .int .i64 x.d.fuse], .int .i64 17]) (by simp [results, Tryz.results7, go_sem, q0, q1, q2, q3]) rfl ?_
        rw [hE.out]
        exact ⟨_, _, rfl, OwnDisk.mono (B := w.heap.size + 5) (d := x.d) ⟨O5.out.secs, O5.out.far⟩ (by omega), b5.out⟩
      · have h16i : (x.c == 16) = false := beq_eq_false_iff_ne.2 h16
        have hE : Hid (saveE d a b m = (x.d, x.c)) := hid (by rw [hsE.out, if_neg h16])
        clear h16
        obtain ⟨d0, d1, d2, d3, df⟩ := D3.out.four
        obtain ⟨z0, z1, z2, z3, zf⟩ := Z3.out.four
        obtain ⟨Z5, O5, b5⟩ := box4 Z3.out O3.out (by omega : w.heap.size + 4 < w.heap.size + 5) b3.out (by omega : w.heap.size ≤ w.heap.size + 4) (.slice so4 x.d.secs.length sc4) (.slice po4 x.d.pend.length pc4) (.bool x.d.off) (.int .i64 x.d.fuse)
        go_wp2_with fail
        obtain ⟨q0, q1, q2, q3, qf⟩ := Z5.out.four
        refine bodyPost_ret (v := .tuple #[.agg #[.slice so4 x.d.secs.length sc4, .slice po4 x.d.pend.length pc4, .bool x.d.off, .int .i64 x.d.fuse], .int .i64 x.c]) (by simp [results, Tryz.results7, go_sem, q0, q1, q2, q3]) rfl ?_
        rw [hE.out]
        exact ⟨_, _, rfl, OwnDisk.mono (B := w.heap.size + 5) (d := x.d) ⟨O5.out.secs, O5.out.far⟩ (by omega), b5.out⟩
    · have hxi : (X.2 != 0) = true := by simpa using hx
      have hE : Hid (saveE d a b m = (d, X.2)) := hid (by rw [hsE.out, if_pos hx])
      clear hx happ
      generalize X.2 = xc at hxi hE ⊢
      obtain ⟨d0, d1, d2, d3, df⟩ := D0.out.four
      go_wp2_with fail
      refine (copied_any d _ _ (hv.out.below hb0'.out) hls.out hlp.out).mono ?_
      rintro e w4 ⟨sv4, pv4, rfl, o4, b4⟩
      obtain ⟨so4, sc4, rfl, _⟩ := ownsRow_form o4.secs
      obtain ⟨po4, pc4, rfl, _⟩ := ownsRow_form o4.pend
      have hsz := Z0.out.lt
      have Z4 := hid (Z0.out.below b4 Z0.out.lt)
      obtain ⟨Z5, O5, b5⟩ := box4 Z4.out (o4.mono (B' := w.heap.size + 5) (by omega)) (by omega : w.heap.size + 4 < w.heap.size + 5) (bt hb0'.out b4) (by omega : w.heap.size ≤ w.heap.size + 4) (.slice so4 d.secs.length sc4) (.slice po4 d.pend.length pc4) (.bool d.off) (.int .i64 d.fuse)
      clear d0 d1 d2 d3 df
      obtain ⟨z0, z1, z2, z3, zf⟩ := Z4.out.four
      go_wp2_with fail
      obtain ⟨q0, q1, q2, q3, qf⟩ := Z5.out.four
      refine bodyPost_ret (v := .tuple #[.agg #[.slice so4 d.secs.length sc4, .slice po4 d.pend.length pc4, .bool d.off, .int .i64 d.fuse], .int .i64 xc]) (by simp [results, Tryz.results7, go_sem, q0, q1, q2, q3]) rfl ?_
      rw [hE.out]
      exact ⟨_, _, rfl, OwnDisk.mono (B := w.heap.size + 5) (d := d) ⟨O5.out.secs, O5.out.far⟩ (by omega), b5.out⟩
  · have hq : (slChk d a b != 0) = true := by simpa using hc
    have hE : Hid (saveE d a b m = (zeroDisk, slChk d a b)) := hid (by rw [hsE.out, if_pos hc])
    clear hc
    generalize slChk d a b = c at hE hq ⊢
    have hsz := Z0.out.lt
    have zo : OwnDisk (w.heap.size + 5) w1 (.slice none 0 0) (.slice none 0 0) zeroDisk := zero_own (by omega)
    obtain ⟨Z5, O5, b5⟩ := box4 Z0.out zo (by omega : w.heap.size + 4 < w.heap.size + 5) hb0'.out (by omega : w.heap.size ≤ w.heap.size + 4) (.slice none 0 0) (.slice none 0 0) (.bool false) (.int .i64 0)
    clear zo hsz
    obtain ⟨z0, z1, z2, z3, zf⟩ := Z0.out.four
    go_wp2_with fail
    obtain ⟨q0, q1, q2, q3, qf⟩ := Z5.out.four
    refine bodyPost_ret (v := .tuple #[.agg #[.slice none 0 0, .slice none 0 0, .bool false, .int .i64 0], .int .i64 c]) (by simp [results, Tryz.results7, go_sem, q0, q1, q2, q3]) rfl ?_
    rw [hE.out]
    exact ⟨_, _, rfl, OwnDisk.mono (B := w.heap.size + 5) (d := zeroDisk) ⟨O5.out.secs, O5.out.far⟩ (by omega), b5.out⟩
end Go.Proofs.YtiegocbdgimimaaGreat.Slot
namespace Go.Proofs.YtiegocbdgimimaaGreat.Slot
open Go.ChangeShapes Go.WideShapes Go.ChangeAt Go.RowKit
open Go.Proofs.YtiegocbdgimimaaGreat.Mem Go.Proofs.YtiegocbdgimimaaGreat.Rec Go.Proofs.YtiegocbdgimimaaGreat.Sector Go.Proofs.YtiegocbdgimimaaGreat.Wal
set_option linter.unusedVariables false
set_option maxRecDepth 100000
def m1w : Im := ⟨1, ⟨#[120]⟩⟩
def m2w : Im := ⟨2, ⟨#[]⟩⟩
theorem m1w_has : m1w.has := ⟨by decide, by decide⟩
theorem m2w_has : m2w.has := ⟨by decide, by decide⟩
theorem rga_has : Rg.has ⟨0, 2⟩ := ⟨by decide, by decide, by decide, by decide⟩
theorem rgb_has : Rg.has ⟨2, 2⟩ := ⟨by decide, by decide, by decide, by decide⟩
theorem f_new : newE 4 = (fresh 2, 0) := by kernel_rfl
theorem lives_data : ∃ D E, loadE (fresh 2) ⟨0, 2⟩ ⟨2, 2⟩ = ⟨zeroIm, 0, 9⟩ ∧ saveE (fresh 2) ⟨0, 2⟩ ⟨2, 2⟩ m1w = (D, 0) ∧ (Lit.int .i64 D.fuse).wf = true ∧ loadE D ⟨0, 2⟩ ⟨2, 2⟩ = ⟨m1w, 0, 0⟩ ∧ saveE D ⟨0, 2⟩ ⟨2, 2⟩ m2w = (E, 0) ∧ loadE E ⟨0, 2⟩ ⟨2, 2⟩ = ⟨m2w, 1, 0⟩ := by
  have l0 := fresh_load (S := 2) (by omega) (by omega)
  have c0 := fresh_chk (S := 2) (by omega) (by omega)
  rw [show ((2 : Nat) : Int) = 2 from rfl] at l0 c0
  have t0 : toE (fresh 2) ⟨0, 2⟩ ⟨2, 2⟩ = ⟨0, 2⟩ := by unfold toE; rw [l0]; rfl
  rcases save_live (m := m1w) c0 rfl (by decide) (by decide) with ⟨h, _⟩ | ⟨_, h, _⟩ | ⟨_, h, _⟩ | ⟨D, h, hf⟩
  · exact absurd h (by decide)
  · rw [l0] at h; exact absurd h (by decide)
  · rw [t0] at h; exact absurd h (by decide)
  · have x := save_ok (m := m1w) (by decide) h
    have l1 := x.load
    rw [l0, if_neg (by decide)] at l1
    have t1 : toE D ⟨0, 2⟩ ⟨2, 2⟩ = ⟨2, 2⟩ := by unfold toE; rw [l1]; rfl
    have hfu : D.fuse = -1 := hf
    rcases save_live (m := m2w) x.chk x.off (by rw [hfu]; decide) (by rw [x.pend]; decide) with ⟨g, _⟩ | ⟨_, _, g, _⟩ | ⟨_, g, _⟩ | ⟨E, g, _⟩
    · exact absurd g (by decide)
    · rw [l1] at g; exact absurd g (by decide)
    · rw [t1] at g; exact absurd g (by decide)
    · have l2 := (save_ok (m := m2w) (by decide) g).load
      rw [l1, if_pos (by decide)] at l2
      exact ⟨D, E, l0, h, by rw [hfu]; decide, l1, g, l2⟩
theorem Svd.open {w : World} {x : Disk × Int} {e : Ending} {w' : World} (h : Svd w x e w') : ∃ so sc po pc, e = .returned (.tuple #[.agg #[.slice so x.1.secs.length sc, .slice po x.1.pend.length pc, .bool x.1.off, .int .i64 x.1.fuse], .int .i64 x.2]) ∧
    OwnDisk w.heap.size w' (.slice so x.1.secs.length sc) (.slice po x.1.pend.length pc) x.1 ∧ Below w.heap.size w w' := by
  obtain ⟨sv, pv, he, ho, hb⟩ := h
  obtain ⟨so, sc, rfl, _⟩ := ownsRow_form ho.secs
  obtain ⟨po, pc, rfl, _⟩ := ownsRow_form ho.pend
  exact ⟨so, sc, po, pc, he, ho, hb⟩
set_option maxHeartbeats 4000000 in
theorem lives_any (w : World) : Calls Tryz.prog 9 #[] w fun e w' => e = .returned (.bool true) ∧ Below w.heap.size w w' := by
  obtain ⟨D, E, h1, h2, h3, h4, h5, h6⟩ := lives_data
  have hl0 := hid (fun v W (h : DiskV W v (fresh 2)) => h1 ▸ load_any (fresh 2) v ⟨0, 2⟩ ⟨2, 2⟩ W h rga_has rgb_has)
  have hs1 := hid (fun v W (h : DiskV W v (fresh 2)) => h2 ▸ save_any (fresh 2) v ⟨0, 2⟩ ⟨2, 2⟩ m1w W h (by decide) rga_has rgb_has m1w_has)
  have hl1 := hid (fun v W (h : DiskV W v D) => h4 ▸ load_any D v ⟨0, 2⟩ ⟨2, 2⟩ W h rga_has rgb_has)
  have hs2 := hid (fun v W (h : DiskV W v D) => h5 ▸ save_any D v ⟨0, 2⟩ ⟨2, 2⟩ m2w W h h3 rga_has rgb_has m2w_has)
  have hl2 := hid (fun v W (h : DiskV W v E) => h6 ▸ load_any E v ⟨0, 2⟩ ⟨2, 2⟩ W h rga_has rgb_has)
  clear h1 h2 h3 h4 h5 h6
  rw [show rgV ⟨0, 2⟩ = .agg #[.int .i64 0, .int .i64 2] from rfl, show rgV ⟨2, 2⟩ = .agg #[.int .i64 2, .int .i64 2] from rfl] at hl0 hs1 hl1 hs2 hl2
  rw [show imV m1w = .agg #[.int .u64 1, .string ⟨#[120]⟩] from rfl] at hs1
  rw [show imV m2w = .agg #[.int .u64 2, .string ⟨#[]⟩] from rfl] at hs2
  go_enter Tryz.func9, Tryz.ntmps9
  go_wp2_with fail
  refine (new_any 4 _).mono ?_
  rw [f_new]
  rintro e w1 hr
  obtain ⟨so1, sc1, po1, pc1, rfl, o1, b1⟩ := hr.open
  dsimp only at o1
  clear hr
  have b1' := hid b1
  clear b1
  go_wp2_with fail
  have D0 := hid (((Blk.new w1 [.slice so1 (fresh 2).secs.length sc1, .slice po1 (fresh 2).pend.length pc1, .bool (fresh 2).off, .int .i64 (fresh 2).fuse] 25).alloc (.cells #[.int .i64 0, .int .i64 2] 27)).alloc (.cells #[.int .i64 2, .int .i64 2] 27))
  have A0 := hid ((Blk.new' (w1.alloc (.cells #[.slice so1 (fresh 2).secs.length sc1, .slice po1 (fresh 2).pend.length pc1, .bool (fresh 2).off, .int .i64 (fresh 2).fuse] 25)) [.int .i64 0, .int .i64 2] 27 (w1.heap.size + 1) (by simp)).alloc (.cells #[.int .i64 2, .int .i64 2] 27))
  have B0 := hid (Blk.new' ((w1.alloc (.cells #[.slice so1 (fresh 2).secs.length sc1, .slice po1 (fresh 2).pend.length pc1, .bool (fresh 2).off, .int .i64 (fresh 2).fuse] 25)).alloc (.cells #[.int .i64 0, .int .i64 2] 27)) [.int .i64 2, .int .i64 2] 27 (w1.heap.size + 2) (by simp))
  have hal : Below w1.heap.size w1 (((w1.alloc (.cells #[.slice so1 (fresh 2).secs.length sc1, .slice po1 (fresh 2).pend.length pc1, .bool (fresh 2).off, .int .i64 (fresh 2).fuse] 25)).alloc (.cells #[.int .i64 0, .int .i64 2] 27)).alloc (.cells #[.int .i64 2, .int .i64 2] 27)) := by go_grown
  have hbw := hid (bt b1'.out hal)
  have O0 := hid (o1.below hal)
  generalize ((w1.alloc (.cells #[.slice so1 (fresh 2).secs.length sc1, .slice po1 (fresh 2).pend.length pc1, .bool (fresh 2).off, .int .i64 (fresh 2).fuse] 25)).alloc (.cells #[.int .i64 0, .int .i64 2] 27)).alloc (.cells #[.int .i64 2, .int .i64 2] 27) = X0 at D0 A0 B0 hal hbw O0 ⊢
  have hn1 := hid b1'.out.size
  rw [show w1.heap.size + 1 + 1 = w1.heap.size + 2 from rfl]
  generalize w1.heap.size = n1 at D0 A0 B0 hn1 ⊢
  clear hal o1 b1'
  obtain ⟨d0, d1, d2, d3, df⟩ := D0.out.four
  obtain ⟨a0, a1, af⟩ := A0.out.two
  obtain ⟨b0, b1, bf⟩ := B0.out.two
  refine (hl0.out _ _ O0.out.v).mono ?_
  rintro e w3 ⟨rfl, b9⟩
  clear d0 d1 d2 d3 df a0 a1 af b0 b1 bf
  replace D0 := hid (D0.out.below b9 D0.out.lt)
  replace A0 := hid (A0.out.below b9 A0.out.lt)
  replace B0 := hid (B0.out.below b9 B0.out.lt)
  replace hbw := hid (bt hbw.out b9)
  replace O0 := hid (O0.out.below b9)
  clear b9 hl0
  unfold imV
  try dsimp only
  rw [show ((zeroIm.epoch : Nat) : Int) = 0 from rfl, show zeroIm.pay = ⟨#[]⟩ from rfl]
  go_upto_region 4 with fail
  have hal : Below w3.heap.size w3 (w3.alloc (.cells #[.int .u64 0, .string ⟨#[]⟩] 30)) := (Below.refl _ w3).alloc (Nat.le_refl _) _
  replace D0 := hid (D0.out.below hal D0.out.lt)
  replace A0 := hid (A0.out.below hal A0.out.lt)
  replace B0 := hid (B0.out.below hal B0.out.lt)
  replace hbw := hid (bt hbw.out hal)
  replace O0 := hid (O0.out.below hal)
  generalize w3.alloc (.cells #[.int .u64 0, .string ⟨#[]⟩] 30) = X3 at hal D0 A0 B0 O0 hbw ⊢
  clear hal
  obtain ⟨d0, d1, d2, d3, df⟩ := D0.out.four
  obtain ⟨a0, a1, af⟩ := A0.out.two
  obtain ⟨b0, b1, bf⟩ := B0.out.two
  go_wp2_with fail
  have hlt := hid D0.out.lt
  refine (hs1.out _ _ O0.out.v).mono ?_
  rintro e w4 hr
  obtain ⟨so4, sc4, po4, pc4, rfl, o9, b9⟩ := hr.open
  dsimp only at o9
  clear hr hs1
  clear d0 d1 d2 d3 df a0 a1 af b0 b1 bf
  replace D0 := hid (D0.out.below b9 D0.out.lt)
  replace A0 := hid (A0.out.below b9 A0.out.lt)
  replace B0 := hid (B0.out.below b9 B0.out.lt)
  replace hbw := hid (bt hbw.out b9)
  clear O0 b9
  obtain ⟨d0, d1, d2, d3, df⟩ := D0.out.four
  go_upto_region 5 with fail
  clear d0 d1 d2 d3 df
  obtain ⟨D9, O0, c9⟩ := box4 D0.out o9 hlt.out hbw.out hn1.out (.slice so4 D.secs.length sc4) (.slice po4 D.pend.length pc4) (.bool D.off) (.int .i64 D.fuse)
  replace A0 := hid ((((A0.out.other (p := ⟨n1, 0, none⟩) (by first | (simp; done) | (have := hm1.out; dsimp only; omega)) (.slice so4 D.secs.length sc4)).other (p := ⟨n1, 1, none⟩) (by first | (simp; done) | (have := hm1.out; dsimp only; omega)) (.slice po4 D.pend.length pc4)).other (p := ⟨n1, 2, none⟩) (by first | (simp; done) | (have := hm1.out; dsimp only; omega)) (.bool D.off)).other (p := ⟨n1, 3, none⟩) (by first | (simp; done) | (have := hm1.out; dsimp only; omega)) (.int .i64 D.fuse))
  replace B0 := hid ((((B0.out.other (p := ⟨n1, 0, none⟩) (by first | (simp; done) | (have := hm1.out; dsimp only; omega)) (.slice so4 D.secs.length sc4)).other (p := ⟨n1, 1, none⟩) (by first | (simp; done) | (have := hm1.out; dsimp only; omega)) (.slice po4 D.pend.length pc4)).other (p := ⟨n1, 2, none⟩) (by first | (simp; done) | (have := hm1.out; dsimp only; omega)) (.bool D.off)).other (p := ⟨n1, 3, none⟩) (by first | (simp; done) | (have := hm1.out; dsimp only; omega)) (.int .i64 D.fuse))
  clear D0 hbw o9 hlt
  generalize (((w4.setCell ⟨n1, 0, none⟩ (.slice so4 D.secs.length sc4)).setCell ⟨n1, 1, none⟩ (.slice po4 D.pend.length pc4)).setCell ⟨n1, 2, none⟩ (.bool D.off)).setCell ⟨n1, 3, none⟩ (.int .i64 D.fuse) = X4 at D9 A0 B0 O0 c9 ⊢
  have D0 := hid D9.out
  have hbw := hid c9.out
  clear D9 c9
  obtain ⟨d0, d1, d2, d3, df⟩ := D0.out.four
  obtain ⟨a0, a1, af⟩ := A0.out.two
  obtain ⟨b0, b1, bf⟩ := B0.out.two
  go_wp2_with fail
  refine (hl1.out _ _ O0.out.v).mono ?_
  rintro e w5 ⟨rfl, b9⟩
  clear d0 d1 d2 d3 df a0 a1 af b0 b1 bf
  replace D0 := hid (D0.out.below b9 D0.out.lt)
  replace A0 := hid (A0.out.below b9 A0.out.lt)
  replace B0 := hid (B0.out.below b9 B0.out.lt)
  replace hbw := hid (bt hbw.out b9)
  replace O0 := hid (O0.out.below b9)
  clear b9 hl1
  unfold imV
  try dsimp only
  rw [show ((m1w.epoch : Nat) : Int) = 1 from rfl, show m1w.pay = ⟨#[120]⟩ from rfl]
  go_upto_region 6 with fail
  have hal : Below w5.heap.size w5 (w5.alloc (.cells #[.int .u64 1, .string ⟨#[120]⟩] 30)) := (Below.refl _ w5).alloc (Nat.le_refl _) _
  have M0 := hid (Blk.new w5 [.int .u64 1, .string ⟨#[120]⟩] 30)
  have hm1 := hid (show n1 < w5.heap.size from D0.out.lt)
  replace D0 := hid (D0.out.below hal D0.out.lt)
  replace A0 := hid (A0.out.below hal A0.out.lt)
  replace B0 := hid (B0.out.below hal B0.out.lt)
  replace hbw := hid (bt hbw.out hal)
  replace O0 := hid (O0.out.below hal)
  generalize w5.heap.size = n5 at M0 hm1 ⊢
  generalize w5.alloc (.cells #[.int .u64 1, .string ⟨#[120]⟩] 30) = X5 at hal D0 A0 B0 M0 O0 hbw ⊢
  clear hal
  obtain ⟨d0, d1, d2, d3, df⟩ := D0.out.four
  obtain ⟨a0, a1, af⟩ := A0.out.two
  obtain ⟨b0, b1, bf⟩ := B0.out.two
  go_wp2_with fail
  have hlt := hid D0.out.lt
  refine (hs2.out _ _ O0.out.v).mono ?_
  rintro e w6 hr
  obtain ⟨so6, sc6, po6, pc6, rfl, o9, b9⟩ := hr.open
  dsimp only at o9
  clear hr hs2
  clear d0 d1 d2 d3 df a0 a1 af b0 b1 bf
  replace D0 := hid (D0.out.below b9 D0.out.lt)
  replace A0 := hid (A0.out.below b9 A0.out.lt)
  replace B0 := hid (B0.out.below b9 B0.out.lt)
  replace M0 := hid (M0.out.below b9 M0.out.lt)
  replace hbw := hid (bt hbw.out b9)
  clear O0 b9
  obtain ⟨d0, d1, d2, d3, df⟩ := D0.out.four
  go_upto_region 7 with fail
  clear d0 d1 d2 d3 df
  obtain ⟨D9, O0, c9⟩ := box4 D0.out o9 hlt.out hbw.out hn1.out (.slice so6 E.secs.length sc6) (.slice po6 E.pend.length pc6) (.bool E.off) (.int .i64 E.fuse)
  replace A0 := hid ((((A0.out.other (p := ⟨n1, 0, none⟩) (by first | (simp; done) | (have := hm1.out; dsimp only; omega)) (.slice so6 E.secs.length sc6)).other (p := ⟨n1, 1, none⟩) (by first | (simp; done) | (have := hm1.out; dsimp only; omega)) (.slice po6 E.pend.length pc6)).other (p := ⟨n1, 2, none⟩) (by first | (simp; done) | (have := hm1.out; dsimp only; omega)) (.bool E.off)).other (p := ⟨n1, 3, none⟩) (by first | (simp; done) | (have := hm1.out; dsimp only; omega)) (.int .i64 E.fuse))
  replace B0 := hid ((((B0.out.other (p := ⟨n1, 0, none⟩) (by first | (simp; done) | (have := hm1.out; dsimp only; omega)) (.slice so6 E.secs.length sc6)).other (p := ⟨n1, 1, none⟩) (by first | (simp; done) | (have := hm1.out; dsimp only; omega)) (.slice po6 E.pend.length pc6)).other (p := ⟨n1, 2, none⟩) (by first | (simp; done) | (have := hm1.out; dsimp only; omega)) (.bool E.off)).other (p := ⟨n1, 3, none⟩) (by first | (simp; done) | (have := hm1.out; dsimp only; omega)) (.int .i64 E.fuse))
  replace M0 := hid ((((M0.out.other (p := ⟨n1, 0, none⟩) (by first | (simp; done) | (have := hm1.out; dsimp only; omega)) (.slice so6 E.secs.length sc6)).other (p := ⟨n1, 1, none⟩) (by first | (simp; done) | (have := hm1.out; dsimp only; omega)) (.slice po6 E.pend.length pc6)).other (p := ⟨n1, 2, none⟩) (by first | (simp; done) | (have := hm1.out; dsimp only; omega)) (.bool E.off)).other (p := ⟨n1, 3, none⟩) (by first | (simp; done) | (have := hm1.out; dsimp only; omega)) (.int .i64 E.fuse))
  clear D0 hbw o9 hlt
  generalize (((w6.setCell ⟨n1, 0, none⟩ (.slice so6 E.secs.length sc6)).setCell ⟨n1, 1, none⟩ (.slice po6 E.pend.length pc6)).setCell ⟨n1, 2, none⟩ (.bool E.off)).setCell ⟨n1, 3, none⟩ (.int .i64 E.fuse) = X6 at D9 A0 B0 M0 O0 c9 ⊢
  have D0 := hid D9.out
  have hbw := hid c9.out
  clear D9 c9
  obtain ⟨d0, d1, d2, d3, df⟩ := D0.out.four
  obtain ⟨a0, a1, af⟩ := A0.out.two
  obtain ⟨b0, b1, bf⟩ := B0.out.two
  go_wp2_with fail
  refine (hl2.out _ _ O0.out.v).mono ?_
  rintro e w7 ⟨rfl, b9⟩
  clear d0 d1 d2 d3 df a0 a1 af b0 b1 bf
  replace D0 := hid (D0.out.below b9 D0.out.lt)
  replace A0 := hid (A0.out.below b9 A0.out.lt)
  replace B0 := hid (B0.out.below b9 B0.out.lt)
  replace M0 := hid (M0.out.below b9 M0.out.lt)
  replace hbw := hid (bt hbw.out b9)
  replace O0 := hid (O0.out.below b9)
  clear b9 hl2
  unfold imV
  try dsimp only
  rw [show ((m2w.epoch : Nat) : Int) = 2 from rfl, show m2w.pay = ⟨#[]⟩ from rfl]
  go_upto_region 8 with fail
  have hal : Below w7.heap.size w7 (w7.alloc (.cells #[.int .u64 2, .string ⟨#[]⟩] 30)) := (Below.refl _ w7).alloc (Nat.le_refl _) _
  replace D0 := hid (D0.out.below hal D0.out.lt)
  replace A0 := hid (A0.out.below hal A0.out.lt)
  replace B0 := hid (B0.out.below hal B0.out.lt)
  replace M0 := hid (M0.out.below hal M0.out.lt)
  replace hbw := hid (bt hbw.out hal)
  replace O0 := hid (O0.out.below hal)
  generalize w7.alloc (.cells #[.int .u64 2, .string ⟨#[]⟩] 30) = X7 at hal D0 A0 B0 M0 O0 hbw ⊢
  clear hal
  obtain ⟨m0, m1, mf⟩ := M0.out.two
  go_wp2_with fail
  go_ret
  exact ⟨rfl, hbw.out⟩
end Go.Proofs.YtiegocbdgimimaaGreat.Slot
namespace Go.Proofs.YtiegocbdgimimaaGreat.Slot
open Go.ChangeShapes Go.WideShapes Go.ChangeAt Go.RowKit
open Go.Proofs.YtiegocbdgimimaaGreat.Mem Go.Proofs.YtiegocbdgimimaaGreat.Rec Go.Proofs.YtiegocbdgimimaaGreat.Sector Go.Proofs.YtiegocbdgimimaaGreat.Wal
set_option linter.unusedVariables false
set_option maxRecDepth 100000
open Go.Joins Go.Deep
theorem open_image {H : Type} {enc : TypeId × Value → H} {W : World} {r : Reach} {b0 : Nat} {v : Value} {d : DataW H} {p : List MemPlace} (hv : Value.okWide Tryz.prog W r b0 30 v) (h : DataW.Trod enc Tryz.prog W 0 (fun _ => true) true 30 v d p) :
    ∃ m : Im, v = imV m ∧ m.has := by
  obtain ⟨v0, v1, y0, y1, n, rfl, _, _, t0, t1⟩ := open_agg2 Tryz.underlying30 (by kernel_rfl) (by kernel_rfl) hv h
  obtain ⟨ep, e0, _, h0⟩ := DataW.trod_int Tryz.underlying28 t0
  obtain ⟨s, e1, _, h1⟩ := DataW.trod_string Tryz.underlying9 t1
  obtain rfl : v0 = .int .u64 ep := by simpa using e0
  obtain rfl : v1 = .string s := by simpa using e1
  obtain ⟨ep', rfl, hep⟩ := Crc.nat_u64 h0
  exact ⟨⟨ep', s⟩, rfl, hep, by unfold maxLen at h1; show s.size ≤ _; omega⟩
end Go.Proofs.YtiegocbdgimimaaGreat.Slot
