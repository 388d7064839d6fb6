/-
  The slots: what they are as data, and the contracts of their functions.
-/
import Derived.Test.YtiegocbdgimimaaWalLog
import Derived.Test.YtiegocbdgimimaaSectorNew
import Derived.Test.YtiegocbdgimimaaWalCalls
import Derived.Test.YtiegocbdgimimaaRecArgs
import Derived.Test.YtiegocbdgimimaaSectorOpen
import Derived.SliceStrings
import Derived.Test.YtiegocbdgimimaaWalAppend
import Derived.Test.YtiegocbdgimimaaWalScan
import Derived.Test.YtiegocbdgimimaaFrSame
import Derived.Test.YtiegocbdgimimaaRound
import Derived.Deep.DrawnRows
import Derived.Deep.DeepCutAuto
namespace Go.Proofs.Ytiegocbdgimimaa.Wal
open Go.Proofs.Ytiegocbdgimimaa.Mem Go.Proofs.Ytiegocbdgimimaa.Rec Go.Proofs.Ytiegocbdgimimaa.Sector
set_option linter.unusedVariables false
set_option maxRecDepth 10000
theorem secsL_size (f : Fr) : ∀ s ∈ secsL f, s.size = 64 := by
  intro s hs
  simp only [secsL, List.mem_cons, List.mem_map, List.mem_range] at hs
  rcases hs with rfl | ⟨i, _, rfl⟩
  · rw [bs_size, headL_len]
  · rw [bs_size, pieceL_len _ _ (by rw [part_len]; omega)]
theorem run_first {d e : Disk} {x : Stp} {l : List Stp} (h : runE d (x :: l) = (e, 0)) : okB d = true ∧ d.off = false := by
  obtain ⟨d1, h1, _⟩ := runE_cons h
  cases x with
  | put n s => obtain ⟨a, b, _⟩ := put_inv h1; exact ⟨a, b⟩
  | syn => obtain ⟨a, b, _⟩ := sync_inv h1; exact ⟨a, b⟩
theorem lay_first {n : Int} {hd : ByteArray} {t : List ByteArray} {d e : Disk} (h : runE d (layE n hd t) = (e, 0)) : okB d = true ∧ d.off = false := by
  unfold layE at h
  cases t with
  | nil => exact run_first h
  | cons s t => exact run_first h
theorem walChk_of {d e : Disk} {r : Rg} (h : walChk d r = 0) (ok : okB e = true) (hl : e.secs.length = d.secs.length) : walChk e r = 0 := by
  obtain ⟨h1, h2, h3, h4, h5⟩ := walChk_zero h
  unfold walChk
  rw [ok, if_neg (by simp), if_neg]
  simp [rgB]; omega
/-- A frame was appended. -/
structure Appd (d : Disk) (r : Rg) (a : Int) (f : Fr) (e : Disk) (te : Int) : Prop where
  ok0 : walChk d r = 0
  off0 : d.off = false
  chk : fchk f.kind f.pay.size = 0
  a0 : 0 ≤ a
  room : a + ((pcs f.pay.size : Nat) + 1) ≤ r.s
  till : te = a + ((pcs f.pay.size : Nat) + 1)
  ok : okB e = true
  off : e.off = false
  pend : e.pend = []
  len : e.secs.length = d.secs.length
  now' : ∀ i : Int, 0 ≤ i → i < d.secs.length → now e i = if r.f + a ≤ i ∧ i < r.f + te then (secsL f).getD (i - (r.f + a)).toNat ⟨#[]⟩ else now d i
theorem sectorsE_zero {f : Fr} (h : (sectorsE f).2 = 0) : fchk f.kind f.pay.size = 0 ∧ sectorsE f = (secsL f, 0) := by
  unfold sectorsE at h ⊢
  by_cases hc : fchk f.kind f.pay.size = 0
  · rw [if_pos hc]; exact ⟨hc, rfl⟩
  · rw [if_neg hc] at h; exact absurd h hc
theorem lay_secs {f : Fr} {d e : Disk} {r : Rg} {a : Int} (h0 : walChk d r = 0) (a0 : 0 ≤ a) (hroom : a + ((pcs f.pay.size : Nat) + 1) ≤ r.s) (h : runE d (layE (r.f + a) ((secsL f).headD ⟨#[]⟩) (secsL f).tail) = (e, 0)) (hc : fchk f.kind f.pay.size = 0) :
    Appd d r a f e (a + ((pcs f.pay.size : Nat) + 1)) := by
  obtain ⟨k1, k2, k3, k4, k5⟩ := walChk_zero h0
  obtain ⟨t, hL, htl⟩ := secsL_head f
  rw [hL] at h
  dsimp only [List.headD_cons, List.tail_cons] at h
  generalize bs (headL (hdOf f)) = hd at h hL
  obtain ⟨q1, q2⟩ := lay_first h
  obtain ⟨p1, p2, p3, p4, p5⟩ := lay_done (r.f + a) hd t d e (by omega) (by omega) k1 h
  refine ⟨h0, q2, hc, a0, hroom, rfl, p1, p2, p3, p4, fun i i0 i1 => ?_⟩
  rw [p5 i i0 i1, hL, ← htl]
  by_cases e1 : i = r.f + a
  · rw [if_pos e1, if_pos (by omega)]
    have : (i - (r.f + a)).toNat = 0 := by omega
    rw [this]; rfl
  · rw [if_neg e1]
    by_cases e2 : r.f + a + 1 ≤ i ∧ i < r.f + a + 1 + t.length
    · rw [if_pos e2, if_pos (by omega)]
      have : (i - (r.f + a)).toNat = (i - (r.f + a + 1)).toNat + 1 := by omega
      rw [this]; rfl
    · rw [if_neg e2, if_neg (by omega)]
theorem app_ok {d e : Disk} {r : Rg} {a te : Int} {f : Fr} (h : appE d r a f = ⟨e, te, 0⟩) : Appd d r a f e te := by
  unfold appE at h
  by_cases h0 : walChk d r = 0
  · rw [if_neg (by simpa using h0)] at h
    by_cases h1 : (sectorsE f).2 = 0
    · obtain ⟨hc, hs⟩ := sectorsE_zero h1
      rw [if_neg (by simpa using h1), hs] at h
      by_cases h2 : a < 0 ∨ r.s < a
      · rw [if_pos h2] at h; simp at h
      · rw [if_neg h2] at h
        dsimp only at h
        by_cases h3 : r.s - a < ((secsL f).length : Int)
        · rw [if_pos h3] at h; simp at h
        · rw [if_neg h3] at h
          rw [secsL_len] at h h3
          have hroom : a + ((pcs f.pay.size : Nat) + 1) ≤ r.s := by push_cast at h3; omega
          generalize hx : runE d (layE (r.f + a) ((secsL f).headD ⟨#[]⟩) (secsL f).tail) = x at h
          by_cases h4 : x.2 = 0
          · rw [if_neg (by simpa using h4)] at h
            simp only [Ap.mk.injEq] at h
            obtain ⟨e1, e2, _⟩ := h
            have := lay_secs (e := x.1) h0 (by omega) hroom (by rw [hx, ← h4]) hc
            rw [← e1, ← e2]
            push_cast
            exact this
          · rw [if_pos h4] at h
            simp only [Ap.mk.injEq] at h
            exact absurd h.2.2 h4
    · rw [if_pos h1] at h
      simp only [Ap.mk.injEq] at h
      exact absurd h.2.2 h1
  · rw [if_pos h0] at h
    simp only [Ap.mk.injEq] at h
    exact absurd h.2.2 h0
theorem Appd.chk' {d e : Disk} {r : Rg} {a te : Int} {f : Fr} (x : Appd d r a f e te) : walChk e r = 0 := walChk_of x.ok0 x.ok x.len
theorem Appd.out {d e : Disk} {r : Rg} {a te : Int} {f : Fr} (x : Appd d r a f e te) {i : Nat} (hi : (i : Int) < r.s) (ho : (i : Int) < a ∨ te ≤ i) : cont e r i = cont d r i := by
  obtain ⟨k1, k2, k3, k4, k5⟩ := walChk_zero x.ok0
  rw [cont_now x.chk' x.off hi, cont_now x.ok0 x.off0 hi, x.now' _ (by omega) (by omega), if_neg (by omega)]
theorem Appd.lies {d e : Disk} {r : Rg} {te : Int} {f : Fr} {a : Nat} (x : Appd d r a f e te) (hf : f.okn) : Lies (cont e r) r.s.toNat a f (pcs f.pay.size + 1) := by
  obtain ⟨k1, k2, k3, k4, k5⟩ := walChk_zero x.ok0
  have hr := x.room
  have ht := x.till
  refine ⟨hf, x.chk, rfl, by omega, ?_⟩
  apply List.ext_getElem
  · rw [texts_len, secsL_len]
  · intro i h1 h2
    rw [texts_len] at h1
    simp only [texts, List.getElem_map, List.getElem_range]
    rw [cont_now x.chk' x.off (by omega), x.now' _ (by omega) (by omega), if_pos (by omega)]
    have : (r.f + ((a + i : Nat) : Int) - (r.f + (a : Int))).toNat = i := by omega
    rw [this]
    simp [List.getD, h2]
/-! ### a disk of which the power never goes -/
theorem put_live {d : Disk} {n : Int} {s : ByteArray} (ok : okB d = true) (off : d.off = false) (hf : d.fuse < 0) (hr : refuseE d n s = 0) : putE d n s = (putD d n s, 0) ∧ (putD d n s).fuse = d.fuse := by
  rcases put_go ok off hr with ⟨_, h⟩ | h
  · exact ⟨h, by unfold putD; dsimp only; rw [if_neg (by omega)]⟩
  · exfalso
    unfold putE workE at h
    rw [ok, hr, if_neg (by simp), off, if_neg (by simp), if_neg (by simp), if_neg (by omega)] at h
    simp at h
theorem sync_live {d : Disk} (ok : okB d = true) (off : d.off = false) (hf : d.fuse < 0) : syncE d = (synD d, 0) ∧ (synD d).fuse = d.fuse := by
  rcases sync_go ok off with ⟨_, h⟩ | h
  · exact ⟨h, by unfold synD; dsimp only; rw [if_neg (by omega)]⟩
  · exfalso
    unfold syncE workE at h
    rw [ok, if_neg (by simp), off, if_neg (by simp), if_neg (by simp), if_neg (by omega)] at h
    simp at h
theorem puts_live (t : List ByteArray) : ∀ (d : Disk) (m : Int), okB d = true → d.off = false → d.fuse < 0 → 0 ≤ m → m + t.length ≤ d.secs.length → (∀ s ∈ t, s.size = 64) → d.pend.length + t.length ≤ 4096 →
    ∃ e, runE d (puts m t) = (e, 0) ∧ e.fuse = d.fuse := by
  induction t with
  | nil => intro d m ok off _ _ _ _ _; exact ⟨d, rfl, rfl⟩
  | cons s t ih =>
    intro d m ok off hf h0 h1 hs hp
    rw [List.length_cons] at h1 hp
    have hr : refuseE d m s = 0 := refuse_ok h0 (by push_cast at h1; omega) (hs s List.mem_cons_self) (by omega)
    obtain ⟨h, hfu⟩ := put_live ok off hf hr
    simp only [puts, runE, stpE, h, if_true]
    obtain ⟨e, e1, e2⟩ := ih (putD d m s) (m + 1) (ok_put ok hr) rfl (by omega) (by omega) (by show m + 1 + _ ≤ (d.secs.length : Int); push_cast at h1; omega) (fun x hx => hs x (List.mem_cons_of_mem _ hx)) (by show (d.pend ++ [(m, s)]).length + _ ≤ _; simp; omega)
    exact ⟨e, e1, by rw [e2, hfu]⟩
theorem lay_live (n : Int) (hd : ByteArray) (t : List ByteArray) (d : Disk) (hn : 0 ≤ n) (hl : n + t.length < d.secs.length) (ok : okB d = true) (off : d.off = false) (hf : d.fuse < 0) (hh : hd.size = 64) (ht : ∀ s ∈ t, s.size = 64) (hp : d.pend.length + t.length ≤ 4000) :
    ∃ e, runE d (layE n hd t) = (e, 0) ∧ e.fuse = d.fuse := by
  unfold layE
  rw [runE_app]
  obtain ⟨d1, q1, q2⟩ := puts_live t d (n + 1) ok off hf (by omega) (by omega) ht (by omega)
  obtain ⟨a1, a2, a3, a4⟩ := puts_done t d d1 (n + 1) q1
  rw [q1, if_pos rfl]
  obtain ⟨s1, s2⟩ := sync_live (a3 ok) (a4 off) (by omega)
  have okS := ok_syn (a3 ok)
  have hr : refuseE (synD d1) n hd = 0 := refuse_ok hn (by rw [synD_len, a1]; omega) hh (by simp [synD])
  obtain ⟨s3, s4⟩ := put_live okS (by show d1.off = false; exact a4 off) (by omega) hr
  obtain ⟨s5, s6⟩ := sync_live (ok_put okS hr) rfl (by omega)
  refine ⟨synD (putD (synD d1) n hd), ?_, by omega⟩
  simp only [runE, stpE, s1, s3, s5, if_true]
/-- Appending to a disk of which the power never goes. -/
theorem app_live {d : Disk} {r : Rg} {a : Int} {f : Fr} (h0 : walChk d r = 0) (off : d.off = false) (hf : d.fuse < 0) (hp : d.pend.length ≤ 1000) (ha : 0 ≤ a) (ha2 : a ≤ r.s) (hk : f.kind ≠ 0) :
    (16384 < f.pay.size ∧ appE d r a f = ⟨d, 0, 3⟩) ∨ (f.pay.size ≤ 16384 ∧ r.s - a < (pcs f.pay.size : Nat) + 1 ∧ appE d r a f = ⟨d, 0, 16⟩) ∨ (∃ e, appE d r a f = ⟨e, a + ((pcs f.pay.size : Nat) + 1), 0⟩ ∧ e.fuse = d.fuse) := by
  obtain ⟨k1, k2, k3, k4, k5⟩ := walChk_zero h0
  unfold appE
  rw [if_neg (by simpa using h0)]
  by_cases h1 : (sectorsE f).2 = 0
  · obtain ⟨hc, hs⟩ := sectorsE_zero h1
    have hps := (fchk_zero hc).2
    rw [if_neg (by simpa using h1), hs, if_neg (by omega)]
    dsimp only
    rw [secsL_len]
    by_cases h3 : r.s - a < ((pcs f.pay.size + 1 : Nat) : Int)
    · rw [if_pos h3]; exact .inr (.inl ⟨hps, by push_cast at h3; omega, rfl⟩)
    · rw [if_neg h3]
      obtain ⟨t, hL, htl⟩ := secsL_head f
      have hsz := secsL_size f
      have hpc : pcs f.pay.size ≤ 269 := by unfold pcs; omega
      rw [hL] at hsz ⊢
      generalize bs (headL (hdOf f)) = hd at hsz
      obtain ⟨e, e1, e2⟩ := lay_live (r.f + a) hd t d (by omega) (by push_cast at h3; omega) k1 off hf (hsz hd List.mem_cons_self) (fun s hs => hsz s (List.mem_cons_of_mem _ hs)) (by omega)
      dsimp only [List.headD_cons, List.tail_cons]
      refine .inr (.inr ⟨e, ?_, e2⟩)
      simp [e1]
  · rw [if_pos h1]
    have hc : fchk f.kind f.pay.size ≠ 0 := fun hc => h1 (by unfold sectorsE; rw [if_pos hc])
    have hv : (sectorsE f).2 = fchk f.kind f.pay.size := by unfold sectorsE; rw [if_neg hc]
    rw [hv]
    unfold fchk at hc ⊢
    rw [if_neg hk] at hc ⊢
    by_cases hl : 16384 < f.pay.size
    · rw [if_pos hl]; exact .inl ⟨hl, rfl⟩
    · rw [if_neg hl] at hc; exact absurd rfl hc
theorem blank_head : headE Sector.blank.data.toList = (zeroHd, 14) := by
  have : headOk Sector.blank.data.toList = false := by
    unfold headOk
    rw [show (readHd Sector.blank.data.toList).kind = 0 from rfl]
    simp
  unfold headE
  rw [this]; rfl
theorem blank_none {h : Nat → ByteArray} {s a : Nat} (hb : h a = Sector.blank) : frAt h s a = (zeroFr, 0) := by
  unfold frAt
  by_cases h1 : s ≤ a
  · rw [if_pos h1]
  · rw [if_neg h1, hb, blank_head, if_pos (by decide)]
/-- A log that was written frame by frame into zero bytes. -/
structure Written (d : Disk) (S ep at' : Nat) (l : List Fr) : Prop where
  chk : walChk d ⟨0, S⟩ = 0
  off : d.off = false
  fuse : d.fuse = -1
  pend : d.pend = []
  len : d.secs.length = S
  num : cnt (cont d ⟨0, S⟩) S ep = l.length
  log : logF (cont d ⟨0, S⟩) S ep = l
  till : endF (cont d ⟨0, S⟩) S ep = at'
  rest : ∀ i, at' ≤ i → i < S → cont d ⟨0, S⟩ i = Sector.blank
theorem none_good {h : Nat → ByteArray} {s ep k : Nat} (hf : (frAt h s (pos h s k)).2 = 0) : good h s ep k = false := by unfold good; rw [hf]; simp
theorem rest_none {h : Nat → ByteArray} {S a : Nat} (hr : ∀ i, a ≤ i → i < S → h i = Sector.blank) : (frAt h S a).2 = 0 := by
  by_cases hs : S ≤ a
  · unfold frAt; rw [if_pos hs]
  · rw [blank_none (hr a (Nat.le_refl _) (by omega))]
theorem Written.more {d e : Disk} {S ep at' : Nat} {l : List Fr} {te : Int} {f : Fr} (w : Written d S ep at' l) (h : appE d ⟨0, S⟩ at' f = ⟨e, te, 0⟩) (hfu : e.fuse = d.fuse) (hf : f.okn) (hep : f.epoch = ep) (hsq : f.seq = l.length) (hl : l.length ≤ 1000) :
    Written e S ep (at' + (pcs f.pay.size + 1)) (l ++ [f]) ∧ te = ((at' + (pcs f.pay.size + 1) : Nat) : Int) := by
  have x := app_ok h
  have hr := x.room
  have ht := x.till
  have li := x.lies hf
  dsimp only at hr li
  rw [Int.toNat_natCast] at li
  have hout : ∀ i, i < at' → cont e ⟨0, S⟩ i = cont d ⟨0, S⟩ i := fun i hi => x.out (by dsimp only; omega) (.inl (by omega))
  rw [← w.till] at li
  obtain ⟨m1, m2, m3, m4, m5⟩ := log_more (by rw [w.till]; exact hout) (by rw [w.num]; omega) li hep (by rw [w.num]; exact hsq)
  have hrest : ∀ i, at' + (pcs f.pay.size + 1) ≤ i → i < S → cont e ⟨0, S⟩ i = Sector.blank := fun i hi hi2 => by
    rw [x.out (by dsimp only; omega) (.inr (by omega))]; exact w.rest i (by omega) hi2
  rw [w.num] at m1 m2 m3 m4 m5
  rw [w.till] at m4 m5
  have hng : good (cont e ⟨0, S⟩) S ep (l.length + 1) = false := none_good (by rw [m5]; exact rest_none hrest)
  have hnum : cnt (cont e ⟨0, S⟩) S ep = l.length + 1 := by
    rcases Nat.lt_or_ge (l.length + 1) (cnt (cont e ⟨0, S⟩) S ep) with hlt | hge
    · rw [cnt_good _ _ _ hlt] at hng; exact absurd hng (by simp)
    · omega
  refine ⟨⟨x.chk', x.off, by rw [hfu, w.fuse], x.pend, by rw [x.len, w.len], by rw [hnum]; simp, ?_, ?_, hrest⟩, by rw [ht]; push_cast; rfl⟩
  · unfold logF
    rw [hnum, List.range_succ, List.map_append, List.map_singleton, m3]
    have hlog := w.log
    unfold logF at hlog
    rw [w.num] at hlog
    have hmap : (List.range l.length).map (fun k => (frAt (cont e ⟨0, S⟩) S (pos (cont e ⟨0, S⟩) S k)).1) = (List.range l.length).map (fun k => (frAt (cont d ⟨0, S⟩) S (pos (cont d ⟨0, S⟩) S k)).1) := List.map_congr_left (fun k hk => m2 k (List.mem_range.1 hk))
    rw [hmap, hlog]
  · unfold endF
    rw [hnum, m5]
theorem Written.other {d : Disk} {S ep at' : Nat} {l : List Fr} (w : Written d S ep at' l) {o : Nat} (ho : o ≠ ep) : logF (cont d ⟨0, S⟩) S o = [] ∧ endF (cont d ⟨0, S⟩) S o = 0 := by
  have hc : cnt (cont d ⟨0, S⟩) S o = 0 := by
    refine cnt_is _ _ _ 0 (by omega) (fun j hj => absurd hj (by omega)) (fun _ => ?_)
    rcases Nat.eq_zero_or_pos l.length with h0 | hpos
    · have : at' = 0 := by rw [← w.till]; unfold endF; rw [w.num, h0]; rfl
      exact none_good (rest_none (fun i hi hi2 => w.rest i (by omega) hi2))
    · have hg := cnt_good (cont d ⟨0, S⟩) S ep (j := 0) (by rw [w.num]; exact hpos)
      obtain ⟨_, he, _⟩ := good_lies hg
      unfold good
      rw [he, decide_eq_false (p := ep = o) (fun e => ho e.symm)]
      simp
  constructor
  · unfold logF; rw [hc]; rfl
  · unfold endF; rw [hc]; rfl
theorem Written.start {S ep : Nat} (h1 : 1 ≤ S) (h2 : S ≤ 1024) : Written ⟨List.replicate S Sector.blank, [], false, -1⟩ S ep 0 [] := by
  have ok : okB ⟨List.replicate S Sector.blank, [], false, -1⟩ = true := okm (by simpa using h1) (by simpa using h2) (by simp) (fun s hs => by rw [List.eq_of_mem_replicate hs]; decide) (by simp)
  have hck : walChk ⟨List.replicate S Sector.blank, [], false, -1⟩ ⟨0, S⟩ = 0 := by
    unfold walChk
    rw [ok, if_neg (by simp), if_neg]
    simp [rgB]; omega
  have hr : ∀ i, 0 ≤ i → i < S → cont ⟨List.replicate S Sector.blank, [], false, -1⟩ ⟨0, S⟩ i = Sector.blank := fun i _ hi => by
    rw [cont_now hck rfl (by dsimp only; omega)]
    simp [now, heldS, lastW, List.getD, hi]
  have hc : cnt (cont ⟨List.replicate S Sector.blank, [], false, -1⟩ ⟨0, S⟩) S ep = 0 := cnt_is _ _ _ 0 (by omega) (fun j hj => absurd hj (by omega)) (fun _ => none_good (rest_none hr))
  exact ⟨hck, rfl, rfl, rfl, by simp, hc, by unfold logF; rw [hc]; rfl, by unfold endF; rw [hc]; rfl, hr⟩
end Go.Proofs.Ytiegocbdgimimaa.Wal
namespace Go.Proofs.Ytiegocbdgimimaa.Wal
open Go.ChangeShapes Go.WideShapes Go.ChangeAt Go.RowKit
open Go.Proofs.Ytiegocbdgimimaa.Mem Go.Proofs.Ytiegocbdgimimaa.Rec Go.Proofs.Ytiegocbdgimimaa.Sector
set_option linter.unusedVariables false
set_option maxRecDepth 100000
open Go.Joins Go.Deep
theorem open_region {H : Type} {enc : TypeId × Value → H} {W : World} {r : Reach} {b0 : Nat} {v : Value} {d : DataW H} {p : List MemPlace} (hv : Value.okWide Try.prog W r b0 27 v) (h : DataW.Trod enc Try.prog W 0 (fun _ => true) true 27 v d p) :
    ∃ f : Rg, v = rgV f ∧ f.has := by
  obtain ⟨v0, v1, y0, y1, n, rfl, _, _, t0, t1⟩ := open_agg2 Try.underlying27 (by kernel_rfl) (by kernel_rfl) hv h
  obtain ⟨a, e0, _, h0⟩ := DataW.trod_int Try.underlying3 t0
  obtain ⟨b, e1, _, h1⟩ := DataW.trod_int Try.underlying3 t1
  obtain rfl : v0 = .int .i64 a := by simpa using e0
  obtain rfl : v1 = .int .i64 b := by simpa using e1
  have g0 := bounds_i64 h0
  have g1 := bounds_i64 h1
  exact ⟨⟨a, b⟩, rfl, g0.1, g0.2, g1.1, g1.2⟩
theorem open_textz {H : Type} {enc : TypeId × Value → H} {W : World} {n : Nat} {v : Value} {x : DataW H × List MemPlace} (h : DataW.trod enc Try.prog W 0 (fun _ => true) true n 22 [v] = some x) : ∃ l, StrsV W v l ∧ ∀ s ∈ l, s.size ≤ maxLen := by
  rcases open_strings Try.underlying22 Try.underlying9 (by kernel_rfl) h with ⟨hcs, _⟩ | ⟨a, len, cap, ss, hcs, _, hl, hm, hss, _, hc, hz⟩
  · obtain rfl : v = .slice none 0 0 := by simpa using hcs
    exact ⟨[], SlV.nil W, by simp⟩
  · obtain rfl : v = .slice (some a) len cap := by simpa using hcs
    simp only [if_true] at hss
    have hlen : (ss.take len).length = len := by rw [List.length_take]; omega
    refine ⟨ss.take len, ⟨some a, cap, by rw [hlen], by rw [hlen]; exact hl, hm, by simp, fun h => ?_, fun b hb j hj => ?_⟩, fun s hs => hz s (List.mem_of_mem_take hs)⟩
    · rw [hlen] at h; subst h; simp [strC]
    · cases hb
      have hj' : j < len := by rw [strC_len, hlen] at hj; exact hj
      rw [hc j (by omega), strC_get _ j (by rw [hlen]; exact hj')]
      simp [List.getD, show j < ss.length by omega]
end Go.Proofs.Ytiegocbdgimimaa.Wal
namespace Go.Proofs.Ytiegocbdgimimaa.Wal
open Go.ChangeShapes Go.WideShapes Go.ChangeAt Go.RowKit
open Go.Proofs.Ytiegocbdgimimaa.Mem Go.Proofs.Ytiegocbdgimimaa.Rec Go.Proofs.Ytiegocbdgimimaa.Sector
set_option linter.unusedVariables false
set_option maxRecDepth 100000
def f0w : Fr := ⟨1, 7, 0, ⟨#[]⟩⟩
def f1w : Fr := ⟨1, 7, 1, ⟨#[120]⟩⟩
theorem f0w_has : f0w.has := ⟨by decide, by decide, by decide, by decide⟩
theorem f1w_has : f1w.has := ⟨by decide, by decide, by decide, by decide⟩
theorem rg2_has : Rg.has ⟨0, 2⟩ := ⟨by decide, by decide, by decide, by decide⟩
theorem lives_data : ∃ D, appE l1 ⟨0, 2⟩ 0 f0w = ⟨D, 1, 0⟩ ∧ (Lit.int .i64 D.fuse).wf = true ∧ appE D ⟨0, 2⟩ 1 f1w = ⟨D, 0, 16⟩ ∧ scanE D ⟨0, 2⟩ 7 = ([f0w], 1, 0) ∧ scanE D ⟨0, 2⟩ 8 = ([], 0, 0) := by
  have s0 : Written l1 2 7 0 [] := Written.start (by omega) (by omega)
  have p0 : pcs f0w.pay.size = 0 := rfl
  have p1 : pcs f1w.pay.size = 1 := rfl
  rcases app_live (r := ⟨0, 2⟩) (a := 0) (f := f0w) s0.chk s0.off (by rw [s0.fuse]; decide) (by rw [s0.pend]; decide) (by omega) (by decide) (by decide) with ⟨h, _⟩ | ⟨_, h, _⟩ | ⟨D, h, hf⟩
  · exact absurd h (by decide)
  · rw [p0] at h; exact absurd h (by decide)
  · rw [p0] at h
    obtain ⟨s1, ht⟩ := s0.more (at' := 0) (S := 2) (f := f0w) h hf ⟨by decide, by decide, by decide, by decide⟩ rfl rfl (by decide)
    rw [p0] at s1
    refine ⟨D, h, ?_, ?_, ?_, ?_⟩
    · rw [s1.fuse]; decide
    · rcases app_live (r := ⟨0, 2⟩) (a := 1) (f := f1w) s1.chk s1.off (by rw [s1.fuse]; decide) (by rw [s1.pend]; decide) (by omega) (by decide) (by decide) with ⟨g, _⟩ | ⟨_, _, g⟩ | ⟨e, g, _⟩
      · exact absurd g (by decide)
      · exact g
      · have := (app_ok g).room
        rw [p1] at this; exact absurd this (by decide)
    · unfold scanE
      have hc : walChk D ⟨0, 2⟩ = 0 := s1.chk
      rw [if_neg (by rw [hc]; simp), if_neg (by rw [s1.off]; simp)]
      have e1 : logF (cont D ⟨0, 2⟩) 2 7 = [] ++ [f0w] := s1.log
      have e2 : endF (cont D ⟨0, 2⟩) 2 7 = 0 + (0 + 1) := s1.till
      show (logF (cont D ⟨0, 2⟩) 2 7, endF (cont D ⟨0, 2⟩) 2 7, (0 : Int)) = _
      rw [e1, e2]; rfl
    · unfold scanE
      have hc : walChk D ⟨0, 2⟩ = 0 := s1.chk
      rw [if_neg (by rw [hc]; simp), if_neg (by rw [s1.off]; simp)]
      obtain ⟨e1, e2⟩ := s1.other (o := 8) (by decide)
      have e1 : logF (cont D ⟨0, 2⟩) 2 8 = [] := e1
      have e2 : endF (cont D ⟨0, 2⟩) 2 8 = 0 := e2
      show (logF (cont D ⟨0, 2⟩) 2 8, endF (cont D ⟨0, 2⟩) 2 8, (0 : Int)) = _
      rw [e1, e2]
theorem Apd.open {w : World} {x : Ap} {e : Ending} {w' : World} (h : Apd w x e w') : ∃ so sc po pc, e = .returned (.tuple #[.agg #[.slice so x.d.secs.length sc, .slice po x.d.pend.length pc, .bool x.d.off, .int .i64 x.d.fuse], .int .i64 x.at', .int .i64 x.c]) ∧
    OwnDisk w.heap.size w' (.slice so x.d.secs.length sc) (.slice po x.d.pend.length pc) x.d ∧ Below w.heap.size w w' := by
  obtain ⟨sv, pv, he, ho, hb⟩ := h
  obtain ⟨so, sc, rfl, _⟩ := ownsRow_form ho.secs
  obtain ⟨po, pc, rfl, _⟩ := ownsRow_form ho.pend
  exact ⟨so, sc, po, pc, he, ho, hb⟩
set_option maxHeartbeats 4000000 in
theorem lives_any (w : World) : Calls Try.prog 8 #[] w fun e w' => e = .returned (.bool true) ∧ Below w.heap.size w w' := by
  obtain ⟨D, h1, h2, h3, h4, h5⟩ := lives_data
  have hap := hid (fun v W (h : DiskV W v l1) => h1 ▸ append_any l1 v ⟨0, 2⟩ 0 f0w W h (by decide) rg2_has (by decide) f0w_has)
  have hap2 := hid (fun v W (h : DiskV W v D) => h3 ▸ append_any D v ⟨0, 2⟩ 1 f1w W h h2 rg2_has (by decide) f1w_has)
  have hsc := hid (fun v W (h : DiskV W v D) => h4 ▸ scan_any D v ⟨0, 2⟩ 7 W h rg2_has)
  have hsc2 := hid (fun v W (h : DiskV W v D) => h5 ▸ scan_any D v ⟨0, 2⟩ 8 W h rg2_has)
  clear h1 h2 h3 h4 h5
  rw [show rgV ⟨0, 2⟩ = .agg #[.int .i64 0, .int .i64 2] from rfl] at hap hap2 hsc hsc2
  rw [show frV f0w = .agg #[.int .u8 1, .int .u64 7, .int .u64 0, .string ⟨#[]⟩] from rfl] at hap
  rw [show frV f1w = .agg #[.int .u8 1, .int .u64 7, .int .u64 1, .string ⟨#[120]⟩] from rfl] at hap2
  go_enter Try.func8, Try.ntmps8
  go_wp2_with fail
  refine (new_any 2 _).mono ?_
  rw [l_new]
  rintro e w1 hr
  obtain ⟨so1, sc1, po1, pc1, rfl, o1, b1⟩ := hr.open
  dsimp only at o1
  clear hr
  have b1' := hid b1
  clear b1
  go_wp2_with fail
  have K1 := (Blk.new w1 [.slice so1 l1.secs.length sc1, .slice po1 l1.pend.length pc1, .bool l1.off, .int .i64 l1.fuse] 25).alloc (.cells #[.int .i64 0, .int .i64 2] 27)
  have K2 := Blk.new' (w1.alloc (.cells #[.slice so1 l1.secs.length sc1, .slice po1 l1.pend.length pc1, .bool l1.off, .int .i64 l1.fuse] 25)) [.int .i64 0, .int .i64 2] 27 (w1.heap.size + 1) (by simp)
  have hal : Below w1.heap.size w1 ((w1.alloc (.cells #[.slice so1 l1.secs.length sc1, .slice po1 l1.pend.length pc1, .bool l1.off, .int .i64 l1.fuse] 25)).alloc (.cells #[.int .i64 0, .int .i64 2] 27)) := by go_grown
  have hb := hid (bt b1'.out hal)
  have u1 := hid (o1.v.below hal)
  generalize (w1.alloc (.cells #[.slice so1 l1.secs.length sc1, .slice po1 l1.pend.length pc1, .bool l1.off, .int .i64 l1.fuse] 25)).alloc (.cells #[.int .i64 0, .int .i64 2] 27) = X2 at K1 K2 hal hb u1 ⊢
  have hn1 := b1'.out.size
  generalize w1.heap.size = n1 at K1 K2 hn1 ⊢
  clear hal o1 b1'
  have hlt := K1.lt
  refine (hap.out _ _ u1.out).mono ?_
  rintro e w3 hr
  obtain ⟨so3, sc3, po3, pc3, rfl, o3, b3⟩ := hr.open
  dsimp only at o3
  clear hr
  have K1' := hid (K1.below b3 K1.lt)
  have K2' := hid (K2.below b3 K2.lt)
  obtain ⟨D3, O3, c3⟩ := box4 K1'.out o3 hlt (bt hb.out b3) hn1 (.slice so3 D.secs.length sc3) (.slice po3 D.pend.length pc3) (.bool D.off) (.int .i64 D.fuse)
  have R3 := hid ((((K2'.out.other (p := ⟨n1, 0, none⟩) (by simp) (.slice so3 D.secs.length sc3)).other (p := ⟨n1, 1, none⟩) (by simp) (.slice po3 D.pend.length pc3)).other (p := ⟨n1, 2, none⟩) (by simp) (.bool D.off)).other (p := ⟨n1, 3, none⟩) (by simp) (.int .i64 D.fuse))
  obtain ⟨d0, d1, d2, d3, df⟩ := K1'.out.four
  clear K1 K2 hb u1 hlt o3 b3 hap
  go_upto_region 4 with fail
  generalize (((w3.setCell ⟨n1, 0, none⟩ (.slice so3 D.secs.length sc3)).setCell ⟨n1, 1, none⟩ (.slice po3 D.pend.length pc3)).setCell ⟨n1, 2, none⟩ (.bool D.off)).setCell ⟨n1, 3, none⟩ (.int .i64 D.fuse) = X3 at D3 O3 c3 R3 ⊢
  clear d0 d1 d2 d3 df K1' K2'
  obtain ⟨d0, d1, d2, d3, df⟩ := D3.out.four
  obtain ⟨r0, r1, rf⟩ := R3.out.two
  go_wp2_with fail
  refine (hap2.out _ _ O3.out.v).mono ?_
  rintro e w4 hr
  obtain ⟨so4, sc4, po4, pc4, rfl, o4, b4⟩ := hr.open
  clear hr o4
  have hal : Below w4.heap.size w4 (w4.alloc (.cells #[.slice so4 D.secs.length sc4, .slice po4 D.pend.length pc4, .bool D.off, .int .i64 D.fuse] 25)) := (Below.refl _ w4).alloc (Nat.le_refl _) _
  have D5 := hid ((D3.out.below b4 D3.out.lt).below hal (Nat.lt_of_lt_of_le D3.out.lt b4.size))
  have R5 := hid ((R3.out.below b4 R3.out.lt).below hal (Nat.lt_of_lt_of_le R3.out.lt b4.size))
  have O5 := hid ((O3.out.below b4).below hal)
  have c5 := hid (bt (bt c3.out b4) hal)
  clear D3 R3 O3 c3 b4 d0 d1 d2 d3 df r0 r1 rf hap2
  dsimp only
  go_upto_region 5 with fail
  generalize w4.alloc (.cells #[.slice so4 D.secs.length sc4, .slice po4 D.pend.length pc4, .bool D.off, .int .i64 D.fuse] 25) = X5 at hal D5 R5 O5 c5 ⊢
  clear hal
  obtain ⟨d0, d1, d2, d3, df⟩ := D5.out.four
  obtain ⟨r0, r1, rf⟩ := R5.out.two
  go_wp2_with fail
  refine (hsc.out _ _ O5.out.v).mono ?_
  rintro e w6 ⟨ao, cap, rfl, _, b6⟩
  have D6 := hid (D5.out.below b6 D5.out.lt)
  have R6 := hid (R5.out.below b6 R5.out.lt)
  have O6 := hid (O5.out.below b6)
  have c6 := hid (bt c5.out b6)
  clear D5 R5 O5 c5 b6 d0 d1 d2 d3 df r0 r1 rf hsc
  obtain ⟨d0, d1, d2, d3, df⟩ := D6.out.four
  obtain ⟨r0, r1, rf⟩ := R6.out.two
  dsimp only
  go_wp2_with fail
  refine (hsc2.out _ _ O6.out.v).mono ?_
  rintro e w7 ⟨ao2, cap2, rfl, _, b7⟩
  have c7 := hid (bt c6.out b7)
  clear D6 R6 O6 c6 b7 d0 d1 d2 d3 df r0 r1 rf hsc2
  dsimp only
  go_wp2_with fail
  go_ret
  exact ⟨rfl, c7.out⟩
end Go.Proofs.Ytiegocbdgimimaa.Wal
namespace Go.Proofs.Ytiegocbdgimimaa.Slot
open Go.ChangeShapes Go.WideShapes Go.ChangeAt Go.RowKit
open Go.Proofs.Ytiegocbdgimimaa.Mem Go.Proofs.Ytiegocbdgimimaa.Rec Go.Proofs.Ytiegocbdgimimaa.Sector Go.Proofs.Ytiegocbdgimimaa.Wal
set_option linter.unusedVariables false
set_option maxRecDepth 100000
structure Im where
  epoch : Nat
  pay : ByteArray
def imV (m : Im) : Value := .agg #[.int .u64 m.epoch, .string m.pay]
def zeroIm : Im := ⟨0, ⟨#[]⟩⟩
def twiceB (a b : Rg) : Bool := decide (a.f < b.f + b.s) && decide (b.f < a.f + a.s)
def slChk (d : Disk) (a b : Rg) : Int := if walChk d a ≠ 0 then walChk d a else if walChk d b ≠ 0 then walChk d b else if twiceB a b = true then 10 else 0
/-- The image that lies in a slot. -/
def imIn (h : Nat → ByteArray) (s : Nat) : Option Im :=
  if (frAt h s 0).2 ≠ 0 ∧ (frAt h s 0).1.seq = 0 ∧ (frAt h s 0).1.kind = 2 then some ⟨(frAt h s 0).1.epoch, (frAt h s 0).1.pay⟩ else none
theorem imIn_head {h : Nat → ByteArray} {s : Nat} (hs : 1 ≤ s) (hh : (headE (h 0).data.toList).2 ≠ 0) : imIn h s = none := by
  unfold imIn
  have : (frAt h s 0).2 = 0 := by
    rcases Nat.eq_zero_or_pos (frAt h s 0).2 with h0 | h0
    · exact h0
    · have := (of_frAt (Nat.ne_of_gt h0)).headE
      rw [this] at hh; exact absurd rfl hh
  rw [if_neg (fun hx => hx.1 this)]
/-- What the log of the epoch that the first head says tells. -/
theorem imIn_log {h : Nat → ByteArray} {s : Nat} {x : Hd} (hx : headE (h 0).data.toList = (x, 0)) :
    (logF h s x.epoch = [] ∧ imIn h s = none) ∨ (∃ f t, logF h s x.epoch = f :: t ∧ (x.kind ≠ 2 → imIn h s = none) ∧ (x.kind = 2 → imIn h s = some ⟨x.epoch, f.pay⟩)) := by
  by_cases hg : good h s x.epoch 0 = true
  · obtain ⟨l, he, hq⟩ := good_lies hg
    have hp : pos h s 0 = 0 := rfl
    rw [hp] at l he hq
    have hd := l.headE
    rw [hx] at hd
    have hk : x = hdOf (frAt h s 0).1 := congrArg Prod.fst hd
    have hc : 1 ≤ cnt h s x.epoch := cnt_ge h s x.epoch 1 (by omega) (fun j hj => by
      obtain rfl : j = 0 := by omega
      exact hg)
    have hn : (frAt h s 0).2 ≠ 0 := by rw [l.num]; omega
    have hkind : x.kind = (frAt h s 0).1.kind := by rw [hk]; rfl
    have hep : x.epoch = (frAt h s 0).1.epoch := he.symm
    refine .inr ⟨(frAt h s 0).1, (logF h s x.epoch).tail, ?_, fun h2 => ?_, fun h2 => ?_⟩
    · unfold logF
      obtain ⟨c, hcc⟩ : ∃ c, cnt h s x.epoch = c + 1 := ⟨cnt h s x.epoch - 1, by omega⟩
      rw [hcc, List.range_succ_eq_map, List.map_cons]
      rfl
    · unfold imIn; rw [if_neg (fun hz => h2 (hkind.trans hz.2.2))]
    · unfold imIn; rw [if_pos ⟨hn, hq, hkind ▸ h2⟩, ← hep]
  · have hc : cnt h s x.epoch = 0 := cnt_is h s x.epoch 0 (by omega) (fun j hj => absurd hj (by omega)) (fun _ => by simpa using hg)
    refine .inl ⟨by unfold logF; rw [hc]; rfl, ?_⟩
    unfold imIn
    rw [if_neg]
    rintro ⟨h1, h2, h3⟩
    apply hg
    have hd := (of_frAt h1).headE
    rw [hx] at hd
    have hk : x = hdOf (frAt h s 0).1 := congrArg Prod.fst hd
    have hep : (frAt h s 0).1.epoch = x.epoch := by rw [hk]; rfl
    unfold good
    rw [show pos h s 0 = 0 from rfl]
    simp [h1, h2, hep]
/-- What is loaded, from which slot. -/
structure Ld where
  im : Im
  at' : Nat
  c : Int
def pickE : Option Im → Option Im → Ld
  | none, none => ⟨zeroIm, 0, 9⟩
  | some x, none => ⟨x, 0, 0⟩
  | none, some y => ⟨y, 1, 0⟩
  | some x, some y => if x.epoch < y.epoch then ⟨y, 1, 0⟩ else ⟨x, 0, 0⟩
def loadE (d : Disk) (a b : Rg) : Ld :=
  if slChk d a b ≠ 0 then ⟨zeroIm, 0, slChk d a b⟩
  else if d.off = true then ⟨zeroIm, 0, 15⟩
  else pickE (imIn (cont d a) a.s.toNat) (imIn (cont d b) b.s.toNat)
def imFr (m : Im) : Fr := ⟨2, m.epoch, 0, m.pay⟩
/-- The slot for an image, or why not. -/
def slotE (d : Disk) (a b : Rg) (m : Im) : Rg × Int :=
  if (loadE d a b).c ≠ 0 ∧ (loadE d a b).c ≠ 9 then (⟨0, 0⟩, (loadE d a b).c)
  else if fchk 2 m.pay.size ≠ 0 then (⟨0, 0⟩, fchk 2 m.pay.size)
  else if (loadE d a b).c = 9 then (a, 0)
  else if m.epoch ≤ (loadE d a b).im.epoch then (⟨0, 0⟩, 1)
  else (if (loadE d a b).at' = 0 then b else a, 0)
def saveE (d : Disk) (a b : Rg) (m : Im) : Disk × Int :=
  if slChk d a b ≠ 0 then (zeroDisk, slChk d a b)
  else if (slotE d a b m).2 ≠ 0 then (d, (slotE d a b m).2)
  else ((appE d (slotE d a b m).1 0 (imFr m)).d, if (appE d (slotE d a b m).1 0 (imFr m)).c = 16 then 17 else (appE d (slotE d a b m).1 0 (imFr m)).c)
theorem slChk_zero {d : Disk} {a b : Rg} (h : slChk d a b = 0) : walChk d a = 0 ∧ walChk d b = 0 ∧ twiceB a b = false := by
  unfold slChk at h
  by_cases h1 : walChk d a = 0
  · rw [if_neg (by simpa using h1)] at h
    by_cases h2 : walChk d b = 0
    · rw [if_neg (by simpa using h2)] at h
      cases h3 : twiceB a b with
      | true => rw [h3, if_pos rfl] at h; exact absurd h (by decide)
      | false => exact ⟨h1, h2, rfl⟩
    · rw [if_pos h2] at h; exact absurd h h2
  · rw [if_pos h1] at h; exact absurd h h1
end Go.Proofs.Ytiegocbdgimimaa.Slot
namespace Go.Proofs.Ytiegocbdgimimaa.Slot
open Go.Proofs.Ytiegocbdgimimaa.Mem Go.Proofs.Ytiegocbdgimimaa.Rec Go.Proofs.Ytiegocbdgimimaa.Sector Go.Proofs.Ytiegocbdgimimaa.Wal
set_option linter.unusedVariables false
set_option maxRecDepth 10000
theorem imIn_ext {h h' : Nat → ByteArray} {s : Nat} (he : ∀ i, i < s → h' i = h i) : imIn h' s = imIn h s := by
  have : frAt h' s 0 = frAt h s 0 := by
    by_cases h0 : (frAt h s 0).2 = 0
    · by_cases h1 : (frAt h' s 0).2 = 0
      · rw [frAt_none h0, frAt_none h1]
      · exfalso
        have l := of_frAt h1
        have hr := frAt_room h' s 0
        have := frAt_of (l.ext (h' := h) (fun i _ hi => (he i (by omega)).symm))
        rw [this] at h0; exact h1 h0
    · have l := of_frAt h0
      have hr := frAt_room h s 0
      exact frAt_of (l.ext (fun i _ hi => he i (by omega)))
  unfold imIn; rw [this]
theorem imIn_lies {h : Nat → ByteArray} {s n : Nat} {m : Im} (l : Lies h s 0 (imFr m) n) : imIn h s = some m := by
  unfold imIn
  rw [frAt_of l, if_pos ⟨by have := l.num; dsimp only; omega, rfl, rfl⟩]
  rfl
theorem run_code (l : List Stp) : ∀ d, (runE d l).2 ≠ 16 ∧ (runE d l).2 ≠ 17 := by
  have hw : ∀ (d : Disk) (r : Int) (a b : Disk), r ≠ 16 → r ≠ 17 → (workE d r a b).2 ≠ 16 ∧ (workE d r a b).2 ≠ 17 := fun d r a b h1 h2 => by
    unfold workE
    split
    · exact ⟨by simp, by simp⟩
    · split
      · exact ⟨by simp, by simp⟩
      · split
        · exact ⟨h1, h2⟩
        · split
          · exact ⟨by simp, by simp⟩
          · exact ⟨by simp, by simp⟩
  have hs : ∀ d x, (stpE d x).2 ≠ 16 ∧ (stpE d x).2 ≠ 17 := fun d x => by
    cases x with
    | put n s =>
      show (putE d n s).2 ≠ 16 ∧ (putE d n s).2 ≠ 17
      unfold putE
      apply hw
      all_goals
        unfold refuseE
        split
        · decide
        · split
          · decide
          · split <;> decide
    | syn => exact hw _ _ _ _ (by decide) (by decide)
  induction l with
  | nil => intro d; exact ⟨by show (0 : Int) ≠ 16; decide, by show (0 : Int) ≠ 17; decide⟩
  | cons x l ih =>
    intro d
    show (if (stpE d x).2 = 0 then runE (stpE d x).1 l else stpE d x).2 ≠ 16 ∧ (if (stpE d x).2 = 0 then runE (stpE d x).1 l else stpE d x).2 ≠ 17
    split
    · exact ih _
    · exact hs _ _
theorem fchk_code (k n : Nat) : fchk k n = 0 ∨ fchk k n = 1 ∨ fchk k n = 3 := by
  unfold fchk
  split
  · exact .inr (.inl rfl)
  · split
    · exact .inr (.inr rfl)
    · exact .inl rfl
theorem walChk_code (d : Disk) (r : Rg) : walChk d r = 0 ∨ walChk d r = 1 ∨ walChk d r = 13 := by
  unfold walChk
  split
  · exact .inr (.inr rfl)
  · split
    · exact .inr (.inl rfl)
    · exact .inl rfl
theorem slChk_code (d : Disk) (a b : Rg) : slChk d a b = 0 ∨ slChk d a b = 1 ∨ slChk d a b = 13 ∨ slChk d a b = 10 := by
  unfold slChk
  split
  · rcases walChk_code d a with h | h | h <;> simp [h]
  · split
    · rcases walChk_code d b with h | h | h <;> simp [h]
    · split
      · exact .inr (.inr (.inr rfl))
      · exact .inl rfl
theorem pick_code (x y : Option Im) : (pickE x y).c = 0 ∨ (pickE x y).c = 9 := by
  unfold pickE
  split
  · exact .inr rfl
  · exact .inl rfl
  · exact .inl rfl
  · split <;> exact .inl rfl
theorem load_code (d : Disk) (a b : Rg) : (loadE d a b).c ≠ 16 ∧ (loadE d a b).c ≠ 17 := by
  unfold loadE
  split
  · dsimp only; rcases slChk_code d a b with h | h | h | h <;> rw [h] <;> decide
  · split
    · dsimp only; decide
    · rcases pick_code (imIn (cont d a) a.s.toNat) (imIn (cont d b) b.s.toNat) with h | h <;> rw [h] <;> decide
theorem app_size {d : Disk} {r : Rg} {a : Int} {f : Fr} (h : (appE d r a f).c = 16 ∨ (appE d r a f).c = 17) : (appE d r a f).d = d := by
  unfold appE at h ⊢
  by_cases h0 : walChk d r = 0
  · rw [if_neg (by simpa using h0)] at h ⊢
    by_cases h1 : (sectorsE f).2 = 0
    · rw [if_neg (by simpa using h1)] at h ⊢
      by_cases h2 : a < 0 ∨ r.s < a
      · rw [if_pos h2]
      · rw [if_neg h2] at h ⊢
        by_cases h3 : r.s - a < ((sectorsE f).1.length : Int)
        · rw [if_pos h3]
        · rw [if_neg h3] at h ⊢
          have := run_code (layE (r.f + a) ((sectorsE f).1.headD ⟨#[]⟩) (sectorsE f).1.tail) d
          generalize runE d (layE (r.f + a) ((sectorsE f).1.headD ⟨#[]⟩) (sectorsE f).1.tail) = x at h this ⊢
          dsimp only at h ⊢
          exfalso
          by_cases h4 : x.2 = 0
          · rw [if_neg (by simpa using h4)] at h; rcases h with h | h <;> exact absurd h (by simp)
          · rw [if_pos h4] at h; rcases h with h | h
            · exact this.1 h
            · exact this.2 h
    · rw [if_pos h1]
  · exfalso
    rw [if_pos h0] at h
    dsimp only at h
    rcases walChk_code d r with h1 | h1 | h1 <;> rw [h1] at h <;> rcases h with h | h <;> exact absurd h (by decide)
theorem slot_code (d : Disk) (a b : Rg) (m : Im) : (slotE d a b m).2 ≠ 17 := by
  unfold slotE
  split
  · exact (load_code d a b).2
  · split
    · dsimp only; rcases fchk_code 2 m.pay.size with h | h | h <;> rw [h] <;> decide
    · split
      · dsimp only; decide
      · split
        · dsimp only; decide
        · dsimp only; decide
theorem save_size {d : Disk} {a b : Rg} {m : Im} (h : (saveE d a b m).2 = 17) : (saveE d a b m).1 = d := by
  unfold saveE at h ⊢
  by_cases h0 : slChk d a b = 0
  · rw [if_neg (by simpa using h0)] at h ⊢
    by_cases h1 : (slotE d a b m).2 = 0
    · rw [if_neg (by simpa using h1)] at h ⊢
      dsimp only at h ⊢
      by_cases h2 : (appE d (slotE d a b m).1 0 (imFr m)).c = 16
      · exact app_size (.inl h2)
      · rw [if_neg h2] at h; exact app_size (.inr h)
    · rw [if_pos h1]
  · rw [if_pos h0] at h
    dsimp only at h
    rcases slChk_code d a b with h1 | h1 | h1 | h1 <;> rw [h1] at h <;> exact absurd h (by decide)
/-- The slot that has not the newest image. -/
def toE (d : Disk) (a b : Rg) : Rg := if (loadE d a b).c = 0 ∧ (loadE d a b).at' = 0 then b else a
theorem load_zero {d : Disk} {a b : Rg} (h : (loadE d a b).c = 0 ∨ (loadE d a b).c = 9) : slChk d a b = 0 ∧ d.off = false ∧ loadE d a b = pickE (imIn (cont d a) a.s.toNat) (imIn (cont d b) b.s.toNat) := by
  unfold loadE at h ⊢
  by_cases h0 : slChk d a b = 0
  · rw [if_neg (by simpa using h0)] at h ⊢
    cases ho : d.off with
    | true => rw [ho, if_pos rfl] at h; rcases h with h | h <;> exact absurd h (by decide)
    | false => exact ⟨h0, rfl, by simp⟩
  · rw [if_pos h0] at h
    dsimp only at h
    rcases slChk_code d a b with h1 | h1 | h1 | h1 <;> rw [h1] at h h0 <;> first | exact absurd rfl h0 | (rcases h with h | h <;> exact absurd h (by decide))
/-- An image was saved. -/
structure Done (d : Disk) (a b : Rg) (m : Im) (e : Disk) : Prop where
  chk0 : slChk d a b = 0
  off0 : d.off = false
  chk : slChk e a b = 0
  off : e.off = false
  pend : e.pend = []
  len : e.secs.length = d.secs.length
  ok : okB e = true
  small : m.pay.size ≤ 16384
  newer : (loadE d a b).c = 9 ∨ ((loadE d a b).c = 0 ∧ (loadE d a b).im.epoch < m.epoch)
  load : loadE e a b = ⟨m, if (loadE d a b).c = 0 ∧ (loadE d a b).at' = 0 then 1 else 0, 0⟩
  now' : ∀ i : Int, 0 ≤ i → i < d.secs.length → ¬ ((toE d a b).f ≤ i ∧ i < (toE d a b).f + (toE d a b).s) → now e i = now d i
theorem pick_lt {x y : Im} (h : x.epoch < y.epoch) : pickE (some x) (some y) = ⟨y, 1, 0⟩ := by simp [pickE, h]
theorem pick_ge {x y : Im} (h : ¬ x.epoch < y.epoch) : pickE (some x) (some y) = ⟨x, 0, 0⟩ := by simp [pickE, h]
theorem pick_after {x y x' y' : Option Im} {m : Im} (hm : (pickE x y).c = 9 ∨ ((pickE x y).c = 0 ∧ (pickE x y).im.epoch < m.epoch))
    (h : if (pickE x y).c = 0 ∧ (pickE x y).at' = 0 then x' = x ∧ y' = some m else x' = some m ∧ y' = y) :
    pickE x' y' = ⟨m, if (pickE x y).c = 0 ∧ (pickE x y).at' = 0 then 1 else 0, 0⟩ := by
  cases x with
  | none =>
    cases y with
    | none =>
      rw [if_neg (by simp [pickE])] at h ⊢
      rw [h.1, h.2]; rfl
    | some y =>
      rw [if_neg (by simp [pickE])] at h ⊢
      rw [h.1, h.2]
      have : y.epoch < m.epoch := by rcases hm with hm | hm; exact absurd hm (by simp [pickE]); exact hm.2
      exact pick_ge (by omega)
  | some x =>
    cases y with
    | none =>
      rw [if_pos (by simp [pickE])] at h ⊢
      rw [h.1, h.2]
      have : x.epoch < m.epoch := by rcases hm with hm | hm; exact absurd hm (by simp [pickE]); exact hm.2
      exact pick_lt (by omega)
    | some y =>
      by_cases hlt : x.epoch < y.epoch
      · have hp : pickE (some x) (some y) = ⟨y, 1, 0⟩ := by simp [pickE, hlt]
        rw [hp] at hm h ⊢
        rw [if_neg (by simp)] at h ⊢
        rw [h.1, h.2]
        have : y.epoch < m.epoch := by rcases hm with hm | hm; exact absurd hm (by simp); exact hm.2
        exact pick_ge (by omega)
      · have hp : pickE (some x) (some y) = ⟨x, 0, 0⟩ := by simp [pickE, hlt]
        rw [hp] at hm h ⊢
        rw [if_pos (by simp)] at h ⊢
        rw [h.1, h.2]
        have : x.epoch < m.epoch := by rcases hm with hm | hm; exact absurd hm (by simp); exact hm.2
        exact pick_lt (by omega)
theorem slChk_of {d e : Disk} {a b : Rg} (h : slChk d a b = 0) (ok : okB e = true) (hl : e.secs.length = d.secs.length) : slChk e a b = 0 := by
  obtain ⟨h1, h2, h3⟩ := slChk_zero h
  unfold slChk
  rw [walChk_of h1 ok hl, walChk_of h2 ok hl, h3]; simp
theorem twice_out {a b : Rg} (h : twiceB a b = false) : b.f + b.s ≤ a.f ∨ a.f + a.s ≤ b.f := by
  unfold twiceB at h
  rw [Bool.and_eq_false_iff, decide_eq_false_iff_not, decide_eq_false_iff_not] at h
  omega
theorem save_inv {d : Disk} {a b : Rg} {m : Im} {e : Disk} (h : saveE d a b m = (e, 0)) : slChk d a b = 0 ∧ ((loadE d a b).c = 9 ∨ ((loadE d a b).c = 0 ∧ (loadE d a b).im.epoch < m.epoch)) ∧ fchk 2 m.pay.size = 0 ∧ ∃ te, appE d (toE d a b) 0 (imFr m) = ⟨e, te, 0⟩ := by
  unfold saveE at h
  by_cases h0 : slChk d a b = 0
  · rw [if_neg (by simpa using h0)] at h
    by_cases h1 : (slotE d a b m).2 = 0
    · rw [if_neg (by simpa using h1)] at h
      have hfin : ∀ r, (slotE d a b m).1 = r → ∃ te, appE d r 0 (imFr m) = ⟨e, te, 0⟩ := fun r hr => by
        rw [hr] at h
        generalize appE d r 0 (imFr m) = x at h
        obtain ⟨x1, x2, x3⟩ := x
        simp only [Prod.mk.injEq] at h
        obtain ⟨g1, g2⟩ := h
        by_cases h16 : x3 = 16
        · rw [if_pos h16] at g2; exact absurd g2 (by decide)
        · rw [if_neg h16] at g2; exact ⟨x2, by rw [g1, g2]⟩
      unfold slotE at h1
      by_cases k1 : (loadE d a b).c ≠ 0 ∧ (loadE d a b).c ≠ 9
      · rw [if_pos k1] at h1; exact absurd h1 k1.1
      · rw [if_neg k1] at h1
        by_cases k2 : fchk 2 m.pay.size = 0
        · rw [if_neg (by simpa using k2)] at h1
          by_cases k3 : (loadE d a b).c = 9
          · refine ⟨h0, .inl k3, k2, hfin _ ?_⟩
            unfold slotE toE
            rw [if_neg k1, if_neg (by simpa using k2), if_pos k3, if_neg (by rw [k3]; simp)]
          · rw [if_neg k3] at h1
            have k0 : (loadE d a b).c = 0 := Decidable.byContradiction fun hx => k1 ⟨hx, k3⟩
            by_cases k4 : m.epoch ≤ (loadE d a b).im.epoch
            · rw [if_pos k4] at h1; exact absurd h1 (by decide)
            · refine ⟨h0, .inr ⟨k0, by omega⟩, k2, hfin _ ?_⟩
              unfold slotE toE
              rw [if_neg k1, if_neg (by simpa using k2), if_neg k3, if_neg k4]
              dsimp only
              by_cases k5 : (loadE d a b).at' = 0
              · rw [if_pos k5, if_pos ⟨k0, k5⟩]
              · rw [if_neg k5, if_neg (fun hx => k5 hx.2)]
        · rw [if_pos k2] at h1; exact absurd h1 k2
    · rw [if_pos h1] at h
      exact absurd (congrArg Prod.snd h) h1
  · rw [if_pos h0] at h
    exact absurd (congrArg Prod.snd h) h0
theorem save_ok {d : Disk} {a b : Rg} {m : Im} {e : Disk} (hm : m.epoch < 18446744073709551616) (h : saveE d a b m = (e, 0)) : Done d a b m e := by
  obtain ⟨h0, hn, hf, te, ha⟩ := save_inv h
  have x := app_ok ha
  obtain ⟨c1, c2, c3⟩ := slChk_zero h0
  have hout := twice_out c3
  have hck := slChk_of h0 x.ok x.len
  have hps := (fchk_zero hf).2
  obtain ⟨_, _, hl⟩ := load_zero (d := d) (a := a) (b := b) (by rcases hn with hn | hn; exact .inr hn; exact .inl hn.1)
  have li := x.lies (a := 0) ⟨by show 2 < 256; decide, hm, by show 0 < _; decide, by show m.pay.size ≤ _; omega⟩
  have hroom := x.room
  have htill := x.till
  have himp : (imFr m).pay = m.pay := rfl
  rw [himp] at hroom htill
  have hext : ∀ r : Rg, walChk d r = 0 → (r.f + r.s ≤ (toE d a b).f ∨ (toE d a b).f + (toE d a b).s ≤ r.f) → imIn (cont e r) r.s.toNat = imIn (cont d r) r.s.toNat := fun r hr ho => imIn_ext (fun i hi => by
    obtain ⟨q1, q2, q3, q4, q5⟩ := walChk_zero hr
    rw [cont_now (walChk_of hr x.ok x.len) x.off (by omega), cont_now hr x.off0 (by omega), x.now' _ (by omega) (by omega), if_neg (by omega)])
  refine ⟨h0, x.off0, hck, x.off, x.pend, x.len, x.ok, hps, hn, ?_, fun i i0 i1 ho => by rw [x.now' i i0 i1, if_neg (by omega)]⟩
  have he : loadE e a b = pickE (imIn (cont e a) a.s.toNat) (imIn (cont e b) b.s.toNat) := by
    unfold loadE
    rw [if_neg (by simpa using hck), if_neg (by rw [x.off]; simp)]
  rw [he, hl]
  rw [hl] at hn
  refine pick_after hn ?_
  rw [← hl]
  by_cases ht : (loadE d a b).c = 0 ∧ (loadE d a b).at' = 0
  · rw [if_pos ht]
    have hto : toE d a b = b := by unfold toE; rw [if_pos ht]
    rw [hto] at li hext
    exact ⟨hext a c1 (by omega), imIn_lies li⟩
  · rw [if_neg ht]
    have hto : toE d a b = a := by unfold toE; rw [if_neg ht]
    rw [hto] at li hext
    exact ⟨imIn_lies li, hext b c2 (by omega)⟩
/-- Saving on a disk of which the power never goes. -/
theorem save_live {d : Disk} {a b : Rg} {m : Im} (h0 : slChk d a b = 0) (off : d.off = false) (hf : d.fuse < 0) (hp : d.pend.length ≤ 1000) :
    (16384 < m.pay.size ∧ saveE d a b m = (d, 3)) ∨ (m.pay.size ≤ 16384 ∧ (loadE d a b).c = 0 ∧ m.epoch ≤ (loadE d a b).im.epoch ∧ saveE d a b m = (d, 1)) ∨ (m.pay.size ≤ 16384 ∧ (toE d a b).s < (pcs m.pay.size : Nat) + 1 ∧ saveE d a b m = (d, 17)) ∨ (∃ e, saveE d a b m = (e, 0) ∧ e.fuse = d.fuse) := by
  obtain ⟨c1, c2, c3⟩ := slChk_zero h0
  have hlc : (loadE d a b).c = 0 ∨ (loadE d a b).c = 9 := by
    unfold loadE
    rw [if_neg (by simpa using h0), if_neg (by rw [off]; simp)]
    exact pick_code _ _
  have hk1 : ¬ ((loadE d a b).c ≠ 0 ∧ (loadE d a b).c ≠ 9) := fun hx => by rcases hlc with h | h; exact hx.1 h; exact hx.2 h
  unfold saveE
  rw [if_neg (by simpa using h0)]
  by_cases hl : 16384 < m.pay.size
  · have hfc : fchk 2 m.pay.size = 3 := by unfold fchk; rw [if_neg (by decide), if_pos hl]
    have hs : slotE d a b m = (⟨0, 0⟩, 3) := by
      unfold slotE
      rw [if_neg hk1, hfc, if_pos (by decide)]
    rw [hs]
    exact .inl ⟨hl, by rw [if_pos (by decide)]⟩
  · have hfc : fchk 2 m.pay.size = 0 := by unfold fchk; rw [if_neg (by decide), if_neg hl]
    by_cases hle : (loadE d a b).c = 0 ∧ m.epoch ≤ (loadE d a b).im.epoch
    · have hs : slotE d a b m = (⟨0, 0⟩, 1) := by
        unfold slotE
        rw [if_neg hk1, hfc, if_neg (by simp), if_neg (by rw [hle.1]; decide), if_pos hle.2]
      rw [hs]
      exact .inr (.inl ⟨by omega, hle.1, hle.2, by rw [if_pos (by decide)]⟩)
    · have hs : slotE d a b m = (toE d a b, 0) := by
        unfold slotE toE
        rw [if_neg hk1, hfc, if_neg (by simp)]
        rcases hlc with hc | hc
        · rw [if_neg (by rw [hc]; decide), if_neg (fun hx => hle ⟨hc, hx⟩)]
          simp only [hc, true_and]
        · rw [if_pos hc, if_neg (by rw [hc]; simp)]
      rw [hs, if_neg (by simp)]
      have hw : walChk d (toE d a b) = 0 := by unfold toE; split; exact c2; exact c1
      obtain ⟨q1, q2, q3, q4, q5⟩ := walChk_zero hw
      dsimp only
      rcases app_live (r := toE d a b) (a := 0) (f := imFr m) hw off hf hp (by omega) (by omega) (by show 2 ≠ 0; decide) with ⟨g, _⟩ | ⟨g1, g2, g3⟩ | ⟨e, g1, g2⟩
      · exact absurd g hl
      · rw [g3]
        exact .inr (.inr (.inl ⟨g1, by have : (imFr m).pay = m.pay := rfl; rw [this] at g2; omega, rfl⟩))
      · rw [g1]
        exact .inr (.inr (.inr ⟨e, rfl, g2⟩))
/-- A fresh disk with two slots. -/
def fresh (S : Nat) : Disk := ⟨List.replicate (2 * S) Sector.blank, [], false, -1⟩
theorem fresh_chk {S : Nat} (h1 : 1 ≤ S) (h2 : S ≤ 512) : slChk (fresh S) ⟨0, S⟩ ⟨S, S⟩ = 0 := by
  have ok : okB (fresh S) = true := okm (by show 1 ≤ (List.replicate (2 * S) Sector.blank).length; rw [List.length_replicate]; omega) (by show (List.replicate (2 * S) Sector.blank).length ≤ 1024; rw [List.length_replicate]; omega) (by simp [fresh]) (fun s hs => by rw [List.eq_of_mem_replicate hs]; decide) (by simp [fresh])
  have hl : (fresh S).secs.length = 2 * S := by simp [fresh]
  have k1 : walChk (fresh S) ⟨0, S⟩ = 0 := by unfold walChk; rw [ok, if_neg (by simp), if_neg]; rw [hl]; simp [rgB]; omega
  have k2 : walChk (fresh S) ⟨S, S⟩ = 0 := by unfold walChk; rw [ok, if_neg (by simp), if_neg]; rw [hl]; simp [rgB]; omega
  unfold slChk
  rw [k1, k2, if_neg (by simp), if_neg (by simp), if_neg]
  simp [twiceB]
theorem fresh_load {S : Nat} (h1 : 1 ≤ S) (h2 : S ≤ 512) : loadE (fresh S) ⟨0, S⟩ ⟨S, S⟩ = ⟨zeroIm, 0, 9⟩ := by
  have hc := fresh_chk h1 h2
  obtain ⟨c1, c2, _⟩ := slChk_zero hc
  have hn : ∀ i : Int, 0 ≤ i → i < 2 * S → now (fresh S) i = Sector.blank := fun i i0 i1 => by
    unfold now
    have : i.toNat < 2 * S := by omega
    simp [fresh, heldS, lastW, List.getD, this]
  have hi : ∀ r : Rg, walChk (fresh S) r = 0 → r.s = S → r.f + S ≤ 2 * S → imIn (cont (fresh S) r) r.s.toNat = none := fun r hr hs hf => by
    obtain ⟨q1, q2, q3, q4, q5⟩ := walChk_zero hr
    refine imIn_head (by omega) ?_
    rw [cont_now hr rfl (by omega), hn _ (by omega) (by omega), blank_head]
    show (14 : Int) ≠ 0
    decide
  unfold loadE
  rw [if_neg (by simpa using hc), if_neg (by simp [fresh]), hi _ c1 rfl (by dsimp only; omega), hi _ c2 rfl (by dsimp only; omega)]
  rfl
end Go.Proofs.Ytiegocbdgimimaa.Slot
namespace Go.Proofs.Ytiegocbdgimimaa.Slot
open Go.ChangeShapes Go.WideShapes Go.ChangeAt Go.RowKit
open Go.Proofs.Ytiegocbdgimimaa.Mem Go.Proofs.Ytiegocbdgimimaa.Rec Go.Proofs.Ytiegocbdgimimaa.Sector Go.Proofs.Ytiegocbdgimimaa.Wal
set_option linter.unusedVariables false
set_option maxRecDepth 100000

end Go.Proofs.Ytiegocbdgimimaa.Slot
namespace Go.Proofs.Ytiegocbdgimimaa.Slot
open Go.ChangeShapes Go.WideShapes Go.ChangeAt Go.RowKit
open Go.Proofs.Ytiegocbdgimimaa.Mem Go.Proofs.Ytiegocbdgimimaa.Rec Go.Proofs.Ytiegocbdgimimaa.Sector Go.Proofs.Ytiegocbdgimimaa.Wal
set_option linter.unusedVariables false
set_option maxRecDepth 100000
theorem blk2 {w : World} {b : Nat} {a0 a1 b0 b1 : Value} {t : TypeId} (h : Blk w b [a0, a1] t) : Blk ((w.setCell ⟨b, 0, none⟩ b0).setCell ⟨b, 1, none⟩ b1) b [b0, b1] t := (h.set 0 b0).set 1 b1
theorem below2 {w w' : World} {B b : Nat} {b0 b1 : Value} (h : Below B w w') (hb : B ≤ b) : Below B w ((w'.setCell ⟨b, 0, none⟩ b0).setCell ⟨b, 1, none⟩ b1) := (h.setCell (by simpa using hb) _).setCell (by simpa using hb) _
def ImTold (w : World) (x : Option Im) (e : Ending) (w' : World) : Prop := e = .returned (.tuple #[imV (x.getD zeroIm), .bool x.isSome]) ∧ Below w.heap.size w w'
end Go.Proofs.Ytiegocbdgimimaa.Slot
namespace Go.Proofs.Ytiegocbdgimimaa.Slot
open Go.ChangeShapes Go.WideShapes Go.ChangeAt Go.RowKit
open Go.Proofs.Ytiegocbdgimimaa.Mem Go.Proofs.Ytiegocbdgimimaa.Rec Go.Proofs.Ytiegocbdgimimaa.Sector Go.Proofs.Ytiegocbdgimimaa.Wal
set_option linter.unusedVariables false
set_option maxRecDepth 100000
def LdTold (w : World) (x : Ld) (e : Ending) (w' : World) : Prop := e = .returned (.tuple #[imV x.im, .int .i64 (x.at' : Nat), .int .i64 x.c]) ∧ Below w.heap.size w w'
def ldSt (IA IB : Option Im) (k : Nat) : Ld := if k = 0 then ⟨zeroIm, 0, 9⟩ else if k = 1 then pickE IA none else pickE IA IB
end Go.Proofs.Ytiegocbdgimimaa.Slot
namespace Go.Proofs.Ytiegocbdgimimaa.Slot
open Go.ChangeShapes Go.WideShapes Go.ChangeAt Go.RowKit
open Go.Proofs.Ytiegocbdgimimaa.Mem Go.Proofs.Ytiegocbdgimimaa.Rec Go.Proofs.Ytiegocbdgimimaa.Sector Go.Proofs.Ytiegocbdgimimaa.Wal
set_option linter.unusedVariables false
set_option maxRecDepth 100000
theorem load_at (d : Disk) (a b : Rg) : (loadE d a b).at' ≤ 1 := by
  unfold loadE
  split
  · exact Nat.zero_le _
  · split
    · exact Nat.zero_le _
    · unfold pickE
      split
      · exact Nat.zero_le _
      · exact Nat.zero_le _
      · exact Nat.le_refl _
      · split
        · exact Nat.le_refl _
        · exact Nat.zero_le _
def Im.has (m : Im) : Prop := m.epoch < 18446744073709551616 ∧ m.pay.size ≤ 9223372036854775807
def SlTold (w : World) (x : Rg × Int) (e : Ending) (w' : World) : Prop := e = .returned (.tuple #[rgV x.1, .int .i64 x.2]) ∧ Below w.heap.size w w'
end Go.Proofs.Ytiegocbdgimimaa.Slot
namespace Go.Proofs.Ytiegocbdgimimaa.Slot
open Go.ChangeShapes Go.WideShapes Go.ChangeAt Go.RowKit
open Go.Proofs.Ytiegocbdgimimaa.Mem Go.Proofs.Ytiegocbdgimimaa.Rec Go.Proofs.Ytiegocbdgimimaa.Sector Go.Proofs.Ytiegocbdgimimaa.Wal
set_option linter.unusedVariables false
set_option maxRecDepth 100000
def Svd (w : World) (x : Disk × Int) (e0 : Ending) (w' : World) : Prop :=
  ∃ sv pv, e0 = .returned (.tuple #[.agg #[sv, pv, .bool x.1.off, .int .i64 x.1.fuse], .int .i64 x.2]) ∧ OwnDisk w.heap.size w' sv pv x.1 ∧ Below w.heap.size w w'
theorem imFr_has {m : Im} (h : m.has) : (imFr m).has := by
  obtain ⟨h1, h2⟩ := h
  constructor <;> first | (show (2 : Nat) < _; omega) | (show (0 : Nat) < _; omega) | exact h1 | exact h2 | (dsimp only [imFr]; omega)
theorem slotE_has {d : Disk} {a b : Rg} {m : Im} (ha : a.has) (hb : b.has) : (slotE d a b m).1.has := by
  have h0 : Rg.has ⟨0, 0⟩ := ⟨by decide, by decide, by decide, by decide⟩
  unfold slotE
  split
  · exact h0
  · split
    · exact h0
    · split
      · exact ha
      · split
        · exact h0
        · dsimp only
          split
          · exact hb
          · exact ha
end Go.Proofs.Ytiegocbdgimimaa.Slot
namespace Go.Proofs.Ytiegocbdgimimaa.Slot
open Go.ChangeShapes Go.WideShapes Go.ChangeAt Go.RowKit
open Go.Proofs.Ytiegocbdgimimaa.Mem Go.Proofs.Ytiegocbdgimimaa.Rec Go.Proofs.Ytiegocbdgimimaa.Sector Go.Proofs.Ytiegocbdgimimaa.Wal
set_option linter.unusedVariables false
set_option maxRecDepth 100000
def m1w : Im := ⟨1, ⟨#[120]⟩⟩
def m2w : Im := ⟨2, ⟨#[]⟩⟩
theorem m1w_has : m1w.has := ⟨by decide, by decide⟩
theorem m2w_has : m2w.has := ⟨by decide, by decide⟩
theorem rga_has : Rg.has ⟨0, 2⟩ := ⟨by decide, by decide, by decide, by decide⟩
theorem rgb_has : Rg.has ⟨2, 2⟩ := ⟨by decide, by decide, by decide, by decide⟩
theorem f_new : newE 4 = (fresh 2, 0) := by kernel_rfl
theorem lives_data : ∃ D E, loadE (fresh 2) ⟨0, 2⟩ ⟨2, 2⟩ = ⟨zeroIm, 0, 9⟩ ∧ saveE (fresh 2) ⟨0, 2⟩ ⟨2, 2⟩ m1w = (D, 0) ∧ (Lit.int .i64 D.fuse).wf = true ∧ loadE D ⟨0, 2⟩ ⟨2, 2⟩ = ⟨m1w, 0, 0⟩ ∧ saveE D ⟨0, 2⟩ ⟨2, 2⟩ m2w = (E, 0) ∧ loadE E ⟨0, 2⟩ ⟨2, 2⟩ = ⟨m2w, 1, 0⟩ := by
  have l0 := fresh_load (S := 2) (by omega) (by omega)
  have c0 := fresh_chk (S := 2) (by omega) (by omega)
  rw [show ((2 : Nat) : Int) = 2 from rfl] at l0 c0
  have t0 : toE (fresh 2) ⟨0, 2⟩ ⟨2, 2⟩ = ⟨0, 2⟩ := by unfold toE; rw [l0]; rfl
  rcases save_live (m := m1w) c0 rfl (by decide) (by decide) with ⟨h, _⟩ | ⟨_, h, _⟩ | ⟨_, h, _⟩ | ⟨D, h, hf⟩
  · exact absurd h (by decide)
  · rw [l0] at h; exact absurd h (by decide)
  · rw [t0] at h; exact absurd h (by decide)
  · have x := save_ok (m := m1w) (by decide) h
    have l1 := x.load
    rw [l0, if_neg (by decide)] at l1
    have t1 : toE D ⟨0, 2⟩ ⟨2, 2⟩ = ⟨2, 2⟩ := by unfold toE; rw [l1]; rfl
    have hfu : D.fuse = -1 := hf
    rcases save_live (m := m2w) x.chk x.off (by rw [hfu]; decide) (by rw [x.pend]; decide) with ⟨g, _⟩ | ⟨_, _, g, _⟩ | ⟨_, g, _⟩ | ⟨E, g, _⟩
    · exact absurd g (by decide)
    · rw [l1] at g; exact absurd g (by decide)
    · rw [t1] at g; exact absurd g (by decide)
    · have l2 := (save_ok (m := m2w) (by decide) g).load
      rw [l1, if_pos (by decide)] at l2
      exact ⟨D, E, l0, h, by rw [hfu]; decide, l1, g, l2⟩
theorem Svd.open {w : World} {x : Disk × Int} {e : Ending} {w' : World} (h : Svd w x e w') : ∃ so sc po pc, e = .returned (.tuple #[.agg #[.slice so x.1.secs.length sc, .slice po x.1.pend.length pc, .bool x.1.off, .int .i64 x.1.fuse], .int .i64 x.2]) ∧
    OwnDisk w.heap.size w' (.slice so x.1.secs.length sc) (.slice po x.1.pend.length pc) x.1 ∧ Below w.heap.size w w' := by
  obtain ⟨sv, pv, he, ho, hb⟩ := h
  obtain ⟨so, sc, rfl, _⟩ := ownsRow_form ho.secs
  obtain ⟨po, pc, rfl, _⟩ := ownsRow_form ho.pend
  exact ⟨so, sc, po, pc, he, ho, hb⟩
end Go.Proofs.Ytiegocbdgimimaa.Slot
namespace Go.Proofs.Ytiegocbdgimimaa.Slot
open Go.ChangeShapes Go.WideShapes Go.ChangeAt Go.RowKit
open Go.Proofs.Ytiegocbdgimimaa.Mem Go.Proofs.Ytiegocbdgimimaa.Rec Go.Proofs.Ytiegocbdgimimaa.Sector Go.Proofs.Ytiegocbdgimimaa.Wal
set_option linter.unusedVariables false
set_option maxRecDepth 100000
open Go.Joins Go.Deep
end Go.Proofs.Ytiegocbdgimimaa.Slot
