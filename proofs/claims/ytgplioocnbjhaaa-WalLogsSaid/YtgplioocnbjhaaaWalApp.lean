/-
  What appending comes to: the sectors, the log. No walk.
-/
import Derived.Test.YtgplioocnbjhaaaWalLog
import Derived.Test.YtgplioocnbjhaaaSectorNew
namespace Go.Proofs.Ytgplioocnbjhaaa.Wal
open Go.Proofs.Ytgplioocnbjhaaa.Mem Go.Proofs.Ytgplioocnbjhaaa.Rec Go.Proofs.Ytgplioocnbjhaaa.Sector
set_option linter.unusedVariables false
set_option maxRecDepth 10000
theorem secsL_size (f : Fr) : ∀ s ∈ secsL f, s.size = 64 := by
  intro s hs
  simp only [secsL, List.mem_cons, List.mem_map, List.mem_range] at hs
  rcases hs with rfl | ⟨i, _, rfl⟩
  · rw [bs_size, headL_len]
  · rw [bs_size, pieceL_len _ _ (by rw [part_len]; omega)]
theorem run_first {d e : Disk} {x : Stp} {l : List Stp} (h : runE d (x :: l) = (e, 0)) : okB d = true ∧ d.off = false := by
  obtain ⟨d1, h1, _⟩ := runE_cons h
  cases x with
  | put n s => obtain ⟨a, b, _⟩ := put_inv h1; exact ⟨a, b⟩
  | syn => obtain ⟨a, b, _⟩ := sync_inv h1; exact ⟨a, b⟩
theorem lay_first {n : Int} {hd : ByteArray} {t : List ByteArray} {d e : Disk} (h : runE d (layE n hd t) = (e, 0)) : okB d = true ∧ d.off = false := by
  unfold layE at h
  cases t with
  | nil => exact run_first h
  | cons s t => exact run_first h
theorem walChk_of {d e : Disk} {r : Rg} (h : walChk d r = 0) (ok : okB e = true) (hl : e.secs.length = d.secs.length) : walChk e r = 0 := by
  obtain ⟨h1, h2, h3, h4, h5⟩ := walChk_zero h
  unfold walChk
  rw [ok, if_neg (by simp), if_neg]
  simp [rgB]; omega
/-- A frame was appended. -/
structure Appd (d : Disk) (r : Rg) (a : Int) (f : Fr) (e : Disk) (te : Int) : Prop where
  ok0 : walChk d r = 0
  off0 : d.off = false
  chk : fchk f.kind f.pay.size = 0
  a0 : 0 ≤ a
  room : a + ((pcs f.pay.size : Nat) + 1) ≤ r.s
  till : te = a + ((pcs f.pay.size : Nat) + 1)
  ok : okB e = true
  off : e.off = false
  pend : e.pend = []
  len : e.secs.length = d.secs.length
  now' : ∀ i : Int, 0 ≤ i → i < d.secs.length → now e i = if r.f + a ≤ i ∧ i < r.f + te then (secsL f).getD (i - (r.f + a)).toNat ⟨#[]⟩ else now d i
theorem sectorsE_zero {f : Fr} (h : (sectorsE f).2 = 0) : fchk f.kind f.pay.size = 0 ∧ sectorsE f = (secsL f, 0) := by
  unfold sectorsE at h ⊢
  by_cases hc : fchk f.kind f.pay.size = 0
  · rw [if_pos hc]; exact ⟨hc, rfl⟩
  · rw [if_neg hc] at h; exact absurd h hc
theorem lay_secs {f : Fr} {d e : Disk} {r : Rg} {a : Int} (h0 : walChk d r = 0) (a0 : 0 ≤ a) (hroom : a + ((pcs f.pay.size : Nat) + 1) ≤ r.s) (h : runE d (layE (r.f + a) ((secsL f).headD ⟨#[]⟩) (secsL f).tail) = (e, 0)) (hc : fchk f.kind f.pay.size = 0) :
    Appd d r a f e (a + ((pcs f.pay.size : Nat) + 1)) := by
  obtain ⟨k1, k2, k3, k4, k5⟩ := walChk_zero h0
  obtain ⟨t, hL, htl⟩ := secsL_head f
  rw [hL] at h
  dsimp only [List.headD_cons, List.tail_cons] at h
  generalize bs (headL (hdOf f)) = hd at h hL
  obtain ⟨q1, q2⟩ := lay_first h
  obtain ⟨p1, p2, p3, p4, p5⟩ := lay_done (r.f + a) hd t d e (by omega) (by omega) k1 h
  refine ⟨h0, q2, hc, a0, hroom, rfl, p1, p2, p3, p4, fun i i0 i1 => ?_⟩
  rw [p5 i i0 i1, hL, ← htl]
  by_cases e1 : i = r.f + a
  · rw [if_pos e1, if_pos (by omega)]
    have : (i - (r.f + a)).toNat = 0 := by omega
    rw [this]; rfl
  · rw [if_neg e1]
    by_cases e2 : r.f + a + 1 ≤ i ∧ i < r.f + a + 1 + t.length
    · rw [if_pos e2, if_pos (by omega)]
      have : (i - (r.f + a)).toNat = (i - (r.f + a + 1)).toNat + 1 := by omega
      rw [this]; rfl
    · rw [if_neg e2, if_neg (by omega)]
theorem app_ok {d e : Disk} {r : Rg} {a te : Int} {f : Fr} (h : appE d r a f = ⟨e, te, 0⟩) : Appd d r a f e te := by
  unfold appE at h
  by_cases h0 : walChk d r = 0
  · rw [if_neg (by simpa using h0)] at h
    by_cases h1 : (sectorsE f).2 = 0
    · obtain ⟨hc, hs⟩ := sectorsE_zero h1
      rw [if_neg (by simpa using h1), hs] at h
      by_cases h2 : a < 0 ∨ r.s < a
      · rw [if_pos h2] at h; simp at h
      · rw [if_neg h2] at h
        dsimp only at h
        by_cases h3 : r.s - a < ((secsL f).length : Int)
        · rw [if_pos h3] at h; simp at h
        · rw [if_neg h3] at h
          rw [secsL_len] at h h3
          have hroom : a + ((pcs f.pay.size : Nat) + 1) ≤ r.s := by push_cast at h3; omega
          generalize hx : runE d (layE (r.f + a) ((secsL f).headD ⟨#[]⟩) (secsL f).tail) = x at h
          by_cases h4 : x.2 = 0
          · rw [if_neg (by simpa using h4)] at h
            simp only [Ap.mk.injEq] at h
            obtain ⟨e1, e2, _⟩ := h
            have := lay_secs (e := x.1) h0 (by omega) hroom (by rw [hx, ← h4]) hc
            rw [← e1, ← e2]
            push_cast
            exact this
          · rw [if_pos h4] at h
            simp only [Ap.mk.injEq] at h
            exact absurd h.2.2 h4
    · rw [if_pos h1] at h
      simp only [Ap.mk.injEq] at h
      exact absurd h.2.2 h1
  · rw [if_pos h0] at h
    simp only [Ap.mk.injEq] at h
    exact absurd h.2.2 h0
theorem Appd.chk' {d e : Disk} {r : Rg} {a te : Int} {f : Fr} (x : Appd d r a f e te) : walChk e r = 0 := walChk_of x.ok0 x.ok x.len
theorem Appd.out {d e : Disk} {r : Rg} {a te : Int} {f : Fr} (x : Appd d r a f e te) {i : Nat} (hi : (i : Int) < r.s) (ho : (i : Int) < a ∨ te ≤ i) : cont e r i = cont d r i := by
  obtain ⟨k1, k2, k3, k4, k5⟩ := walChk_zero x.ok0
  rw [cont_now x.chk' x.off hi, cont_now x.ok0 x.off0 hi, x.now' _ (by omega) (by omega), if_neg (by omega)]
theorem Appd.lies {d e : Disk} {r : Rg} {te : Int} {f : Fr} {a : Nat} (x : Appd d r a f e te) (hf : f.okn) : Lies (cont e r) r.s.toNat a f (pcs f.pay.size + 1) := by
  obtain ⟨k1, k2, k3, k4, k5⟩ := walChk_zero x.ok0
  have hr := x.room
  have ht := x.till
  refine ⟨hf, x.chk, rfl, by omega, ?_⟩
  apply List.ext_getElem
  · rw [texts_len, secsL_len]
  · intro i h1 h2
    rw [texts_len] at h1
    simp only [texts, List.getElem_map, List.getElem_range]
    rw [cont_now x.chk' x.off (by omega), x.now' _ (by omega) (by omega), if_pos (by omega)]
    have : (r.f + ((a + i : Nat) : Int) - (r.f + (a : Int))).toNat = i := by omega
    rw [this]
    simp [List.getD, h2]
/-! ### a disk of which the power never goes -/
theorem put_live {d : Disk} {n : Int} {s : ByteArray} (ok : okB d = true) (off : d.off = false) (hf : d.fuse < 0) (hr : refuseE d n s = 0) : putE d n s = (putD d n s, 0) ∧ (putD d n s).fuse = d.fuse := by
  rcases put_go ok off hr with ⟨_, h⟩ | h
  · exact ⟨h, by unfold putD; dsimp only; rw [if_neg (by omega)]⟩
  · exfalso
    unfold putE workE at h
    rw [ok, hr, if_neg (by simp), off, if_neg (by simp), if_neg (by simp), if_neg (by omega)] at h
    simp at h
theorem sync_live {d : Disk} (ok : okB d = true) (off : d.off = false) (hf : d.fuse < 0) : syncE d = (synD d, 0) ∧ (synD d).fuse = d.fuse := by
  rcases sync_go ok off with ⟨_, h⟩ | h
  · exact ⟨h, by unfold synD; dsimp only; rw [if_neg (by omega)]⟩
  · exfalso
    unfold syncE workE at h
    rw [ok, if_neg (by simp), off, if_neg (by simp), if_neg (by simp), if_neg (by omega)] at h
    simp at h
theorem puts_live (t : List ByteArray) : ∀ (d : Disk) (m : Int), okB d = true → d.off = false → d.fuse < 0 → 0 ≤ m → m + t.length ≤ d.secs.length → (∀ s ∈ t, s.size = 64) → d.pend.length + t.length ≤ 4096 →
    ∃ e, runE d (puts m t) = (e, 0) ∧ e.fuse = d.fuse := by
  induction t with
  | nil => intro d m ok off _ _ _ _ _; exact ⟨d, rfl, rfl⟩
  | cons s t ih =>
    intro d m ok off hf h0 h1 hs hp
    rw [List.length_cons] at h1 hp
    have hr : refuseE d m s = 0 := refuse_ok h0 (by push_cast at h1; omega) (hs s List.mem_cons_self) (by omega)
    obtain ⟨h, hfu⟩ := put_live ok off hf hr
    simp only [puts, runE, stpE, h, if_true]
    obtain ⟨e, e1, e2⟩ := ih (putD d m s) (m + 1) (ok_put ok hr) rfl (by omega) (by omega) (by show m + 1 + _ ≤ (d.secs.length : Int); push_cast at h1; omega) (fun x hx => hs x (List.mem_cons_of_mem _ hx)) (by show (d.pend ++ [(m, s)]).length + _ ≤ _; simp; omega)
    exact ⟨e, e1, by rw [e2, hfu]⟩
theorem lay_live (n : Int) (hd : ByteArray) (t : List ByteArray) (d : Disk) (hn : 0 ≤ n) (hl : n + t.length < d.secs.length) (ok : okB d = true) (off : d.off = false) (hf : d.fuse < 0) (hh : hd.size = 64) (ht : ∀ s ∈ t, s.size = 64) (hp : d.pend.length + t.length ≤ 4000) :
    ∃ e, runE d (layE n hd t) = (e, 0) ∧ e.fuse = d.fuse := by
  unfold layE
  rw [runE_app]
  obtain ⟨d1, q1, q2⟩ := puts_live t d (n + 1) ok off hf (by omega) (by omega) ht (by omega)
  obtain ⟨a1, a2, a3, a4⟩ := puts_done t d d1 (n + 1) q1
  rw [q1, if_pos rfl]
  obtain ⟨s1, s2⟩ := sync_live (a3 ok) (a4 off) (by omega)
  have okS := ok_syn (a3 ok)
  have hr : refuseE (synD d1) n hd = 0 := refuse_ok hn (by rw [synD_len, a1]; omega) hh (by simp [synD])
  obtain ⟨s3, s4⟩ := put_live okS (by show d1.off = false; exact a4 off) (by omega) hr
  obtain ⟨s5, s6⟩ := sync_live (ok_put okS hr) rfl (by omega)
  refine ⟨synD (putD (synD d1) n hd), ?_, by omega⟩
  simp only [runE, stpE, s1, s3, s5, if_true]
/-- Appending to a disk of which the power never goes. -/
theorem app_live {d : Disk} {r : Rg} {a : Int} {f : Fr} (h0 : walChk d r = 0) (off : d.off = false) (hf : d.fuse < 0) (hp : d.pend.length ≤ 1000) (ha : 0 ≤ a) (ha2 : a ≤ r.s) (hk : f.kind ≠ 0) :
    (16384 < f.pay.size ∧ appE d r a f = ⟨d, 0, 3⟩) ∨ (f.pay.size ≤ 16384 ∧ r.s - a < (pcs f.pay.size : Nat) + 1 ∧ appE d r a f = ⟨d, 0, 16⟩) ∨ (∃ e, appE d r a f = ⟨e, a + ((pcs f.pay.size : Nat) + 1), 0⟩ ∧ e.fuse = d.fuse) := by
  obtain ⟨k1, k2, k3, k4, k5⟩ := walChk_zero h0
  unfold appE
  rw [if_neg (by simpa using h0)]
  by_cases h1 : (sectorsE f).2 = 0
  · obtain ⟨hc, hs⟩ := sectorsE_zero h1
    have hps := (fchk_zero hc).2
    rw [if_neg (by simpa using h1), hs, if_neg (by omega)]
    dsimp only
    rw [secsL_len]
    by_cases h3 : r.s - a < ((pcs f.pay.size + 1 : Nat) : Int)
    · rw [if_pos h3]; exact .inr (.inl ⟨hps, by push_cast at h3; omega, rfl⟩)
    · rw [if_neg h3]
      obtain ⟨t, hL, htl⟩ := secsL_head f
      have hsz := secsL_size f
      have hpc : pcs f.pay.size ≤ 269 := by unfold pcs; omega
      rw [hL] at hsz ⊢
      generalize bs (headL (hdOf f)) = hd at hsz
      obtain ⟨e, e1, e2⟩ := lay_live (r.f + a) hd t d (by omega) (by push_cast at h3; omega) k1 off hf (hsz hd List.mem_cons_self) (fun s hs => hsz s (List.mem_cons_of_mem _ hs)) (by omega)
      dsimp only [List.headD_cons, List.tail_cons]
      refine .inr (.inr ⟨e, ?_, e2⟩)
      simp [e1]
  · rw [if_pos h1]
    have hc : fchk f.kind f.pay.size ≠ 0 := fun hc => h1 (by unfold sectorsE; rw [if_pos hc])
    have hv : (sectorsE f).2 = fchk f.kind f.pay.size := by unfold sectorsE; rw [if_neg hc]
    rw [hv]
    unfold fchk at hc ⊢
    rw [if_neg hk] at hc ⊢
    by_cases hl : 16384 < f.pay.size
    · rw [if_pos hl]; exact .inl ⟨hl, rfl⟩
    · rw [if_neg hl] at hc; exact absurd rfl hc
theorem blank_head : headE Sector.blank.data.toList = (zeroHd, 14) := by
  have : headOk Sector.blank.data.toList = false := by
    unfold headOk
    rw [show (readHd Sector.blank.data.toList).kind = 0 from rfl]
    simp
  unfold headE
  rw [this]; rfl
theorem blank_none {h : Nat → ByteArray} {s a : Nat} (hb : h a = Sector.blank) : frAt h s a = (zeroFr, 0) := by
  unfold frAt
  by_cases h1 : s ≤ a
  · rw [if_pos h1]
  · rw [if_neg h1, hb, blank_head, if_pos (by decide)]
/-- A log that was written frame by frame into zero bytes. -/
structure Written (d : Disk) (S ep at' : Nat) (l : List Fr) : Prop where
  chk : walChk d ⟨0, S⟩ = 0
  off : d.off = false
  fuse : d.fuse = -1
  pend : d.pend = []
  len : d.secs.length = S
  num : cnt (cont d ⟨0, S⟩) S ep = l.length
  log : logF (cont d ⟨0, S⟩) S ep = l
  till : endF (cont d ⟨0, S⟩) S ep = at'
  rest : ∀ i, at' ≤ i → i < S → cont d ⟨0, S⟩ i = Sector.blank
theorem none_good {h : Nat → ByteArray} {s ep k : Nat} (hf : (frAt h s (pos h s k)).2 = 0) : good h s ep k = false := by unfold good; rw [hf]; simp
theorem rest_none {h : Nat → ByteArray} {S a : Nat} (hr : ∀ i, a ≤ i → i < S → h i = Sector.blank) : (frAt h S a).2 = 0 := by
  by_cases hs : S ≤ a
  · unfold frAt; rw [if_pos hs]
  · rw [blank_none (hr a (Nat.le_refl _) (by omega))]
theorem Written.more {d e : Disk} {S ep at' : Nat} {l : List Fr} {te : Int} {f : Fr} (w : Written d S ep at' l) (h : appE d ⟨0, S⟩ at' f = ⟨e, te, 0⟩) (hfu : e.fuse = d.fuse) (hf : f.okn) (hep : f.epoch = ep) (hsq : f.seq = l.length) (hl : l.length ≤ 1000) :
    Written e S ep (at' + (pcs f.pay.size + 1)) (l ++ [f]) ∧ te = ((at' + (pcs f.pay.size + 1) : Nat) : Int) := by
  have x := app_ok h
  have hr := x.room
  have ht := x.till
  have li := x.lies hf
  dsimp only at hr li
  rw [Int.toNat_natCast] at li
  have hout : ∀ i, i < at' → cont e ⟨0, S⟩ i = cont d ⟨0, S⟩ i := fun i hi => x.out (by dsimp only; omega) (.inl (by omega))
  rw [← w.till] at li
  obtain ⟨m1, m2, m3, m4, m5⟩ := log_more (by rw [w.till]; exact hout) (by rw [w.num]; omega) li hep (by rw [w.num]; exact hsq)
  have hrest : ∀ i, at' + (pcs f.pay.size + 1) ≤ i → i < S → cont e ⟨0, S⟩ i = Sector.blank := fun i hi hi2 => by
    rw [x.out (by dsimp only; omega) (.inr (by omega))]; exact w.rest i (by omega) hi2
  rw [w.num] at m1 m2 m3 m4 m5
  rw [w.till] at m4 m5
  have hng : good (cont e ⟨0, S⟩) S ep (l.length + 1) = false := none_good (by rw [m5]; exact rest_none hrest)
  have hnum : cnt (cont e ⟨0, S⟩) S ep = l.length + 1 := by
    rcases Nat.lt_or_ge (l.length + 1) (cnt (cont e ⟨0, S⟩) S ep) with hlt | hge
    · rw [cnt_good _ _ _ hlt] at hng; exact absurd hng (by simp)
    · omega
  refine ⟨⟨x.chk', x.off, by rw [hfu, w.fuse], x.pend, by rw [x.len, w.len], by rw [hnum]; simp, ?_, ?_, hrest⟩, by rw [ht]; push_cast; rfl⟩
  · unfold logF
    rw [hnum, List.range_succ, List.map_append, List.map_singleton, m3]
    have hlog := w.log
    unfold logF at hlog
    rw [w.num] at hlog
    have hmap : (List.range l.length).map (fun k => (frAt (cont e ⟨0, S⟩) S (pos (cont e ⟨0, S⟩) S k)).1) = (List.range l.length).map (fun k => (frAt (cont d ⟨0, S⟩) S (pos (cont d ⟨0, S⟩) S k)).1) := List.map_congr_left (fun k hk => m2 k (List.mem_range.1 hk))
    rw [hmap, hlog]
  · unfold endF
    rw [hnum, m5]
theorem Written.other {d : Disk} {S ep at' : Nat} {l : List Fr} (w : Written d S ep at' l) {o : Nat} (ho : o ≠ ep) : logF (cont d ⟨0, S⟩) S o = [] ∧ endF (cont d ⟨0, S⟩) S o = 0 := by
  have hc : cnt (cont d ⟨0, S⟩) S o = 0 := by
    refine cnt_is _ _ _ 0 (by omega) (fun j hj => absurd hj (by omega)) (fun _ => ?_)
    rcases Nat.eq_zero_or_pos l.length with h0 | hpos
    · have : at' = 0 := by rw [← w.till]; unfold endF; rw [w.num, h0]; rfl
      exact none_good (rest_none (fun i hi hi2 => w.rest i (by omega) hi2))
    · have hg := cnt_good (cont d ⟨0, S⟩) S ep (j := 0) (by rw [w.num]; exact hpos)
      obtain ⟨_, he, _⟩ := good_lies hg
      unfold good
      rw [he, decide_eq_false (p := ep = o) (fun e => ho e.symm)]
      simp
  constructor
  · unfold logF; rw [hc]; rfl
  · unfold endF; rw [hc]; rfl
theorem Written.start {S ep : Nat} (h1 : 1 ≤ S) (h2 : S ≤ 1024) : Written ⟨List.replicate S Sector.blank, [], false, -1⟩ S ep 0 [] := by
  have ok : okB ⟨List.replicate S Sector.blank, [], false, -1⟩ = true := okm (by simpa using h1) (by simpa using h2) (by simp) (fun s hs => by rw [List.eq_of_mem_replicate hs]; decide) (by simp)
  have hck : walChk ⟨List.replicate S Sector.blank, [], false, -1⟩ ⟨0, S⟩ = 0 := by
    unfold walChk
    rw [ok, if_neg (by simp), if_neg]
    simp [rgB]; omega
  have hr : ∀ i, 0 ≤ i → i < S → cont ⟨List.replicate S Sector.blank, [], false, -1⟩ ⟨0, S⟩ i = Sector.blank := fun i _ hi => by
    rw [cont_now hck rfl (by dsimp only; omega)]
    simp [now, heldS, lastW, List.getD, hi]
  have hc : cnt (cont ⟨List.replicate S Sector.blank, [], false, -1⟩ ⟨0, S⟩) S ep = 0 := cnt_is _ _ _ 0 (by omega) (fun j hj => absurd hj (by omega)) (fun _ => none_good (rest_none hr))
  exact ⟨hck, rfl, rfl, rfl, by simp, hc, by unfold logF; rw [hc]; rfl, by unfold endF; rw [hc]; rfl, hr⟩
end Go.Proofs.Ytgplioocnbjhaaa.Wal
