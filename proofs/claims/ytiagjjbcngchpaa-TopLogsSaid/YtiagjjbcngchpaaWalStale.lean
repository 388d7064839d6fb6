/-
  A log to which frames are appended, the power going or not: behind its end there is no head. No walk.
-/
import Derived.Test.YtiagjjbcngchpaaSlotTwo
namespace Go.Proofs.Ytiagjjbcngchpaa.Wal
open Go.Proofs.Ytiagjjbcngchpaa.Mem Go.Proofs.Ytiagjjbcngchpaa.Rec Go.Proofs.Ytiagjjbcngchpaa.Sector
set_option linter.unusedVariables false
set_option maxRecDepth 10000
theorem piece_no' (i : Nat) (q : By) : headOk (pieceL i q) = false := by
  rw [Bool.eq_false_iff]
  intro h
  have h4 := (headOk_facts h).2.2.2
  have h5 := congrArg List.head? h4
  have h6 : (headL (readHd (pieceL i q))).head? = some 72 := rfl
  rw [h6] at h5
  exact absurd (Option.some.inj h5) (by decide)
/-- Whatever is kept, a sector holds what is such. -/
structure Poss (Q : ByteArray → Prop) (d : Disk) (i : Int) : Prop where
  held : Q (d.secs.getD i.toNat ⟨#[]⟩)
  pend : ∀ p ∈ d.pend, p.1 = i → Q p.2
theorem sett_poss {Q : ByteArray → Prop} (kp : Nat → Bool) {pend : List (Int × ByteArray)} {secs : List ByteArray} {i : Int} (h0 : 0 ≤ i) (hp : ∀ p ∈ pend, 0 ≤ p.1) (h1 : Q (secs.getD i.toNat ⟨#[]⟩)) (h2 : ∀ p ∈ pend, p.1 = i → Q p.2) : ∀ k, k ≤ pend.length → Q ((sett kp pend secs k).getD i.toNat ⟨#[]⟩) := by
  intro k
  induction k with
  | zero => intro _; exact h1
  | succ k ih =>
    intro hk
    have hk' : k < pend.length := by omega
    simp only [sett]
    split
    · have hm := List.getElem_mem hk'
      have hq := hp _ hm
      have e : pend.getD k (0, ⟨#[]⟩) = pend[k] := by simp [List.getD, hk']
      rw [e]
      by_cases hi : pend[k].1 = i
      · by_cases hr : i.toNat < (sett kp pend secs k).length
        · have := h2 _ hm hi
          rw [hi]
          simpa [List.getD, hr] using this
        · rw [hi, List.set_eq_of_length_le (by omega)]
          exact ih (by omega)
      · have : ((sett kp pend secs k).set pend[k].1.toNat pend[k].2).getD i.toNat ⟨#[]⟩ = (sett kp pend secs k).getD i.toNat ⟨#[]⟩ := by
          simp only [List.getD]
          rw [List.getElem?_set_ne (by omega)]
        rw [this]
        exact ih (by omega)
    · exact ih (by omega)
theorem ok_pos {d : Disk} (h : okB d = true) : ∀ p ∈ d.pend, 0 ≤ p.1 := by
  intro p hp
  obtain ⟨h1, h2, h3, h4, h5⟩ := okp h
  have := h5 p hp
  simp [badB, missB] at this
  omega
theorem Poss.syn {Q : ByteArray → Prop} {d : Disk} {i : Int} (h : Poss Q d i) (i0 : 0 ≤ i) (ok : okB d = true) : Poss Q (synD d) i :=
  ⟨sett_poss _ i0 (ok_pos ok) h.held h.pend _ (Nat.le_refl _), by simp [synD]⟩
theorem Poss.aft {Q : ByteArray → Prop} {d : Disk} {i : Int} (h : Poss Q d i) (i0 : 0 ≤ i) (ok : okB d = true) (l : List Bool) : Q (aft d l i) := sett_poss _ i0 (ok_pos ok) h.held h.pend _ (Nat.le_refl _)
theorem Poss.more {Q : ByteArray → Prop} {d : Disk} {i m : Int} {s : ByteArray} (h : Poss Q d i) (hs : m = i → Q s) (off : Bool) (f : Int) : Poss Q ⟨d.secs, d.pend ++ [(m, s)], off, f⟩ i :=
  ⟨h.held, fun p hp he => (List.mem_append.1 hp).elim (fun h' => h.pend p h' he) (fun h' => by rw [List.mem_singleton] at h'; subst h'; exact hs he)⟩
theorem puts_poss {Q : ByteArray → Prop} {i : Int} (t : List ByteArray) (hQ : ∀ s ∈ t, Q s) : ∀ (d : Disk) (m : Int), okB d = true → d.off = false → 0 ≤ m → m + t.length ≤ d.secs.length → (∀ s ∈ t, s.size = 64) → d.pend.length + t.length ≤ 4096 → Poss Q d i →
    Poss Q (runE d (puts m t)).1 i := by
  induction t with
  | nil => intro d m _ _ _ _ _ _ h; exact h
  | cons s t ih =>
    intro d m ok off h0 h1 hs hp h
    rw [List.length_cons] at h1 hp
    have hr : refuseE d m s = 0 := refuse_ok h0 (by push_cast at h1; omega) (hs s List.mem_cons_self) (by omega)
    have hsQ := hQ s List.mem_cons_self
    rcases put_go ok off hr with ⟨hf, h'⟩ | h'
    · simp only [puts, runE, stpE, h', if_true]
      exact ih (fun x hx => hQ x (List.mem_cons_of_mem _ hx)) (putD d m s) (m + 1) (ok_put ok hr) rfl (by omega) (by show m + 1 + _ ≤ (d.secs.length : Int); push_cast at h1; omega) (fun x hx => hs x (List.mem_cons_of_mem _ hx)) (by show (d.pend ++ [(m, s)]).length + _ ≤ _; simp; omega) (h.more (fun _ => hsQ) _ _)
    · simp only [puts, runE, stpE, h']
      rw [if_neg (by decide)]
      exact h.more (fun _ => hsQ) _ _
theorem lay_poss {Q : ByteArray → Prop} {i : Int} (n : Int) (hd : ByteArray) (t : List ByteArray) (d : Disk) (hn : 0 ≤ n) (hl : n + t.length < d.secs.length) (ok : okB d = true) (off : d.off = false) (hp : d.pend = []) (hh : hd.size = 64) (ht : ∀ s ∈ t, s.size = 64) (htl : t.length ≤ 4000) (hQ : ∀ s ∈ t, Q s) (i0 : 0 ≤ i) (hne : n ≠ i) (h : Poss Q d i) :
    okB (runE d (layE n hd t)).1 = true ∧ Poss Q (runE d (layE n hd t)).1 i := by
  unfold layE
  have hP := puts_poss (i := i) t hQ d (n + 1) ok off (by omega) (by omega) ht (by rw [hp]; simp; omega) h
  rw [runE_app]
  rcases puts_go t d (n + 1) ok off (by omega) (by omega) ht (by rw [hp]; simp; omega) with ⟨d1, q1, q2, q3, q4, q5⟩ | ⟨e, k, q1, q2, q3, q4⟩
  · rw [q1] at hP
    rw [q1, if_pos rfl]
    dsimp only at hP ⊢
    rcases sync_go q2 q3 with ⟨_, h1⟩ | h1
    · simp only [runE, stpE, h1, if_true]
      have okS := ok_syn q2
      have hr : refuseE (synD d1) n hd = 0 := refuse_ok hn (by rw [synD_len]; rw [q4]; omega) hh (by simp [synD])
      have hS := hP.syn i0 q2
      rcases put_go okS (by show d1.off = false; exact q3) hr with ⟨_, h2⟩ | h2
      · rw [h2]
        dsimp only
        rw [if_pos rfl]
        have okP := ok_put okS hr
        have hM : Poss Q (putD (synD d1) n hd) i := hS.more (fun he => absurd he hne) _ _
        rcases sync_go okP rfl with ⟨_, h3⟩ | h3
        · rw [h3]
          dsimp only
          rw [if_pos rfl]
          exact ⟨ok_syn okP, hM.syn i0 okP⟩
        · rw [h3]
          dsimp only
          rw [if_neg (by decide)]
          exact ⟨okP, hM.held, hM.pend⟩
      · rw [h2]
        dsimp only
        rw [if_neg (by decide)]
        exact ⟨ok_pend okS hr true _, hS.more (fun he => absurd he hne) _ _⟩
    · simp only [runE, stpE, h1]
      rw [if_neg (by decide)]
      exact ⟨q2, hP.held, hP.pend⟩
  · rw [q1] at hP
    rw [q1, if_neg (show ¬ ((15 : Int) = 0) by decide)]
    exact ⟨q2, hP⟩
/-- Sectors that hold no head hold none behind a crash, but for that of the frame. -/
theorem app_rest {d : Disk} {r : Rg} {a : Nat} {f : Fr} (h0 : walChk d r = 0) (off : d.off = false) (hp : d.pend = []) (keep : List Bool) {i : Int} (i0 : 0 ≤ i) (hne : r.f + a ≠ i) (hi : (headE (now d i).data.toList).2 ≠ 0) :
    (headE (now (crashD (appE d r a f).d keep) i).data.toList).2 ≠ 0 := by
  obtain ⟨k1, k2, k3, k4, k5⟩ := walChk_zero h0
  have hP : Poss (fun s => (headE s.data.toList).2 ≠ 0) d i := ⟨by
    have : now d i = d.secs.getD i.toNat ⟨#[]⟩ := by unfold now; rw [hp]; rfl
    rw [← this]; exact hi, by rw [hp]; simp⟩
  have hbase : (headE (now (crashD d keep) i).data.toList).2 ≠ 0 := by
    rw [crash_now]; exact hP.aft i0 k1 keep
  unfold appE
  rw [if_neg (by simpa using h0)]
  by_cases h1 : (sectorsE f).2 = 0
  · obtain ⟨hc, hs⟩ := sectorsE_zero h1
    have hps := (fchk_zero hc).2
    rw [if_neg (by simpa using h1), hs]
    by_cases h2 : (a : Int) < 0 ∨ r.s < a
    · rw [if_pos h2]; exact hbase
    · rw [if_neg h2]
      dsimp only
      rw [secsL_len]
      by_cases h3 : r.s - a < ((pcs f.pay.size + 1 : Nat) : Int)
      · rw [if_pos h3]; exact hbase
      · rw [if_neg h3]
        have hsz := secsL_size f
        have hpc : pcs f.pay.size ≤ 269 := by unfold pcs; omega
        have hQ : ∀ s ∈ (secsL f).tail, (headE s.data.toList).2 ≠ 0 := by
          intro s hs'
          simp only [secsL, List.tail_cons, List.mem_map] at hs'
          obtain ⟨j, _, rfl⟩ := hs'
          rw [bs_list, hd_bad (piece_no' j _)]
          decide
        have key : okB (runE d (layE (r.f + a) ((secsL f).headD ⟨#[]⟩) (secsL f).tail)).1 = true ∧ Poss (fun s => (headE s.data.toList).2 ≠ 0) (runE d (layE (r.f + a) ((secsL f).headD ⟨#[]⟩) (secsL f).tail)).1 i := by
          obtain ⟨t, hL, htl⟩ := secsL_head f
          rw [hL] at hsz hQ ⊢
          generalize bs (headL (hdOf f)) = hd at hsz hQ
          dsimp only [List.headD_cons, List.tail_cons] at hQ ⊢
          push_cast at h3
          exact lay_poss (i := i) (r.f + a) hd t d (by omega) (by omega) k1 off hp (hsz hd List.mem_cons_self) (fun s hs => hsz s (List.mem_cons_of_mem _ hs)) (by omega) hQ i0 hne hP
        generalize runE d (layE (r.f + a) ((secsL f).headD ⟨#[]⟩) (secsL f).tail) = x at key ⊢
        by_cases h4 : x.2 = 0
        · rw [if_neg (by simpa using h4), crash_now]; exact key.2.aft i0 key.1 keep
        · rw [if_pos h4, crash_now]; exact key.2.aft i0 key.1 keep
  · rw [if_pos h1]; exact hbase
/-- A log behind whose end there is no head. -/
structure Lg (d : Disk) (S ep at' : Nat) (l : List Fr) : Prop where
  chk : walChk d ⟨0, S⟩ = 0
  off : d.off = false
  pend : d.pend = []
  num : cnt (cont d ⟨0, S⟩) S ep = l.length
  log : logF (cont d ⟨0, S⟩) S ep = l
  till : endF (cont d ⟨0, S⟩) S ep = at'
  rest : ∀ i, at' ≤ i → i < S → (headE (cont d ⟨0, S⟩ i).data.toList).2 ≠ 0
theorem Lg.fuse {d : Disk} {S ep at' : Nat} {l : List Fr} (g : Lg d S ep at' l) (f : Int) : Lg ⟨d.secs, d.pend, d.off, f⟩ S ep at' l := by
  obtain ⟨secs, pend, off, fuse⟩ := d
  exact ⟨g.chk, g.off, g.pend, g.num, g.log, g.till, g.rest⟩
theorem Written.lg {d : Disk} {S ep at' : Nat} {l : List Fr} (w : Written d S ep at' l) : Lg d S ep at' l :=
  ⟨w.chk, w.off, w.pend, w.num, w.log, w.till, fun i hi hi2 => by rw [w.rest i hi hi2, blank_head]; decide⟩
theorem frAt_headless {h : Nat → ByteArray} {s a : Nat} (hh : (headE (h a).data.toList).2 ≠ 0) : (frAt h s a).2 = 0 := by
  unfold frAt
  by_cases h1 : s ≤ a
  · rw [if_pos h1]
  · rw [if_neg h1, if_pos hh]
theorem Lg.scan {d : Disk} {S ep at' : Nat} {l : List Fr} (g : Lg d S ep at' l) : scanE d ⟨0, S⟩ ep = (l, at', 0) := by
  unfold scanE
  rw [if_neg (by simpa using g.chk), if_neg (by rw [g.off]; simp)]
  have e1 := g.log
  have e2 := g.till
  show (logF (cont d ⟨0, S⟩) S ep, endF (cont d ⟨0, S⟩) S ep, (0 : Int)) = _
  rw [e1, e2]
theorem Lg.le {d : Disk} {S ep at' : Nat} {l : List Fr} (g : Lg d S ep at' l) : at' ≤ S := by rw [← g.till]; exact pos_le _ _ _
theorem Lg.app {d : Disk} {S ep at' : Nat} {l : List Fr} {f : Fr} (g : Lg d S ep at' l) (hk : f.kind = 1) (hep : f.epoch = ep) (hep' : ep < 18446744073709551616) (hsq : f.seq = l.length) (hl : l.length ≤ 1000) (keep : List Bool) :
    ((appE d ⟨0, S⟩ at' f).d = d ∧ ((appE d ⟨0, S⟩ at' f).c = 3 ∨ (appE d ⟨0, S⟩ at' f).c = 16)) ∨
    (((appE d ⟨0, S⟩ at' f).c = 0 ∧ (appE d ⟨0, S⟩ at' f).at' = ((at' + (pcs f.pay.size + 1) : Nat) : Int) ∨ (appE d ⟨0, S⟩ at' f).c = 15) ∧ okB (appE d ⟨0, S⟩ at' f).d = true ∧
      (Lg (crashD (appE d ⟨0, S⟩ at' f).d keep) S ep (at' + (pcs f.pay.size + 1)) (l ++ [f]) ∨ ((appE d ⟨0, S⟩ at' f).c = 15 ∧ Lg (crashD (appE d ⟨0, S⟩ at' f).d keep) S ep at' l))) := by
  have hle := g.le
  obtain ⟨k1, k2, k3, k4, k5⟩ := walChk_zero g.chk
  have hrest := fun (i : Int) => app_rest (r := ⟨0, S⟩) (a := at') (f := f) g.chk g.off g.pend keep (i := i)
  have hfo : fchk f.kind f.pay.size = 0 → f.okn := fun hc => ⟨by rw [hk]; decide, by rw [hep]; exact hep', by rw [hsq]; omega, by have := (fchk_zero hc).2; omega⟩
  rcases app_crash (r := ⟨0, S⟩) (a := at') (f := f) g.chk g.off g.pend hfo keep with ⟨h1, _, h3⟩ | ⟨h1, h2, x⟩
  · rcases h3 with ⟨e, h⟩ | ⟨e, _⟩ | ⟨e, _⟩
    · exfalso
      rcases h with h | h
      · unfold fchk at h
        rw [if_neg (by rw [hk]; decide)] at h
        split at h <;> exact absurd h (by decide)
      · dsimp only at h; omega
    · exact .inl ⟨h1, .inl e⟩
    · exact .inl ⟨h1, .inr e⟩
  · refine .inr ⟨h1.imp (fun h => ⟨h.1, by rw [h.2]; push_cast; rfl⟩) And.left, h2, ?_⟩
    generalize (appE d ⟨0, S⟩ at' f).c = C at x h1 ⊢
    generalize crashD (appE d ⟨0, S⟩ at' f).d keep = e at x hrest ⊢
    have hr := x.room
    dsimp only at hr
    have hcn : ∀ i : Nat, i < S → cont e ⟨0, S⟩ i = now e i ∧ cont d ⟨0, S⟩ i = now d i := fun i hi => by
      have a1 := cont_now x.chk x.off (i := i) (by dsimp only; omega)
      have a2 := cont_now g.chk g.off (i := i) (by dsimp only; omega)
      rw [a1, a2]
      constructor <;> congr 1 <;> dsimp only <;> omega
    have hrest' : ∀ i : Nat, at' ≤ i → i ≠ at' → i < S → (headE (cont e ⟨0, S⟩ i).data.toList).2 ≠ 0 := fun i hi hne hi2 => by
      have := g.rest i hi hi2
      rw [(hcn i hi2).2] at this
      rw [(hcn i hi2).1]
      exact hrest i (by omega) (by dsimp only; omega) this
    rcases x.head g.chk g.off with ⟨h15, hh⟩ | li
    · have hR : ∀ i : Nat, at' ≤ i → i < S → (headE (cont e ⟨0, S⟩ i).data.toList).2 ≠ 0 := fun i hi hi2 => by
        by_cases he : i = at'
        · rw [he, hh]; exact g.rest _ (Nat.le_refl _) (by omega)
        · exact hrest' i hi he hi2
      have hsame : ∀ i, i < endF (cont d ⟨0, S⟩) S ep → cont e ⟨0, S⟩ i = cont d ⟨0, S⟩ i := fun i hi => by
        rw [g.till] at hi
        exact x.out' g.chk g.off (by dsimp only; omega) (.inl hi)
      have hg : ∀ j, j < cnt (cont d ⟨0, S⟩) S ep → good (cont d ⟨0, S⟩) S ep j = true := fun j hj => cnt_good _ S ep hj
      have p := pos_ext hg hsame
      have hpe : pos (cont e ⟨0, S⟩) S (cnt (cont d ⟨0, S⟩) S ep) = at' := by rw [(p _ (Nat.le_refl _)).1]; exact g.till
      have hng : good (cont e ⟨0, S⟩) S ep (cnt (cont d ⟨0, S⟩) S ep) = false := none_good (by
        rw [hpe]
        by_cases hs : S ≤ at'
        · unfold frAt; rw [if_pos hs]
        · exact frAt_headless (hR _ (Nat.le_refl _) (by omega)))
      obtain ⟨s1, s2, s3⟩ := log_same hsame (fun _ => hng)
      exact .inr ⟨h15, x.chk, x.off, x.pend, s1.trans g.num, s2.trans g.log, s3.trans g.till, hR⟩
    · dsimp only at li
      rw [Int.toNat_natCast] at li
      have hout : ∀ i, i < at' → cont e ⟨0, S⟩ i = cont d ⟨0, S⟩ i := fun i hi => x.out' g.chk g.off (by dsimp only; omega) (.inl hi)
      rw [← g.till] at li
      obtain ⟨m1, m2, m3, m4, m5⟩ := log_more (by rw [g.till]; exact hout) (by rw [g.num]; omega) li hep (by rw [g.num]; exact hsq)
      rw [g.num] at m1 m2 m3 m4 m5
      rw [g.till] at m4 m5
      have hR : ∀ i : Nat, at' + (pcs f.pay.size + 1) ≤ i → i < S → (headE (cont e ⟨0, S⟩ i).data.toList).2 ≠ 0 := fun i hi hi2 => hrest' i (by omega) (by omega) hi2
      have hng : good (cont e ⟨0, S⟩) S ep (l.length + 1) = false := none_good (by
        rw [m5]
        by_cases hs : S ≤ at' + (pcs f.pay.size + 1)
        · unfold frAt; rw [if_pos hs]
        · exact frAt_headless (hR _ (Nat.le_refl _) (by omega)))
      have hnum : cnt (cont e ⟨0, S⟩) S ep = l.length + 1 := by
        rcases Nat.lt_or_ge (l.length + 1) (cnt (cont e ⟨0, S⟩) S ep) with hlt | hge
        · rw [cnt_good _ _ _ hlt] at hng; exact absurd hng (by simp)
        · omega
      refine .inl ⟨x.chk, x.off, x.pend, by rw [hnum]; simp, ?_, ?_, hR⟩
      · unfold logF
        rw [hnum, List.range_succ, List.map_append, List.map_singleton, m3]
        have hlog := g.log
        unfold logF at hlog
        rw [g.num] at hlog
        have hmap : (List.range l.length).map (fun k => (frAt (cont e ⟨0, S⟩) S (pos (cont e ⟨0, S⟩) S k)).1) = (List.range l.length).map (fun k => (frAt (cont d ⟨0, S⟩) S (pos (cont d ⟨0, S⟩) S k)).1) := List.map_congr_left (fun k hk => m2 k (List.mem_range.1 hk))
        rw [hmap, hlog]
      · unfold endF
        rw [hnum, m5]
theorem Lg.kept {d e : Disk} {S ep at' : Nat} {a te : Int} {l : List Fr} {f : Fr} (h : appE d ⟨0, S⟩ a f = ⟨e, te, 0⟩) (keep : List Bool) (g : Lg (crashD e keep) S ep at' l) : Lg e S ep at' l := by
  have x := app_ok h
  have : crashD e keep = ⟨e.secs, e.pend, e.off, -1⟩ := by
    unfold crashD
    rw [x.pend, x.off]
    rfl
  rw [this] at g
  exact g.fuse e.fuse
end Go.Proofs.Ytiagjjbcngchpaa.Wal
