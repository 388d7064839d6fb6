/-
  What laying a frame comes to, wherever the power goes. No walk.
-/
import Derived.Test.YtiegocbdgimimaaWalMath
namespace Go.Proofs.Ytiegocbdgimimaa.Wal
open Go.Proofs.Ytiegocbdgimimaa.Mem Go.Proofs.Ytiegocbdgimimaa.Rec Go.Proofs.Ytiegocbdgimimaa.Sector
set_option linter.unusedVariables false
set_option maxRecDepth 10000
/-- What a sector holds now; what it holds behind a crash. -/
def now (d : Disk) (i : Int) : ByteArray := heldS d.secs d.pend i
def aft (d : Disk) (l : List Bool) (i : Int) : ByteArray := (sett (kept l) d.pend d.secs d.pend.length).getD i.toNat ⟨#[]⟩
theorem now_syn {d : Disk} (h : okB d = true) {i : Int} (h0 : 0 ≤ i) (h1 : i < d.secs.length) : now (synD d) i = now d i := by
  have := sett_held d.secs i h0 (by omega) d.pend.reverse (fun p hp => pend_pos h p (List.mem_reverse.1 hp))
  rw [List.reverse_reverse] at this
  unfold now
  rw [← this]
  simp [synD, heldS, lastW]
theorem synD_len (d : Disk) : (synD d).secs.length = d.secs.length := by simp [synD, sett_len]
theorem runE_cons {d e : Disk} {x : Stp} {l : List Stp} (h : runE d (x :: l) = (e, 0)) : ∃ d1, stpE d x = (d1, 0) ∧ runE d1 l = (e, 0) := by
  have e1 : runE d (x :: l) = if (stpE d x).2 = 0 then runE (stpE d x).1 l else stpE d x := rfl
  rw [e1] at h
  by_cases h2 : (stpE d x).2 = 0
  · rw [if_pos h2] at h
    exact ⟨_, by rw [← h2], h⟩
  · rw [if_neg h2] at h
    rw [h] at h2; exact absurd rfl h2
theorem runE_two {d e : Disk} {a b : List Stp} (h : runE d (a ++ b) = (e, 0)) : ∃ d1, runE d a = (d1, 0) ∧ runE d1 b = (e, 0) := by
  rw [runE_app] at h
  by_cases h2 : (runE d a).2 = 0
  · rw [if_pos h2] at h
    exact ⟨_, by rw [← h2], h⟩
  · rw [if_neg h2] at h
    rw [h] at h2; exact absurd rfl h2
theorem puts_done (t : List ByteArray) : ∀ (d e : Disk) (m : Int), runE d (puts m t) = (e, 0) → e.secs = d.secs ∧ e.pend = d.pend ++ pends m t ∧ (okB d = true → okB e = true) ∧ (d.off = false → e.off = false) := by
  induction t with
  | nil => intro d e m h; simp only [puts, runE, Prod.mk.injEq] at h; obtain ⟨rfl, _⟩ := h; simp [pends]
  | cons s t ih =>
    intro d e m h
    obtain ⟨d1, hp, h⟩ := runE_cons h
    obtain ⟨p1, p2, p3, p4, p5⟩ := put_inv hp
    rw [p5] at h
    obtain ⟨q1, q2, q3, q4⟩ := ih _ _ _ h
    refine ⟨q1, ?_, fun _ => q3 (ok_put p1 p3), fun _ => q4 rfl⟩
    rw [q2]; simp [putD, pends]
/-- Laid as a whole. -/
theorem lay_done (n : Int) (hd : ByteArray) (t : List ByteArray) (d e : Disk) (hn : 0 ≤ n) (hl : n + t.length < d.secs.length) (ok : okB d = true) (h : runE d (layE n hd t) = (e, 0)) :
    okB e = true ∧ e.off = false ∧ e.pend = [] ∧ e.secs.length = d.secs.length ∧ ∀ i : Int, 0 ≤ i → i < d.secs.length → now e i = if i = n then hd else if n + 1 ≤ i ∧ i < n + 1 + t.length then t.getD (i - (n + 1)).toNat ⟨#[]⟩ else now d i := by
  unfold layE at h
  obtain ⟨d1, hp, h⟩ := runE_two h
  obtain ⟨a1, a2, a3, a4⟩ := puts_done t d d1 (n + 1) hp
  have ok1 := a3 ok
  obtain ⟨d2, hs, h⟩ := runE_cons h
  obtain ⟨b1, b2, b3, b4⟩ := sync_inv hs
  obtain ⟨d3, hq, h⟩ := runE_cons h
  rw [b4] at hq
  obtain ⟨c1, c2, c3, c4, c5⟩ := put_inv hq
  obtain ⟨d4, hs2, h⟩ := runE_cons h
  rw [c5] at hs2
  obtain ⟨g1, g2, g3, g4⟩ := sync_inv hs2
  obtain rfl : d4 = e := congrArg Prod.fst h
  rw [g4]
  refine ⟨ok_syn g1, rfl, rfl, ?_, ?_⟩
  · rw [synD_len]; show (synD d1).secs.length = _; rw [synD_len, a1]
  · intro i i0 i1
    have hL : (putD (synD d1) n hd).secs.length = d.secs.length := by show (synD d1).secs.length = _; rw [synD_len, a1]
    rw [now_syn g1 i0 (by rw [hL]; exact i1)]
    have : now (putD (synD d1) n hd) i = if n = i then hd else now (synD d1) i := by
      unfold now putD; dsimp only; rw [heldS_snoc]
    rw [this]
    by_cases he : i = n
    · rw [if_pos he.symm, if_pos he]
    · rw [if_neg (fun x => he x.symm), if_neg he, now_syn b1 i0 (by rw [a1]; exact i1)]
      unfold now
      rw [a1, a2, heldS_pends]
theorem refuse_ok {d : Disk} {n : Int} {s : ByteArray} (h0 : 0 ≤ n) (h1 : n < d.secs.length) (hs : s.size = 64) (hp : d.pend.length < 4096) : refuseE d n s = 0 := by
  unfold refuseE
  rw [show missB d.secs.length n = false by simp [missB]; omega, show oddB s = false by simp [oddB, hs], if_neg (by simp), if_neg (by simp), if_neg (by omega)]
theorem puts_go (t : List ByteArray) : ∀ (d : Disk) (m : Int), okB d = true → d.off = false → 0 ≤ m → m + t.length ≤ d.secs.length → (∀ s ∈ t, s.size = 64) → d.pend.length + t.length ≤ 4096 →
    (∃ e, runE d (puts m t) = (e, 0) ∧ okB e = true ∧ e.off = false ∧ e.secs = d.secs ∧ e.pend = d.pend ++ pends m t) ∨
    (∃ e k, runE d (puts m t) = (e, 15) ∧ okB e = true ∧ e.secs = d.secs ∧ e.pend = d.pend ++ (pends m t).take k) := by
  induction t with
  | nil => intro d m ok off _ _ _ _; exact .inl ⟨d, rfl, ok, off, rfl, by simp [pends]⟩
  | cons s t ih =>
    intro d m ok off h0 h1 hs hp
    rw [List.length_cons] at h1 hp
    have hr : refuseE d m s = 0 := refuse_ok h0 (by push_cast at h1; omega) (hs s List.mem_cons_self) (by omega)
    rcases put_go ok off hr with ⟨hf, h⟩ | h
    · simp only [puts, runE, stpE, h, if_true]
      rcases ih (putD d m s) (m + 1) (ok_put ok hr) rfl (by omega) (by show m + 1 + _ ≤ (d.secs.length : Int); push_cast at h1; omega) (fun x hx => hs x (List.mem_cons_of_mem _ hx)) (by show (d.pend ++ [(m, s)]).length + _ ≤ _; simp; omega) with ⟨e, q1, q2, q3, q4, q5⟩ | ⟨e, k, q1, q2, q3, q4⟩
      · exact .inl ⟨e, q1, q2, q3, q4, by rw [q5]; simp [putD, pends]⟩
      · exact .inr ⟨e, k + 1, q1, q2, q3, by rw [q4]; simp [putD, pends]⟩
    · refine .inr ⟨_, 1, ?_, ok_pend ok hr true d.fuse, rfl, by simp [pends]⟩
      simp only [puts, runE, stpE, h]
      rw [if_neg (by decide)]
/-- Wherever the power goes while a frame is laid on a disk where all is synced: outside all is as it was; the head is as it was, or all is there. -/
theorem lay_crash (n : Int) (hd : ByteArray) (t : List ByteArray) (d : Disk) (hn : 0 ≤ n) (hl : n + t.length < d.secs.length) (ok : okB d = true) (off : d.off = false) (hp : d.pend = []) (hh : hd.size = 64) (ht : ∀ s ∈ t, s.size = 64) (htl : t.length ≤ 4000) (l : List Bool) :
    ∃ e c, runE d (layE n hd t) = (e, c) ∧ (c = 0 ∨ c = 15) ∧ okB e = true ∧ e.secs.length = d.secs.length ∧
      (∀ i : Int, 0 ≤ i → i < d.secs.length → (i < n ∨ n + t.length < i) → aft e l i = now d i) ∧
      ((c = 15 ∧ aft e l n = now d n) ∨ ∀ i : Int, n ≤ i → i ≤ n + t.length → aft e l i = if i = n then hd else t.getD (i - (n + 1)).toNat ⟨#[]⟩) := by
  have hnow : ∀ i : Int, now d i = d.secs.getD i.toNat ⟨#[]⟩ := fun i => by unfold now; rw [hp]; rfl
  unfold layE
  rw [runE_app]
  rcases puts_go t d (n + 1) ok off (by omega) (by omega) ht (by rw [hp]; simp; omega) with ⟨d1, q1, q2, q3, q4, q5⟩ | ⟨e, k, q1, q2, q3, q4⟩
  · rw [q1, if_pos rfl]
    rw [hp, List.nil_append] at q5
    have hpos : ∀ p ∈ d1.pend, 0 ≤ p.1 ∧ n + 1 ≤ p.1 ∧ p.1 < n + 1 + t.length := fun p hq => by rw [q5] at hq; have := pends_mem t _ p hq; omega
    have hL1 : d1.secs.length = d.secs.length := by rw [q4]
    rcases sync_go q2 q3 with ⟨_, h⟩ | h
    · simp only [runE, stpE, h, if_true]
      have hS : ∀ i : Int, 0 ≤ i → i < d.secs.length → now (synD d1) i = if n + 1 ≤ i ∧ i < n + 1 + t.length then t.getD (i - (n + 1)).toNat ⟨#[]⟩ else now d i := fun i i0 i1 => by
        rw [now_syn q2 i0 (by omega)]; unfold now; rw [q4, q5]
        have := heldS_pends d.secs [] i (n + 1) t
        rw [List.nil_append] at this
        rw [this, hp]
      have hS' : ∀ i : Int, now (synD d1) i = (synD d1).secs.getD i.toNat ⟨#[]⟩ := fun i => rfl
      have okS := ok_syn q2
      have hr : refuseE (synD d1) n hd = 0 := refuse_ok hn (by rw [synD_len]; omega) hh (by simp [synD])
      rcases put_go okS (by show d1.off = false; exact q3) hr with ⟨_, h2⟩ | h2
      · rw [h2]
        dsimp only
        rw [if_pos rfl]
        have okP := ok_put okS hr
        rcases sync_go okP rfl with ⟨_, h3⟩ | h3
        · rw [h3]
          dsimp only
          rw [if_pos rfl]
          refine ⟨_, 0, rfl, .inl rfl, ok_syn okP, by rw [synD_len]; show (synD d1).secs.length = _; rw [synD_len]; exact hL1, ?_, ?_⟩
          · intro i i0 i1 hi
            show now (synD (putD (synD d1) n hd)) i = _
            rw [now_syn okP i0 (by show i < ((synD d1).secs.length : Int); rw [synD_len]; omega)]
            have : now (putD (synD d1) n hd) i = if n = i then hd else now (synD d1) i := by unfold now putD; dsimp only; rw [heldS_snoc]
            rw [this, if_neg (by omega), hS i i0 i1, if_neg (by omega)]
          · refine .inr fun i hi hi2 => ?_
            show now (synD (putD (synD d1) n hd)) i = _
            rw [now_syn okP (by omega) (by show i < ((synD d1).secs.length : Int); rw [synD_len]; omega)]
            have : now (putD (synD d1) n hd) i = if n = i then hd else now (synD d1) i := by unfold now putD; dsimp only; rw [heldS_snoc]
            rw [this]
            by_cases he : i = n
            · rw [if_pos he.symm, if_pos he]
            · rw [if_neg (fun x => he x.symm), if_neg he, hS i (by omega) (by omega), if_pos (by omega)]
        · rw [h3]
          dsimp only
          rw [if_neg (by decide)]
          refine ⟨_, 15, rfl, .inr rfl, okP, by show (synD d1).secs.length = _; rw [synD_len]; exact hL1, ?_, ?_⟩
          · intro i i0 i1 hi
            have : aft ⟨(putD (synD d1) n hd).secs, (putD (synD d1) n hd).pend, true, (putD (synD d1) n hd).fuse⟩ l i = (synD d1).secs.getD i.toNat ⟨#[]⟩ := by
              unfold aft; dsimp only [putD]
              exact sett_out _ _ _ _ i0 (fun p hp => by simp [synD] at hp; subst hp; dsimp only; omega) _ (Nat.le_refl _)
            rw [this, ← hS', hS i i0 i1, if_neg (by omega)]
          · cases hk : kept l 0 with
            | false =>
              refine .inl ⟨rfl, ?_⟩
              have : aft ⟨(putD (synD d1) n hd).secs, (putD (synD d1) n hd).pend, true, (putD (synD d1) n hd).fuse⟩ l n = (synD d1).secs.getD n.toNat ⟨#[]⟩ := by
                unfold aft; dsimp only [putD, synD]; simp [sett, hk]
              rw [this, ← hS', hS n hn (by omega), if_neg (by omega)]
            | true =>
              refine .inr fun i hi hi2 => ?_
              have : aft ⟨(putD (synD d1) n hd).secs, (putD (synD d1) n hd).pend, true, (putD (synD d1) n hd).fuse⟩ l i = ((synD d1).secs.set n.toNat hd).getD i.toNat ⟨#[]⟩ := by
                unfold aft; dsimp only [putD, synD]; simp [sett, hk]
              rw [this]
              by_cases he : i = n
              · rw [if_pos he, he]
                have : n.toNat < (synD d1).secs.length := by rw [synD_len]; omega
                simp [List.getD, this]
              · rw [if_neg he]
                have : ((synD d1).secs.set n.toNat hd).getD i.toNat ⟨#[]⟩ = (synD d1).secs.getD i.toNat ⟨#[]⟩ := by
                  simp only [List.getD]; rw [List.getElem?_set_ne (by omega)]
                rw [this, ← hS', hS i (by omega) (by omega), if_pos (by omega)]
      · rw [h2]
        dsimp only
        rw [if_neg (by decide)]
        refine ⟨_, 15, rfl, .inr rfl, ok_pend okS hr true _, by show (synD d1).secs.length = _; rw [synD_len]; exact hL1, ?_, ?_⟩
        · intro i i0 i1 hi
          have : aft ⟨(synD d1).secs, (synD d1).pend ++ [(n, hd)], true, (synD d1).fuse⟩ l i = (synD d1).secs.getD i.toNat ⟨#[]⟩ := by
            unfold aft; dsimp only
            exact sett_out _ _ _ _ i0 (fun p hp => by simp [synD] at hp; subst hp; dsimp only; omega) _ (Nat.le_refl _)
          rw [this, ← hS', hS i i0 i1, if_neg (by omega)]
        · cases hk : kept l 0 with
          | false =>
            refine .inl ⟨rfl, ?_⟩
            have : aft ⟨(synD d1).secs, (synD d1).pend ++ [(n, hd)], true, (synD d1).fuse⟩ l n = (synD d1).secs.getD n.toNat ⟨#[]⟩ := by
              unfold aft; dsimp only [synD]; simp [sett, hk]
            rw [this, ← hS', hS n hn (by omega), if_neg (by omega)]
          | true =>
            refine .inr fun i hi hi2 => ?_
            have : aft ⟨(synD d1).secs, (synD d1).pend ++ [(n, hd)], true, (synD d1).fuse⟩ l i = ((synD d1).secs.set n.toNat hd).getD i.toNat ⟨#[]⟩ := by
              unfold aft; dsimp only [synD]; simp [sett, hk]
            rw [this]
            by_cases he : i = n
            · rw [if_pos he, he]
              have : n.toNat < (synD d1).secs.length := by rw [synD_len]; omega
              simp [List.getD, this]
            · rw [if_neg he]
              have : ((synD d1).secs.set n.toNat hd).getD i.toNat ⟨#[]⟩ = (synD d1).secs.getD i.toNat ⟨#[]⟩ := by
                simp only [List.getD]; rw [List.getElem?_set_ne (by omega)]
              rw [this, ← hS', hS i (by omega) (by omega), if_pos (by omega)]
    · simp only [runE, stpE, h]
      rw [if_neg (by decide)]
      refine ⟨_, 15, rfl, .inr rfl, q2, hL1, ?_, .inl ⟨rfl, ?_⟩⟩
      · intro i i0 i1 hi
        unfold aft; dsimp only
        rw [sett_out _ _ _ _ i0 (fun p hp => by have := hpos p hp; omega) _ (Nat.le_refl _), hnow, q4]
      · unfold aft; dsimp only
        rw [sett_out _ _ _ _ hn (fun p hp => by have := hpos p hp; omega) _ (Nat.le_refl _), hnow, q4]
  · rw [q1]
    rw [if_neg (by simp)]
    rw [hp, List.nil_append] at q4
    have hpos : ∀ p ∈ e.pend, 0 ≤ p.1 ∧ n + 1 ≤ p.1 ∧ p.1 < n + 1 + t.length := fun p hq => by rw [q4] at hq; have := pends_mem t _ p (List.mem_of_mem_take hq); omega
    refine ⟨_, 15, rfl, .inr rfl, q2, by rw [q3], ?_, .inl ⟨rfl, ?_⟩⟩
    · intro i i0 i1 hi
      unfold aft
      rw [sett_out _ _ _ _ i0 (fun p hp => by have := hpos p hp; omega) _ (Nat.le_refl _), hnow, q3]
    · unfold aft
      rw [sett_out _ _ _ _ hn (fun p hp => by have := hpos p hp; omega) _ (Nat.le_refl _), hnow, q3]
end Go.Proofs.Ytiegocbdgimimaa.Wal
