/-
  wal, as data: regions, the steps by which a frame is laid, appending, the frames that lie in a region. No walk.
-/
import Derived.Test.YtiegocbdgimimaaSectorSafeMath
import Derived.Test.YtiegocbdgimimaaRecMore
namespace Go.Proofs.Ytiegocbdgimimaa.Wal
open Go.Proofs.Ytiegocbdgimimaa.Mem Go.Proofs.Ytiegocbdgimimaa.Rec Go.Proofs.Ytiegocbdgimimaa.Sector
set_option linter.unusedVariables false
set_option maxRecDepth 10000
structure Rg where
  f : Int
  s : Int
def rgV (r : Rg) : Value := .agg #[.int .i64 r.f, .int .i64 r.s]
def rgB (k : Nat) (r : Rg) : Bool := decide (r.f < 0) || decide (r.s < 1) || decide ((k : Int) - r.f < r.s)
def walChk (d : Disk) (r : Rg) : Int := if okB d = false then 13 else if rgB d.secs.length r = true then 1 else 0
theorem walChk_zero {d : Disk} {r : Rg} (h : walChk d r = 0) : okB d = true ∧ 0 ≤ r.f ∧ 1 ≤ r.s ∧ r.f + r.s ≤ d.secs.length ∧ d.secs.length ≤ 1024 := by
  unfold walChk at h
  cases hk : okB d with
  | false => rw [hk] at h; simp at h
  | true =>
    rw [hk, if_neg (by simp)] at h
    cases hr : rgB d.secs.length r with
    | true => rw [hr] at h; simp at h
    | false =>
      simp only [rgB, Bool.or_eq_false_iff, decide_eq_false_iff_not] at hr
      have := (okp hk).2.1
      refine ⟨rfl, by omega, by omega, by omega, this⟩
inductive Stp where
  | put (n : Int) (s : ByteArray)
  | syn
def stpE (d : Disk) : Stp → Disk × Int
  | .put n s => putE d n s
  | .syn => syncE d
def runE (d : Disk) : List Stp → Disk × Int
  | [] => (d, 0)
  | x :: l => if (stpE d x).2 = 0 then runE (stpE d x).1 l else stpE d x
theorem runE_app (a b : List Stp) : ∀ d, runE d (a ++ b) = if (runE d a).2 = 0 then runE (runE d a).1 b else runE d a := by
  induction a with
  | nil => intro d; simp [runE]
  | cons x a ih =>
    intro d
    have e1 : ∀ c, runE d (x :: c) = if (stpE d x).2 = 0 then runE (stpE d x).1 c else stpE d x := fun c => rfl
    rw [List.cons_append, e1, e1]
    by_cases h : (stpE d x).2 = 0
    · rw [if_pos h, if_pos h, ih]
    · rw [if_neg h, if_neg h, if_neg h]
def puts (m : Int) : List ByteArray → List Stp
  | [] => []
  | s :: t => .put m s :: puts (m + 1) t
def layE (n : Int) (h : ByteArray) (t : List ByteArray) : List Stp := puts (n + 1) t ++ [.syn, .put n h, .syn]
theorem puts_snoc (t : List ByteArray) (s : ByteArray) : ∀ m : Int, puts m (t ++ [s]) = puts m t ++ [.put (m + t.length) s] := by
  induction t with
  | nil => intro m; simp [puts]
  | cons x t ih => intro m; simp only [List.cons_append, puts, ih, List.length_cons]; rw [show m + 1 + (t.length : Int) = m + ((t.length + 1 : Nat) : Int) by omega]
theorem puts_len (t : List ByteArray) : ∀ m, (puts m t).length = t.length := by
  induction t with
  | nil => intro m; rfl
  | cons x t ih => intro m; simp [puts, ih]
/-- A disk, a place, an error. -/
structure Ap where
  d : Disk
  at' : Int
  c : Int
def appE (d : Disk) (r : Rg) (a : Int) (f : Fr) : Ap :=
  if walChk d r ≠ 0 then ⟨zeroDisk, 0, walChk d r⟩
  else if (sectorsE f).2 ≠ 0 then ⟨d, 0, (sectorsE f).2⟩
  else if a < 0 ∨ r.s < a then ⟨d, 0, 1⟩
  else if r.s - a < ((sectorsE f).1.length : Int) then ⟨d, 0, 16⟩
  else
    let x := runE d (layE (r.f + a) ((sectorsE f).1.headD ⟨#[]⟩) (sectorsE f).1.tail)
    if x.2 ≠ 0 then ⟨x.1, 0, x.2⟩ else ⟨x.1, a + ((sectorsE f).1.length : Int), 0⟩
/-! ### what sectors hold -/
theorem put_inv {d e : Disk} {n : Int} {s : ByteArray} (h : putE d n s = (e, 0)) : okB d = true ∧ d.off = false ∧ refuseE d n s = 0 ∧ d.fuse ≠ 0 ∧ e = putD d n s := by
  unfold putE workE at h
  cases hk : okB d with
  | false => rw [hk, if_pos rfl] at h; simp at h
  | true =>
    rw [hk, if_neg (by simp)] at h
    cases ho : d.off with
    | true => rw [ho, if_pos rfl] at h; simp at h
    | false =>
      rw [ho, if_neg (by simp)] at h
      by_cases hr : refuseE d n s = 0
      · rw [if_neg (by simpa using hr)] at h
        by_cases hf : d.fuse = 0
        · rw [if_pos hf] at h; simp at h
        · rw [if_neg hf] at h
          refine ⟨rfl, rfl, hr, hf, ?_⟩
          simp only [Prod.mk.injEq, and_true] at h
          rw [← h]; unfold putD pendD; simp [ho]
      · rw [if_pos hr] at h; simp only [Prod.mk.injEq] at h; exact absurd h.2 hr
theorem sync_inv {d e : Disk} (h : syncE d = (e, 0)) : okB d = true ∧ d.off = false ∧ d.fuse ≠ 0 ∧ e = synD d := by
  unfold syncE workE at h
  cases hk : okB d with
  | false => rw [hk, if_pos rfl] at h; simp at h
  | true =>
    rw [hk, if_neg (by simp)] at h
    cases ho : d.off with
    | true => rw [ho, if_pos rfl] at h; simp at h
    | false =>
      rw [ho, if_neg (by simp), if_neg (by simp)] at h
      by_cases hf : d.fuse = 0
      · rw [if_pos hf] at h; simp at h
      · rw [if_neg hf] at h
        refine ⟨rfl, rfl, hf, ?_⟩
        simp only [Prod.mk.injEq, and_true] at h
        rw [← h]; unfold synD syncD; simp [ho]
theorem put_go {d : Disk} {n : Int} {s : ByteArray} (ok : okB d = true) (off : d.off = false) (hr : refuseE d n s = 0) : (d.fuse ≠ 0 ∧ putE d n s = (putD d n s, 0)) ∨ putE d n s = (⟨d.secs, d.pend ++ [(n, s)], true, d.fuse⟩, 15) := by
  unfold putE workE putD pendD
  rw [ok, hr, if_neg (by simp), off, if_neg (by simp), if_neg (by simp)]
  by_cases hf : d.fuse = 0
  · exact .inr (by rw [if_pos hf])
  · exact .inl ⟨hf, by rw [if_neg hf]⟩
theorem sync_go {d : Disk} (ok : okB d = true) (off : d.off = false) : (d.fuse ≠ 0 ∧ syncE d = (synD d, 0)) ∨ syncE d = (⟨d.secs, d.pend, true, d.fuse⟩, 15) := by
  unfold syncE workE synD syncD
  rw [ok, if_neg (by simp), off, if_neg (by simp), if_neg (by simp)]
  by_cases hf : d.fuse = 0
  · exact .inr (by rw [if_pos hf])
  · exact .inl ⟨hf, by rw [if_neg hf]⟩
def pends (m : Int) : List ByteArray → List (Int × ByteArray)
  | [] => []
  | s :: t => (m, s) :: pends (m + 1) t
theorem pends_len (t : List ByteArray) : ∀ m, (pends m t).length = t.length := by
  induction t with
  | nil => intro m; rfl
  | cons x t ih => intro m; simp [pends, ih]
theorem pends_snoc (t : List ByteArray) (s : ByteArray) : ∀ m : Int, pends m (t ++ [s]) = pends m t ++ [(m + t.length, s)] := by
  induction t with
  | nil => intro m; simp [pends]
  | cons x t ih => intro m; simp only [List.cons_append, pends, ih, List.length_cons]; rw [show m + 1 + (t.length : Int) = m + ((t.length + 1 : Nat) : Int) by omega]
theorem pends_mem (t : List ByteArray) : ∀ (m : Int) (p : Int × ByteArray), p ∈ pends m t → m ≤ p.1 ∧ p.1 < m + t.length := by
  induction t with
  | nil => intro m p hp; simp [pends] at hp
  | cons x t ih =>
    intro m p hp
    simp only [pends, List.mem_cons] at hp
    rw [List.length_cons]
    rcases hp with rfl | hp
    · dsimp only; omega
    · have := ih _ _ hp; omega
theorem heldS_pends (secs : List ByteArray) (L : List (Int × ByteArray)) (i : Int) (m : Int) (t : List ByteArray) :
    heldS secs (L ++ pends m t) i = if m ≤ i ∧ i < m + t.length then t.getD (i - m).toNat ⟨#[]⟩ else heldS secs L i := by
  generalize hn : t.length = n
  induction n generalizing t with
  | zero =>
    obtain rfl := List.eq_nil_of_length_eq_zero hn
    rw [if_neg (by omega)]
    simp [pends]
  | succ n ih =>
    obtain ⟨u, s, rfl⟩ : ∃ u s, t = u ++ [s] := by
      rcases List.eq_nil_or_concat t with h | ⟨u, s, h⟩
      · rw [h] at hn; simp at hn
      · exact ⟨u, s, by simpa using h⟩
    have hu : u.length = n := by simpa using hn
    rw [pends_snoc, ← List.append_assoc, heldS_snoc, ih u hu]
    dsimp only
    rw [hu]
    by_cases h1 : m + (n : Int) = i
    · rw [if_pos h1, if_pos (by push_cast; omega)]
      have : (i - m).toNat = u.length := by omega
      rw [this]; simp [List.getD]
    · rw [if_neg h1]
      by_cases h2 : m ≤ i ∧ i < m + (n : Int)
      · rw [if_pos h2, if_pos (by push_cast; omega)]
        have : (i - m).toNat < u.length := by omega
        simp only [List.getD]
        rw [List.getElem?_append_left this]
      · rw [if_neg h2, if_neg (by push_cast; omega)]
theorem sett_snoc (kp : Nat → Bool) (L : List (Int × ByteArray)) (p : Int × ByteArray) (secs : List ByteArray) : sett kp (L ++ [p]) secs (L ++ [p]).length = if kp L.length then (sett kp L secs L.length).set p.1.toNat p.2 else sett kp L secs L.length := by
  have key : ∀ k, k ≤ L.length → sett kp (L ++ [p]) secs k = sett kp L secs k := by
    intro k
    induction k with
    | zero => intro _; rfl
    | succ k ih =>
      intro hk
      have hk' : k < L.length := by omega
      simp only [sett, ih (by omega), List.getD, List.getElem?_append_left hk']
  rw [List.length_append, List.length_singleton]
  simp only [sett, key L.length (Nat.le_refl _), List.getD]
  simp
theorem sett_out (kp : Nat → Bool) (pend : List (Int × ByteArray)) (secs : List ByteArray) (i : Int) (h0 : 0 ≤ i) (hp : ∀ p ∈ pend, 0 ≤ p.1 ∧ p.1 ≠ i) : ∀ k, k ≤ pend.length → (sett kp pend secs k).getD i.toNat ⟨#[]⟩ = secs.getD i.toNat ⟨#[]⟩ := by
  intro k
  induction k with
  | zero => intro _; rfl
  | succ k ih =>
    intro hk
    have hk' : k < pend.length := by omega
    simp only [sett]
    split
    · have hq := hp pend[k] (List.getElem_mem hk')
      rw [← ih (by omega)]
      simp only [List.getD, List.getElem?_eq_getElem hk', Option.getD_some]
      rw [List.getElem?_set_ne (by omega)]
    · exact ih (by omega)
end Go.Proofs.Ytiegocbdgimimaa.Wal
