/-
  The service's bytes: texts, numbers, changes, requests, replies as lists of bytes, and what reads them. No program is named.
-/
import Derived.Test.YtldlkoiekdlmhaaCrcCore
namespace Go.Proofs.Ytldlkoiekdlmhaa.Wi
open Go.Proofs.Ytldlkoiekdlmhaa.Crc
set_option linter.unusedVariables false
set_option linter.unusedSimpArgs false
/-! ### parts that are read from the left -/
abbrev P (α : Type) := List UInt8 → Option (α × List UInt8)
def bs (l : List UInt8) : ByteArray := ⟨l.toArray⟩
theorem bs_list (l : List UInt8) : (bs l).data.toList = l := by simp [bs]
theorem bs_of (s : ByteArray) : bs s.data.toList = s := by simp [bs]
theorem bs_size (l : List UInt8) : (bs l).size = l.length := by show l.toArray.size = _; simp
theorem len_size (s : ByteArray) : s.data.toList.length = s.size := by simp
def cut (n : Nat) : P (List UInt8) := fun l => if n ≤ l.length then some (l.take n, l.drop n) else none
def pB : P Nat
  | [] => none
  | b :: l => some (b.toNat, l)
def pN : P Nat := fun l => if 8 ≤ l.length then some (num (l.take 8), l.drop 8) else none
def pF : P Bool
  | [] => none
  | b :: l => if b.toNat = 0 then some (false, l) else if b.toNat = 1 then some (true, l) else none
def pT : P ByteArray := fun l => if 4 ≤ l.length then (if num (l.take 4) ≤ 2048 ∧ num (l.take 4) ≤ (l.drop 4).length then some (bs ((l.drop 4).take (num (l.take 4))), (l.drop 4).drop (num (l.take 4))) else none) else none
def txt (s : ByteArray) : List UInt8 := leb 4 s.size ++ s.data.toList
theorem txt_len (s : ByteArray) : (txt s).length = 4 + s.size := by simp [txt, leb_len]
theorem u8_inj {a b : UInt8} (h : a.toNat = b.toNat) : a = b := by
  have := congrArg UInt8.ofNat h
  simpa using this
theorem leb_num (l : List UInt8) : leb l.length (num l) = l := by
  induction l with
  | nil => rfl
  | cons b l ih =>
    show UInt8.ofNat (num (b :: l)) :: leb l.length (num (b :: l) / 256) = _
    have h1 : num (b :: l) = b.toNat + 256 * num l := rfl
    have hb := b.toNat_lt
    have h2 : num (b :: l) / 256 = num l := by rw [h1]; omega
    rw [h2, ih]
    congr 1
    apply u8_inj
    rw [UInt8.toNat_ofNat', h1]; omega
theorem pT_of {l : List UInt8} {s : ByteArray} {t : List UInt8} (h : pT l = some (s, t)) : l = txt s ++ t ∧ s.size ≤ 2048 := by
  unfold pT at h
  split at h
  case isFalse => cases h
  split at h
  case isFalse => cases h
  rename_i h4 hn
  simp only [Option.some.injEq, Prod.mk.injEq] at h
  obtain ⟨rfl, rfl⟩ := h
  have hl : ((l.drop 4).take (num (l.take 4))).length = num (l.take 4) := by rw [List.length_take]; omega
  have e4 : (l.take 4).length = 4 := by rw [List.length_take]; omega
  refine ⟨?_, by rw [bs_size, hl]; exact hn.1⟩
  unfold txt
  rw [bs_size, bs_list, hl]
  have := leb_num (l.take 4)
  rw [e4] at this
  rw [this, List.append_assoc, List.take_append_drop, List.take_append_drop]
theorem pT_txt (s : ByteArray) (t : List UInt8) (h : s.size ≤ 2048) : pT (txt s ++ t) = some (s, t) := by
  unfold pT
  have h1 : (txt s ++ t).take 4 = leb 4 s.size := by unfold txt; rw [List.append_assoc, List.take_left' (leb_len 4 _)]
  have h2 : (txt s ++ t).drop 4 = s.data.toList ++ t := by unfold txt; rw [List.append_assoc, List.drop_left' (leb_len 4 _)]
  have h3 : num (leb 4 s.size) = s.size := num_leb4 _ (by omega)
  rw [h1, h2, h3, if_pos (by rw [List.length_append, txt_len]; omega), if_pos ⟨h, by rw [List.length_append, len_size]; omega⟩, List.take_left' (len_size s), List.drop_left' (len_size s), bs_of]
theorem pN_of {l : List UInt8} {n : Nat} {t : List UInt8} (h : pN l = some (n, t)) : l = leb 8 n ++ t ∧ n < 18446744073709551616 := by
  unfold pN at h
  split at h
  case isFalse => cases h
  rename_i h8
  simp only [Option.some.injEq, Prod.mk.injEq] at h
  obtain ⟨rfl, rfl⟩ := h
  have e : (l.take 8).length = 8 := by rw [List.length_take]; omega
  have := leb_num (l.take 8)
  rw [e] at this
  have h2 := num_lt (l.take 8)
  rw [e] at h2
  exact ⟨by rw [this, List.take_append_drop], by omega⟩
theorem pN_leb (n : Nat) (t : List UInt8) (h : n < 18446744073709551616) : pN (leb 8 n ++ t) = some (n, t) := by
  unfold pN
  rw [if_pos (by rw [List.length_append, leb_len]; omega), List.take_left' (leb_len 8 _), List.drop_left' (leb_len 8 _), num_leb8 n h]
theorem pB_of {l : List UInt8} {n : Nat} {t : List UInt8} (h : pB l = some (n, t)) : l = UInt8.ofNat n :: t ∧ n < 256 := by
  cases l with
  | nil => cases h
  | cons b l =>
    simp only [pB, Option.some.injEq, Prod.mk.injEq] at h
    obtain ⟨rfl, rfl⟩ := h
    exact ⟨by simp, b.toNat_lt⟩
theorem pB_cons (n : Nat) (t : List UInt8) (h : n < 256) : pB (UInt8.ofNat n :: t) = some (n, t) := by
  simp only [pB, UInt8.toNat_ofNat']
  rw [Nat.mod_eq_of_lt (by omega)]
def fl (b : Bool) : UInt8 := if b then 1 else 0
theorem pF_of {l : List UInt8} {b : Bool} {t : List UInt8} (h : pF l = some (b, t)) : l = fl b :: t := by
  cases l with
  | nil => cases h
  | cons c l =>
    simp only [pF] at h
    split at h
    · rename_i hc
      simp only [Option.some.injEq, Prod.mk.injEq] at h
      obtain ⟨rfl, rfl⟩ := h
      rw [show c = fl false from u8_inj (by rw [hc]; rfl)]
    · split at h
      · rename_i hc
        simp only [Option.some.injEq, Prod.mk.injEq] at h
        obtain ⟨rfl, rfl⟩ := h
        rw [show c = fl true from u8_inj (by rw [hc]; rfl)]
      · cases h
theorem pF_fl (b : Bool) (t : List UInt8) : pF (fl b :: t) = some (b, t) := by cases b <;> rfl
/-! ### changes -/
structure Ch where
  k : Nat
  i : ByteArray
  t : ByteArray
  ut : ByteArray
  ui : ByteArray
deriving DecidableEq
def E0 : ByteArray := ⟨#[]⟩
def chZ : Ch := ⟨0, E0, E0, E0, E0⟩
/-- what a change of its kind has: Id, Text, Uid -/
def chR (c : Ch) : Prop := (1 ≤ c.k ∧ c.k ≤ 5) ∧ (c.k ≠ 2 → c.k ≠ 3 → c.i = E0) ∧ (c.k ≠ 1 → c.k ≠ 2 → c.k ≠ 4 → c.t = E0) ∧ (c.k ≠ 5 → c.ut = E0 ∧ c.ui = E0)
instance (c : Ch) : Decidable (chR c) := by unfold chR; infer_instance
def chS (c : Ch) : Prop := c.i.size ≤ 2048 ∧ c.t.size ≤ 2048 ∧ c.ut.size ≤ 2048 ∧ c.ui.size ≤ 2048
instance (c : Ch) : Decidable (chS c) := by unfold chS; infer_instance
def chE (c : Ch) : List UInt8 := UInt8.ofNat c.k :: (txt c.i ++ (txt c.t ++ (txt c.ut ++ txt c.ui)))
def packR (l : List Ch) : Prop := l.length ≤ 255 ∧ (∀ c ∈ l, chR c) ∧ ∀ c ∈ l, chS c
def packE (l : List Ch) : List UInt8 := UInt8.ofNat l.length :: l.flatMap chE
/-- what reads one behind the other -/
def pBind {α β : Type} (p : P α) (q : α → P β) : P β := fun l => match p l with
  | none => none
  | some (a, t) => q a t
def pRet {α : Type} (a : α) : P α := fun l => some (a, l)
theorem pBind_some {α β : Type} {p : P α} {q : α → P β} {l t : List UInt8} {b : β} (h : pBind p q l = some (b, t)) : ∃ a u, p l = some (a, u) ∧ q a u = some (b, t) := by
  unfold pBind at h
  cases hp : p l with
  | none => rw [hp] at h; cases h
  | some x => rw [hp] at h; exact ⟨x.1, x.2, rfl, h⟩
theorem pBind_of {α β : Type} {p : P α} {q : α → P β} {l u : List UInt8} {a : α} (h : p l = some (a, u)) : pBind p q l = q a u := by unfold pBind; rw [h]
def pC : P Ch := pBind pB fun k => pBind pT fun i => pBind pT fun t => pBind pT fun ut => pBind pT fun ui => pRet ⟨k, i, t, ut, ui⟩
theorem pC_of {l t : List UInt8} {c : Ch} (h : pC l = some (c, t)) : l = chE c ++ t ∧ chS c ∧ c.k < 256 := by
  obtain ⟨k, l1, h1, h⟩ := pBind_some h
  obtain ⟨i, l2, h2, h⟩ := pBind_some h
  obtain ⟨x, l3, h3, h⟩ := pBind_some h
  obtain ⟨ut, l4, h4, h⟩ := pBind_some h
  obtain ⟨ui, l5, h5, h⟩ := pBind_some h
  simp only [pRet, Option.some.injEq, Prod.mk.injEq] at h
  obtain ⟨rfl, rfl⟩ := h
  obtain ⟨e1, g1⟩ := pB_of h1
  obtain ⟨e2, g2⟩ := pT_of h2
  obtain ⟨e3, g3⟩ := pT_of h3
  obtain ⟨e4, g4⟩ := pT_of h4
  obtain ⟨e5, g5⟩ := pT_of h5
  refine ⟨?_, ⟨g2, g3, g4, g5⟩, g1⟩
  rw [e1, e2, e3, e4, e5]; simp [chE]
theorem pC_chE (c : Ch) (t : List UInt8) (h : chS c) (hk : c.k < 256) : pC (chE c ++ t) = some (c, t) := by
  obtain ⟨g2, g3, g4, g5⟩ := h
  unfold pC chE
  simp only [List.cons_append, List.append_assoc]
  rw [pBind_of (pB_cons c.k _ hk), pBind_of (pT_txt c.i _ g2), pBind_of (pT_txt c.t _ g3), pBind_of (pT_txt c.ut _ g4), pBind_of (pT_txt c.ui _ g5)]
  rfl
def pCs : Nat → P (List Ch)
  | 0 => pRet []
  | n + 1 => pBind pC fun c => pBind (pCs n) fun l => pRet (c :: l)
theorem pCs_of (n : Nat) : ∀ {l t : List UInt8} {cs : List Ch}, pCs n l = some (cs, t) → l = cs.flatMap chE ++ t ∧ cs.length = n ∧ ∀ c ∈ cs, chS c := by
  induction n with
  | zero =>
    intro l t cs h
    simp only [pCs, pRet, Option.some.injEq, Prod.mk.injEq] at h
    obtain ⟨rfl, rfl⟩ := h
    simp
  | succ n ih =>
    intro l t cs h
    obtain ⟨c, u, h1, h⟩ := pBind_some h
    obtain ⟨m, v, h2, h⟩ := pBind_some h
    simp only [pRet, Option.some.injEq, Prod.mk.injEq] at h
    obtain ⟨rfl, rfl⟩ := h
    obtain ⟨e1, s1, _⟩ := pC_of h1
    obtain ⟨e2, n2, s2⟩ := ih h2
    refine ⟨by rw [e1, e2]; simp, by simp [n2], ?_⟩
    intro x hx
    rcases List.mem_cons.1 hx with rfl | hx
    · exact s1
    · exact s2 x hx
theorem pCs_E (cs : List Ch) (t : List UInt8) (hs : ∀ c ∈ cs, chS c) (hk : ∀ c ∈ cs, c.k < 256) : pCs cs.length (cs.flatMap chE ++ t) = some (cs, t) := by
  induction cs with
  | nil => rfl
  | cons c cs ih =>
    show pBind pC _ _ = _
    rw [List.flatMap_cons, List.append_assoc, pBind_of (pC_chE c _ (hs c (by simp)) (hk c (by simp))), pBind_of (ih (fun x hx => hs x (by simp [hx])) (fun x hx => hk x (by simp [hx])))]
    rfl
theorem chR_k {c : Ch} (h : chR c) : c.k < 256 := by have := h.1; omega
/-- two lists that are packed alike are one -/
theorem packE_inj {a b : List Ch} (ha : packR a) (hb : packR b) (h : packE a = packE b) : a = b := by
  unfold packE at h
  simp only [List.cons.injEq] at h
  have h0 := congrArg UInt8.toNat h.1
  have ha1 := ha.1
  have hb1 := hb.1
  rw [UInt8.toNat_ofNat', UInt8.toNat_ofNat', Nat.mod_eq_of_lt (by omega), Nat.mod_eq_of_lt (by omega)] at h0
  have h1 := pCs_E a [] ha.2.2 (fun c hc => chR_k (ha.2.1 c hc))
  have h2 := pCs_E b [] hb.2.2 (fun c hc => chR_k (hb.2.1 c hc))
  rw [List.append_nil] at h1 h2
  rw [h.2, h0, h2] at h1
  simpa using h1.symm
/-- why a list has no bytes: 0, ErrMany, ErrSyntax, ErrLong -/
def packW (l : List Ch) (many syntx long : Int) : Int := if 255 < l.length then many else if ∃ c ∈ l, ¬ chR c then syntx else if ∃ c ∈ l, ¬ chS c then long else 0
/-! ### requests -/
structure Ask where
  k : Nat
  tx : Nat
  c : Ch
  v : Nat
  s0 : ByteArray
  s1 : ByteArray
  s2 : ByteArray
  s3 : ByteArray
  s4 : ByteArray
  s5 : ByteArray
  s6 : ByteArray
deriving DecidableEq
def askZ : Ask := ⟨0, 0, chZ, 0, E0, E0, E0, E0, E0, E0, E0⟩
def noQ (a : Ask) : Prop := a.s0 = E0 ∧ a.s1 = E0 ∧ a.s2 = E0 ∧ a.s3 = E0 ∧ a.s4 = E0 ∧ a.s5 = E0 ∧ a.s6 = E0
instance (a : Ask) : Decidable (noQ a) := by unfold noQ; infer_instance
def qS (a : Ask) : Prop := a.s0.size ≤ 2048 ∧ a.s1.size ≤ 2048 ∧ a.s2.size ≤ 2048 ∧ a.s3.size ≤ 2048 ∧ a.s4.size ≤ 2048 ∧ a.s5.size ≤ 2048 ∧ a.s6.size ≤ 2048
instance (a : Ask) : Decidable (qS a) := by unfold qS; infer_instance
def cR (c : Ch) : Prop := chR c ∧ chS c
instance (c : Ch) : Decidable (cR c) := by unfold cR; infer_instance
/-- a request is right -/
def askR (a : Ask) : Prop := (1 ≤ a.k ∧ a.k ≤ 8) ∧ (a.k ≠ 2 → a.k ≠ 3 → a.k ≠ 4 → a.tx = 0) ∧ (if a.k = 2 then cR a.c else a.c = chZ) ∧ (a.k ≠ 6 → a.v = 0) ∧ (if a.k = 5 ∨ a.k = 6 then qS a else noQ a)
instance (a : Ask) : Decidable (askR a) := by unfold askR; infer_instance
def qE (a : Ask) : List UInt8 := txt a.s0 ++ (txt a.s1 ++ (txt a.s2 ++ (txt a.s3 ++ (txt a.s4 ++ (txt a.s5 ++ txt a.s6)))))
def askT (a : Ask) : List UInt8 := if a.k = 2 then leb 8 a.tx ++ packE [a.c] else if a.k = 3 ∨ a.k = 4 then leb 8 a.tx else if a.k = 5 then qE a else if a.k = 6 then leb 8 a.v ++ qE a else []
def askE (a : Ask) : List UInt8 := UInt8.ofNat a.k :: askT a
/-- the numbers fit -/
def askN (a : Ask) : Prop := a.k < 256 ∧ a.tx < 18446744073709551616 ∧ a.v < 18446744073709551616 ∧ a.c.k < 256
def pQ (a : Ask) : P Ask := pBind pT fun x0 => pBind pT fun x1 => pBind pT fun x2 => pBind pT fun x3 => pBind pT fun x4 => pBind pT fun x5 => pBind pT fun x6 => pRet { a with s0 := x0, s1 := x1, s2 := x2, s3 := x3, s4 := x4, s5 := x5, s6 := x6 }
theorem pQ_E (a b : Ask) (t : List UInt8) (h : qS b) : pQ a (qE b ++ t) = some ({ a with s0 := b.s0, s1 := b.s1, s2 := b.s2, s3 := b.s3, s4 := b.s4, s5 := b.s5, s6 := b.s6 }, t) := by
  obtain ⟨g0, g1, g2, g3, g4, g5, g6⟩ := h
  unfold pQ qE
  simp only [List.append_assoc]
  rw [pBind_of (pT_txt _ _ g0), pBind_of (pT_txt _ _ g1), pBind_of (pT_txt _ _ g2), pBind_of (pT_txt _ _ g3), pBind_of (pT_txt _ _ g4), pBind_of (pT_txt _ _ g5), pBind_of (pT_txt _ _ g6)]
  rfl
theorem pQ_of {a b : Ask} {l t : List UInt8} (h : pQ a l = some (b, t)) : l = qE b ++ t ∧ qS b ∧ b = { a with s0 := b.s0, s1 := b.s1, s2 := b.s2, s3 := b.s3, s4 := b.s4, s5 := b.s5, s6 := b.s6 } := by
  obtain ⟨x0, l0, h0, h⟩ := pBind_some h
  obtain ⟨x1, l1, h1, h⟩ := pBind_some h
  obtain ⟨x2, l2, h2, h⟩ := pBind_some h
  obtain ⟨x3, l3, h3, h⟩ := pBind_some h
  obtain ⟨x4, l4, h4, h⟩ := pBind_some h
  obtain ⟨x5, l5, h5, h⟩ := pBind_some h
  obtain ⟨x6, l6, h6, h⟩ := pBind_some h
  simp only [pRet, Option.some.injEq, Prod.mk.injEq] at h
  obtain ⟨rfl, rfl⟩ := h
  obtain ⟨e0, g0⟩ := pT_of h0
  obtain ⟨e1, g1⟩ := pT_of h1
  obtain ⟨e2, g2⟩ := pT_of h2
  obtain ⟨e3, g3⟩ := pT_of h3
  obtain ⟨e4, g4⟩ := pT_of h4
  obtain ⟨e5, g5⟩ := pT_of h5
  obtain ⟨e6, g6⟩ := pT_of h6
  refine ⟨?_, ⟨g0, g1, g2, g3, g4, g5, g6⟩, rfl⟩
  rw [e0, e1, e2, e3, e4, e5, e6]; simp [qE]
/-- the change that all bytes that are left are -/
def pW : P Ch := pBind pB fun n => if n = 1 then pBind pC fun c => fun t => if t = [] ∧ chR c then some (c, []) else none else fun _ => none
theorem pW_of {l t : List UInt8} {c : Ch} (h : pW l = some (c, t)) : l = packE [c] ∧ t = [] ∧ cR c := by
  obtain ⟨n, l1, h1, h⟩ := pBind_some h
  split at h
  · rename_i hn
    subst hn
    obtain ⟨x, l2, h2, h⟩ := pBind_some h
    split at h
    · rename_i hx
      simp only [Option.some.injEq, Prod.mk.injEq] at h
      obtain ⟨rfl, rfl⟩ := h
      obtain ⟨e1, _⟩ := pB_of h1
      obtain ⟨e2, s2, _⟩ := pC_of h2
      refine ⟨?_, rfl, hx.2, s2⟩
      rw [e1, e2, hx.1]; simp [packE]
    · cases h
  · cases h
theorem pW_E (c : Ch) (h : cR c) : pW (packE [c]) = some (c, []) := by
  unfold pW packE
  rw [show ([c] : List Ch).length = 1 from rfl, pBind_of (pB_cons 1 _ (by omega)), if_pos rfl]
  have := pC_chE c [] h.2 (chR_k h.1)
  rw [List.append_nil] at this
  rw [show ([c] : List Ch).flatMap chE = chE c by simp, pBind_of this, if_pos ⟨rfl, h.1⟩]
/-- what is behind the kind -/
def pK (k : Nat) (a : Ask) : P Ask :=
  if k = 2 then pBind pN fun n => pBind pW fun c => pRet { a with tx := n, c := c }
  else if k = 3 ∨ k = 4 then pBind pN fun n => pRet { a with tx := n }
  else if k = 5 then pQ a
  else if k = 6 then pBind pN fun n => pQ { a with v := n }
  else pRet a
def pA : P Ask := pBind pB fun k => pK k { askZ with k := k }
theorem pA_of {l : List UInt8} {a : Ask} {t : List UInt8} (h : pA l = some (a, t)) (h1 : 1 ≤ a.k) (h8 : a.k ≤ 8) : l = askE a ++ t ∧ askR a ∧ askN a := by
  obtain ⟨k, l1, hk, h⟩ := pBind_some h
  obtain ⟨ek, gk⟩ := pB_of hk
  unfold pK at h
  by_cases k2 : k = 2
  · subst k2
    rw [if_pos rfl] at h
    obtain ⟨n, l2, hn, h⟩ := pBind_some h
    obtain ⟨c, l3, hc, h⟩ := pBind_some h
    simp only [pRet, Option.some.injEq, Prod.mk.injEq] at h
    obtain ⟨rfl, rfl⟩ := h
    obtain ⟨en, gn⟩ := pN_of hn
    obtain ⟨ec, rfl, gc⟩ := pW_of hc
    refine ⟨by rw [ek, en, ec]; simp [askE, askT, List.append_assoc], ?_, ⟨(by show (2 : Nat) < 256; decide), gn, (by show (0 : Nat) < 18446744073709551616; decide), chR_k gc.1⟩⟩
    refine ⟨(by show 1 ≤ 2 ∧ 2 ≤ 8; decide), fun h => absurd rfl h, ?_, fun _ => rfl, ?_⟩
    · show if (2 : Nat) = 2 then _ else _
      rw [if_pos rfl]; exact gc
    · show if (2 : Nat) = 5 ∨ (2 : Nat) = 6 then _ else _
      rw [if_neg (by decide)]; exact ⟨rfl, rfl, rfl, rfl, rfl, rfl, rfl⟩
  · rw [if_neg k2] at h
    by_cases k3 : k = 3 ∨ k = 4
    · rw [if_pos k3] at h
      obtain ⟨n, l2, hn, h⟩ := pBind_some h
      simp only [pRet, Option.some.injEq, Prod.mk.injEq] at h
      obtain ⟨rfl, rfl⟩ := h
      obtain ⟨en, gn⟩ := pN_of hn
      refine ⟨?_, ?_, ⟨gk, gn, (by show (0 : Nat) < 18446744073709551616; decide), (by show (0 : Nat) < 256; decide)⟩⟩
      · rw [ek, en]
        simp only [askE, askT]
        rw [if_neg k2, if_pos k3]; rfl
      · refine ⟨⟨h1, h8⟩, ?_, ?_, fun _ => rfl, ?_⟩
        · intro _ h3 h4; rcases k3 with k3 | k3
          · exact absurd k3 h3
          · exact absurd k3 h4
        · show if k = 2 then _ else _
          rw [if_neg k2]; rfl
        · show if k = 5 ∨ k = 6 then _ else _
          rw [if_neg (by omega)]; exact ⟨rfl, rfl, rfl, rfl, rfl, rfl, rfl⟩
    · rw [if_neg k3] at h
      by_cases k5 : k = 5
      · subst k5
        rw [if_pos rfl] at h
        obtain ⟨e, g, q⟩ := pQ_of h
        rw [q] at e g ⊢
        refine ⟨by rw [ek, e]; simp [askE, askT, qE, askZ], ?_, ⟨(by show (5 : Nat) < 256; decide), (by show (0 : Nat) < 18446744073709551616; decide), (by show (0 : Nat) < 18446744073709551616; decide), (by show (0 : Nat) < 256; decide)⟩⟩
        refine ⟨by show 1 ≤ 5 ∧ 5 ≤ 8; decide, fun _ _ _ => rfl, ?_, fun _ => rfl, ?_⟩
        · show if (5 : Nat) = 2 then _ else _
          rw [if_neg (by decide)]; rfl
        · show if (5 : Nat) = 5 ∨ (5 : Nat) = 6 then _ else _
          rw [if_pos (by decide)]; exact g
      · rw [if_neg k5] at h
        by_cases k6 : k = 6
        · subst k6
          rw [if_pos rfl] at h
          obtain ⟨n, l2, hn, h⟩ := pBind_some h
          obtain ⟨en, gn⟩ := pN_of hn
          obtain ⟨e, g, q⟩ := pQ_of h
          rw [q] at e g ⊢
          refine ⟨by rw [ek, en, e]; simp [askE, askT, qE, askZ], ?_, ⟨(by show (6 : Nat) < 256; decide), (by show (0 : Nat) < 18446744073709551616; decide), gn, (by show (0 : Nat) < 256; decide)⟩⟩
          refine ⟨by show 1 ≤ 6 ∧ 6 ≤ 8; decide, fun _ _ _ => rfl, ?_, fun h => absurd rfl h, ?_⟩
          · show if (6 : Nat) = 2 then _ else _
            rw [if_neg (by decide)]; rfl
          · show if (6 : Nat) = 5 ∨ (6 : Nat) = 6 then _ else _
            rw [if_pos (by decide)]; exact g
        · rw [if_neg k6] at h
          simp only [pRet, Option.some.injEq, Prod.mk.injEq] at h
          obtain ⟨rfl, rfl⟩ := h
          refine ⟨?_, ?_, ⟨gk, (by show (0 : Nat) < 18446744073709551616; decide), (by show (0 : Nat) < 18446744073709551616; decide), (by show (0 : Nat) < 256; decide)⟩⟩
          · rw [ek]
            simp only [askE, askT]
            rw [if_neg k2, if_neg k3, if_neg k5, if_neg k6]; rfl
          · refine ⟨⟨h1, h8⟩, fun _ _ _ => rfl, ?_, fun _ => rfl, ?_⟩
            · show if k = 2 then _ else _
              rw [if_neg k2]; rfl
            · show if k = 5 ∨ k = 6 then _ else _
              rw [if_neg (by omega)]; exact ⟨rfl, rfl, rfl, rfl, rfl, rfl, rfl⟩
theorem ask_eta (a : Ask) (h : noQ a) : a = { a with s0 := E0, s1 := E0, s2 := E0, s3 := E0, s4 := E0, s5 := E0, s6 := E0 } := by
  obtain ⟨h0, h1, h2, h3, h4, h5, h6⟩ := h
  cases a; simp_all
/-- the bytes of a right request, and more, are read as it -/
theorem pA_E (a : Ask) (h : askR a) (hn : askN a) (t : List UInt8) (ht : a.k = 2 → t = []) : pA (askE a ++ t) = some (a, t) := by
  obtain ⟨hk, htx, hc, hv, hq⟩ := h
  obtain ⟨n1, n2, n3, n4⟩ := hn
  unfold pA askE
  rw [List.cons_append, pBind_of (pB_cons a.k _ n1)]
  unfold pK askT
  by_cases k2 : a.k = 2
  · rw [if_pos k2] at hc
    rw [if_pos k2, if_pos k2, ht k2, List.append_nil, pBind_of (pN_leb a.tx _ n2), pBind_of (pW_E a.c hc)]
    rw [if_neg (by omega)] at hq
    have := hv (by omega)
    rw [pRet]
    congr 2
    obtain ⟨h0, h1, h2, h3, h4, h5, h6⟩ := hq
    cases a; simp_all [askZ]
  · rw [if_neg k2] at hc
    rw [if_neg k2, if_neg k2]
    by_cases k3 : a.k = 3 ∨ a.k = 4
    · rw [if_pos k3, if_pos k3, pBind_of (pN_leb a.tx _ n2), pRet]
      rw [if_neg (by omega)] at hq
      have := hv (by omega)
      congr 2
      obtain ⟨h0, h1, h2, h3, h4, h5, h6⟩ := hq
      cases a; simp_all [askZ]
    · rw [if_neg k3, if_neg k3]
      have htx := htx k2 (by omega) (by omega)
      by_cases k5 : a.k = 5
      · rw [if_pos k5, if_pos k5]
        rw [if_pos (.inl k5)] at hq
        rw [pQ_E _ a t hq]
        have := hv (by omega)
        congr 2
        cases a; simp_all [askZ]
      · rw [if_neg k5, if_neg k5]
        by_cases k6 : a.k = 6
        · rw [if_pos k6, if_pos k6]
          rw [if_pos (.inr k6)] at hq
          rw [List.append_assoc, pBind_of (pN_leb a.v _ n3), pQ_E _ a t hq]
          congr 2
          cases a; simp_all [askZ]
        · rw [if_neg k6, if_neg k6, List.nil_append, pRet]
          rw [if_neg (by omega)] at hq
          have := hv (by omega)
          congr 2
          obtain ⟨h0, h1, h2, h3, h4, h5, h6⟩ := hq
          cases a; simp_all [askZ]
/-- right requests of the same bytes are one -/
theorem askE_inj {a b : Ask} (ha : askR a) (hb : askR b) (na : askN a) (nb : askN b) (h : askE a = askE b) : a = b := by
  have h1 := pA_E a ha na [] (fun _ => rfl)
  have h2 := pA_E b hb nb [] (fun _ => rfl)
  rw [h, h2] at h1
  simpa using h1.symm
/-! ### replies -/
structure Rep where
  why : Int
  n : Nat
  place : Int
  allow : Bool
  ids : List ByteArray
  errs : List ByteArray
def lR (l : List ByteArray) : Prop := l.length ≤ 255 ∧ ∀ s ∈ l, s.size ≤ 2048
def repR (r : Rep) : Prop := (0 ≤ r.why ∧ r.why ≤ 255) ∧ (0 ≤ r.place ∧ r.place ≤ 255) ∧ lR r.ids ∧ lR r.errs
def repN (r : Rep) : Prop := r.n < 18446744073709551616
def repZ : Rep := ⟨0, 0, 0, false, [], []⟩
def lE (l : List ByteArray) : List UInt8 := UInt8.ofNat l.length :: l.flatMap txt
def repE (r : Rep) : List UInt8 := UInt8.ofNat r.why.toNat :: (leb 8 r.n ++ (UInt8.ofNat r.place.toNat :: (fl r.allow :: (lE r.ids ++ lE r.errs))))
def pTs : Nat → P (List ByteArray)
  | 0 => pRet []
  | n + 1 => pBind pT fun s => pBind (pTs n) fun l => pRet (s :: l)
def pL : P (List ByteArray) := pBind pB pTs
def pR : P Rep := pBind pB fun w => pBind pN fun n => pBind pB fun p => pBind pF fun a => pBind pL fun i => pBind pL fun e => pRet ⟨w, n, p, a, i, e⟩
theorem pTs_of (n : Nat) : ∀ {l t : List UInt8} {cs : List ByteArray}, pTs n l = some (cs, t) → l = cs.flatMap txt ++ t ∧ cs.length = n ∧ ∀ c ∈ cs, c.size ≤ 2048 := by
  induction n with
  | zero =>
    intro l t cs h
    simp only [pTs, pRet, Option.some.injEq, Prod.mk.injEq] at h
    obtain ⟨rfl, rfl⟩ := h
    simp
  | succ n ih =>
    intro l t cs h
    obtain ⟨c, u, h1, h⟩ := pBind_some h
    obtain ⟨m, v, h2, h⟩ := pBind_some h
    simp only [pRet, Option.some.injEq, Prod.mk.injEq] at h
    obtain ⟨rfl, rfl⟩ := h
    obtain ⟨e1, s1⟩ := pT_of h1
    obtain ⟨e2, n2, s2⟩ := ih h2
    refine ⟨by rw [e1, e2]; simp, by simp [n2], ?_⟩
    intro x hx
    rcases List.mem_cons.1 hx with rfl | hx
    · exact s1
    · exact s2 x hx
theorem pTs_E (cs : List ByteArray) (t : List UInt8) (hs : ∀ c ∈ cs, c.size ≤ 2048) : pTs cs.length (cs.flatMap txt ++ t) = some (cs, t) := by
  induction cs with
  | nil => rfl
  | cons c cs ih =>
    show pBind pT _ _ = _
    rw [List.flatMap_cons, List.append_assoc, pBind_of (pT_txt c _ (hs c (by simp))), pBind_of (ih (fun x hx => hs x (by simp [hx])))]
    rfl
theorem pL_of {l t : List UInt8} {cs : List ByteArray} (h : pL l = some (cs, t)) : l = lE cs ++ t ∧ lR cs := by
  obtain ⟨n, u, h1, h⟩ := pBind_some h
  obtain ⟨e1, g1⟩ := pB_of h1
  obtain ⟨e2, n2, s2⟩ := pTs_of n h
  exact ⟨by rw [e1, e2, ← n2]; simp [lE], by omega, s2⟩
theorem pL_E (cs : List ByteArray) (t : List UInt8) (h : lR cs) : pL (lE cs ++ t) = some (cs, t) := by
  have := h.1
  unfold pL lE
  rw [List.cons_append, pBind_of (pB_cons cs.length _ (by omega)), pTs_E cs t h.2]
theorem pR_of {l t : List UInt8} {r : Rep} (h : pR l = some (r, t)) : l = repE r ++ t ∧ repR r ∧ repN r := by
  obtain ⟨w, l0, h0, h⟩ := pBind_some h
  obtain ⟨n, l1, h1, h⟩ := pBind_some h
  obtain ⟨p, l2, h2, h⟩ := pBind_some h
  obtain ⟨a, l3, h3, h⟩ := pBind_some h
  obtain ⟨i, l4, h4, h⟩ := pBind_some h
  obtain ⟨e, l5, h5, h⟩ := pBind_some h
  simp only [pRet, Option.some.injEq, Prod.mk.injEq] at h
  obtain ⟨rfl, rfl⟩ := h
  obtain ⟨e0, g0⟩ := pB_of h0
  obtain ⟨e1, g1⟩ := pN_of h1
  obtain ⟨e2, g2⟩ := pB_of h2
  have e3 := pF_of h3
  obtain ⟨e4, g4⟩ := pL_of h4
  obtain ⟨e5, g5⟩ := pL_of h5
  refine ⟨?_, ⟨by show (0 : Int) ≤ w ∧ (w : Int) ≤ 255; omega, by show (0 : Int) ≤ p ∧ (p : Int) ≤ 255; omega, g4, g5⟩, g1⟩
  rw [e0, e1, e2, e3, e4, e5]; simp [repE]
theorem pR_E (r : Rep) (h : repR r) (hn : repN r) (t : List UInt8) : pR (repE r ++ t) = some (r, t) := by
  obtain ⟨hw, hp, hi, he⟩ := h
  unfold pR repE
  simp only [List.cons_append, List.append_assoc]
  rw [pBind_of (pB_cons r.why.toNat _ (by omega)), pBind_of (pN_leb r.n _ hn), pBind_of (pB_cons r.place.toNat _ (by omega)), pBind_of (pF_fl r.allow _), pBind_of (pL_E r.ids _ hi), pBind_of (pL_E r.errs _ he), pRet]
  congr 2
  have h1 : ((r.why.toNat : Nat) : Int) = r.why := by omega
  have h2 : ((r.place.toNat : Nat) : Int) = r.place := by omega
  rw [h1, h2]
theorem repE_inj {a b : Rep} (ha : repR a) (hb : repR b) (na : repN a) (nb : repN b) (h : repE a = repE b) : a = b := by
  have h1 := pR_E a ha na []
  have h2 := pR_E b hb nb []
  rw [h, h2] at h1
  simpa using h1.symm
end Go.Proofs.Ytldlkoiekdlmhaa.Wi
