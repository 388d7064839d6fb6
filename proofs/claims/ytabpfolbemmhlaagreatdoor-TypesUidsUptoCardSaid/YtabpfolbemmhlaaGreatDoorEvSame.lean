/-
  A checked evaluator of concrete calls: values, blocks, states that are the same. No walk.
-/
import Derived.Test.YtabpfolbemmhlaaGreatDoorEvStep
namespace Go.Proofs.YtabpfolbemmhlaaGreatDoor.Ev
set_option linter.unusedVariables false
set_option linter.unusedSimpArgs false
def eqAddr : Option Addr → Option Addr → Bool
  | none, none => true
  | some ⟨b, o, none⟩, some ⟨c, p, none⟩ => Nat.beq b c && Nat.beq o p
  | _, _ => false
theorem eqAddr_eq {a b : Option Addr} (h : eqAddr a b = true) : a = b := by
  match a, b with
  | none, none => rfl
  | some ⟨b, o, none⟩, some ⟨c, p, none⟩ =>
    simp only [eqAddr, Bool.and_eq_true] at h
    rw [Nat.eq_of_beq_eq_true h.1, Nat.eq_of_beq_eq_true h.2]
  | none, some _ => simp [eqAddr] at h
  | some ⟨_, _, _⟩, none => simp [eqAddr] at h
  | some ⟨_, _, some _⟩, some ⟨_, _, _⟩ => simp [eqAddr] at h
  | some ⟨_, _, none⟩, some ⟨_, _, some _⟩ => simp [eqAddr] at h
mutual
def eqV : Value → Value → Bool
  | .bool a, .bool b => a == b
  | .int k a, .int l b => decide (k = l) && eqN a b
  | .string a, .string b => eqBytes a.data.toList b.data.toList
  | .pointer a, .pointer b => eqAddr a b
  | .slice a n c, .slice b m d => eqAddr a b && Nat.beq n m && Nat.beq c d
  | .map none, .map none => true
  | .map (some a), .map (some b) => Nat.beq a b
  | .func f ⟨a⟩ ⟨b⟩, .func g ⟨c⟩ ⟨d⟩ => decide (f = g) && eqVs a c && eqVs b d
  | .nilFunc, .nilFunc => true
  | .iface t v, .iface u w => decide (t = u) && eqV v w
  | .nilIface, .nilIface => true
  | .agg ⟨a⟩, .agg ⟨b⟩ => eqVs a b
  | .tuple ⟨a⟩, .tuple ⟨b⟩ => eqVs a b
  | _, _ => false
def eqVs : List Value → List Value → Bool
  | [], [] => true
  | a :: l, b :: k => eqV a b && eqVs l k
  | _, _ => false
end
theorem eqBytes_data {a b : ByteArray} (h : eqBytes a.data.toList b.data.toList = true) : a = b := by
  rw [eqBytes_eq] at h
  have h2 := Array.toList_inj.1 (eq_of_beq h)
  cases a; cases b
  simp_all
mutual
theorem eqV_eq : ∀ (a b : Value), eqV a b = true → a = b
  | .bool a, .bool b, h => by simp only [eqV, beq_iff_eq] at h; rw [h]
  | .int k a, .int l b, h => by
    simp only [eqV, Bool.and_eq_true, decide_eq_true_eq, eqN_eq, beq_iff_eq] at h
    rw [h.1, h.2]
  | .string a, .string b, h => by simp only [eqV] at h; rw [eqBytes_data h]
  | .pointer a, .pointer b, h => by simp only [eqV] at h; rw [eqAddr_eq h]
  | .slice a n c, .slice b m d, h => by
    simp only [eqV, Bool.and_eq_true] at h
    rw [eqAddr_eq h.1.1, Nat.eq_of_beq_eq_true h.1.2, Nat.eq_of_beq_eq_true h.2]
  | .map none, .map none, _ => rfl
  | .map (some a), .map (some b), h => by simp only [eqV] at h; rw [Nat.eq_of_beq_eq_true h]
  | .func f ⟨a⟩ ⟨b⟩, .func g ⟨c⟩ ⟨d⟩, h => by
    simp only [eqV, Bool.and_eq_true, decide_eq_true_eq] at h
    rw [h.1.1, eqVs_eq a c h.1.2, eqVs_eq b d h.2]
  | .nilFunc, .nilFunc, _ => rfl
  | .iface t v, .iface u w, h => by
    simp only [eqV, Bool.and_eq_true, decide_eq_true_eq] at h
    rw [h.1, eqV_eq v w h.2]
  | .nilIface, .nilIface, _ => rfl
  | .agg ⟨a⟩, .agg ⟨b⟩, h => by simp only [eqV] at h; rw [eqVs_eq a b h]
  | .tuple ⟨a⟩, .tuple ⟨b⟩, h => by simp only [eqV] at h; rw [eqVs_eq a b h]
  | .bool _, .int _ _, h | .bool _, .float _ _, h | .bool _, .complex _ _ _, h | .bool _, .string _, h | .bool _, .pointer _, h | .bool _, .slice _ _ _, h | .bool _, .map _, h | .bool _, .chan _, h | .bool _, .func _ _ _, h | .bool _, .nilFunc, h | .bool _, .iface _ _, h | .bool _, .nilIface, h | .bool _, .agg _, h | .bool _, .tuple _, h => by simp [eqV] at h
  | .int _ _, .bool _, h | .int _ _, .float _ _, h | .int _ _, .complex _ _ _, h | .int _ _, .string _, h | .int _ _, .pointer _, h | .int _ _, .slice _ _ _, h | .int _ _, .map _, h | .int _ _, .chan _, h | .int _ _, .func _ _ _, h | .int _ _, .nilFunc, h | .int _ _, .iface _ _, h | .int _ _, .nilIface, h | .int _ _, .agg _, h | .int _ _, .tuple _, h => by simp [eqV] at h
  | .float _ _, _, h | .complex _ _ _, _, h | .chan _, _, h => by simp [eqV] at h
  | .string _, .bool _, h | .string _, .int _ _, h | .string _, .float _ _, h | .string _, .complex _ _ _, h | .string _, .pointer _, h | .string _, .slice _ _ _, h | .string _, .map _, h | .string _, .chan _, h | .string _, .func _ _ _, h | .string _, .nilFunc, h | .string _, .iface _ _, h | .string _, .nilIface, h | .string _, .agg _, h | .string _, .tuple _, h => by simp [eqV] at h
  | .pointer _, .bool _, h | .pointer _, .int _ _, h | .pointer _, .float _ _, h | .pointer _, .complex _ _ _, h | .pointer _, .string _, h | .pointer _, .slice _ _ _, h | .pointer _, .map _, h | .pointer _, .chan _, h | .pointer _, .func _ _ _, h | .pointer _, .nilFunc, h | .pointer _, .iface _ _, h | .pointer _, .nilIface, h | .pointer _, .agg _, h | .pointer _, .tuple _, h => by simp [eqV] at h
  | .slice _ _ _, .bool _, h | .slice _ _ _, .int _ _, h | .slice _ _ _, .float _ _, h | .slice _ _ _, .complex _ _ _, h | .slice _ _ _, .string _, h | .slice _ _ _, .pointer _, h | .slice _ _ _, .map _, h | .slice _ _ _, .chan _, h | .slice _ _ _, .func _ _ _, h | .slice _ _ _, .nilFunc, h | .slice _ _ _, .iface _ _, h | .slice _ _ _, .nilIface, h | .slice _ _ _, .agg _, h | .slice _ _ _, .tuple _, h => by simp [eqV] at h
  | .map none, .map (some _), h | .map (some _), .map none, h => by simp [eqV] at h
  | .map x, .bool _, h | .map x, .int _ _, h | .map x, .float _ _, h | .map x, .complex _ _ _, h | .map x, .string _, h | .map x, .pointer _, h | .map x, .slice _ _ _, h | .map x, .chan _, h | .map x, .func _ _ _, h | .map x, .nilFunc, h | .map x, .iface _ _, h | .map x, .nilIface, h | .map x, .agg _, h | .map x, .tuple _, h => by cases x <;> simp [eqV] at h
  | .func _ _ _, .bool _, h | .func _ _ _, .int _ _, h | .func _ _ _, .float _ _, h | .func _ _ _, .complex _ _ _, h | .func _ _ _, .string _, h | .func _ _ _, .pointer _, h | .func _ _ _, .slice _ _ _, h | .func _ _ _, .map _, h | .func _ _ _, .chan _, h | .func _ _ _, .nilFunc, h | .func _ _ _, .iface _ _, h | .func _ _ _, .nilIface, h | .func _ _ _, .agg _, h | .func _ _ _, .tuple _, h => by simp [eqV] at h
  | .nilFunc, .bool _, h | .nilFunc, .int _ _, h | .nilFunc, .float _ _, h | .nilFunc, .complex _ _ _, h | .nilFunc, .string _, h | .nilFunc, .pointer _, h | .nilFunc, .slice _ _ _, h | .nilFunc, .map _, h | .nilFunc, .chan _, h | .nilFunc, .func _ _ _, h | .nilFunc, .iface _ _, h | .nilFunc, .nilIface, h | .nilFunc, .agg _, h | .nilFunc, .tuple _, h => by simp [eqV] at h
  | .iface _ _, .bool _, h | .iface _ _, .int _ _, h | .iface _ _, .float _ _, h | .iface _ _, .complex _ _ _, h | .iface _ _, .string _, h | .iface _ _, .pointer _, h | .iface _ _, .slice _ _ _, h | .iface _ _, .map _, h | .iface _ _, .chan _, h | .iface _ _, .func _ _ _, h | .iface _ _, .nilFunc, h | .iface _ _, .nilIface, h | .iface _ _, .agg _, h | .iface _ _, .tuple _, h => by simp [eqV] at h
  | .nilIface, .bool _, h | .nilIface, .int _ _, h | .nilIface, .float _ _, h | .nilIface, .complex _ _ _, h | .nilIface, .string _, h | .nilIface, .pointer _, h | .nilIface, .slice _ _ _, h | .nilIface, .map _, h | .nilIface, .chan _, h | .nilIface, .func _ _ _, h | .nilIface, .nilFunc, h | .nilIface, .iface _ _, h | .nilIface, .agg _, h | .nilIface, .tuple _, h => by simp [eqV] at h
  | .agg _, .bool _, h | .agg _, .int _ _, h | .agg _, .float _ _, h | .agg _, .complex _ _ _, h | .agg _, .string _, h | .agg _, .pointer _, h | .agg _, .slice _ _ _, h | .agg _, .map _, h | .agg _, .chan _, h | .agg _, .func _ _ _, h | .agg _, .nilFunc, h | .agg _, .iface _ _, h | .agg _, .nilIface, h | .agg _, .tuple _, h => by simp [eqV] at h
  | .tuple _, .bool _, h | .tuple _, .int _ _, h | .tuple _, .float _ _, h | .tuple _, .complex _ _ _, h | .tuple _, .string _, h | .tuple _, .pointer _, h | .tuple _, .slice _ _ _, h | .tuple _, .map _, h | .tuple _, .chan _, h | .tuple _, .func _ _ _, h | .tuple _, .nilFunc, h | .tuple _, .iface _ _, h | .tuple _, .nilIface, h | .tuple _, .agg _, h => by simp [eqV] at h
theorem eqVs_eq : ∀ (a b : List Value), eqVs a b = true → a = b
  | [], [], _ => rfl
  | a :: l, b :: k, h => by
    simp only [eqVs, Bool.and_eq_true] at h
    rw [eqV_eq a b h.1, eqVs_eq l k h.2]
  | [], _ :: _, h => by simp [eqVs] at h
  | _ :: _, [], h => by simp [eqVs] at h
end
def eqRow : Option Nat → Option Nat → Bool
  | none, none => true
  | some a, some b => Nat.beq a b
  | _, _ => false
def eqCells : Option Cells → Option Cells → Bool
  | none, none => true
  | some c, some d => eqVs c.cells d.cells && Nat.beq c.ty d.ty && eqRow c.row d.row && (c.ro == d.ro)
  | _, _ => false
theorem eqCells_eq : ∀ {a b : Option Cells}, eqCells a b = true → a = b
  | none, none, _ => rfl
  | none, some _, h => by simp [eqCells] at h
  | some _, none, h => by simp [eqCells] at h
  | some ⟨c, t, r, o⟩, some ⟨d, u, s, p⟩, h => by
    simp only [eqCells, Bool.and_eq_true, beq_iff_eq] at h
    obtain ⟨⟨⟨h1, h2⟩, h3⟩, h4⟩ := h
    have e1 := eqVs_eq _ _ h1
    have e2 := Nat.eq_of_beq_eq_true h2
    have e3 : r = s := by
      cases r <;> cases s <;> simp [eqRow] at h3 <;> first | rfl | (rw [h3])
    subst e1 e2 e3 h4
    rfl
def eqTr : Tr Cells → Tr Cells → Bool
  | .leaf, .leaf => true
  | .node v l r, .node w k s => eqCells v w && eqTr l k && eqTr r s
  | _, _ => false
theorem eqTr_eq : ∀ {a b : Tr Cells}, eqTr a b = true → a = b
  | .leaf, .leaf, _ => rfl
  | .leaf, .node _ _ _, h => by simp [eqTr] at h
  | .node _ _ _, .leaf, h => by simp [eqTr] at h
  | .node v l r, .node w k s, h => by
    simp only [eqTr, Bool.and_eq_true] at h
    rw [eqCells_eq h.1.1, eqTr_eq h.1.2, eqTr_eq h.2]
def eqNats : List Nat → List Nat → Bool
  | [], [] => true
  | a :: l, b :: k => Nat.beq a b && eqNats l k
  | _, _ => false
theorem eqNats_eq : ∀ {a b : List Nat}, eqNats a b = true → a = b
  | [], [], _ => rfl
  | a :: l, b :: k, h => by
    simp only [eqNats, Bool.and_eq_true] at h
    rw [Nat.eq_of_beq_eq_true h.1, eqNats_eq h.2]
  | [], _ :: _, h => by simp [eqNats] at h
  | _ :: _, [], h => by simp [eqNats] at h
def eqSt (s t : St) : Bool := Nat.beq s.next t.next && eqNats s.res t.res && eqRow s.cur t.cur && eqTr s.heap t.heap
theorem eqSt_eq {s t : St} (h : eqSt s t = true) : s = t := by
  cases s with
  | mk sh sn sr sc =>
    cases t with
    | mk th tn tr tc =>
      simp only [eqSt, Bool.and_eq_true] at h
      obtain ⟨⟨⟨h1, h2⟩, h3⟩, h4⟩ := h
      have e1 := Nat.eq_of_beq_eq_true h1
      have e2 := eqNats_eq h2
      have e4 := eqTr_eq h4
      have e3 : sc = tc := by
        cases sc <;> cases tc <;> simp [eqRow] at h3 <;> first | rfl | (rw [h3])
      subst e1 e2 e3 e4
      rfl
end Go.Proofs.YtabpfolbemmhlaaGreatDoor.Ev
