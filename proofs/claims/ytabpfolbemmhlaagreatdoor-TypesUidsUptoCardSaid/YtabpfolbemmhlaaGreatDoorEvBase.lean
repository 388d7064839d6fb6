/-
  A checked evaluator of concrete calls, 1: local values, how they stand for a world's, and blocks by name. No walk.
-/
import Derived.WalkKit
import Derived.ProofKit
import Derived.Handy
import Derived.Laws.AppendOwn
import Derived.Test.YtabpfolbemmhlaaGreatDoorMem
namespace Go.Proofs.YtabpfolbemmhlaaGreatDoor.Ev
open Go.Proofs.YtabpfolbemmhlaaGreatDoor.Mem
set_option linter.unusedVariables false
set_option linter.unusedSimpArgs false
/-- where a named block lies, and how many elements it has room for -/
structure Loc where
  blk : Nat
  cap : Nat
abbrev Mu := Nat → Option Loc
def Sub (m m' : Mu) : Prop := ∀ n l, m n = some l → m' n = some l
theorem Sub.refl (m : Mu) : Sub m m := fun _ _ h => h
theorem Sub.trans {a b c : Mu} (h : Sub a b) (g : Sub b c) : Sub a c := fun n l e => g n l (h n l e)
def Mu.put (m : Mu) (n : Nat) (l : Loc) : Mu := fun k => if k = n then some l else m k
theorem Sub.put {m : Mu} {n : Nat} (l : Loc) (h : m n = none) : Sub m (m.put n l) := fun k x e => by
  unfold Mu.put
  split
  · rename_i hk; subst hk; rw [h] at e; cases e
  · exact e
mutual
/-- what a local value stands for: blocks by name; a slice keeps how many elements of its row lie ahead of it in the place of its capacity -/
inductive R (m : Mu) : Value → Value → Prop
  | bool (b : Bool) : R m (.bool b) (.bool b)
  | int (k : IntKind) (n : Int) : R m (.int k n) (.int k n)
  | float (k : FloatKind) (n : Nat) : R m (.float k n) (.float k n)
  | string (s : ByteArray) : R m (.string s) (.string s)
  | ptrNil : R m (.pointer none) (.pointer none)
  | ptr (n o : Nat) (l : Loc) (h : m n = some l) : R m (.pointer (some ⟨n, o, none⟩)) (.pointer (some ⟨l.blk, o, none⟩))
  | sliceNil : R m (.slice none 0 0) (.slice none 0 0)
  | slice (n o len e : Nat) (l : Loc) (h : m n = some l) (hc : len + e ≤ l.cap) (hm : l.cap ≤ maxLen) : R m (.slice (some ⟨n, o, none⟩) len e) (.slice (some ⟨l.blk, o, none⟩) len (l.cap - e))
  | mapNil : R m (.map none) (.map none)
  | map (n : Nat) (l : Loc) (h : m n = some l) : R m (.map (some n)) (.map (some l.blk))
  | func (f : Fn) (a b a' b' : Array Value) (h : RL m a.toList a'.toList) (g : RL m b.toList b'.toList) : R m (.func f a b) (.func f a' b')
  | nilFunc : R m .nilFunc .nilFunc
  /-- a number that isn't known: a byte, or any -/
  | unk (c : Option Nat) (k : IntKind) (n : Int) (h : c = none → k = .u8 ∧ 0 ≤ n ∧ n < 256) : R m (.chan c) (.int k n)
  | iface (t : TypeId) (v v' : Value) (h : R m v v') : R m (.iface t v) (.iface t v')
  | nilIface : R m .nilIface .nilIface
  | agg (a b : Array Value) (h : RL m a.toList b.toList) : R m (.agg a) (.agg b)
  | tuple (a b : Array Value) (h : RL m a.toList b.toList) : R m (.tuple a) (.tuple b)
inductive RL (m : Mu) : List Value → List Value → Prop
  | nil : RL m [] []
  | cons {x y : Value} {l k : List Value} (h : R m x y) (g : RL m l k) : RL m (x :: l) (y :: k)
end
mutual
theorem R.up {m m' : Mu} (s : Sub m m') : ∀ {x y : Value}, R m x y → R m' x y
  | _, _, .bool b => .bool b
  | _, _, .int k n => .int k n
  | _, _, .float k n => .float k n
  | _, _, .string b => .string b
  | _, _, .ptrNil => .ptrNil
  | _, _, .ptr n o l h => .ptr n o l (s n l h)
  | _, _, .sliceNil => .sliceNil
  | _, _, .slice n o len e l h hc hm => .slice n o len e l (s n l h) hc hm
  | _, _, .mapNil => .mapNil
  | _, _, .map n l h => .map n l (s n l h)
  | _, _, .func f a b a' b' h g => .func f a b a' b' (RL.up s h) (RL.up s g)
  | _, _, .nilFunc => .nilFunc
  | _, _, .unk c k n h => .unk c k n h
  | _, _, .iface t v v' h => .iface t v v' (R.up s h)
  | _, _, .nilIface => .nilIface
  | _, _, .agg a b h => .agg a b (RL.up s h)
  | _, _, .tuple a b h => .tuple a b (RL.up s h)
theorem RL.up {m m' : Mu} (s : Sub m m') : ∀ {x y : List Value}, RL m x y → RL m' x y
  | _, _, .nil => .nil
  | _, _, .cons h g => .cons (R.up s h) (RL.up s g)
end
theorem RL.length {m : Mu} {a b : List Value} (h : RL m a b) : a.length = b.length := by
  induction a generalizing b with
  | nil => cases h; rfl
  | cons x a ih => cases h with | cons h g => simp [ih g]
theorem RL.get {m : Mu} {a b : List Value} (h : RL m a b) (i : Nat) {x : Value} (hx : a[i]? = some x) : ∃ y, b[i]? = some y ∧ R m x y := by
  induction a generalizing b i with
  | nil => simp at hx
  | cons u a ih =>
    cases h with
    | cons h g =>
      cases i with
      | zero => simp only [List.getElem?_cons_zero, Option.some.injEq] at hx; subst hx; exact ⟨_, rfl, h⟩
      | succ i => simp only [List.getElem?_cons_succ] at hx ⊢; exact ih g i hx
theorem RL.append {m : Mu} {a b c d : List Value} (h : RL m a b) (g : RL m c d) : RL m (a ++ c) (b ++ d) := by
  induction a generalizing b with
  | nil => cases h; exact g
  | cons x a ih => cases h with | cons h k => exact .cons h (ih k)
theorem RL.drop {m : Mu} {a b : List Value} (h : RL m a b) (i : Nat) : RL m (a.drop i) (b.drop i) := by
  induction i generalizing a b with
  | zero => exact h
  | succ i ih => cases h with | nil => exact .nil | cons _ g => exact ih g
theorem RL.take {m : Mu} {a b : List Value} (h : RL m a b) (i : Nat) : RL m (a.take i) (b.take i) := by
  induction i generalizing a b with
  | zero => exact .nil
  | succ i ih => cases h with | nil => exact .nil | cons h g => exact .cons h (ih g)
theorem RL.set {m : Mu} {a b : List Value} (h : RL m a b) (i : Nat) {x y : Value} (hx : R m x y) : RL m (a.set i x) (b.set i y) := by
  induction a generalizing b i with
  | nil => cases h; exact .nil
  | cons u a ih =>
    cases h with
    | cons h g =>
      cases i with
      | zero => exact .cons hx g
      | succ i => exact .cons h (ih g i)
/-- values that hold no address: each stands for itself -/
def flat : Value → Bool
  | .bool _ | .int _ _ | .float _ _ | .string _ | .pointer none | .slice none 0 0 | .map none | .nilFunc | .nilIface => true
  | _ => false
theorem R.of_flat {m : Mu} : ∀ {x : Value}, flat x = true → R m x x
  | .bool b, _ => .bool b
  | .int k n, _ => .int k n
  | .float k n, _ => .float k n
  | .string s, _ => .string s
  | .pointer none, _ => .ptrNil
  | .slice none 0 0, _ => .sliceNil
  | .map none, _ => .mapNil
  | .nilFunc, _ => .nilFunc
  | .nilIface, _ => .nilIface
theorem R.flat_eq {m : Mu} {x y : Value} (h : R m x y) (hf : flat x = true) : y = x := by
  cases h <;> first | rfl | (simp [flat] at hf)
/-- a choice, at once -/
noncomputable def sel {α : Type} (b : Bool) (x y : α) : α := Bool.rec (motive := fun _ => α) y x b
theorem sel_true {α : Type} (x y : α) : sel true x y = x := rfl
theorem sel_false {α : Type} (x y : α) : sel false x y = y := rfl
/-! ### a tree, by the bits of a number: nothing is laid behind depth d -/
inductive Tr (α : Type) where
  | leaf
  | node (v : Option α) (l r : Tr α)
namespace Tr
variable {α : Type}
noncomputable def get (d : Nat) (t : Tr α) : Nat → Option α :=
  Tr.rec (motive := fun _ => Nat → Option α) (fun _ => none) (fun v _ _ gl gr n => Bool.rec (motive := fun _ => Option α) (Bool.rec (motive := fun _ => Option α) (gr (Nat.div (Nat.pred n) 2)) (gl (Nat.div (Nat.pred n) 2)) (Nat.beq (Nat.mod n 2) 0)) v (Nat.beq n 0)) t
noncomputable def lay (x : Option α) (d : Nat) : Nat → Tr α :=
  Nat.rec (motive := fun _ => Nat → Tr α) (fun _ => .leaf) (fun _ ih n => Bool.rec (motive := fun _ => Tr α) (Bool.rec (motive := fun _ => Tr α) (.node none .leaf (ih (Nat.div (Nat.pred n) 2))) (.node none (ih (Nat.div (Nat.pred n) 2)) .leaf) (Nat.beq (Nat.mod n 2) 0)) (.node x .leaf .leaf) (Nat.beq n 0)) d
noncomputable def put (d : Nat) (t : Tr α) (n : Nat) (x : Option α) : Tr α :=
  Tr.rec (motive := fun _ => Nat → Nat → Tr α) (fun d n => lay x d n) (fun v l r pl pr d n => Bool.rec (motive := fun _ => Tr α) (Bool.rec (motive := fun _ => Tr α) (.node v l (pr (Nat.pred d) (Nat.div (Nat.pred n) 2))) (.node v (pl (Nat.pred d) (Nat.div (Nat.pred n) 2)) r) (Nat.beq (Nat.mod n 2) 0)) (.node x l r) (Nat.beq n 0)) t d n
theorem get_leaf (d n : Nat) : (leaf : Tr α).get d n = none := rfl
theorem get_node (d : Nat) (v : Option α) (l r : Tr α) (n : Nat) : (node v l r).get d n = sel (Nat.beq n 0) v (sel (Nat.beq (Nat.mod n 2) 0) (l.get d (Nat.div (Nat.pred n) 2)) (r.get d (Nat.div (Nat.pred n) 2))) := rfl
theorem lay_succ (x : Option α) (d n : Nat) : lay x (d + 1) n = sel (Nat.beq n 0) (.node x .leaf .leaf) (sel (Nat.beq (Nat.mod n 2) 0) (.node none (lay x d (Nat.div (Nat.pred n) 2)) .leaf) (.node none .leaf (lay x d (Nat.div (Nat.pred n) 2)))) := rfl
theorem put_leaf (d n : Nat) (x : Option α) : (leaf : Tr α).put d n x = lay x d n := rfl
theorem put_node (d : Nat) (v : Option α) (l r : Tr α) (n : Nat) (x : Option α) : (node v l r).put d n x = sel (Nat.beq n 0) (.node x l r) (sel (Nat.beq (Nat.mod n 2) 0) (.node v (l.put (Nat.pred d) (Nat.div (Nat.pred n) 2) x) r) (.node v l (r.put (Nat.pred d) (Nat.div (Nat.pred n) 2) x))) := rfl
theorem zero_cases (n : Nat) : (n = 0 ∧ Nat.beq n 0 = true) ∨ (0 < n ∧ Nat.beq n 0 = false) := by
  cases n with
  | zero => exact .inl ⟨rfl, rfl⟩
  | succ n => exact .inr ⟨by omega, rfl⟩
theorem mod_cases (n : Nat) : (n % 2 = 0 ∧ Nat.beq (Nat.mod n 2) 0 = true) ∨ (n % 2 = 1 ∧ Nat.beq (Nat.mod n 2) 0 = false) := by
  have e : Nat.mod n 2 = n % 2 := rfl
  rw [e]
  rcases Nat.mod_two_eq_zero_or_one n with h | h
  · exact .inl ⟨h, by rw [h]; rfl⟩
  · exact .inr ⟨h, by rw [h]; rfl⟩
theorem div_pred (n : Nat) : Nat.div (Nat.pred n) 2 = (n - 1) / 2 := rfl
theorem get_lay_same (x : Option α) (e : Nat) : ∀ (d n : Nat), n + 1 < 2 ^ d → (lay x d n).get e n = x := by
  intro d
  induction d with
  | zero => intro n h; simp at h
  | succ d ih =>
    intro n h
    have e2 : 2 ^ (d + 1) = 2 * 2 ^ d := by rw [Nat.pow_succ, Nat.mul_comm]
    rw [lay_succ]
    rcases zero_cases n with ⟨rfl, h0⟩ | ⟨hn, h0⟩
    · rfl
    · have hk : (n - 1) / 2 + 1 < 2 ^ d := by omega
      rcases mod_cases n with ⟨h1, h2⟩ | ⟨h1, h2⟩
      · simp only [h0, h2, sel_true, sel_false, get_node, div_pred]; exact ih _ hk
      · simp only [h0, h2, sel_true, sel_false, get_node, div_pred]; exact ih _ hk
theorem get_lay_other (x : Option α) (e : Nat) : ∀ (d n k : Nat), k ≠ n → (lay x d n).get e k = none := by
  intro d
  induction d with
  | zero => intro n k h; rfl
  | succ d ih =>
    intro n k h
    rw [lay_succ]
    rcases zero_cases n with ⟨rfl, h0⟩ | ⟨hn, h0⟩
    · rcases zero_cases k with ⟨rfl, g0⟩ | ⟨hk, g0⟩
      · exact absurd rfl h
      · simp only [show Nat.beq 0 0 = true from rfl, sel_true, get_node, g0, sel_false, get_leaf]
        cases Nat.beq (Nat.mod k 2) 0 <;> rfl
    · rcases zero_cases k with ⟨rfl, g0⟩ | ⟨hk, g0⟩
      · rcases mod_cases n with ⟨p1, p2⟩ | ⟨p1, p2⟩ <;> simp [h0, p2, sel_true, sel_false, get_node]
      · rcases mod_cases n with ⟨p1, p2⟩ | ⟨p1, p2⟩ <;> rcases mod_cases k with ⟨q1, q2⟩ | ⟨q1, q2⟩ <;>
          simp only [h0, g0, p2, q2, sel_true, sel_false, get_node, get_leaf, div_pred] <;> exact ih _ _ (by omega)
theorem get_put_same : ∀ (d : Nat) (t : Tr α) (n : Nat) (x : Option α), n + 1 < 2 ^ d → (t.put d n x).get d n = x := by
  have key : ∀ (t : Tr α) (e d n : Nat) (x : Option α), n + 1 < 2 ^ d → (t.put d n x).get e n = x := by
    intro t
    induction t with
    | leaf => intro e d n x h; rw [put_leaf]; exact get_lay_same x e d n h
    | node v l r ihl ihr =>
      intro e d n x h
      rw [put_node]
      rcases zero_cases n with ⟨rfl, h0⟩ | ⟨hn, h0⟩
      · rfl
      · have hd : ∃ d', d = d' + 1 := by
          cases d with
          | zero => simp at h
          | succ d' => exact ⟨d', rfl⟩
        obtain ⟨d', rfl⟩ := hd
        have e2 : 2 ^ (d' + 1) = 2 * 2 ^ d' := by rw [Nat.pow_succ, Nat.mul_comm]
        have hk : (n - 1) / 2 + 1 < 2 ^ d' := by omega
        rcases mod_cases n with ⟨h1, h2⟩ | ⟨h1, h2⟩
        · simp only [h0, h2, sel_true, sel_false, get_node, div_pred, Nat.pred_succ]; exact ihl _ _ _ _ hk
        · simp only [h0, h2, sel_true, sel_false, get_node, div_pred, Nat.pred_succ]; exact ihr _ _ _ _ hk
  exact fun d t n x h => key t d d n x h
theorem get_put_other : ∀ (d : Nat) (t : Tr α) (n k : Nat) (x : Option α), k ≠ n → (t.put d n x).get d k = t.get d k := by
  have key : ∀ (t : Tr α) (e d n k : Nat) (x : Option α), k ≠ n → (t.put d n x).get e k = t.get e k := by
    intro t
    induction t with
    | leaf => intro e d n k x h; rw [put_leaf, get_leaf]; exact get_lay_other x e d n k h
    | node v l r ihl ihr =>
      intro e d n k x h
      rw [put_node, get_node]
      rcases zero_cases n with ⟨rfl, h0⟩ | ⟨hn, h0⟩
      · rcases zero_cases k with ⟨rfl, g0⟩ | ⟨hk, g0⟩
        · exact absurd rfl h
        · simp only [show Nat.beq 0 0 = true from rfl, sel_true, get_node, g0, sel_false]
      · rcases zero_cases k with ⟨rfl, g0⟩ | ⟨hk, g0⟩
        · rcases mod_cases n with ⟨p1, p2⟩ | ⟨p1, p2⟩ <;> simp [h0, p2, sel_true, sel_false, get_node]
        · rcases mod_cases n with ⟨p1, p2⟩ | ⟨p1, p2⟩ <;> rcases mod_cases k with ⟨q1, q2⟩ | ⟨q1, q2⟩ <;>
            simp only [h0, g0, p2, q2, sel_true, sel_false, get_node, div_pred] <;> first | (exact ihl _ _ _ _ _ (by omega)) | (exact ihr _ _ _ _ _ (by omega)) | rfl
  exact fun d t n k x h => key t d d n k x h
end Tr
end Go.Proofs.YtabpfolbemmhlaaGreatDoor.Ev
