/-
  The evaluator of concrete calls: EvBase, EvGlob, EvHeap, EvMem, EvOps, EvOps2, EvBuild in one. Written by wip/groups.py.
-/
import Derived.WalkKit
import Derived.ProofKit
import Derived.Handy
import Derived.Laws.AppendOwn
import Derived.Test.YtklclfolmfhocaaGreatDoorMem
import Derived.Shelf.Unicode.DecodeSlow
import Derived.Deep.MidRow
import Derived.Laws.Entries
import Derived.Orders
namespace Go.Proofs.YtklclfolmfhocaaGreatDoor.Ev
open Go.Proofs.YtklclfolmfhocaaGreatDoor.Mem
set_option linter.unusedVariables false
set_option linter.unusedSimpArgs false
/-- where a named block lies, and how many elements it has room for -/
structure Loc where
  blk : Nat
  cap : Nat
abbrev Mu := Nat → Option Loc
def Sub (m m' : Mu) : Prop := ∀ n l, m n = some l → m' n = some l
theorem Sub.refl (m : Mu) : Sub m m := fun _ _ h => h
theorem Sub.trans {a b c : Mu} (h : Sub a b) (g : Sub b c) : Sub a c := fun n l e => g n l (h n l e)
def Mu.put (m : Mu) (n : Nat) (l : Loc) : Mu := fun k => if k = n then some l else m k
theorem Sub.put {m : Mu} {n : Nat} (l : Loc) (h : m n = none) : Sub m (m.put n l) := fun k x e => by
  unfold Mu.put
  split
  · rename_i hk; subst hk; rw [h] at e; cases e
  · exact e
mutual
/-- what a local value stands for: blocks by name; a slice keeps how many elements of its row lie ahead of it in the place of its capacity -/
inductive R (m : Mu) : Value → Value → Prop
  | bool (b : Bool) : R m (.bool b) (.bool b)
  | int (k : IntKind) (n : Int) : R m (.int k n) (.int k n)
  | float (k : FloatKind) (n : Nat) : R m (.float k n) (.float k n)
  | string (s : ByteArray) : R m (.string s) (.string s)
  | ptrNil : R m (.pointer none) (.pointer none)
  | ptr (n o : Nat) (l : Loc) (h : m n = some l) : R m (.pointer (some ⟨n, o, none⟩)) (.pointer (some ⟨l.blk, o, none⟩))
  | sliceNil : R m (.slice none 0 0) (.slice none 0 0)
  | slice (n o len e : Nat) (l : Loc) (h : m n = some l) (hc : len + e ≤ l.cap) (hm : l.cap ≤ maxLen) : R m (.slice (some ⟨n, o, none⟩) len e) (.slice (some ⟨l.blk, o, none⟩) len (l.cap - e))
  | mapNil : R m (.map none) (.map none)
  | map (n : Nat) (l : Loc) (h : m n = some l) : R m (.map (some n)) (.map (some l.blk))
  | func (f : Fn) (a b a' b' : Array Value) (h : RL m a.toList a'.toList) (g : RL m b.toList b'.toList) : R m (.func f a b) (.func f a' b')
  | nilFunc : R m .nilFunc .nilFunc
  /-- a number that isn't known: a byte, or any -/
  | unk (c : Option Nat) (k : IntKind) (n : Int) (h : c = none → k = .u8 ∧ 0 ≤ n ∧ n < 256) : R m (.chan c) (.int k n)
  | iface (t : TypeId) (v v' : Value) (h : R m v v') : R m (.iface t v) (.iface t v')
  | nilIface : R m .nilIface .nilIface
  | agg (a b : Array Value) (h : RL m a.toList b.toList) : R m (.agg a) (.agg b)
  | tuple (a b : Array Value) (h : RL m a.toList b.toList) : R m (.tuple a) (.tuple b)
inductive RL (m : Mu) : List Value → List Value → Prop
  | nil : RL m [] []
  | cons {x y : Value} {l k : List Value} (h : R m x y) (g : RL m l k) : RL m (x :: l) (y :: k)
end
mutual
theorem R.up {m m' : Mu} (s : Sub m m') : ∀ {x y : Value}, R m x y → R m' x y
  | _, _, .bool b => .bool b
  | _, _, .int k n => .int k n
  | _, _, .float k n => .float k n
  | _, _, .string b => .string b
  | _, _, .ptrNil => .ptrNil
  | _, _, .ptr n o l h => .ptr n o l (s n l h)
  | _, _, .sliceNil => .sliceNil
  | _, _, .slice n o len e l h hc hm => .slice n o len e l (s n l h) hc hm
  | _, _, .mapNil => .mapNil
  | _, _, .map n l h => .map n l (s n l h)
  | _, _, .func f a b a' b' h g => .func f a b a' b' (RL.up s h) (RL.up s g)
  | _, _, .nilFunc => .nilFunc
  | _, _, .unk c k n h => .unk c k n h
  | _, _, .iface t v v' h => .iface t v v' (R.up s h)
  | _, _, .nilIface => .nilIface
  | _, _, .agg a b h => .agg a b (RL.up s h)
  | _, _, .tuple a b h => .tuple a b (RL.up s h)
theorem RL.up {m m' : Mu} (s : Sub m m') : ∀ {x y : List Value}, RL m x y → RL m' x y
  | _, _, .nil => .nil
  | _, _, .cons h g => .cons (R.up s h) (RL.up s g)
end
theorem RL.length {m : Mu} {a b : List Value} (h : RL m a b) : a.length = b.length := by
  induction a generalizing b with
  | nil => cases h; rfl
  | cons x a ih => cases h with | cons h g => simp [ih g]
theorem RL.get {m : Mu} {a b : List Value} (h : RL m a b) (i : Nat) {x : Value} (hx : a[i]? = some x) : ∃ y, b[i]? = some y ∧ R m x y := by
  induction a generalizing b i with
  | nil => simp at hx
  | cons u a ih =>
    cases h with
    | cons h g =>
      cases i with
      | zero => simp only [List.getElem?_cons_zero, Option.some.injEq] at hx; subst hx; exact ⟨_, rfl, h⟩
      | succ i => simp only [List.getElem?_cons_succ] at hx ⊢; exact ih g i hx
theorem RL.append {m : Mu} {a b c d : List Value} (h : RL m a b) (g : RL m c d) : RL m (a ++ c) (b ++ d) := by
  induction a generalizing b with
  | nil => cases h; exact g
  | cons x a ih => cases h with | cons h k => exact .cons h (ih k)
theorem RL.drop {m : Mu} {a b : List Value} (h : RL m a b) (i : Nat) : RL m (a.drop i) (b.drop i) := by
  induction i generalizing a b with
  | zero => exact h
  | succ i ih => cases h with | nil => exact .nil | cons _ g => exact ih g
theorem RL.take {m : Mu} {a b : List Value} (h : RL m a b) (i : Nat) : RL m (a.take i) (b.take i) := by
  induction i generalizing a b with
  | zero => exact .nil
  | succ i ih => cases h with | nil => exact .nil | cons h g => exact .cons h (ih g)
theorem RL.set {m : Mu} {a b : List Value} (h : RL m a b) (i : Nat) {x y : Value} (hx : R m x y) : RL m (a.set i x) (b.set i y) := by
  induction a generalizing b i with
  | nil => cases h; exact .nil
  | cons u a ih =>
    cases h with
    | cons h g =>
      cases i with
      | zero => exact .cons hx g
      | succ i => exact .cons h (ih g i)
/-- values that hold no address: each stands for itself -/
def flat : Value → Bool
  | .bool _ | .int _ _ | .float _ _ | .string _ | .pointer none | .slice none 0 0 | .map none | .nilFunc | .nilIface => true
  | _ => false
theorem R.of_flat {m : Mu} : ∀ {x : Value}, flat x = true → R m x x
  | .bool b, _ => .bool b
  | .int k n, _ => .int k n
  | .float k n, _ => .float k n
  | .string s, _ => .string s
  | .pointer none, _ => .ptrNil
  | .slice none 0 0, _ => .sliceNil
  | .map none, _ => .mapNil
  | .nilFunc, _ => .nilFunc
  | .nilIface, _ => .nilIface
theorem R.flat_eq {m : Mu} {x y : Value} (h : R m x y) (hf : flat x = true) : y = x := by
  cases h <;> first | rfl | (simp [flat] at hf)
/-- a choice, at once -/
noncomputable def sel {α : Type} (b : Bool) (x y : α) : α := Bool.rec (motive := fun _ => α) y x b
theorem sel_true {α : Type} (x y : α) : sel true x y = x := rfl
theorem sel_false {α : Type} (x y : α) : sel false x y = y := rfl
/-! ### a tree, by the bits of a number: nothing is laid behind depth d -/
inductive Tr (α : Type) where
  | leaf
  | node (v : Option α) (l r : Tr α)
namespace Tr
variable {α : Type}
noncomputable def get (d : Nat) (t : Tr α) : Nat → Option α :=
  Tr.rec (motive := fun _ => Nat → Option α) (fun _ => none) (fun v _ _ gl gr n => Bool.rec (motive := fun _ => Option α) (Bool.rec (motive := fun _ => Option α) (gr (Nat.div (Nat.pred n) 2)) (gl (Nat.div (Nat.pred n) 2)) (Nat.beq (Nat.mod n 2) 0)) v (Nat.beq n 0)) t
noncomputable def lay (x : Option α) (d : Nat) : Nat → Tr α :=
  Nat.rec (motive := fun _ => Nat → Tr α) (fun _ => .leaf) (fun _ ih n => Bool.rec (motive := fun _ => Tr α) (Bool.rec (motive := fun _ => Tr α) (.node none .leaf (ih (Nat.div (Nat.pred n) 2))) (.node none (ih (Nat.div (Nat.pred n) 2)) .leaf) (Nat.beq (Nat.mod n 2) 0)) (.node x .leaf .leaf) (Nat.beq n 0)) d
noncomputable def put (d : Nat) (t : Tr α) (n : Nat) (x : Option α) : Tr α :=
  Tr.rec (motive := fun _ => Nat → Nat → Tr α) (fun d n => lay x d n) (fun v l r pl pr d n => Bool.rec (motive := fun _ => Tr α) (Bool.rec (motive := fun _ => Tr α) (.node v l (pr (Nat.pred d) (Nat.div (Nat.pred n) 2))) (.node v (pl (Nat.pred d) (Nat.div (Nat.pred n) 2)) r) (Nat.beq (Nat.mod n 2) 0)) (.node x l r) (Nat.beq n 0)) t d n
theorem get_leaf (d n : Nat) : (leaf : Tr α).get d n = none := rfl
theorem get_node (d : Nat) (v : Option α) (l r : Tr α) (n : Nat) : (node v l r).get d n = sel (Nat.beq n 0) v (sel (Nat.beq (Nat.mod n 2) 0) (l.get d (Nat.div (Nat.pred n) 2)) (r.get d (Nat.div (Nat.pred n) 2))) := rfl
theorem lay_succ (x : Option α) (d n : Nat) : lay x (d + 1) n = sel (Nat.beq n 0) (.node x .leaf .leaf) (sel (Nat.beq (Nat.mod n 2) 0) (.node none (lay x d (Nat.div (Nat.pred n) 2)) .leaf) (.node none .leaf (lay x d (Nat.div (Nat.pred n) 2)))) := rfl
theorem put_leaf (d n : Nat) (x : Option α) : (leaf : Tr α).put d n x = lay x d n := rfl
theorem put_node (d : Nat) (v : Option α) (l r : Tr α) (n : Nat) (x : Option α) : (node v l r).put d n x = sel (Nat.beq n 0) (.node x l r) (sel (Nat.beq (Nat.mod n 2) 0) (.node v (l.put (Nat.pred d) (Nat.div (Nat.pred n) 2) x) r) (.node v l (r.put (Nat.pred d) (Nat.div (Nat.pred n) 2) x))) := rfl
theorem zero_cases (n : Nat) : (n = 0 ∧ Nat.beq n 0 = true) ∨ (0 < n ∧ Nat.beq n 0 = false) := by
  cases n with
  | zero => exact .inl ⟨rfl, rfl⟩
  | succ n => exact .inr ⟨by omega, rfl⟩
theorem mod_cases (n : Nat) : (n % 2 = 0 ∧ Nat.beq (Nat.mod n 2) 0 = true) ∨ (n % 2 = 1 ∧ Nat.beq (Nat.mod n 2) 0 = false) := by
  have e : Nat.mod n 2 = n % 2 := rfl
  rw [e]
  rcases Nat.mod_two_eq_zero_or_one n with h | h
  · exact .inl ⟨h, by rw [h]; rfl⟩
  · exact .inr ⟨h, by rw [h]; rfl⟩
theorem div_pred (n : Nat) : Nat.div (Nat.pred n) 2 = (n - 1) / 2 := rfl
theorem get_lay_same (x : Option α) (e : Nat) : ∀ (d n : Nat), n + 1 < 2 ^ d → (lay x d n).get e n = x := by
  intro d
  induction d with
  | zero => intro n h; simp at h
  | succ d ih =>
    intro n h
    have e2 : 2 ^ (d + 1) = 2 * 2 ^ d := by rw [Nat.pow_succ, Nat.mul_comm]
    rw [lay_succ]
    rcases zero_cases n with ⟨rfl, h0⟩ | ⟨hn, h0⟩
    · rfl
    · have hk : (n - 1) / 2 + 1 < 2 ^ d := by omega
      rcases mod_cases n with ⟨h1, h2⟩ | ⟨h1, h2⟩
      · simp only [h0, h2, sel_true, sel_false, get_node, div_pred]; exact ih _ hk
      · simp only [h0, h2, sel_true, sel_false, get_node, div_pred]; exact ih _ hk
theorem get_lay_other (x : Option α) (e : Nat) : ∀ (d n k : Nat), k ≠ n → (lay x d n).get e k = none := by
  intro d
  induction d with
  | zero => intro n k h; rfl
  | succ d ih =>
    intro n k h
    rw [lay_succ]
    rcases zero_cases n with ⟨rfl, h0⟩ | ⟨hn, h0⟩
    · rcases zero_cases k with ⟨rfl, g0⟩ | ⟨hk, g0⟩
      · exact absurd rfl h
      · simp only [show Nat.beq 0 0 = true from rfl, sel_true, get_node, g0, sel_false, get_leaf]
        cases Nat.beq (Nat.mod k 2) 0 <;> rfl
    · rcases zero_cases k with ⟨rfl, g0⟩ | ⟨hk, g0⟩
      · rcases mod_cases n with ⟨p1, p2⟩ | ⟨p1, p2⟩ <;> simp [h0, p2, sel_true, sel_false, get_node]
      · rcases mod_cases n with ⟨p1, p2⟩ | ⟨p1, p2⟩ <;> rcases mod_cases k with ⟨q1, q2⟩ | ⟨q1, q2⟩ <;>
          simp only [h0, g0, p2, q2, sel_true, sel_false, get_node, get_leaf, div_pred] <;> exact ih _ _ (by omega)
theorem get_put_same : ∀ (d : Nat) (t : Tr α) (n : Nat) (x : Option α), n + 1 < 2 ^ d → (t.put d n x).get d n = x := by
  have key : ∀ (t : Tr α) (e d n : Nat) (x : Option α), n + 1 < 2 ^ d → (t.put d n x).get e n = x := by
    intro t
    induction t with
    | leaf => intro e d n x h; rw [put_leaf]; exact get_lay_same x e d n h
    | node v l r ihl ihr =>
      intro e d n x h
      rw [put_node]
      rcases zero_cases n with ⟨rfl, h0⟩ | ⟨hn, h0⟩
      · rfl
      · have hd : ∃ d', d = d' + 1 := by
          cases d with
          | zero => simp at h
          | succ d' => exact ⟨d', rfl⟩
        obtain ⟨d', rfl⟩ := hd
        have e2 : 2 ^ (d' + 1) = 2 * 2 ^ d' := by rw [Nat.pow_succ, Nat.mul_comm]
        have hk : (n - 1) / 2 + 1 < 2 ^ d' := by omega
        rcases mod_cases n with ⟨h1, h2⟩ | ⟨h1, h2⟩
        · simp only [h0, h2, sel_true, sel_false, get_node, div_pred, Nat.pred_succ]; exact ihl _ _ _ _ hk
        · simp only [h0, h2, sel_true, sel_false, get_node, div_pred, Nat.pred_succ]; exact ihr _ _ _ _ hk
  exact fun d t n x h => key t d d n x h
theorem get_put_other : ∀ (d : Nat) (t : Tr α) (n k : Nat) (x : Option α), k ≠ n → (t.put d n x).get d k = t.get d k := by
  have key : ∀ (t : Tr α) (e d n k : Nat) (x : Option α), k ≠ n → (t.put d n x).get e k = t.get e k := by
    intro t
    induction t with
    | leaf => intro e d n k x h; rw [put_leaf, get_leaf]; exact get_lay_other x e d n k h
    | node v l r ihl ihr =>
      intro e d n k x h
      rw [put_node, get_node]
      rcases zero_cases n with ⟨rfl, h0⟩ | ⟨hn, h0⟩
      · rcases zero_cases k with ⟨rfl, g0⟩ | ⟨hk, g0⟩
        · exact absurd rfl h
        · simp only [show Nat.beq 0 0 = true from rfl, sel_true, get_node, g0, sel_false]
      · rcases zero_cases k with ⟨rfl, g0⟩ | ⟨hk, g0⟩
        · rcases mod_cases n with ⟨p1, p2⟩ | ⟨p1, p2⟩ <;> simp [h0, p2, sel_true, sel_false, get_node]
        · rcases mod_cases n with ⟨p1, p2⟩ | ⟨p1, p2⟩ <;> rcases mod_cases k with ⟨q1, q2⟩ | ⟨q1, q2⟩ <;>
            simp only [h0, g0, p2, q2, sel_true, sel_false, get_node, div_pred] <;> first | (exact ihl _ _ _ _ _ (by omega)) | (exact ihr _ _ _ _ _ (by omega)) | rfl
  exact fun d t n k x h => key t d d n k x h
end Tr
end Go.Proofs.YtklclfolmfhocaaGreatDoor.Ev
namespace Go.Proofs.YtklclfolmfhocaaGreatDoor.Ev
open Go.ChangeShapes Go.WideShapes Go.ChangeAt Go.RowKit
open Go.Proofs.YtklclfolmfhocaaGreatDoor.Mem
set_option linter.unusedVariables false
def signC : List Value := [.string ⟨#[61, 61]⟩, .string ⟨#[33, 61]⟩, .string ⟨#[60, 61]⟩, .string ⟨#[62, 61]⟩, .string ⟨#[38, 38]⟩, .string ⟨#[124, 124]⟩, .string ⟨#[58, 58]⟩, .string ⟨#[60]⟩, .string ⟨#[62]⟩, .string ⟨#[43]⟩, .string ⟨#[45]⟩, .string ⟨#[42]⟩, .string ⟨#[33]⟩, .string ⟨#[40]⟩, .string ⟨#[41]⟩, .string ⟨#[91]⟩, .string ⟨#[93]⟩, .string ⟨#[123]⟩, .string ⟨#[125]⟩, .string ⟨#[44]⟩, .string ⟨#[59]⟩, .string ⟨#[58]⟩, .string ⟨#[46]⟩]
def operC : List Value := [.string ⟨#[38, 38]⟩, .int .u8 15, .string ⟨#[124, 124]⟩, .int .u8 16, .string ⟨#[61, 61]⟩, .int .u8 17, .string ⟨#[33, 61]⟩, .int .u8 18, .string ⟨#[60]⟩, .int .u8 19, .string ⟨#[60, 61]⟩, .int .u8 20, .string ⟨#[62]⟩, .int .u8 21, .string ⟨#[62, 61]⟩, .int .u8 22, .string ⟨#[105, 110]⟩, .int .u8 23, .string ⟨#[43]⟩, .int .u8 24, .string ⟨#[45]⟩, .int .u8 25, .string ⟨#[42]⟩, .int .u8 26, .string ⟨#[99, 111, 110, 116, 97, 105, 110, 115]⟩, .int .u8 27, .string ⟨#[99, 111, 110, 116, 97, 105, 110, 115, 65, 108, 108]⟩, .int .u8 28, .string ⟨#[99, 111, 110, 116, 97, 105, 110, 115, 65, 110, 121]⟩, .int .u8 29]
/-- what a call finds: the tables, the longest text that is searched byte by byte -/
structure Core (W : World) : Prop where
  tabs : Lib.Utf8Tabs 0 1 W
  ml : ∃ m, W.cell? ⟨2, 0, none⟩ = some (.int .i64 m)
/-- and the variables that are read by name -/
structure Laid (W : World) : Prop extends Core W where
  signs : ∀ j (hj : j < signC.length), W.cell? ⟨4, j, none⟩ = some signC[j]
  opers : ∀ j (hj : j < operC.length), W.cell? ⟨3, j, none⟩ = some operC[j]
structure LaidS (W : World) : Prop extends Core W where
  signs : ∀ j (hj : j < signC.length), W.cell? ⟨4, j, none⟩ = some signC[j]
theorem Core.below {W W' : World} (h : Core W) (b : Below W.heap.size W W') : Core W' :=
  ⟨Utf8Tabs_below h.tabs b, by obtain ⟨m, hm⟩ := h.ml; exact ⟨m, cell_below b _ _ hm⟩⟩
theorem Laid.below {W W' : World} (h : Laid W) (b : Below W.heap.size W W') : Laid W' :=
  ⟨h.toCore.below b, fun j hj => cell_below b _ _ (h.signs j hj), fun j hj => cell_below b _ _ (h.opers j hj)⟩
theorem LaidS.below {W W' : World} (h : LaidS W) (b : Below W.heap.size W W') : LaidS W' :=
  ⟨h.toCore.below b, fun j hj => cell_below b _ _ (h.signs j hj)⟩
theorem Laid.toS {W : World} (h : Laid W) : LaidS W := ⟨h.toCore, h.signs⟩
structure Glob (B : Nat) (W : World) : Prop where
  size : B = W.heap.size
  laid : Core W
def Base (B : Nat) (W : World) : Prop := ∃ W0, Glob B W0 ∧ Below B W0 W
theorem Base.up {B : Nat} {W W' : World} (h : Base B W) (b : Below B W W') : Base B W' := by
  obtain ⟨W0, h1, h2⟩ := h
  exact ⟨W0, h1, h2.trans b⟩
theorem Base.laid {B : Nat} {W : World} (h : Base B W) : Core W := by
  obtain ⟨W0, h1, h2⟩ := h
  exact h1.laid.below (h1.size ▸ h2)
theorem Glob.base {B : Nat} {W : World} (h : Glob B W) : Base B W := ⟨W, h, Below.refl _ _⟩
end Go.Proofs.YtklclfolmfhocaaGreatDoor.Ev
namespace Go.Proofs.YtklclfolmfhocaaGreatDoor.Ev
open Go.ChangeShapes Go.WideShapes Go.ChangeAt Go.RowKit
open Go.Proofs.YtklclfolmfhocaaGreatDoor.Mem
set_option linter.unusedVariables false
set_option linter.unusedSimpArgs false
/-- a block: its cells, as far as they are known; row: how many cells an element has, if more may be appended; ro: it is only read -/
structure Cells where
  cells : List Value
  ty : TypeId
  row : Option Nat
  ro : Bool
/-- next: names from here on are new; res: names below it that were laid by; cur: the one of these that the next new block bears -/
structure St where
  heap : Tr Cells
  next : Nat
  res : List Nat
  cur : Option Nat
noncomputable def St.get (s : St) (n : Nat) : Option Cells := s.heap.get 42 n
noncomputable def St.put (s : St) (n : Nat) (c : Option Cells) : St := { s with heap := s.heap.put 42 n c }
def St.name (s : St) : Nat := match s.cur with
  | some n => n
  | none => s.next
noncomputable def St.alloc (s : St) (cs : List Value) (t : TypeId) (row : Option Nat) : St := match s.cur with
  | some n => ⟨s.heap.put 42 n (some ⟨cs, t, row, false⟩), s.next, s.res.filter (fun k => !Nat.beq k n), none⟩
  | none => ⟨s.heap.put 42 s.next (some ⟨cs, t, row, false⟩), Nat.succ s.next, s.res, none⟩
structure Lies (m : Mu) (B : Nat) (W : World) (c : Cells) (l : Loc) : Prop where
  own : c.ro = false → B ≤ l.blk ∧ ∃ rl tail, RL m c.cells rl ∧ Blk W l.blk (rl ++ tail) c.ty ∧ (∀ s, c.row = some s → (rl ++ tail).length = l.cap * s) ∧ (c.row = none → tail = [])
  low : c.ro = true → l.blk < B
  cell : ∃ rl, RL m c.cells rl ∧ ∀ j (h : j < rl.length), W.cell? ⟨l.blk, j, none⟩ = some rl[j]
/-- where a map's entries lie: key, value, key, value; they are kept above the names -/
structure LiesM (m : Mu) (B : Nat) (W : World) (c : Cells) (l : Loc) : Prop where
  base : B ≤ l.blk
  ents : ∃ es clock, W.heap[l.blk]? = some (.map es clock) ∧ RL m c.cells (es.toList.flatMap fun e => [e.key, e.val])
structure Holds (m : Mu) (s : St) (B : Nat) (W : World) : Prop where
  fresh : ∀ n, s.next ≤ n → m n = none
  laid : ∀ n, n ∈ s.res → m n = none ∧ n < s.next
  cin : ∀ n, s.cur = some n → n ∈ s.res
  big : s.next ≤ 2 ^ 40
  room : B ≤ W.heap.size
  at' : ∀ n c, n < 2 ^ 40 → s.get n = some c → ∃ l, m n = some l ∧ Lies m B W c l
  inj : ∀ n k c d l e, s.get n = some c → s.get k = some d → m n = some l → m k = some e → l.blk = e.blk → n = k
  glob : ∀ n c, n < 2 ^ 40 → s.get n = some c → c.ro = true → ∃ cap, m n = some ⟨n, cap⟩
  keep : Base B W
  maps : (∀ n c, n < 2 ^ 40 → s.get (n + 2 ^ 40) = some c → ∃ l, m n = some l ∧ LiesM m B W c l) ∧
    ∀ n k c d l e, n < 2 ^ 40 → k < 2 ^ 40 → s.get (n + 2 ^ 40) = some c → s.get (k + 2 ^ 40) = some d → m n = some l → m k = some e → l.blk = e.blk → n = k
theorem LiesM.up {m m' : Mu} {B : Nat} {W : World} {c : Cells} {l : Loc} (s : Sub m m') (h : LiesM m B W c l) : LiesM m' B W c l := by
  obtain ⟨h1, es, ck, h2, h3⟩ := h
  exact ⟨h1, es, ck, h2, h3.up s⟩
theorem LiesM.turn {m : Mu} {B : Nat} {W W' : World} {c : Cells} {l : Loc} (e : W'.heap[l.blk]? = W.heap[l.blk]?) (h : LiesM m B W c l) : LiesM m B W' c l := by
  obtain ⟨h1, es, ck, h2, h3⟩ := h
  exact ⟨h1, es, ck, e.trans h2, h3⟩
theorem LiesM.lt {m : Mu} {B : Nat} {W : World} {c : Cells} {l : Loc} (h : LiesM m B W c l) : l.blk < W.heap.size := by
  obtain ⟨h1, es, ck, h2, h3⟩ := h
  exact (Array.getElem?_eq_some_iff.1 h2).1
theorem LiesM.below {m : Mu} {B : Nat} {W W' : World} {c : Cells} {l : Loc} (b : Below W.heap.size W W') (h : LiesM m B W c l) : LiesM m B W' c l := h.turn (b.block _ h.lt)
theorem LiesM.ne {m : Mu} {B : Nat} {W : World} {c : Cells} {l : Loc} (h : LiesM m B W c l) {b : Nat} {cs : List Value} {t : TypeId} (k : Blk W b cs t) : l.blk ≠ b := by
  obtain ⟨h1, es, ck, h2, h3⟩ := h
  intro e
  rw [e, k.at'] at h2
  cases h2
theorem Lies.up {m m' : Mu} {B : Nat} {W : World} {c : Cells} {l : Loc} (s : Sub m m') (h : Lies m B W c l) : Lies m' B W c l := by
  refine ⟨fun e => ?_, h.low, ?_⟩
  · obtain ⟨h1, rl, tail, h2, h3, h4⟩ := h.own e
    exact ⟨h1, rl, tail, h2.up s, h3, h4⟩
  · obtain ⟨rl, h1, h2⟩ := h.cell
    exact ⟨rl, h1.up s, h2⟩
theorem Lies.below {m : Mu} {B : Nat} {W W' : World} {c : Cells} {l : Loc} (b : Below W.heap.size W W') (h : Lies m B W c l) : Lies m B W' c l := by
  refine ⟨fun e => ?_, h.low, ?_⟩
  · obtain ⟨h1, rl, tail, h2, h3, h4⟩ := h.own e
    exact ⟨h1, rl, tail, h2, h3.below b h3.lt, h4⟩
  · obtain ⟨rl, h1, h2⟩ := h.cell
    exact ⟨rl, h1, fun j hj => cell_below b _ _ (h2 j hj)⟩
/-- nothing of the names is turned -/
theorem Holds.below {m : Mu} {s : St} {B : Nat} {W W' : World} (b : Below W.heap.size W W') (h : Holds m s B W) : Holds m s B W' :=
  ⟨h.fresh, h.laid, h.cin, h.big, Nat.le_trans h.room b.size, fun n c hn hc => by obtain ⟨l, h1, h2⟩ := h.at' n c hn hc; exact ⟨l, h1, h2.below b⟩, h.inj, h.glob, h.keep.up (b.mono h.room), ⟨fun n c hn hc => by obtain ⟨l, h1, h2⟩ := h.maps.1 n c hn hc; exact ⟨l, h1, h2.below b⟩, h.maps.2⟩⟩
theorem St.get_lt {m : Mu} {s : St} {B : Nat} {W : World} (h : Holds m s B W) {n : Nat} {c : Cells} (hn : n < 2 ^ 40) (hc : s.get n = some c) : n < s.next := by
  obtain ⟨l, hl, _⟩ := h.at' n c hn hc
  rcases Nat.lt_or_ge n s.next with h1 | h1
  · exact h1
  · rw [h.fresh n h1] at hl; cases hl
theorem R.name_lt {m : Mu} {s : St} {B : Nat} {W : World} (h : Holds m s B W) {n : Nat} {l : Loc} (e : m n = some l) : n < 2 ^ 40 := by
  rcases Nat.lt_or_ge n s.next with h1 | h1
  · exact Nat.lt_of_lt_of_le h1 h.big
  · rw [h.fresh n h1] at e; cases e
/-- the cells of a live name, read -/
theorem Holds.read {m : Mu} {s : St} {B : Nat} {W : World} (h : Holds m s B W) {n : Nat} {c : Cells} {l : Loc} (hc : s.get n = some c) (hl : m n = some l) (i : Nat) {x : Value} (hx : c.cells[i]? = some x) :
    ∃ y, W.cell? ⟨l.blk, i, none⟩ = some y ∧ R m x y := by
  obtain ⟨l', h1, h2⟩ := h.at' n c (R.name_lt h hl) hc
  rw [hl] at h1; cases h1
  obtain ⟨rl, h3, h4⟩ := h2.cell
  obtain ⟨y, hy, hr⟩ := h3.get i hx
  obtain ⟨hlt, e⟩ := List.getElem?_eq_some_iff.1 hy
  exact ⟨y, by rw [h4 i hlt, e], hr⟩
theorem Lies.lt {m : Mu} {B : Nat} {W : World} {c : Cells} {l : Loc} (hB : B ≤ W.heap.size) (h : Lies m B W c l) : l.blk < W.heap.size := by
  cases hro : c.ro with
  | false => obtain ⟨_, _, _, _, h3, _⟩ := h.own hro; exact h3.lt
  | true => exact Nat.lt_of_lt_of_le (h.low hro) hB
theorem St.get_put_same (s : St) (n : Nat) (c : Option Cells) (h : n < 2 ^ 40) : (s.put n c).get n = c := Tr.get_put_same 42 s.heap n c (by omega)
theorem St.get_put_same' (s : St) (n : Nat) (c : Option Cells) (h : n < 2 ^ 41) : (s.put n c).get n = c := Tr.get_put_same 42 s.heap n c (by omega)
theorem St.get_put_other (s : St) {n k : Nat} (c : Option Cells) (h : k ≠ n) : (s.put n c).get k = s.get k := Tr.get_put_other 42 s.heap n k c h
theorem Holds.name {m : Mu} {s : St} {B : Nat} {W : World} (h : Holds m s B W) (hn : s.next < 2 ^ 40) : m s.name = none ∧ s.name < 2 ^ 40 := by
  unfold St.name
  split
  · rename_i n hc
    have h1 := h.laid n (h.cin n hc)
    exact ⟨h1.1, by omega⟩
  · exact ⟨h.fresh _ (Nat.le_refl _), hn⟩
theorem St.alloc_get (s : St) (cs : List Value) (t : TypeId) (row : Option Nat) (k : Nat) : (s.alloc cs t row).get k = (s.put s.name (some ⟨cs, t, row, false⟩)).get k := by
  unfold St.alloc St.name St.put St.get
  cases s.cur <;> rfl
theorem St.alloc_high (s : St) (cs : List Value) (t : TypeId) (row : Option Nat) (hn : s.name < 2 ^ 40) (k : Nat) : (s.alloc cs t row).get (k + 2 ^ 40) = s.get (k + 2 ^ 40) :=
  (St.alloc_get s cs t row _).trans (St.get_put_other s _ (by omega))
theorem beq_ne {a b : Nat} (h : (!Nat.beq a b) = true) : a ≠ b := by
  intro e
  subst e
  simp at h
/-- what of the names stands behind a new block -/
theorem Holds.names {m : Mu} {s : St} {B : Nat} {W : World} (h : Holds m s B W) (hn : s.next < 2 ^ 40) (l : Loc) (cs : List Value) (t : TypeId) (row : Option Nat) :
    (∀ n, (s.alloc cs t row).next ≤ n → (m.put s.name l) n = none) ∧ (∀ n, n ∈ (s.alloc cs t row).res → (m.put s.name l) n = none ∧ n < (s.alloc cs t row).next) ∧ (∀ n, (s.alloc cs t row).cur = some n → n ∈ (s.alloc cs t row).res) ∧ (s.alloc cs t row).next ≤ 2 ^ 40 := by
  unfold St.alloc St.name Mu.put
  cases hc : s.cur with
  | some c =>
    have h1 := h.laid c (h.cin c hc)
    refine ⟨fun n hn2 => ?_, fun n hn2 => ?_, (fun n e => by cases e), h.big⟩
    · have hne : n ≠ c := by have : s.next ≤ n := hn2; omega
      simp only [hne, if_false]
      exact h.fresh n hn2
    · simp only [List.mem_filter] at hn2
      have hne : n ≠ c := beq_ne hn2.2
      simp only [hne, if_false]
      exact h.laid n hn2.1
  | none =>
    refine ⟨fun n hn2 => ?_, fun n hn2 => ?_, (fun n e => by cases e), hn⟩
    · have h2 : s.next + 1 ≤ n := hn2
      have hne : n ≠ s.next := by omega
      simp only [hne, if_false]
      exact h.fresh n (by omega)
    · have h2 := h.laid n hn2
      have hne : n ≠ s.next := by omega
      simp only [hne, if_false]
      exact ⟨h2.1, Nat.lt_succ_of_lt h2.2⟩
/-- a new block -/
theorem Holds.alloc {m : Mu} {s : St} {B : Nat} {W : World} (h : Holds m s B W) (hn : s.next < 2 ^ 40) {cs rl : List Value} (hr : RL m cs rl) (t : TypeId) (row : Option Nat) (cap : Nat) (hrow : ∀ k, row = some k → rl.length = cap * k) :
    Sub m (m.put s.name ⟨W.heap.size, cap⟩) ∧ Holds (m.put s.name ⟨W.heap.size, cap⟩) (s.alloc cs t row) B (W.alloc (.cells rl.toArray t)) ∧ Below W.heap.size W (W.alloc (.cells rl.toArray t)) := by
  have hs : Sub m (m.put s.name ⟨W.heap.size, cap⟩) := Sub.put _ (h.name hn).1
  have hb : Below W.heap.size W (W.alloc (.cells rl.toArray t)) := (Below.refl _ W).alloc (Nat.le_refl _) _
  have hmu : (m.put s.name ⟨W.heap.size, cap⟩) s.name = some ⟨W.heap.size, cap⟩ := by simp [Mu.put]
  have hold : ∀ k, k ≠ s.name → (m.put s.name ⟨W.heap.size, cap⟩) k = m k := fun k hk => by simp [Mu.put, hk]
  have hget : ∀ k c, k < 2 ^ 40 → (s.alloc cs t row).get k = some c → (k = s.name ∧ c = ⟨cs, t, row, false⟩) ∨ (k ≠ s.name ∧ s.get k = some c) := fun k c hk e => by
    by_cases hk2 : k = s.name
    · subst hk2
      exact .inl ⟨rfl, Option.some.inj (e.symm.trans ((St.alloc_get s cs t row _).trans (St.get_put_same s s.name (some (⟨cs, t, row, false⟩ : Cells)) hk)))⟩
    · exact .inr ⟨hk2, (St.get_put_other s (some (⟨cs, t, row, false⟩ : Cells)) hk2).symm.trans ((St.alloc_get s cs t row _).symm.trans e)⟩
  have hnew : Lies (m.put s.name ⟨W.heap.size, cap⟩) B (W.alloc (.cells rl.toArray t)) ⟨cs, t, row, false⟩ ⟨W.heap.size, cap⟩ := by
    have hK := Blk.new W rl t
    refine ⟨fun _ => ⟨h.room, rl, [], hr.up hs, by rw [List.append_nil]; exact hK, fun k hk => by rw [List.append_nil]; exact hrow k hk, fun _ => rfl⟩, fun e => (by cases e), rl, hr.up hs, fun j hj => hK.cell j hj⟩
  have hblk : ∀ k l c, k < 2 ^ 40 → k ≠ s.name → (m.put s.name ⟨W.heap.size, cap⟩) k = some l → s.get k = some c → l.blk < W.heap.size := fun k l c hk2 hk hl hc => by
    rw [hold k hk] at hl
    obtain ⟨l', h1, h2⟩ := h.at' k c hk2 hc
    rw [hl] at h1; cases h1
    exact h2.lt h.room
  have hname : ∀ k l, (m.put s.name ⟨W.heap.size, cap⟩) k = some l → k < 2 ^ 40 := fun k l e => by
    by_cases hk : k = s.name
    · have := (h.name hn).2; omega
    · rw [hold k hk] at e; exact R.name_lt h e
  obtain ⟨f1, f2, f3, f4⟩ := h.names hn ⟨W.heap.size, cap⟩ cs t row
  refine ⟨hs, ⟨f1, f2, f3, f4, Nat.le_trans h.room hb.size, fun n c hn2 hc => ?_, fun n k c d l e hc hd hl he heq => ?_, fun n c hn2 hc hro => ?_, h.keep.up (hb.mono h.room), ⟨fun n c hn2 hc => by
    rw [St.alloc_high s cs t row (h.name hn).2] at hc
    obtain ⟨l, h3, h4⟩ := h.maps.1 n c hn2 hc
    exact ⟨l, hs _ _ h3, (h4.below hb).up hs⟩, fun n k c d l e hn2 hk2 hc hd hl he => by
    rw [St.alloc_high s cs t row (h.name hn).2] at hc hd
    obtain ⟨l1, h3, h4⟩ := h.maps.1 n c hn2 hc
    obtain ⟨l2, h5, h6⟩ := h.maps.1 k d hk2 hd
    rw [hs _ _ h3] at hl; cases hl
    rw [hs _ _ h5] at he; cases he
    exact h.maps.2 n k c d _ _ hn2 hk2 hc hd h3 h5⟩⟩, hb⟩
  · rcases hget n c hn2 hc with ⟨rfl, rfl⟩ | ⟨h1, h2⟩
    · exact ⟨_, hmu, hnew⟩
    · obtain ⟨l, h3, h4⟩ := h.at' n c hn2 h2
      exact ⟨l, hs _ _ h3, (h4.below hb).up hs⟩
  · rcases hget n c (hname n l hl) hc with ⟨rfl, rfl⟩ | ⟨h1, h2⟩
    · rcases hget k d (hname k e he) hd with ⟨h3, _⟩ | ⟨h3, h4⟩
      · exact h3.symm
      · have := hblk k e d (hname k e he) h3 he h4
        rw [hmu] at hl; cases hl
        simp only at heq
        omega
    · rcases hget k d (hname k e he) hd with ⟨rfl, rfl⟩ | ⟨h3, h4⟩
      · have := hblk n l c (hname n l hl) h1 hl h2
        rw [hmu] at he; cases he
        simp only at heq
        omega
      · rw [hold n h1] at hl
        rw [hold k h3] at he
        exact h.inj n k c d l e h2 h4 hl he heq
  · rcases hget n c hn2 hc with ⟨rfl, rfl⟩ | ⟨h1, h2⟩
    · cases hro
    · obtain ⟨cap, h3⟩ := h.glob n c hn2 h2 hro
      exact ⟨cap, hs _ _ h3⟩
/-- a block is no longer spoken of -/
theorem Holds.drop {m : Mu} {s : St} {B : Nat} {W : World} (h : Holds m s B W) (n : Nat) (hn : n < 2 ^ 40) : Holds m (s.put n none) B W := by
  have hget : ∀ k c, k < 2 ^ 40 → (s.put n none).get k = some c → k ≠ n ∧ s.get k = some c := fun k c hk e => by
    by_cases hk2 : k = n
    · subst hk2; rw [St.get_put_same _ _ _ hk] at e; cases e
    · exact ⟨hk2, (St.get_put_other s none hk2).symm.trans e⟩
  refine ⟨h.fresh, h.laid, h.cin, h.big, h.room, fun k c hk hc => h.at' k c hk (hget k c hk hc).2, fun a k c d l e hc hd hl he heq => ?_, fun k c hk hc hro => h.glob k c hk (hget k c hk hc).2 hro, h.keep, ⟨fun k c hk hc => h.maps.1 k c hk ((St.get_put_other s none (by omega)).symm.trans hc), fun a k c d l e ha hk hc hd => h.maps.2 a k c d l e ha hk ((St.get_put_other s none (by omega)).symm.trans hc) ((St.get_put_other s none (by omega)).symm.trans hd)⟩⟩
  exact h.inj a k c d l e (hget a c (R.name_lt h hl) hc).2 (hget k d (R.name_lt h he) hd).2 hl he heq
/-- one cell is written -/
theorem Holds.set {m : Mu} {s : St} {B : Nat} {W : World} (h : Holds m s B W) {n : Nat} {c : Cells} {l : Loc} (hc : s.get n = some c) (hl : m n = some l) (hro : c.ro = false) (i : Nat) (hi : i < c.cells.length) {x y : Value} (hx : R m x y) :
    Holds m (s.put n (some { c with cells := c.cells.set i x })) B (W.setCell ⟨l.blk, i, none⟩ y) ∧ Below B W (W.setCell ⟨l.blk, i, none⟩ y) ∧ (∃ u, W.cell? ⟨l.blk, i, none⟩ = some u) ∧ W.frozen? ⟨l.blk, i, none⟩ = false := by
  have hn := R.name_lt h hl
  obtain ⟨l0, h1, h2⟩ := h.at' n c hn hc
  rw [hl] at h1; cases h1
  obtain ⟨hB, rl, tail, h3, h4, h5, h6⟩ := h2.own hro
  have hlen := h3.length
  have hget : ∀ k d, k < 2 ^ 40 → (s.put n (some { c with cells := c.cells.set i x })).get k = some d → (k = n ∧ d = { c with cells := c.cells.set i x }) ∨ (k ≠ n ∧ s.get k = some d) := fun k d hk e => by
    by_cases hk2 : k = n
    · subst hk2; rw [St.get_put_same _ _ _ hk] at e; exact .inl ⟨rfl, (Option.some.inj e).symm⟩
    · exact .inr ⟨hk2, (St.get_put_other s _ hk2).symm.trans e⟩
  have hset : (rl ++ tail).set i y = rl.set i y ++ tail := List.set_append_left _ _ (by omega)
  have hnew : Lies m B (W.setCell ⟨l.blk, i, none⟩ y) { c with cells := c.cells.set i x } l := by
    have hK := h4.set i y
    rw [hset] at hK
    refine ⟨fun _ => ⟨hB, rl.set i y, tail, h3.set i hx, hK, fun k hk => ?_, h6⟩, fun e => ?_, rl.set i y, h3.set i hx, fun j hj => ?_⟩
    · have := h5 k hk
      simpa using this
    · rw [show ({ c with cells := c.cells.set i x } : Cells).ro = c.ro from rfl, hro] at e; cases e
    · rw [hK.cell j (by rw [List.length_append]; omega), List.getElem_append_left hj]
  have hother : ∀ k d e, k ≠ n → s.get k = some d → m k = some e → Lies m B W d e → Lies m B (W.setCell ⟨l.blk, i, none⟩ y) d e := fun k d e hk hd he hL => by
    have hne : l.blk ≠ e.blk := fun q => hk (h.inj k n d c e l hd hc he hl q.symm)
    refine ⟨fun q => ?_, hL.low, ?_⟩
    · obtain ⟨g1, r2, t2, g2, g3, g4⟩ := hL.own q
      exact ⟨g1, r2, t2, g2, g3.other (p := ⟨l.blk, i, none⟩) hne y, g4⟩
    · obtain ⟨r2, g1, g2⟩ := hL.cell
      exact ⟨r2, g1, fun j hj => (World.cell?_setCell_other _ _ _ _ (show (⟨l.blk, i, none⟩ : Addr) ≠ ⟨e.blk, j, none⟩ from fun q => hne (congrArg Addr.block q))).trans (g2 j hj)⟩
  refine ⟨⟨h.fresh, h.laid, h.cin, h.big, ?_, fun k d hk hd => ?_, fun a k d d' l1 e hd hd' hl1 he heq => ?_, fun k d hk hd hr => ?_, h.keep.up ((Below.refl B W).setCell (p := ⟨l.blk, i, none⟩) hB y), ⟨fun k d hk hd => by
    obtain ⟨e, g3, g4⟩ := h.maps.1 k d hk ((St.get_put_other s _ (by omega)).symm.trans hd)
    exact ⟨e, g3, g4.turn (Below.heap_setCell _ _ _ _ (g4.ne h4))⟩, fun a k c1 d1 l1 e1 ha hk hc1 hd1 => h.maps.2 a k c1 d1 l1 e1 ha hk ((St.get_put_other s _ (by omega)).symm.trans hc1) ((St.get_put_other s _ (by omega)).symm.trans hd1)⟩⟩, (Below.refl B W).setCell (p := ⟨l.blk, i, none⟩) hB y, ⟨_, h4.cell i (by rw [List.length_append]; omega)⟩, h4.free i⟩
  · have := h.room; simpa using this
  · rcases hget k d hk hd with ⟨rfl, rfl⟩ | ⟨g1, g2⟩
    · exact ⟨l, hl, hnew⟩
    · obtain ⟨e, g3, g4⟩ := h.at' k d hk g2
      exact ⟨e, g3, hother k d e g1 g2 g3 g4⟩
  · have q1 : ∃ d0, s.get a = some d0 := by
      rcases hget a d (R.name_lt h hl1) hd with ⟨rfl, _⟩ | ⟨_, g⟩
      · exact ⟨c, hc⟩
      · exact ⟨d, g⟩
    have q2 : ∃ d0, s.get k = some d0 := by
      rcases hget k d' (R.name_lt h he) hd' with ⟨rfl, _⟩ | ⟨_, g⟩
      · exact ⟨c, hc⟩
      · exact ⟨d', g⟩
    obtain ⟨d1, q1⟩ := q1
    obtain ⟨d2, q2⟩ := q2
    exact h.inj a k d1 d2 l1 e q1 q2 hl1 he heq
  · rcases hget k d hk hd with ⟨rfl, rfl⟩ | ⟨_, g⟩
    · rw [show ({ c with cells := c.cells.set i x } : Cells).ro = c.ro from rfl, hro] at hr; cases hr
    · exact h.glob k d hk g hr
end Go.Proofs.YtklclfolmfhocaaGreatDoor.Ev
namespace Go.Proofs.YtklclfolmfhocaaGreatDoor.Ev
open Go.ChangeShapes Go.WideShapes Go.ChangeAt Go.RowKit
open Go.Proofs.YtklclfolmfhocaaGreatDoor.Mem
set_option linter.unusedVariables false
set_option linter.unusedSimpArgs false
theorem R.one {m : Mu} {x y : Value} (h : R m x y) : y.oneCell' = x.oneCell' := by cases h <;> rfl
theorem RL.one {m : Mu} {a b : List Value} (h : RL m a b) (g : a.all (·.oneCell') = true) : ∀ v ∈ b, v.oneCell' = true := by
  induction a generalizing b with
  | nil => cases h; intro v hv; cases hv
  | cons x a ih =>
    cases h with
    | cons h k =>
      simp only [List.all_cons, Bool.and_eq_true] at g
      intro v hv
      rcases List.mem_cons.1 hv with rfl | hv
      · rw [h.one]; exact g.1
      · exact ih k g.2 v hv
theorem R.cells {m : Mu} {x y : Value} (h : R m x y) : RL m x.cells.toList y.cells.toList := by
  have h0 := h
  cases h <;> first | exact RL.cons h0 .nil | assumption
def isAggB (P : Program) (t : TypeId) : Option Bool :=
  match P.underlying t with
  | some (.struct _) | some (.array _ _) => some true
  | some _ => some false
  | none => none
def sizeB (P : Program) (t : TypeId) : Option Nat := (P.info? t).map (·.size)
theorem isAgg_run {P : Program} {t : TypeId} {b : Bool} (h : isAggB P t = some b) (W : World) : (isAgg t).run P W = .ok b W := by
  unfold isAggB at h
  cases hu : P.underlying t with
  | none => rw [hu] at h; cases h
  | some d =>
    rw [hu] at h
    unfold isAgg
    rw [Sem.run_bind, run_underlying hu W]
    cases d <;> simp_all
theorem sizeOf_run {P : Program} {t : TypeId} {k : Nat} (h : sizeB P t = some k) (W : World) : (sizeOf t).run P W = .ok k W := by
  unfold sizeB at h
  cases hi : P.info? t with
  | none => rw [hi] at h; cases h
  | some i =>
    rw [hi] at h
    have hk : i.size = k := by simpa using h
    simp [sizeOf, typeInfo, hi, hk]
noncomputable def evLoad (P : Program) (s : St) (t : TypeId) : Value → Option Value
  | .pointer (some ⟨n, o, none⟩) =>
    match s.get n, isAggB P t, sizeB P t with
    | some c, some true, some k => if o + k ≤ c.cells.length then some (.agg ((c.cells.drop o).take k).toArray) else none
    | some c, some false, _ => c.cells[o]?
    | _, _, _ => none
  | _ => none
theorem Holds.range {m : Mu} {s : St} {B : Nat} {W : World} (h : Holds m s B W) {n : Nat} {c : Cells} {l : Loc} (hc : s.get n = some c) (hl : m n = some l) (o k : Nat) :
    ∃ rl, RL m ((c.cells.drop o).take k) rl ∧ W.rangeAt l.blk o rl := by
  obtain ⟨l', h1, h2⟩ := h.at' n c (R.name_lt h hl) hc
  rw [hl] at h1; cases h1
  obtain ⟨rl, h3, h4⟩ := h2.cell
  refine ⟨(rl.drop o).take k, (h3.drop o).take k, fun j v hv => ?_⟩
  rw [List.getElem?_take] at hv
  split at hv
  · rw [List.getElem?_drop] at hv
    obtain ⟨hlt, e⟩ := List.getElem?_eq_some_iff.1 hv
    rw [h4 (o + j) hlt, e]
  · cases hv
theorem evLoad_sound {P : Program} {m : Mu} {s : St} {B : Nat} {W : World} (h : Holds m s B W) {t : TypeId} {x x' v : Value} (hx : R m x x') (e : evLoad P s t x = some v) :
    ∃ v', (Instr.loadAt t x').run P W = .ok v' W ∧ R m v v' := by
  unfold evLoad at e
  split at e
  · rename_i n o
    cases hx with
    | ptr _ _ l hl =>
      split at e
      · rename_i c k hc hag hk
        split at e
        · rename_i hle
          cases e
          obtain ⟨rl, h1, h2⟩ := h.range hc hl o k
          have hlen : rl.length = k := by rw [← h1.length]; simp; omega
          have hd : ∃ d, P.underlying t = some d ∧ d.isRow = true := by
            unfold isAggB at hag
            split at hag <;> first | cases hag | skip
            · exact ⟨_, by assumption, rfl⟩
            · exact ⟨_, by assumption, rfl⟩
          obtain ⟨d, hd1, hd2⟩ := hd
          exact ⟨_, run_loadAt_mid W l.blk o t rl d h2 hd1 hd2 (by rw [hlen]; exact hk), .agg _ _ (by simpa using h1)⟩
        · cases e
      · rename_i c _ hc hag
        obtain ⟨y, hy, hr⟩ := h.read hc hl o e
        refine ⟨y, ?_, hr⟩
        simp [Instr.loadAt, Instr.sureAddr, loadVar, Sem.run_bind, isAgg_run hag W, load, Sem.run, hy]
      · cases e
  · cases e
def sets : List Value → Nat → List Value → List Value
  | l, _, [] => l
  | l, o, v :: r => sets (l.set o v) (o + 1) r
theorem sets_length : ∀ (r l : List Value) (o : Nat), (sets l o r).length = l.length
  | [], _, _ => rfl
  | v :: r, l, o => by rw [sets, sets_length r]; simp
theorem put_put {m : Mu} {s : St} {n : Nat} (hn : n < 2 ^ 40) (c d : Option Cells) : ∀ k, k < 2 ^ 41 → ((s.put n c).put n d).get k = (s.put n d).get k := fun k hk => by
  by_cases e : k = n
  · subst e; rw [St.get_put_same _ _ _ hn, St.get_put_same _ _ _ hn]
  · rw [St.get_put_other _ _ e, St.get_put_other _ _ e, St.get_put_other _ _ e]
/-- states that hold the same blocks -/
theorem Holds.same {m : Mu} {s s' : St} {B : Nat} {W : World} (h : Holds m s B W) (hn : s'.next = s.next ∧ s'.res = s.res ∧ s'.cur = s.cur) (hg : ∀ k, k < 2 ^ 41 → s'.get k = s.get k) : Holds m s' B W :=
  ⟨by rw [hn.1]; exact h.fresh, by rw [hn.1, hn.2.1]; exact h.laid, by rw [hn.2.1, hn.2.2]; exact h.cin, by rw [hn.1]; exact h.big, h.room, fun n c hk hc => h.at' n c hk (by rw [← hg n (by omega)]; exact hc),
   fun n k c d l e hc hd hl he q => h.inj n k c d l e (by rw [← hg n (by have := R.name_lt h hl; omega)]; exact hc) (by rw [← hg k (by have := R.name_lt h he; omega)]; exact hd) hl he q, fun n c hk hc hr => h.glob n c hk (by rw [← hg n (by omega)]; exact hc) hr, h.keep, ⟨fun n c hk hc => h.maps.1 n c hk (by rw [← hg (n + 2 ^ 40) (by omega)]; exact hc), fun n k c d l e hn hk hc hd => h.maps.2 n k c d l e hn hk (by rw [← hg (n + 2 ^ 40) (by omega)]; exact hc) (by rw [← hg (k + 2 ^ 40) (by omega)]; exact hd)⟩⟩
theorem Holds.sets {m : Mu} {B : Nat} : ∀ (r r' : List Value) (s : St) (W : World) (n : Nat) (c : Cells) (l : Loc) (o : Nat), Holds m s B W → s.get n = some c → m n = some l → c.ro = false → o + r.length ≤ c.cells.length → RL m r r' →
    Holds m (s.put n (some { c with cells := Ev.sets c.cells o r })) B (W.setCells l.blk o r') ∧ Below B W (W.setCells l.blk o r') ∧ ∀ j, j < r.length → (W.cell? ⟨l.blk, o + j, none⟩).isSome = true ∧ W.frozen? ⟨l.blk, o + j, none⟩ = false := by
  intro r
  induction r with
  | nil =>
    intro r' s W n c l o h hc hl hro hle hr
    cases hr
    refine ⟨h.same ⟨rfl, rfl, rfl⟩ (fun k hk => ?_), Below.refl B W, fun j hj => absurd hj (by simp)⟩
    have hn := R.name_lt h hl
    by_cases e : k = n
    · subst e; rw [St.get_put_same _ _ _ hn, hc]; rfl
    · rw [St.get_put_other _ _ e]
  | cons v r ih =>
    intro r' s W n c l o h hc hl hro hle hr
    cases hr with
    | cons hv hr =>
      rename_i y r'
      simp only [List.length_cons] at hle
      have hn := R.name_lt h hl
      obtain ⟨h1, h2, ⟨u, h3⟩, h4⟩ := h.set hc hl hro o (by omega) hv
      have hg : (s.put n (some { c with cells := c.cells.set o v })).get n = some { c with cells := c.cells.set o v } := St.get_put_same _ _ _ hn
      obtain ⟨g1, g2, g3⟩ := ih r' _ _ n _ l (o + 1) h1 hg hl hro (by simp; omega) hr
      refine ⟨g1.same ⟨rfl, rfl, rfl⟩ (fun k hk => ?_), h2.trans g2, fun j hj => ?_⟩
      · exact (put_put (m := m) hn _ _ k hk).symm
      · cases j with
        | zero => exact ⟨by rw [Nat.add_zero, h3]; rfl, by rw [Nat.add_zero]; exact h4⟩
        | succ j =>
          obtain ⟨q1, q2⟩ := g3 j (by simp at hj; omega)
          have ea : o + 1 + j = o + (j + 1) := by omega
          rw [ea] at q1 q2
          refine ⟨?_, (World.frozen?_setCell W _ _ _).symm.trans q2⟩
          rw [World.cell?_setCell_other _ _ _ _ (by simp)] at q1
          exact q1
noncomputable def evStore (P : Program) (s : St) (t : TypeId) (x v : Value) : Option St :=
  match x with
  | .pointer (some ⟨n, o, none⟩) =>
    match s.get n, sizeB P t with
    | some c, some k => if v.cells.size = k ∧ o + k ≤ c.cells.length ∧ c.ro = false ∧ v.cells.toList.all (·.oneCell') = true then some (s.put n (some { c with cells := sets c.cells o v.cells.toList })) else none
    | _, _ => none
  | _ => none
theorem evStore_sound {P : Program} {m : Mu} {s s' : St} {B : Nat} {W : World} (h : Holds m s B W) {t : TypeId} {x x' v v' : Value} (hx : R m x x') (hv : R m v v') (e : evStore P s t x v = some s') :
    ∃ W', (Instr.storeAt t x' v').run P W = .ok () W' ∧ Holds m s' B W' ∧ Below B W W' := by
  unfold evStore at e
  split at e
  · rename_i n o
    cases hx with
    | ptr _ _ l hl =>
      split at e
      · rename_i c k hc hk
        split at e
        · rename_i hq
          obtain ⟨q1, q2, q3, q4⟩ := hq
          cases e
          have hcl := hv.cells
          have hlen := hcl.length
          obtain ⟨h1, h2, h3⟩ := Holds.sets v.cells.toList v'.cells.toList s W n c l o h hc hl q3 (by simpa [q1] using q2) hcl
          refine ⟨_, ?_, h1, h2⟩
          have hs : v'.cells.size = k := by rw [← q1]; simpa using hlen.symm
          have hst := run_storeCells_cells (P := P) l.blk o v'.cells.toList 0 W (fun j hj => by rw [Nat.add_zero]; exact (h3 j (by rw [hlen]; exact hj)).1) (fun j hj => by rw [Nat.add_zero]; exact (h3 j (by rw [hlen]; exact hj)).2) (hcl.one q4)
          rw [Nat.add_zero] at hst
          simp [Instr.storeAt, Instr.sureAddr, storeVar, Sem.run_bind, sizeOf_run hk W, hs, hst]
        · cases e
      · cases e
  · cases e
/-- a new variable -/
noncomputable def evNew (s : St) (t : TypeId) (v : Value) : Option (Value × St) :=
  if s.next < 2 ^ 40 then some (.pointer (some ⟨s.name, 0, none⟩), s.alloc v.cells.toList t none) else none
theorem evNew_sound {P : Program} {m : Mu} {s s' : St} {B : Nat} {W : World} (h : Holds m s B W) {t : TypeId} {v v' r : Value} (hv : R m v v') (e : evNew s t v = some (r, s')) :
    ∃ r' W' m', (Instr.box t v').run P W = .ok r' W' ∧ R m' r r' ∧ Sub m m' ∧ Holds m' s' B W' ∧ Below W.heap.size W W' := by
  unfold evNew at e
  split at e
  · rename_i hn
    cases e
    obtain ⟨h1, h2, h3⟩ := h.alloc hn hv.cells t none 0 (fun k hk => by cases hk)
    refine ⟨_, _, _, ?_, .ptr s.name 0 ⟨W.heap.size, 0⟩ (by simp [Mu.put]), h1, h2, h3⟩
    simp [Instr.box, newVar, newRow, newObj, Sem.run_bind, Sem.run]
  · cases e
end Go.Proofs.YtklclfolmfhocaaGreatDoor.Ev
namespace Go.Proofs.YtklclfolmfhocaaGreatDoor.Ev
open Go.ChangeShapes Go.WideShapes Go.ChangeAt Go.RowKit
open Go.Proofs.YtklclfolmfhocaaGreatDoor.Mem
set_option linter.unusedVariables false
set_option linter.unusedSimpArgs false
/-- what an operation comes to that asks nothing of memory -/
def pureV (P : Program) {α : Type} : Sem α → Option α
  | .pure a => some a
  | .program k => pureV P (k P)
  | .mark _ k => pureV P k
  | _ => none
theorem pureV_run (P : Program) {α : Type} (W : World) : ∀ (s : Sem α) (a : α), pureV P s = some a → s.run P W = .ok a W := by
  intro s
  induction s with
  | pure a => intro b h; cases h; rfl
  | program k ih => intro b h; exact ih P b h
  | mark m k ih => intro b h; exact ih b h
  | load | store | new | shape | freeze | frozen | getObj | setObj | choose | sys | halt => intro b h; cases h
/-- flat, or a row of flat ones, or a function with nothing bound -/
def closed : Value → Bool
  | .agg a | .tuple a => a.toList.all flat
  | .func _ a b => a.toList.isEmpty && b.toList.isEmpty
  | v => flat v
theorem RL.of_flat {m : Mu} : ∀ {l : List Value}, l.all flat = true → RL m l l
  | [], _ => .nil
  | x :: l, h => by
    simp only [List.all_cons, Bool.and_eq_true] at h
    exact .cons (R.of_flat h.1) (RL.of_flat h.2)
theorem RL.flat_eq {m : Mu} : ∀ {l k : List Value}, RL m l k → l.all flat = true → k = l
  | _, _, .nil, _ => rfl
  | _, _, .cons h g, e => by
    simp only [List.all_cons, Bool.and_eq_true] at e
    rw [h.flat_eq e.1, RL.flat_eq g e.2]
theorem R.of_closed {m : Mu} {x : Value} (h : closed x = true) : R m x x := by
  cases x <;> first | exact R.of_flat h | skip
  · rename_i f a b
    simp only [closed, Bool.and_eq_true, List.isEmpty_iff] at h
    exact .func f a b a b (by rw [h.1]; exact .nil) (by rw [h.2]; exact .nil)
  · exact .agg _ _ (RL.of_flat h)
  · exact .tuple _ _ (RL.of_flat h)
theorem R.closed_eq {m : Mu} {x y : Value} (h : R m x y) (hf : closed x = true) : y = x := by
  cases h with
  | agg a b h => rw [Array.toList_inj.1 (RL.flat_eq h hf)]
  | tuple a b h => rw [Array.toList_inj.1 (RL.flat_eq h hf)]
  | func f a b a' b' h g =>
    simp only [closed, Bool.and_eq_true, List.isEmpty_iff] at hf
    have e1 : a' = a := Array.toList_inj.1 (by have := h.length; rw [hf.1] at this ⊢; exact List.eq_nil_of_length_eq_zero this.symm)
    have e2 : b' = b := Array.toList_inj.1 (by have := g.length; rw [hf.2] at this ⊢; exact List.eq_nil_of_length_eq_zero this.symm)
    rw [e1, e2]
  | _ => exact R.flat_eq (m := m) (by constructor <;> assumption) hf
/-! ### slots -/
abbrev Sls := Tr Value
def orUndef : Option Value → Value
  | some v => v
  | none => undef
noncomputable def gets (a : Sls) (t : Nat) : Value := orUndef (a.get 13 t)
/-- of N slots -/
noncomputable def puts (N : Nat) (a : Sls) (d : Nat) (v : Value) : Sls := bif Nat.blt d N then a.put 13 d (some v) else a
/-- the slots of a call, as they are said -/
structure RS (N : Nat) (m : Mu) (a : Sls) (A : Act) : Prop where
  size : A.tmps.size = N
  most : N ≤ 4096
  slot : ∀ t, R m (gets a t) (A.tmps.getD t undef)
variable {N : Nat}
theorem R.undef {m : Mu} : R m undef undef := R.of_closed rfl
theorem RS.up {m m' : Mu} (s : Sub m m') {a : Sls} {A : Act} (h : RS N m a A) : RS N m' a A := ⟨h.size, h.most, fun t => (h.slot t).up s⟩
theorem RS.put {m : Mu} {a : Sls} {A : Act} (h : RS N m a A) (d : Nat) {v v' : Value} (hv : R m v v') : RS N m (puts N a d v) (A.put (some d) v') := by
  unfold puts
  cases hb : Nat.blt d N with
  | true =>
    have hd : d < N := by simpa [Nat.blt_eq] using hb
    refine ⟨by simpa [Act.put] using h.size, h.most, fun t => ?_⟩
    by_cases e : t = d
    · subst e
      have h1 : (Tr.put 13 a t (some v)).get 13 t = some v := Tr.get_put_same 13 _ _ _ (by have := h.most; omega)
      have h2 : (A.put (some t) v').tmps.getD t Go.undef = v' := by
        show (A.tmps.setIfInBounds t v').getD t Go.undef = v'
        have hs := h.size
        simp [Array.getD_eq_getD_getElem?, Array.getElem?_setIfInBounds, hs, hd]
      simp only [cond_true, gets, h1, h2]
      exact hv
    · have h1 : (Tr.put 13 a d (some v)).get 13 t = a.get 13 t := Tr.get_put_other 13 _ _ _ _ e
      have h2 : (A.put (some d) v').tmps.getD t Go.undef = A.tmps.getD t Go.undef := by
        show (A.tmps.setIfInBounds d v').getD t Go.undef = _
        simp [Array.getD_eq_getD_getElem?, Array.getElem?_setIfInBounds_ne (Ne.symm e)]
      have := h.slot t
      simp only [cond_true, gets, h1, h2] at this ⊢
      exact this
  | false =>
    have hd : ¬ d < N := by
      intro q
      rw [show Nat.blt d N = true from by simpa [Nat.blt_eq] using q] at hb
      cases hb
    have h2 : (A.put (some d) v').tmps = A.tmps := by
      show A.tmps.setIfInBounds d v' = _
      have hs := h.size
      rw [Array.setIfInBounds_eq_of_size_le (by omega)]
    exact ⟨by rw [h2]; exact h.size, h.most, fun t => by rw [h2]; exact h.slot t⟩
/-! ### operands -/
noncomputable def evX (s : St) (a : Sls) : Operand → Option Value
  | .tmp t => some (gets a t)
  | .const v => if closed v then some v else none
  | .global g => match s.get g with | some c => if c.ro = true ∧ g < 2 ^ 40 then some (.pointer (some ⟨g, 0, none⟩)) else none | none => none
  | .func f => some (.func (.func f) #[] #[])
theorem evX_sound {m : Mu} {s : St} {B : Nat} {W : World} (h : Holds m s B W) {a : Sls} {A : Act} (ha : RS N m a A) {x : Operand} {v : Value} (e : evX s a x = some v) : R m v (A.eval x) := by
  cases x with
  | tmp t => cases e; exact ha.slot t
  | const v' =>
    simp only [evX] at e
    split at e
    · rename_i hc; cases e; exact R.of_closed hc
    · cases e
  | global g =>
    simp only [evX] at e
    split at e
    · rename_i c hc
      split at e
      · rename_i hq
        cases e
        obtain ⟨cap, hm⟩ := h.glob g c hq.2 hc hq.1
        exact .ptr g 0 ⟨g, cap⟩ hm
      · cases e
    · cases e
  | func f => cases e; exact R.of_closed rfl
/-! ### operations that ask nothing of memory, of operands that hold no address -/
def closedO : Option Value → Bool
  | some v => closed v
  | none => false
def noSelect : Op → Bool
  | .select _ _ => false
  | _ => true
noncomputable def evFlat (P : Program) (s : St) (a : Sls) (o : Oper) : Option Value :=
  if noSelect o.op && o.op.operands.toList.all (fun x => closedO (evX s a x)) then
    match pureV P (execOp (fun x => (evX s a x).getD undef) o) with
    | some (.value v) => if closed v then some v else none
    | _ => none
  else none
theorem evFlat_sound {P : Program} {m : Mu} {s : St} {B : Nat} {W : World} (h : Holds m s B W) {a : Sls} {A : Act} (ha : RS N m a A) {o : Oper} {v : Value} (e : evFlat P s a o = some v) :
    (execOp A.eval o).run P W = .ok (.value v) W ∧ R m v v := by
  unfold evFlat at e
  split at e
  · rename_i hq
    simp only [Bool.and_eq_true, List.all_eq_true] at hq
    split at e
    · rename_i v' hv
      split at e
      · rename_i hc
        cases e
        refine ⟨?_, R.of_closed hc⟩
        have hcong : execOp A.eval o = execOp (fun x => (evX s a x).getD undef) o := execOp_congr o (fun cs b hh => by rw [hh] at hq; exact absurd hq.1 (by simp [noSelect])) (fun x hx => by
          have hx2 := hq.2 x (by simpa using hx)
          cases hu : evX s a x with
          | some u =>
            rw [hu] at hx2
            exact (evX_sound h ha hu).closed_eq hx2
          | none => rw [hu] at hx2; cases hx2)
        rw [hcong]
        exact pureV_run P W _ _ hv
      · cases e
    · cases e
  · cases e
end Go.Proofs.YtklclfolmfhocaaGreatDoor.Ev
namespace Go.Proofs.YtklclfolmfhocaaGreatDoor.Ev
open Go.ChangeShapes Go.WideShapes Go.ChangeAt Go.RowKit
open Go.Proofs.YtklclfolmfhocaaGreatDoor.Mem
set_option linter.unusedVariables false
set_option linter.unusedSimpArgs false
theorem underlying_run {P : Program} {t : TypeId} {d : TypeDesc} (h : P.underlying t = some d) (W : World) : (underlying t).run P W = .ok d W := run_underlying h W
/-- a part of a row of cells -/
noncomputable def evPart (P : Program) (t : TypeId) (cs : List Value) (off : Nat) : Option Value :=
  match isAggB P t, sizeB P t with
  | some true, some k => some (.agg ((cs.drop off).take k).toArray)
  | some false, _ => cs[off]?
  | _, _ => none
theorem evPart_sound {P : Program} {m : Mu} {t : TypeId} {a a' : Array Value} (h : RL m a.toList a'.toList) (off : Nat) {v : Value} (e : evPart P t a.toList off = some v) (W : World) : ∃ v', (part t a' off).run P W = .ok v' W ∧ R m v v' := by
  unfold evPart at e
  split at e
  · rename_i k hag hk
    cases e
    refine ⟨.agg (a'.extract off (off + k)), ?_, .agg _ _ ?_⟩
    · simp [part, Sem.run_bind, isAgg_run hag W, sizeOf_run hk W]
    · have := (h.drop off).take k
      simpa [Array.toList_extract, List.extract_eq_take_drop] using this
  · rename_i hag
    obtain ⟨y, hy, hr⟩ := h.get off e
    rw [Array.getElem?_toList] at hy
    refine ⟨y, ?_, hr⟩
    simp [part, Sem.run_bind, isAgg_run hag W, hy]
  · cases e
def fieldB (P : Program) (t : TypeId) (f : Nat) : Option Field :=
  match P.underlying t with
  | some (.struct fs) => fs[f]?
  | _ => none
noncomputable def evField (P : Program) (t : TypeId) (x : Value) (f : Nat) : Option Value :=
  match x, fieldB P t f with
  | .agg cs, some F => evPart P F.type cs.toList F.offset
  | _, _ => none
theorem evField_sound {P : Program} {m : Mu} {t : TypeId} {x x' v : Value} (h : R m x x') (f : Nat) (e : evField P t x f = some v) (W : World) : ∃ v', (Instr.field t x' f).run P W = .ok v' W ∧ R m v v' := by
  unfold evField at e
  split at e
  · rename_i cs F hF
    cases h with
    | agg a b h =>
      unfold fieldB at hF
      split at hF
      · rename_i fs hu
        obtain ⟨v', h1, h2⟩ := evPart_sound (P := P) h F.offset e W
        refine ⟨v', ?_, h2⟩
        simp [Instr.field, Sem.run_bind, underlying_run hu W, hF, asAgg, h1]
      · cases hF
  · cases e
noncomputable def evFieldAddr (P : Program) (t : TypeId) (x : Value) (f : Nat) : Option Value :=
  match x, fieldB P t f with
  | .pointer (some ⟨n, o, none⟩), some F => match sizeB P F.type with | some k => if k = 0 then none else some (.pointer (some ⟨n, o + F.offset, none⟩)) | none => none
  | _, _ => none
theorem evFieldAddr_sound {P : Program} {m : Mu} {t : TypeId} {x x' v : Value} (h : R m x x') (f : Nat) (e : evFieldAddr P t x f = some v) (W : World) : ∃ v', (Instr.fieldAt t x' f).run P W = .ok v' W ∧ R m v v' := by
  unfold evFieldAddr at e
  split at e
  · rename_i n o F hF
    cases h with
    | ptr _ _ l hl =>
      split at e
      · rename_i k hk
        split at e
        · cases e
        · rename_i hk0
          cases e
          unfold fieldB at hF
          split at hF
          · rename_i fs hu
            refine ⟨_, ?_, .ptr n (o + F.offset) l hl⟩
            simp [Instr.fieldAt, Sem.run_bind, underlying_run hu W, hF, Instr.sureAddr, fieldPlace, sizeOf_run hk W, hk0, Mem.add_plain]
          · cases hF
      · cases e
  · cases e
noncomputable def evIndexAddr (P : Program) (t : TypeId) (x i : Value) : Option Value :=
  match P.underlying t, x, i with
  | some (.slice el), .slice (some ⟨n, o, none⟩) len _, .int _ j => match sizeB P el with | some k => if 0 ≤ j ∧ j < len then some (.pointer (some ⟨n, o + j.toNat * k, none⟩)) else none | none => none
  | some (.array len el), .pointer (some ⟨n, o, none⟩), .int _ j => match sizeB P el with | some k => if 0 ≤ j ∧ j < len then some (.pointer (some ⟨n, o + j.toNat * k, none⟩)) else none | none => none
  | _, _, _ => none
theorem evIndexAddr_sound {P : Program} {m : Mu} {t : TypeId} {x x' i i' v : Value} (h : R m x x') (g : R m i i') (e : evIndexAddr P t x i = some v) (W : World) : ∃ v', (Instr.indexAt t x' i').run P W = .ok v' W ∧ R m v v' := by
  unfold evIndexAddr at e
  split at e
  · rename_i el n o len c kk j hu
    cases h with
    | slice _ _ _ _ l hl hc hm =>
      cases g
      split at e
      · rename_i k hk
        split at e
        · rename_i hj
          cases e
          refine ⟨_, ?_, .ptr n (o + j.toNat * k) l hl⟩
          simp [Instr.indexAt, Sem.run_bind, underlying_run hu W, asIntOf, hj, sizeOf_run hk W, Mem.add_plain]
        · cases e
      · cases e
  · rename_i len el n o kk j hu
    cases h with
    | ptr _ _ l hl =>
      cases g
      split at e
      · rename_i k hk
        split at e
        · rename_i hj
          cases e
          refine ⟨_, ?_, .ptr n (o + j.toNat * k) l hl⟩
          simp [Instr.indexAt, Sem.run_bind, underlying_run hu W, asIntOf, hj, sizeOf_run hk W, Mem.add_plain, Instr.sureAddr]
        · cases e
      · cases e
  · cases e
noncomputable def evIndex (P : Program) (t : TypeId) (x i : Value) : Option Value :=
  match P.underlying t, x, i with
  | some (.array len el), .agg cs, .int _ j => match sizeB P el with | some k => if 0 ≤ j ∧ j < len then evPart P el cs.toList (j.toNat * k) else none | none => none
  | _, _, _ => none
theorem evIndex_sound {P : Program} {m : Mu} {t : TypeId} {x x' i i' v : Value} (h : R m x x') (g : R m i i') (e : evIndex P t x i = some v) (W : World) : ∃ v', (Instr.index t x' i').run P W = .ok v' W ∧ R m v v' := by
  unfold evIndex at e
  split at e
  · rename_i len el cs kk j hu
    cases h with
    | agg a b h =>
      cases g
      split at e
      · rename_i k hk
        split at e
        · rename_i hj
          obtain ⟨v', h1, h2⟩ := evPart_sound (P := P) h _ e W
          exact ⟨v', by simp [Instr.index, Sem.run_bind, underlying_run hu W, asIntOf, hj, sizeOf_run hk W, h1], h2⟩
        · cases e
      · cases e
  · cases e
noncomputable def evExtract (x : Value) (i : Nat) : Option Value :=
  match x with
  | .tuple vs => vs.toList[i]?
  | _ => none
theorem evExtract_sound {P : Program} {m : Mu} {x x' v : Value} (h : R m x x') (i : Nat) (e : evExtract x i = some v) (W : World) : ∃ v', (Instr.extract x' i).run P W = .ok v' W ∧ R m v v' := by
  unfold evExtract at e
  split at e
  · cases h with
    | tuple a b h =>
      obtain ⟨y, hy, hr⟩ := h.get i e
      rw [Array.getElem?_toList] at hy
      exact ⟨y, by simp [Instr.extract, hy], hr⟩
  · cases e
noncomputable def evNilCheck (x : Value) : Option Value :=
  match x with
  | .pointer (some _) => some x
  | .func (.func _) _ _ => some x
  | _ => none
noncomputable def evLen (x : Value) : Option Value :=
  match x with
  | .slice _ n _ => some (.int .i64 n)
  | _ => none
/-- a slice of a slice -/
noncomputable def evSlice (P : Program) (t : TypeId) (x : Value) (lo hi : Option Value) : Option Value :=
  match P.underlying t, x with
  | some (.slice el), .slice (some ⟨n, o, none⟩) len e =>
    match sizeB P el, (match lo with | none => some (0 : Int) | some (.int _ j) => some j | _ => none), (match hi with | none => some (len : Int) | some (.int _ j) => some j | _ => none) with
    | some k, some l, some h => if 0 ≤ l ∧ l ≤ h ∧ h ≤ len ∧ (l = 0 ∨ l < h) then some (.slice (some ⟨n, o + l.toNat * k, none⟩) (h.toNat - l.toNat) (e + l.toNat)) else none
    | _, _, _ => none
  | _, _ => none
theorem sliceBound_run {P : Program} {k : IntKind} {j : Int} {y : Nat} {code : BoundsCode} (h : 0 ≤ j ∧ j ≤ y) (W : World) : (Instr.sliceBound (.int k j) y code).run P W = .ok j.toNat W := by
  simp [Instr.sliceBound, Sem.run_bind, asIntOf, h]
theorem evSlice_sound {P : Program} {m : Mu} {t : TypeId} {x x' v : Value} {lo hi lo' hi' : Option Value} (h : R m x x') (gl : ∀ u, lo = some u → ∃ u', lo' = some u' ∧ R m u u') (gl0 : lo = none → lo' = none) (gh : ∀ u, hi = some u → ∃ u', hi' = some u' ∧ R m u u') (gh0 : hi = none → hi' = none)
    (e : evSlice P t x lo hi = some v) (W : World) : ∃ v', (Instr.sliceAt t x' lo' hi' none).run P W = .ok v' W ∧ R m v v' := by
  unfold evSlice at e
  split at e
  · rename_i el n o len c hu
    cases h with
    | slice _ _ _ _ l hl hc hm =>
      split at e
      · rename_i k lv hv hk hlo hhi
        split at e
        · rename_i hq
          obtain ⟨q1, q2, q3, q4⟩ := hq
          cases e
          have hcap : (len : Int) ≤ ((l.cap - c : Nat) : Int) := by omega
          have hne : lv = 0 ∨ l.cap - c ≠ lv.toNat := by omega
          have hh : hv.toNat ≤ l.cap - c := by omega
          have hll : lv.toNat ≤ hv.toNat := by omega
          have H : (hi' = none ∧ hv = len) ∨ ∃ kk, hi' = some (.int kk hv) := by
            cases hi with
            | none => exact .inl ⟨gh0 rfl, by simpa using hhi.symm⟩
            | some u =>
              obtain ⟨u', rfl, hr⟩ := gh u rfl
              cases hr <;> simp only at hhi <;> first | cases hhi | skip
              exact .inr ⟨_, rfl⟩
          have L : (lo' = none ∧ lv = 0) ∨ ∃ kk, lo' = some (.int kk lv) := by
            cases lo with
            | none => exact .inl ⟨gl0 rfl, by simpa using hlo.symm⟩
            | some u =>
              obtain ⟨u', rfl, hr⟩ := gl u rfl
              cases hr <;> simp only at hlo <;> first | cases hlo | skip
              exact .inr ⟨_, rfl⟩
          have b1 : ∀ kk code, (Instr.sliceBound (.int kk hv) (l.cap - c) code).run P W = .ok hv.toNat W := fun kk code => sliceBound_run ⟨by omega, by omega⟩ W
          have b2 : ∀ kk code, (Instr.sliceBound (.int kk lv) hv.toNat code).run P W = .ok lv.toNat W := fun kk code => sliceBound_run ⟨by omega, by omega⟩ W
          have rb : (Instr.sliceBounds true len (l.cap - c) lo' hi' none).run P W = .ok (lv.toNat, hv.toNat, l.cap - c) W := by
            rcases H with ⟨rfl, e1⟩ | ⟨kk, rfl⟩ <;> rcases L with ⟨rfl, e2⟩ | ⟨kk2, rfl⟩
            · subst e1 e2; simp [Instr.sliceBounds, Sem.run_bind]
            · subst e1
              have b2' : ∀ code, (Instr.sliceBound (.int kk2 lv) len code).run P W = .ok lv.toNat W := fun code => by have := b2 kk2 code; rwa [Int.toNat_natCast] at this
              simp [Instr.sliceBounds, Sem.run_bind, b2']
            · subst e2; simp [Instr.sliceBounds, Sem.run_bind, b1]
            · simp [Instr.sliceBounds, Sem.run_bind, b1, b2]
          have ha : (if l.cap - c = lv.toNat then some (⟨l.blk, o, none⟩ : Addr) else (some (⟨l.blk, o, none⟩ : Addr)).map (·.add (lv.toNat * k))) = some ⟨l.blk, o + lv.toNat * k, none⟩ := by
            rcases hne with h0 | h0
            · subst h0; simp [Mem.add_plain]
            · rw [if_neg h0]; simp [Mem.add_plain]
          have hcap2 : l.cap - c - lv.toNat = l.cap - (c + lv.toNat) := by omega
          refine ⟨.slice (some ⟨l.blk, o + lv.toNat * k, none⟩) (hv.toNat - lv.toNat) (l.cap - (c + lv.toNat)), ?_, .slice n _ _ _ l hl (by omega) hm⟩
          simp [Instr.sliceAt, Instr.slice, Sem.run_bind, underlying_run hu W, rb, sizeOf_run hk W, hcap2]
          exact ha
        · cases e
      · cases e
  · cases e
end Go.Proofs.YtklclfolmfhocaaGreatDoor.Ev
namespace Go.Proofs.YtklclfolmfhocaaGreatDoor.Ev
open Go.ChangeShapes Go.WideShapes Go.ChangeAt Go.RowKit
open Go.Proofs.YtklclfolmfhocaaGreatDoor.Mem
variable {N : Nat}
set_option linter.unusedVariables false
set_option linter.unusedSimpArgs false
theorem foldSet_rel {m : Mu} (off : Nat) : ∀ (l l' : List Value) (j : Nat) (cs cs' : Array Value), RL m l l' → RL m cs.toList cs'.toList →
    RL m ((l.zipIdx j).foldl (fun (cs : Array Value) (p : Value × Nat) => cs.setIfInBounds (off + p.2) p.1) cs).toList ((l'.zipIdx j).foldl (fun (cs : Array Value) (p : Value × Nat) => cs.setIfInBounds (off + p.2) p.1) cs').toList := by
  intro l
  induction l with
  | nil => intro l' j cs cs' h g; cases h; exact g
  | cons x l ih =>
    intro l' j cs cs' h g
    cases h with
    | cons h h2 =>
      simp only [List.zipIdx_cons, List.foldl_cons]
      refine ih _ _ _ _ h2 ?_
      rw [Array.toList_setIfInBounds, Array.toList_setIfInBounds]
      exact g.set _ h
/-- parts, as they stand for each other -/
inductive PL (m : Mu) : List (Nat × Value) → List (Nat × Value) → Prop
  | nil : PL m [] []
  | cons {i : Nat} {x y : Value} {l k : List (Nat × Value)} (h : R m x y) (g : PL m l k) : PL m ((i, x) :: l) ((i, y) :: k)
theorem fill_rel {m : Mu} (place : Nat → Option (Nat × Nat)) : ∀ (ps ps' : List (Nat × Value)) (cs cs' r : Array Value), PL m ps ps' → RL m cs.toList cs'.toList → Instr.fill place cs ps = some r → ∃ r', Instr.fill place cs' ps' = some r' ∧ RL m r.toList r'.toList := by
  intro ps
  induction ps with
  | nil => intro ps' cs cs' r h g e; cases h; cases e; exact ⟨_, rfl, g⟩
  | cons p ps ih =>
    intro ps' cs cs' r h g e
    cases h with
    | cons h h2 =>
      rename_i i x y k
      have hl1 : y.cells.size = x.cells.size := by simpa using h.cells.length.symm
      have hl2 : cs'.size = cs.size := by simpa using g.length.symm
      simp only [Instr.fill] at e ⊢
      cases hp : place i with
      | none => rw [hp] at e; cases e
      | some q =>
        obtain ⟨off, size⟩ := q
        rw [hp] at e
        simp only at e ⊢
        rw [hl1, hl2]
        split at e
        · cases e
        · rename_i hq
          rw [if_neg hq]
          refine ih _ _ _ _ h2 ?_ e
          have e3 : ∀ (v cs : Array Value), v.zipIdx.foldl (fun cs (x : Value × Nat) => cs.setIfInBounds (off + x.2) x.1) cs = (v.toList.zipIdx 0).foldl (fun cs (x : Value × Nat) => cs.setIfInBounds (off + x.2) x.1) cs := fun v cs => by
            rw [← Array.foldl_toList, Array.toList_zipIdx]
          have := foldSet_rel (m := m) off x.cells.toList y.cells.toList 0 cs cs' h.cells g
          rw [← e3, ← e3] at this
          exact this
noncomputable def evParts (s : St) (a : Sls) : List (Nat × Operand) → Option (List (Nat × Value))
  | [] => some []
  | (i, x) :: r => match evX s a x, evParts s a r with
    | some v, some l => some ((i, v) :: l)
    | _, _ => none
theorem evParts_sound {m : Mu} {s : St} {B : Nat} {W : World} (h : Holds m s B W) {a : Sls} {A : Act} (ha : RS N m a A) : ∀ (ps : List (Nat × Operand)) (l : List (Nat × Value)), evParts s a ps = some l → PL m l (ps.map fun p => (p.1, A.eval p.2)) := by
  intro ps
  induction ps with
  | nil => intro l e; cases e; exact .nil
  | cons p ps ih =>
    intro l e
    obtain ⟨i, x⟩ := p
    simp only [evParts] at e
    split at e
    · rename_i v r hv hr
      cases e
      exact .cons (evX_sound h ha hv) (ih _ hr)
    · cases e
def zeroB (P : Program) (t : TypeId) : Option Value :=
  match P.info? t with
  | some i => match i.zero with
    | some z => if closed z then some z else none
    | none => none
  | none => none
theorem zero_run {P : Program} {t : TypeId} {z : Value} (h : zeroB P t = some z) (W : World) : (zeroValue t).run P W = .ok z W ∧ closed z = true := by
  unfold zeroB at h
  split at h
  · rename_i i hi
    split at h
    · rename_i z' hz
      split at h
      · rename_i hc
        cases h
        exact ⟨by simp [zeroValue, typeInfo, Sem.run_bind, hi, hz], hc⟩
      · cases h
    · cases h
  · cases h
noncomputable def evBuild (P : Program) (s : St) (a : Sls) (t : TypeId) (ps : List (Nat × Operand)) : Option Value :=
  match zeroB P t, P.underlying t, evParts s a ps with
  | some z, some (.struct fs), some l =>
    match pureV P (fs.mapM fun f => do pure (f.offset, ← sizeOf f.type)) with
    | some places => (Instr.fill (places[·]?) z.cells l).map .agg
    | none => none
  | some z, some (.array _ el), some l =>
    match sizeB P el with
    | some size => (Instr.fill (fun i => some (i * size, size)) z.cells l).map .agg
    | none => none
  | _, _, _ => none
theorem evBuild_sound {P : Program} {m : Mu} {s : St} {B : Nat} {W : World} (h : Holds m s B W) {a : Sls} {A : Act} (ha : RS N m a A) {t : TypeId} {ps : Array (Nat × Operand)} {v : Value} (e : evBuild P s a t ps.toList = some v) :
    ∃ v', (Instr.build t (ps.map fun p => (p.1, A.eval p.2))).run P W = .ok v' W ∧ R m v v' := by
  unfold evBuild at e
  split at e
  · rename_i z fs l hz hu hl
    split at e
    · rename_i places hp
      obtain ⟨h1, h2⟩ := zero_run hz W
      obtain ⟨r, hr, rfl⟩ := Option.map_eq_some_iff.1 e
      obtain ⟨r', h3, h4⟩ := fill_rel (m := m) _ _ _ _ _ _ (evParts_sound h ha _ _ hl) (R.of_closed (m := m) h2).cells hr
      refine ⟨.agg r', ?_, .agg _ _ h4⟩
      have hpr := pureV_run P W _ _ hp
      rw [← Array.toList_map] at h3
      simp only [Instr.build, Sem.run_bind, h1, Result.andThen_ok, underlying_run hu W, hpr, h3, Sem.run_pure]
    · cases e
  · rename_i z n el l hz hu hl
    split at e
    · rename_i size hs
      obtain ⟨h1, h2⟩ := zero_run hz W
      obtain ⟨r, hr, rfl⟩ := Option.map_eq_some_iff.1 e
      obtain ⟨r', h3, h4⟩ := fill_rel (m := m) _ _ _ _ _ _ (evParts_sound h ha _ _ hl) (R.of_closed (m := m) h2).cells hr
      refine ⟨.agg r', ?_, .agg _ _ h4⟩
      rw [← Array.toList_map] at h3
      simp only [Instr.build, Sem.run_bind, h1, Result.andThen_ok, underlying_run hu W, sizeOf_run hs W, h3, Sem.run_pure]
    · cases e
  · cases e
noncomputable def evBuildSlice (P : Program) (s : St) (a : Sls) (t : TypeId) (len : Nat) (ps : List (Nat × Operand)) : Option (Value × St) :=
  match P.underlying t, evParts s a ps with
  | some (.slice el), some l =>
    match sizeB P el, zeroB P el with
    | some size, some z =>
      if s.next < 2 ^ 40 ∧ 0 < len * size ∧ len * size ≤ 2 ^ 24 ∧ z.cells.size = size ∧ z.cells.toList.all flat = true then
        match Instr.fill (fun i => some (i * size, size)) ((Array.range (len * size)).map (z.cells[· % z.cells.size]!)) l with
        | some r => if r.size = len * size then some (.slice (some ⟨s.name, 0, none⟩) len 0, s.alloc r.toList el (some size)) else none
        | none => none
      else none
    | _, _ => none
  | _, _ => none
theorem evBuildSlice_sound {P : Program} {m : Mu} {s s' : St} {B : Nat} {W : World} (h : Holds m s B W) {a : Sls} {A : Act} (ha : RS N m a A) {t : TypeId} {len : Nat} {ps : Array (Nat × Operand)} {v : Value} (e : evBuildSlice P s a t len ps.toList = some (v, s')) :
    ∃ v' W' m', (Instr.buildSlice t len (ps.map fun p => (p.1, A.eval p.2))).run P W = .ok v' W' ∧ R m' v v' ∧ Sub m m' ∧ Holds m' s' B W' ∧ Below W.heap.size W W' := by
  unfold evBuildSlice at e
  split at e
  · rename_i el l hu hl
    split at e
    · rename_i size z hs hz
      split at e
      · rename_i hq
        obtain ⟨q1, q2, q3, q4, hzc⟩ := hq
        split at e
        · rename_i r hr
          split at e
          · rename_i hrs
            cases e
            obtain ⟨h1, h2⟩ := zero_run hz W
            have hzp : 0 < z.cells.size := by rw [q4]; exact Nat.pos_of_mul_pos_left q2
            have hzf : ∀ i, flat (z.cells[i % z.cells.size]!) = true := fun i => by
              have hlt : i % z.cells.size < z.cells.size := Nat.mod_lt _ hzp
              rw [getElem!_pos z.cells _ hlt]
              exact List.all_eq_true.1 hzc _ (by simp)
            have hcs : RL m ((Array.range (len * size)).map (z.cells[· % z.cells.size]!)).toList ((Array.range (len * size)).map (z.cells[· % z.cells.size]!)).toList := by
              refine RL.of_flat (List.all_eq_true.2 fun v hv => ?_)
              simp only [Array.toList_map, List.mem_map] at hv
              obtain ⟨i, _, rfl⟩ := hv
              exact hzf i
            obtain ⟨r', h3, h4⟩ := fill_rel (m := m) _ _ _ _ _ _ (evParts_sound h ha _ _ hl) hcs hr
            rw [← Array.toList_map] at h3
            have hrl : r'.size = len * size := by rw [← hrs]; simpa using h4.length.symm
            obtain ⟨g1, g2, g3⟩ := h.alloc q1 h4 el (some size) len (fun k hk => by cases hk; simpa using hrl)
            refine ⟨_, _, _, ?_, .slice s.name 0 len 0 ⟨W.heap.size, len⟩ (by simp [Mu.put]) (by simp) (by show len ≤ maxLen; have : maxLen = 9223372036854775807 := rfl; have : 0 < size := Nat.pos_of_mul_pos_left q2; have : len ≤ len * size := Nat.le_mul_of_pos_right _ this; omega), g1, g2, g3⟩
            have hn : ¬ (len * size > 2 ^ 24) := by omega
            have hn0 : ¬ (len * size = 0) := by omega
            simp only [Instr.buildSlice, Sem.run_bind, underlying_run hu W, Result.andThen_ok, sizeOf_run hs W, hn, hn0, if_false, h1, Sem.run_pure, h3]
            simp [newRow, newObj, Sem.run_bind, Sem.run]
          · cases e
        · cases e
      · cases e
    · cases e
  · cases e
end Go.Proofs.YtklclfolmfhocaaGreatDoor.Ev
