/-
  Where a type's slices lie; what keeps it as it is. No walk.
-/
import Derived.Test.YtklclfolmfhocaaGreatDoorTyLike
import Derived.Test.YtklclfolmfhocaaGreatDoorKeep
namespace Go.Proofs.YtklclfolmfhocaaGreatDoor.Tyt
open Go.ChangeShapes Go.WideShapes Go.ChangeAt Go.RowKit
open Go.Proofs.YtklclfolmfhocaaGreatDoor.Mem
set_option linter.unusedVariables false
set_option linter.unusedSimpArgs false
namespace Ty
mutual
/-- its slices lie in S -/
def inS (S : Nat → Prop) : Ty → Prop
  | .mk _ _ of ov _ att av => SlIn S ov of.length ∧ SlIn S av att.length ∧ inSL S of ∧ inSL S att
def inSL (S : Nat → Prop) : List Ty → Prop
  | [] => True
  | x :: r => x.inS S ∧ inSL S r
end
theorem inSL_iff {S : Nat → Prop} {l : List Ty} : inSL S l ↔ ∀ x ∈ l, x.inS S := by
  induction l with
  | nil => simp [inSL]
  | cons x l ih => simp [inSL, ih]
theorem inS_iff {S : Nat → Prop} {x : Ty} : x.inS S ↔ SlIn S x.ov x.of.length ∧ SlIn S x.av x.att.length ∧ (∀ y ∈ x.of, y.inS S) ∧ ∀ y ∈ x.att, y.inS S := by
  cases x
  simp only [inS, inSL_iff]
  exact Iff.rfl
theorem encL_nil (l : List Ty) (h : l.length = 0) : encL l = [] := by rw [List.eq_nil_of_length_eq_zero h]; rfl
theorem encA_nil (an : List ByteArray) (l : List Ty) (h : l.length = 0) : encA an l = [] := by
  rw [List.eq_nil_of_length_eq_zero h]
  cases an <;> rfl
theorem ok.keep {w w' : World} {S : Nat → Prop} (hk : ∀ k, S k → w'.heap[k]? = w.heap[k]?) : ∀ {x : Ty}, x.ok w → x.inS S → x.ok w' := by
  suffices h : ∀ n (x : Ty), x.size ≤ n → x.ok w → x.inS S → x.ok w' from fun {x} => h x.size x (Nat.le_refl _)
  intro n
  induction n with
  | zero => intro x hx; have := x.size_pos; omega
  | succ n ih =>
    intro x hx h hS
    obtain ⟨h1, h2, h3, h4, h5, h6, h7, h8⟩ := h.parts
    obtain ⟨s1, s2, s3, s4⟩ := inS_iff.1 hS
    exact ok.mk' ⟨h1, h2, h3, h4, sl_stay h5 (encL_nil _) s1 hk, sl_stay h6 (encA_nil _ _) s2 hk, fun y hy => ih y (by have := size_of hy; omega) (h7 y hy) (s3 y hy), fun y hy => ih y (by have := size_att hy; omega) (h8 y hy) (s4 y hy)⟩
theorem inS.mono {S R : Nat → Prop} (hi : ∀ k, S k → R k) : ∀ {x : Ty}, x.inS S → x.inS R := by
  suffices h : ∀ n (x : Ty), x.size ≤ n → x.inS S → x.inS R from fun {x} => h x.size x (Nat.le_refl _)
  intro n
  induction n with
  | zero => intro x hx; have := x.size_pos; omega
  | succ n ih =>
    intro x hx hS
    obtain ⟨s1, s2, s3, s4⟩ := inS_iff.1 hS
    exact inS_iff.2 ⟨fun hn ao m cap e a ha => hi _ (s1 hn ao m cap e a ha), fun hn ao m cap e a ha => hi _ (s2 hn ao m cap e a ha), fun y hy => ih y (by have := size_of hy; omega) (s3 y hy), fun y hy => ih y (by have := size_att hy; omega) (s4 y hy)⟩
theorem sl_lt {w : World} {v : Value} {n : Nat} {cs : List Value} (h : SlV w v n cs) (hc : 0 < n → 0 < cs.length) : SlIn (· < w.heap.size) v n := by
  intro hn ao m cap e a ha
  obtain ⟨b, off, cap', q1, _, _, q4, _⟩ := SlV.open h (hc hn)
  rw [q1] at e
  simp only [Value.slice.injEq] at e
  rw [← e.1] at ha
  cases ha
  exact q4
/-- what stands in a world lies in it -/
theorem ok.inS {w : World} : ∀ {x : Ty}, x.ok w → x.inS (· < w.heap.size) := by
  suffices h : ∀ n (x : Ty), x.size ≤ n → x.ok w → x.inS (· < w.heap.size) from fun {x} => h x.size x (Nat.le_refl _)
  intro n
  induction n with
  | zero => intro x hx; have := x.size_pos; omega
  | succ n ih =>
    intro x hx h
    obtain ⟨h1, h2, h3, h4, h5, h6, h7, h8⟩ := h.parts
    exact inS_iff.2 ⟨sl_lt h5 (fun hn => by rw [encL_len]; omega), sl_lt h6 (fun hn => by rw [encA_len _ _ h4]; omega), fun y hy => ih y (by have := size_of hy; omega) (h7 y hy), fun y hy => ih y (by have := size_att hy; omega) (h8 y hy)⟩
theorem inS_and {S R : Nat → Prop} : ∀ {x : Ty}, x.inS S → x.inS R → x.inS (fun b => S b ∧ R b) := by
  suffices h : ∀ n (x : Ty), x.size ≤ n → x.inS S → x.inS R → x.inS (fun b => S b ∧ R b) from fun {x} => h x.size x (Nat.le_refl _)
  intro n
  induction n with
  | zero => intro x hx; have := x.size_pos; omega
  | succ n ih =>
    intro x hx h g
    obtain ⟨s1, s2, s3, s4⟩ := inS_iff.1 h
    obtain ⟨r1, r2, r3, r4⟩ := inS_iff.1 g
    exact inS_iff.2 ⟨fun hn ao m cap e a ha => ⟨s1 hn ao m cap e a ha, r1 hn ao m cap e a ha⟩, fun hn ao m cap e a ha => ⟨s2 hn ao m cap e a ha, r2 hn ao m cap e a ha⟩, fun y hy => ih y (by have := size_of hy; omega) (s3 y hy) (r3 y hy), fun y hy => ih y (by have := size_att hy; omega) (s4 y hy) (r4 y hy)⟩
mutual
/-- what is made of it takes no more room than a slice may -/
def fit : Ty → Prop
  | .mk _ _ of _ _ att _ => of.length * 72 ≤ 140737488355328 ∧ att.length * 88 ≤ 140737488355328 ∧ fitL of ∧ fitL att
def fitL : List Ty → Prop
  | [] => True
  | x :: r => x.fit ∧ fitL r
end
theorem fitL_iff {l : List Ty} : fitL l ↔ ∀ x ∈ l, x.fit := by
  induction l with
  | nil => simp [fitL]
  | cons x l ih => simp [fitL, ih]
theorem fit_iff {x : Ty} : x.fit ↔ x.of.length * 72 ≤ 140737488355328 ∧ x.att.length * 88 ≤ 140737488355328 ∧ (∀ y ∈ x.of, y.fit) ∧ ∀ y ∈ x.att, y.fit := by
  cases x
  simp only [fit, fitL_iff]
  exact Iff.rfl
theorem encA_snoc : ∀ (an : List ByteArray) (l : List Ty) (s : ByteArray) (x : Ty), an.length = l.length → encA (an ++ [s]) (l ++ [x]) = encA an l ++ encP s x := by
  intro an
  induction an with
  | nil => intro l s x h; cases l with
    | nil => simp [encA]
    | cons => simp at h
  | cons a an ih => intro l s x h; cases l with
    | nil => simp at h
    | cons y l => simp only [List.cons_append, encA, List.append_assoc, ih l s x (by simpa using h)]
theorem encL_snoc (l : List Ty) (x : Ty) : encL (l ++ [x]) = encL l ++ x.enc := by simp [encL]
theorem enc_eq {x : Ty} {oo ao : Option Addr} {oc ac : Nat} (e1 : x.ov = .slice oo x.of.length oc) (e2 : x.av = .slice ao x.att.length ac) : x.enc = [.int .u8 (x.kind : Nat), .string x.name, .slice oo x.of.length oc, .slice ao x.att.length ac] := by
  unfold enc
  rw [e1, e2]
end Ty
/-- a type that is alike to x, stands, and lies in S -/
def TBuilt (S : Nat → Prop) (x : Ty) (e : Ending) (w' : World) : Prop := ∃ y : Ty, e = .returned y.val ∧ x.like y ∧ y.ok w' ∧ y.inS S
def CopTy (x : Ty) : Prop := ∀ (w : World) (S : Nat → Prop), x.ok w → (∀ b, w.heap.size ≤ b → S b) → Calls Tryz.prog 97 #[x.val] w fun e w' => TBuilt S x e w' ∧ Below w.heap.size w w'
/-- attributes that are alike, stand, and lie in S -/
def ABuilt (S : Nat → Prop) (an : List ByteArray) (att : List Ty) (e : Ending) (w' : World) : Prop := ∃ (att' : List Ty) (bv : Value), e = .returned bv ∧ Ty.likeL att att' ∧ AttrsV w' bv an att' ∧ SlIn S bv att'.length ∧ ∀ y ∈ att', y.inS S
end Go.Proofs.YtklclfolmfhocaaGreatDoor.Tyt
