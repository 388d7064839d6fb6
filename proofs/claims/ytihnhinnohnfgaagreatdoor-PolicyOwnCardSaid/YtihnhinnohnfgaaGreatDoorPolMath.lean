/-
  Policies: which are right, and their bodies, as functions of what they hold. No walk.
-/
import Derived.Test.YtihnhinnohnfgaaGreatDoorPolTree
import Derived.Test.YtihnhinnohnfgaaGreatDoorExDeepW
namespace Go.Proofs.YtihnhinnohnfgaaGreatDoor.Pol
open Go.ChangeShapes Go.WideShapes Go.ChangeAt Go.RowKit
open Go.Proofs.YtihnhinnohnfgaaGreatDoor.Mem
open Go.Proofs.YtihnhinnohnfgaaGreatDoor.Ex (T chkW like_chkW like_size)
set_option linter.unusedVariables false
set_option linter.unusedSimpArgs false
set_option maxRecDepth 100000
def nilV : Value := .slice none 0 0
def leaf (k : Nat) (n : Int) (s t : ByteArray) : T := .mk k n s t [] nilV [] nilV
def wrapT (k : Nat) (t : ByteArray) (l : List T) : T := .mk k 0 ⟨#[]⟩ t [] nilV l nilV
def entT (u : Ud) : T := leaf 4 0 u.2 u.1
def namedT (act : Bool) (s : Sc) : T := if act = true ∧ s.k = 2 then wrapT 6 ⟨#[]⟩ (s.us.map entT) else entT (s.us.headD (⟨#[]⟩, ⟨#[]⟩))
def scT (nm : ByteArray) (act : Bool) (s : Sc) : T :=
  if s.k = 1 then wrapT 17 ⟨#[]⟩ [leaf 5 0 nm ⟨#[]⟩, namedT act s]
  else if s.k = 2 then wrapT 23 ⟨#[]⟩ [leaf 5 0 nm ⟨#[]⟩, namedT act s]
  else if s.k = 3 then wrapT 10 s.t [leaf 5 0 nm ⟨#[]⟩]
  else leaf 1 1 ⟨#[]⟩ ⟨#[]⟩
def condT (c : Cd) : T := if c.u = true then wrapT 12 ⟨#[]⟩ [c.e] else c.e
/-- put together from the left -/
def andL : T → List T → T
  | w, [] => w
  | w, p :: r => andL (wrapT 15 ⟨#[]⟩ [w, p]) r
theorem andL_append (w : T) (a b : List T) : andL w (a ++ b) = andL (andL w a) b := by
  induction a generalizing w with
  | nil => rfl
  | cons x a ih => exact ih _
theorem andL_step (w : T) (l : List T) (k : Nat) (h : k < l.length) : andL w (l.take (k + 1)) = wrapT 15 ⟨#[]⟩ [andL w (l.take k), l[k]] := by
  rw [List.take_succ_eq_append_getElem h, andL_append]
  rfl
def prB : ByteArray := ⟨#[112, 114, 105, 110, 99, 105, 112, 97, 108]⟩
def acB : ByteArray := ⟨#[97, 99, 116, 105, 111, 110]⟩
def reB : ByteArray := ⟨#[114, 101, 115, 111, 117, 114, 99, 101]⟩
def headL (x : Po) : List T := [scT prB false x.a, scT acB true x.b, scT reB false x.c]
def partsL (x : Po) : List T := headL x ++ x.l.map condT
def allT (l : List T) : T := andL (l.headD (leaf 0 0 ⟨#[]⟩ ⟨#[]⟩)) l.tail
def bodyT (x : Po) : T := allT (partsL x)
def uidsB (l : List Ud) : Bool := l.all fun u => Ex.uidB u.1 u.2
theorem uidsB_step (l : List Ud) (k : Nat) (h : k < l.length) : uidsB (l.drop k) = (Ex.uidB l[k].1 l[k].2 && uidsB (l.drop (k + 1))) := by
  unfold uidsB
  rw [List.drop_eq_getElem_cons h, List.all_cons]
def scopeF (k : Nat) (us : List Ud) (t : ByteArray) : Bool :=
  if k = 0 then ((us.length : Int) == 0) && (t.toList == [])
  else if k = 1 then ((us.length : Int) == 1) && (uidsB us && (t.toList == []))
  else if k = 2 then ((us.length : Int) == 1) && (uidsB us && (t.toList == []))
  else if k = 3 then ((us.length : Int) == 0) && Nam.typeB t
  else false
def actionF (k : Nat) (us : List Ud) (t : ByteArray) : Bool :=
  if k = 2 then decide ((1 : Int) ≤ (us.length : Int)) && (decide ((us.length : Int) ≤ 16) && (uidsB us && (t.toList == [])))
  else if k = 3 then false
  else scopeF k us t
def scopeB (s : Sc) : Bool := scopeF s.k s.us s.t
def actionB (s : Sc) : Bool := actionF s.k s.us s.t
def frameN (x : Po) : Int := if (scopeB x.a && (actionB x.b && scopeB x.c)) = false then 5 else if 16 < x.l.length then 2 else 0
def condsN : List Cd → Int
  | [] => 0
  | c :: r => if chkW c.e = 0 then condsN r else chkW c.e
theorem condsN_step (l : List Cd) (k : Nat) (h : k < l.length) : condsN (l.drop k) = if chkW l[k].e = 0 then condsN (l.drop (k + 1)) else chkW l[k].e := by
  rw [List.drop_eq_getElem_cons h, condsN]
def polN (x : Po) : Int := if frameN x = 0 then (if condsN x.l = 0 then chkW (bodyT x) else condsN x.l) else frameN x
/-- permit or forbid is no part of it -/
theorem polN_flip (x : Po) (p : Bool) : polN { x with p := p } = polN x := rfl
theorem bodyT_flip (x : Po) (p : Bool) : bodyT { x with p := p } = bodyT x := rfl
theorem wrap_like {k : Nat} {t : ByteArray} {l m : List T} {nv lv : Value} (h : T.likeL l m) : (wrapT k t l).like (.mk k 0 ⟨#[]⟩ t [] nv m lv) :=
  Ex.T.like_iff.2 ⟨rfl, rfl, rfl, rfl, rfl, h⟩
theorem leaf_like {k : Nat} {n : Int} {s t : ByteArray} {nv lv : Value} : (leaf k n s t).like (.mk k n s t [] nv [] lv) :=
  Ex.T.like_iff.2 ⟨rfl, rfl, rfl, rfl, rfl, trivial⟩
end Go.Proofs.YtihnhinnohnfgaaGreatDoor.Pol
