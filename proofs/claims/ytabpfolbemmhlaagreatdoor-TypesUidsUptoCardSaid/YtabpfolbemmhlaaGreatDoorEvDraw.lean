/-
  A checked evaluator of concrete calls: a region that draws its order. No walk.
  The operations that act on memory are taken at each set of them that may be done ahead; what each answers must be the same at all of these, and what is left, too.
-/
import Derived.Test.YtabpfolbemmhlaaGreatDoorEvCongr
import Derived.Test.YtabpfolbemmhlaaGreatDoorEvRun
namespace Go.Proofs.YtabpfolbemmhlaaGreatDoor.Ev
open Go.ChangeShapes Go.WideShapes Go.ChangeAt Go.RowKit
open Go.Proofs.YtabpfolbemmhlaaGreatDoor.Mem
variable {N : Nat}
set_option linter.unusedVariables false
set_option linter.unusedSimpArgs false
/-! ### what is known of a region at once -/
def direct (o : Oper) : List Nat := (o.after.toList.filter (Region.binds .any)).map (·.on)
def orAll : List Nat → Nat
  | [] => 0
  | x :: l => Nat.lor x (orAll l)
theorem lor_bit (x y k : Nat) : (Nat.lor x y).testBit k = (x.testBit k || y.testBit k) := Nat.testBit_or x y k
theorem land_bit (x y k : Nat) : (Nat.land x y).testBit k = (x.testBit k && y.testBit k) := Nat.testBit_and x y k
theorem orAll_bit (l : List Nat) (k : Nat) : (orAll l).testBit k = l.any (fun x => x.testBit k) := by
  induction l with
  | nil => simp [orAll]
  | cons x l ih => simp only [orAll, lor_bit, ih, List.any_cons]
theorem pow_bit (i k : Nat) : (2 ^ i).testBit k = decide (i = k) := by rw [Nat.testBit_two_pow]
def nth (l : List Nat) (k : Nat) : Nat := (l[k]?).getD 0
def masks : List Oper → List Nat → List Nat
  | [], acc => acc
  | o :: r, acc => masks r (acc ++ [orAll ((direct o).map fun k => Nat.lor (2 ^ k) (nth acc k))])
def bitIf (b : Bool) (i : Nat) : Nat := bif b then 2 ^ i else 0
theorem bitIf_bit (b : Bool) (i k : Nat) : (bitIf b i).testBit k = (b && decide (i = k)) := by
  cases b
  · simp [bitIf]
  · simp [bitIf, pow_bit]
structure Inf where
  o : Oper
  act : Bool
  bit : Nat
  pre : Nat
  aft : Nat
  cD : Nat
def actMask (L : List Oper) : Nat := orAll (L.zipIdx.map fun p => bitIf (isAct p.1.op) p.2)
def aftMask (L : List Oper) (bs : List Nat) (i : Nat) : Nat := orAll (L.zipIdx.map fun p => bitIf (isAct p.1.op && (nth bs p.2).testBit i) p.2)
def inf (L : List Oper) (bs : List Nat) (am : Nat) (p : Oper × Nat) : Inf := ⟨p.1, isAct p.1.op, 2 ^ p.2, Nat.land (nth bs p.2) am, aftMask L bs p.2, am % 2 ^ p.2⟩
def exec (f : Inf) (D : Nat) : Bool := Nat.beq (Nat.land f.pre D) f.pre && (bif f.act then Nat.beq (Nat.land D f.bit) 0 else Nat.beq (Nat.land D f.aft) 0)
structure Plan where
  bs : List Nat
  full : Nat
  infs : List Inf
  gs : List Nat
  pairs : List (Nat × Nat)
/-- the sets that may be done, one behind the other -/
def sets1 (infs : List Inf) : List Nat → List Nat → Nat → List Nat
  | _, seen, 0 => seen
  | [], seen, _ => seen
  | D :: todo, seen, k + 1 =>
    let new := (infs.filter fun f => f.act && exec f D).map (fun f => Nat.lor D f.bit)
    let new := new.foldl (fun l d => if l.contains d || seen.contains d then l else l ++ [d]) []
    sets1 infs (todo ++ new) (seen ++ new) k
def mkPlan (L : List Oper) : Plan :=
  let bs := masks L []
  let am := actMask L
  let infs := L.zipIdx.map (inf L bs am)
  let gs := sets1 infs [0] [0] 4000
  ⟨bs, am, infs, gs, gs.flatMap fun D => (infs.zipIdx.filter fun p => exec p.1 D && !(Nat.beq D p.1.cD)).map fun p => (D, p.2)⟩
def okEdges (L : List Oper) (bs : List Nat) : Bool := L.zipIdx.all fun p => (direct p.1).all (Nat.blt · p.2) && Nat.beq (nth bs p.2) (orAll ((direct p.1).map fun k => Nat.lor (2 ^ k) (nth bs k)))
def okSlots (ops : Array Oper) (L : List Oper) (bs : List Nat) : Bool := L.zipIdx.all fun p => (p.1.looksAt ops).all fun t => L.zipIdx.all fun q => !(q.1.dst == some t) || Nat.beq q.2 p.2 || (nth bs (max p.2 q.2)).testBit (min p.2 q.2)
def okDst (L : List Oper) : Bool := L.zipIdx.all fun p => match p.1.dst with
  | none => true
  | some d => L.zipIdx.all fun q => Nat.beq q.2 p.2 || !(q.1.dst == some d)
def okSets (pl : Plan) : Bool := pl.gs.contains 0 && pl.gs.all fun D => pl.infs.zipIdx.all fun p => !(exec p.1 D) || ((!p.1.act || pl.gs.contains (Nat.lor D p.1.bit)) && (Nat.beq D p.1.cD || pl.pairs.contains (D, p.2)))
def okPlan (ops : Array Oper) (L : List Oper) (pl : Plan) : Bool := okEdges L pl.bs && okSlots ops L pl.bs && okDst L && okSets pl
def planOf (P : Program) (ops : Array Oper) : Option Plan := bif P.follows .mixedOrders && okPlan ops ops.toList (mkPlan ops.toList) then some (mkPlan ops.toList) else none
/-! ### what runs -/
abbrev Sts := List (Nat × St)
def look : Sts → Nat → Option St
  | [], _ => none
  | (D, s) :: l, E => bif Nat.beq D E then some s else look l E
def Ext (σ τ : Sts) : Prop := ∀ D s, look σ D = some s → look τ D = some s
theorem look_app : ∀ (σ τ : Sts) (D : Nat) (s : St), look σ D = some s → look (σ ++ τ) D = some s := by
  intro σ
  induction σ with
  | nil => intro τ D s h; cases h
  | cons p σ ih =>
    intro τ D s h
    obtain ⟨E, t⟩ := p
    simp only [List.cons_append, look] at h ⊢
    cases hb : Nat.beq E D with
    | true => rw [hb] at h; exact h
    | false => rw [hb, cond_false] at h; rw [cond_false]; exact ih τ D s h
theorem look_new : ∀ (σ : Sts) (D : Nat) (s : St), look σ D = none → look (σ ++ [(D, s)]) D = some s := by
  intro σ
  induction σ with
  | nil => intro D s _; simp [look]
  | cons p σ ih =>
    intro D s h
    obtain ⟨E, t⟩ := p
    simp only [List.cons_append, look] at h ⊢
    cases hb : Nat.beq E D with
    | true => rw [hb] at h; cases h
    | false => rw [hb, cond_false] at h; rw [cond_false]; exact ih D s h
/-- what is left of a set: new, or the same -/
noncomputable def addSt (σ : Sts) (D : Nat) (s : St) : Option Sts :=
  match look σ D with
  | none => some (σ ++ [(D, s)])
  | some t => sel (eqSt s t) (some σ) none
theorem addSt_some {σ τ : Sts} {D : Nat} {s : St} (h : addSt σ D s = some τ) : Ext σ τ ∧ look τ D = some s := by
  unfold addSt at h
  split at h
  · rename_i hn
    cases h
    exact ⟨fun E t q => look_app σ _ E t q, look_new σ D s hn⟩
  · rename_i t ht
    cases hb : eqSt s t with
    | false => rw [hb] at h; cases h
    | true =>
      rw [hb] at h
      cases h
      exact ⟨fun _ _ q => q, by rw [ht, eqSt_eq hb]⟩
noncomputable def addIf (act : Bool) (σ : Sts) (D : Nat) (s : St) : Option Sts := match act with
  | true => addSt σ D s
  | false => some σ
def nameIf (act : Bool) (k : Nat) : Option Nat := match act with
  | true => some k
  | false => none
noncomputable def canon (N : Nat) (P : Program) (call : CallF) (ops : Array Oper) (base : Nat) : List Inf → Nat → Sls → Nat → St → Sts → Option (List (Sls × Value) × Sts × Sls)
  | [] => fun _ a _ _ σ => some ([], σ, a)
  | f :: r => fun i a D s σ => match evO P call (nameIf f.act (Nat.add base i)) ops f.o a s with
    | none => none
    | some (v, s') => sel (Nat.beq D f.cD) (match addIf f.act σ (Nat.lor D f.bit) s' with
      | none => none
      | some τ => match canon N P call ops base r (Nat.succ i) (putO N a f.o.dst v) (bif f.act then Nat.lor D f.bit else D) (bif f.act then s' else s) τ with
        | none => none
        | some (rs, υ, z) => some ((a, v) :: rs, υ, z)) none
noncomputable def steps (P : Program) (call : CallF) (ops : Array Oper) (base : Nat) (infs : List Inf) (rs : List (Sls × Value)) : List (Nat × Nat) → Sts → Option Sts
  | [] => fun σ => some σ
  | (D, i) :: l => fun σ => match infs[i]?, rs[i]?, look σ D with
    | some f, some (a, v), some s => match evO P call (nameIf f.act (Nat.add base i)) ops f.o a s with
      | none => none
      | some (u, s') => sel (eqV u v) (match addIf f.act σ (Nat.lor D f.bit) s' with
        | none => none
        | some τ => steps P call ops base infs rs l τ) none
    | _, _, _ => none
def namesFrom : Nat → Nat → List Nat
  | _, 0 => []
  | b, n + 1 => b :: namesFrom (Nat.succ b) n
theorem mem_namesFrom : ∀ (n b k : Nat), k ∈ namesFrom b n → b ≤ k ∧ k < b + n := by
  intro n
  induction n with
  | zero => intro b k h; cases h
  | succ n ih =>
    intro b k h
    simp only [namesFrom, List.mem_cons] at h
    rcases h with rfl | h
    · omega
    · have := ih _ _ h
      omega
noncomputable def evDraw (P : Program) : Dr := fun N call ops => match planOf P ops with
  | none => fun _ _ => none
  | some pl => fun a s => sel (Nat.ble (Nat.add s.next ops.size) (2 ^ 40))
    (match canon N P call ops s.next pl.infs 0 a 0 ⟨s.heap, Nat.add s.next ops.size, namesFrom s.next ops.size ++ s.res, none⟩ [(0, ⟨s.heap, Nat.add s.next ops.size, namesFrom s.next ops.size ++ s.res, none⟩)] with
    | none => none
    | some (rs, σ, z) => match steps P call ops s.next pl.infs rs pl.pairs σ with
      | none => none
      | some τ => match look τ pl.full with
        | none => none
        | some t => some (z, ⟨t.heap, t.next, t.res.filter (fun k => Nat.blt k s.next), none⟩)) none
end Go.Proofs.YtabpfolbemmhlaaGreatDoor.Ev
