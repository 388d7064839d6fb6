/-
  A checked evaluator of concrete calls: every order of a region. No walk.
-/
import Derived.Test.YtabpfolbemmhlaaGreatDoorEvDrawOk
namespace Go.Proofs.YtabpfolbemmhlaaGreatDoor.Ev
open Go.ChangeShapes Go.WideShapes Go.ChangeAt Go.RowKit
open Go.Proofs.YtabpfolbemmhlaaGreatDoor.Mem
variable {N : Nat}
set_option linter.unusedVariables false
set_option linter.unusedSimpArgs false
theorem zip_all {L : List Oper} {g : Oper × Nat → Bool} (h : L.zipIdx.all g = true) {i : Nat} {o : Oper} (hi : L[i]? = some o) : g (o, i) = true :=
  List.all_eq_true.1 h (o, i) (List.mem_zipIdx_iff_getElem?.2 hi)
def atOr (L : List Oper) (k : Nat) (g : Oper → Bool) : Bool := match L[k]? with
  | some o => g o
  | none => false
theorem orIdx_bit (L : List Oper) (g : Oper × Nat → Bool) (k : Nat) : (orAll (L.zipIdx.map fun p => bitIf (g p) p.2)).testBit k = atOr L k (fun o => g (o, k)) := by
  rw [orAll_bit, List.any_map, Bool.eq_iff_iff, List.any_eq_true]
  unfold atOr
  constructor
  · rintro ⟨⟨o, i⟩, hm, hb⟩
    have hi := List.mem_zipIdx_iff_getElem?.1 hm
    simp only [Function.comp, bitIf_bit, Bool.and_eq_true, decide_eq_true_eq] at hb
    obtain ⟨h1, h2⟩ := hb
    dsimp only at hi h2 h1
    subst h2
    rw [hi]
    exact h1
  · intro h
    split at h
    · rename_i o ho
      exact ⟨(o, k), List.mem_zipIdx_iff_getElem?.2 ho, by simp only [Function.comp, bitIf_bit, Bool.and_eq_true, decide_eq_true_eq]; exact ⟨h, trivial⟩⟩
    · cases h
theorem beq_of_eq {a b : Nat} (h : a = b) : Nat.beq a b = true := by subst h; simp
theorem infs_get {L : List Oper} {bs : List Nat} {am i : Nat} : (L.zipIdx.map (inf L bs am))[i]? = (L[i]?).map (fun o => inf L bs am (o, i)) := by
  rw [List.getElem?_map, List.getElem?_zipIdx]
  cases L[i]? <;> simp
section
variable {P : Program} {call : CallF} {ops : Array Oper} {bs gs : List Nat} {pairs : List (Nat × Nat)} {rs : List (Sls × Value)} {τ : Sts} {a0 : Sls} {base : Nat}
def isActAt (ops : Array Oper) (k : Nat) : Bool := atOr ops.toList k (fun o => isAct o.op)
/-- all that was found of a region -/
structure Found (N : Nat) (P : Program) (call : CallF) (ops : Array Oper) (bs gs : List Nat) (rs : List (Sls × Value)) (τ : Sts) (a0 : Sls) (base : Nat) : Prop where
  edges : okEdges ops.toList bs = true
  slots : okSlots ops ops.toList bs = true
  dst : okDst ops.toList = true
  zero : 0 ∈ gs
  size : rs.length = ops.size
  done : ∀ D, D ∈ gs → ∀ i o, ops.toList[i]? = some o → exec (inf ops.toList bs (actMask ops.toList) (o, i)) D = true → ∃ v, rs[i]? = some (accs N (dvs (ops.toList.zipIdx.map (inf ops.toList bs (actMask ops.toList))) rs) a0 i, v) ∧
    Fact P call ops base τ (inf ops.toList bs (actMask ops.toList) (o, i)) (accs N (dvs (ops.toList.zipIdx.map (inf ops.toList bs (actMask ops.toList))) rs) a0 i) v D i ∧ (isAct o.op = true → Nat.lor D (2 ^ i) ∈ gs)
  vals : ∀ (i : Nat) (o : Oper), ops.toList[i]? = some o → ∃ (a : Sls) (v : Value), rs[i]? = some (a, v)
theorem size_list (ops : Array Oper) : ops.toList.length = ops.size := by simp
theorem found_of (hok : okPlan ops ops.toList ⟨bs, actMask ops.toList, ops.toList.zipIdx.map (inf ops.toList bs (actMask ops.toList)), gs, pairs⟩ = true) {σ : Sts} {s0 : St} {z : Sls}
    (hc : canon N P call ops base (ops.toList.zipIdx.map (inf ops.toList bs (actMask ops.toList))) 0 a0 0 s0 [(0, s0)] = some (rs, σ, z)) (hs : steps P call ops base (ops.toList.zipIdx.map (inf ops.toList bs (actMask ops.toList))) rs pairs σ = some τ) :
    Found N P call ops bs gs rs τ a0 base ∧ look τ 0 = some s0 ∧ z = accs N (dvs (ops.toList.zipIdx.map (inf ops.toList bs (actMask ops.toList))) rs) a0 ops.size := by
  simp only [okPlan, Bool.and_eq_true, okSets] at hok
  obtain ⟨⟨⟨h1, h2⟩, h3⟩, h4, h5⟩ := hok
  obtain ⟨c1, c2, c3, c4⟩ := canon_sound _ _ _ _ _ _ hc (by simp [look])
  obtain ⟨s1, s2⟩ := steps_sound _ _ _ hs
  have hlen : (ops.toList.zipIdx.map (inf ops.toList bs (actMask ops.toList))).length = ops.size := by simp
  have hcan : ∀ i o, ops.toList[i]? = some o → ∃ v, rs[i]? = some (accs N (dvs (ops.toList.zipIdx.map (inf ops.toList bs (actMask ops.toList))) rs) a0 i, v) ∧
      Fact P call ops base τ (inf ops.toList bs (actMask ops.toList) (o, i)) (accs N (dvs (ops.toList.zipIdx.map (inf ops.toList bs (actMask ops.toList))) rs) a0 i) v (inf ops.toList bs (actMask ops.toList) (o, i)).cD i := fun i o hi => by
    obtain ⟨v, q1, q2⟩ := c4 i _ (by rw [infs_get, hi]; rfl)
    rw [Nat.zero_add] at q2
    exact ⟨v, q1, q2.ext s1⟩
  refine ⟨⟨h1, h2, h3, by simpa using h4, by rw [c2, hlen], fun D hD i o hi hex => ?_, fun i o hi => ?_⟩, s1 _ _ (c1 _ _ (by simp [look])), by rw [c3, hlen]⟩
  · have hg := List.all_eq_true.1 h5 D hD
    have hg2 := List.all_eq_true.1 hg (inf ops.toList bs (actMask ops.toList) (o, i), i) (List.mem_zipIdx_iff_getElem?.2 (by rw [infs_get, hi]; rfl))
    simp only [hex, Bool.not_true, Bool.false_or, Bool.and_eq_true, Bool.or_eq_true] at hg2
    obtain ⟨g1, g2⟩ := hg2
    have hact : isAct o.op = true → Nat.lor D (2 ^ i) ∈ gs := fun q => by
      rcases g1 with g1 | g1
      · rw [show (inf ops.toList bs (actMask ops.toList) (o, i)).act = isAct o.op from rfl, q] at g1
        cases g1
      · have g1' : gs.contains (Nat.lor D (2 ^ i)) = true := g1
        simpa using g1'
    obtain ⟨v, q1, q2⟩ := hcan i o hi
    rcases g2 with g2 | g2
    · have e := Nat.eq_of_beq_eq_true g2
      rw [← e] at q2
      exact ⟨v, q1, q2, hact⟩
    · obtain ⟨f, a, u, p1, p2, p3⟩ := s2 D i (by simpa using g2)
      rw [infs_get, hi] at p1
      cases p1
      rw [q1] at p2
      cases p2
      exact ⟨v, q1, p3, hact⟩
  · obtain ⟨v, q1, -⟩ := hcan i o hi
    exact ⟨_, v, q1⟩
/-- where an order stands -/
structure Stands (N : Nat) (ops : Array Oper) (bs gs : List Nat) (l : DVs) (τ : Sts) (a0 : Sls) (m0 : Mu) (B : Nat) (W0 : World) (listed : Array Bool) (A : Act) (W : World) : Prop where
  size : listed.size = ops.size
  shut : ∀ i, listed.getD i false = true → ∀ k, (nth bs i).testBit k = true → listed.getD k false = true
  defers : A.defers = []
  state : ∃ D s m', D ∈ gs ∧ (∀ k, D.testBit k = (isActAt ops k && listed.getD k false)) ∧ look τ D = some s ∧ Sub m0 m' ∧ Holds m' s B W ∧ Below B W0 W ∧ RS N m' (sl N l (fun k => listed.getD k false) 0 a0) A
theorem RS.same {m : Mu} {a b : Sls} {A : Act} (h : RS N m a A) (e : ∀ t, gets b t = gets a t) : RS N m b A := ⟨h.size, h.most, fun t => by rw [e]; exact h.slot t⟩
theorem listed_set (listed : Array Bool) (i k : Nat) (hi : i < listed.size) : (listed.setIfInBounds i true).getD k false = (listed.getD k false || decide (k = i)) := by
  simp only [Array.getD_eq_getD_getElem?]
  by_cases e : k = i
  · subst e
    simp [hi]
  · rw [Array.getElem?_setIfInBounds_ne (Ne.symm e)]
    simp [e]
def open' (ops : Array Oper) (listed : Array Bool) : Nat := ((List.range ops.size).filter fun k => !listed.getD k false).length
theorem open_set (ops : Array Oper) (listed : Array Bool) (i : Nat) (hi : i < ops.size) (hs : listed.size = ops.size) (hl : listed.getD i false = false) : open' ops (listed.setIfInBounds i true) < open' ops listed := by
  unfold open'
  have key : ∀ (l : List Nat), l.Nodup → i ∈ l → ((l.filter fun k => !(listed.setIfInBounds i true).getD k false)).length + 1 = (l.filter fun k => !listed.getD k false).length := by
    intro l
    induction l with
    | nil => intro _ h; cases h
    | cons x l ih =>
      intro hn hm
      have hx := List.nodup_cons.1 hn
      by_cases e : x = i
      · subst e
        have h1 : (!(listed.setIfInBounds x true).getD x false) = false := by rw [listed_set _ _ _ (by omega)]; simp
        have h2 : (!listed.getD x false) = true := by rw [hl]; rfl
        rw [List.filter_cons_of_neg (by rw [h1]; simp), List.filter_cons_of_pos (by rw [h2])]
        have h3 : (l.filter fun k => !(listed.setIfInBounds x true).getD k false) = l.filter fun k => !listed.getD k false := by
          refine List.filter_congr fun k hk => ?_
          rw [listed_set _ _ _ (by omega)]
          have : k ≠ x := fun q => hx.1 (q ▸ hk)
          simp [this]
        rw [h3]
        simp
      · have hm2 : i ∈ l := by
          rcases List.mem_cons.1 hm with h | h
          · exact absurd h.symm e
          · exact h
        have h1 : (!(listed.setIfInBounds i true).getD x false) = !listed.getD x false := by rw [listed_set _ _ _ (by omega)]; simp [e]
        have := ih hx.2 hm2
        cases hb : (!listed.getD x false) with
        | true =>
          rw [List.filter_cons_of_pos (by rw [h1, hb]), List.filter_cons_of_pos (by rw [hb])]
          simp only [List.length_cons]
          omega
        | false =>
          rw [List.filter_cons_of_neg (by rw [h1, hb]; simp), List.filter_cons_of_neg (by rw [hb]; simp)]
          exact this
  have := key (List.range ops.size) List.nodup_range (by simpa using hi)
  omega
theorem ready_all {listed : Array Bool} (hs : listed.size = ops.size) (hE : okEdges ops.toList bs = true) (hr : Region.ready .any ops listed = []) : ∀ k, k < ops.size → listed.getD k false = true := by
  intro k
  induction k using Nat.strongRecOn with
  | _ k ih =>
    intro hk
    have ho : ops.toList[k]? = some ops[k] := by simp [hk]
    have he := zip_all hE ho
    simp only [Bool.and_eq_true, List.all_eq_true] at he
    have hno : k ∉ Region.ready .any ops listed := by rw [hr]; simp
    unfold Region.ready at hno
    rw [List.mem_filter] at hno
    cases hb : listed.getD k false with
    | true => rfl
    | false =>
      exfalso
      refine hno ⟨by simpa using hk, ?_⟩
      have h1 : listed.getD k true = false := by
        have hlt : k < listed.size := by omega
        simp [Array.getD_eq_getD_getElem?, hlt] at hb ⊢
        exact hb
      rw [h1]
      simp only [Bool.not_false, Bool.true_and, Array.getElem?_eq_getElem hk, Option.map_some, Option.getD_some]
      rw [Array.all_eq_true_iff_forall_mem]
      intro e hm
      cases hbd : Region.binds .any e with
      | false => rfl
      | true =>
        have hd : e.on ∈ direct ops[k] := List.mem_map.2 ⟨e, List.mem_filter.2 ⟨by simpa using hm, hbd⟩, rfl⟩
        have hlt : e.on < k := by have := he.1 e.on hd; simpa [Nat.blt_eq] using this
        rw [ih e.on hlt (by omega)]
        rfl
theorem any_sound (hcl : CallOk P call) (hF : Found N P call ops bs gs rs τ a0 base) (hN : N ≤ 4096) {m0 : Mu} {B : Nat} {W0 : World} {Q : Exit → Act → World → Prop}
    (hq : ∀ listed A W, (∀ k, k < ops.size → listed.getD k false = true) → Stands N ops bs gs (dvs (ops.toList.zipIdx.map (inf ops.toList bs (actMask ops.toList))) rs) τ a0 m0 B W0 listed A W → Q .normal A W) :
    ∀ (fuel : Nat) (listed : Array Bool) (A : Act) (W : World), Stands N ops bs gs (dvs (ops.toList.zipIdx.map (inf ops.toList bs (actMask ops.toList))) rs) τ a0 m0 B W0 listed A W → open' ops listed ≤ fuel → wpAny P .any ops Q fuel listed A W := by
  intro fuel
  induction fuel with
  | zero =>
    intro listed A W h hf
    have hall : ∀ k, k < ops.size → listed.getD k false = true := fun k hk => by
      unfold open' at hf
      have h0 := List.eq_nil_of_length_eq_zero (Nat.le_zero.1 hf)
      cases hb : listed.getD k false with
      | true => rfl
      | false =>
        have : k ∈ (List.range ops.size).filter fun k => !listed.getD k false := List.mem_filter.2 ⟨by simpa using hk, by rw [hb]; rfl⟩
        rw [h0] at this
        cases this
    refine ⟨?_, hq listed A W hall h⟩
    unfold Region.ready
    rw [List.filter_eq_nil_iff]
    intro i hi
    have hi2 : i < ops.size := by simpa using hi
    have hlt : i < listed.size := by rw [h.size]; exact hi2
    have h1 := hall i hi2
    simp only [Array.getD_eq_getD_getElem?, Array.getElem?_eq_getElem hlt, Option.getD_some] at h1 ⊢
    simp [h1]
  | succ fuel ih =>
    intro listed A W h hf
    refine ⟨fun hr => hq listed A W (ready_all h.size hF.edges hr) h, fun i hi => ?_⟩
    unfold Region.ready at hi
    rw [List.mem_filter] at hi
    obtain ⟨hi1, hi2⟩ := hi
    have hin : i < ops.size := by simpa using hi1
    have hil : i < listed.size := by rw [h.size]; exact hin
    rw [Bool.and_eq_true] at hi2
    obtain ⟨hnl, hedge⟩ := hi2
    have hnl2 : listed.getD i false = false := by
      simp only [Array.getD_eq_getD_getElem?, Array.getElem?_eq_getElem hil, Option.getD_some] at hnl ⊢
      simpa using hnl
    have ho : ops.toList[i]? = some ops[i] := by simp [hin]
    have ho2 : ops[i]? = some ops[i] := Array.getElem?_eq_getElem hin
    rw [ho2] at hedge
    simp only [Option.map_some, Option.getD_some] at hedge
    rw [Array.all_eq_true_iff_forall_mem] at hedge
    generalize ops[i] = o at ho ho2 hedge
    have hE := zip_all hF.edges ho
    simp only [Bool.and_eq_true, List.all_eq_true] at hE
    have hdir : ∀ k ∈ direct o, listed.getD k false = true := fun k hk => by
      obtain ⟨e, he, rfl⟩ := List.mem_map.1 hk
      obtain ⟨he1, he2⟩ := List.mem_filter.1 he
      have := hedge e (by simpa using he1)
      rw [he2] at this
      simpa using this
    have hbs : ∀ k, (nth bs i).testBit k = true → listed.getD k false = true := fun k hk => by
      rw [Nat.eq_of_beq_eq_true hE.2, orAll_bit, List.any_map, List.any_eq_true] at hk
      obtain ⟨j, hj, hb⟩ := hk
      simp only [Function.comp, lor_bit, pow_bit, Bool.or_eq_true, decide_eq_true_eq] at hb
      rcases hb with hb | hb
      · subst hb; exact hdir _ hj
      · exact h.shut j (hdir j hj) k hb
    obtain ⟨D, s, m', hD, hbits, hlook, hsub, hholds, hbelow, hrs⟩ := h.state
    have hexec : exec (inf ops.toList bs (actMask ops.toList) (o, i)) D = true := by
      unfold exec
      rw [Bool.and_eq_true]
      constructor
      · refine beq_of_eq (Nat.eq_of_testBit_eq fun k => ?_)
        rw [land_bit]
        show ((Nat.land (nth bs i) (actMask ops.toList)).testBit k && D.testBit k) = (Nat.land (nth bs i) (actMask ops.toList)).testBit k
        rw [land_bit, hbits]
        have ham : (actMask ops.toList).testBit k = isActAt ops k := orIdx_bit ops.toList (fun p => isAct p.1.op) k
        rw [ham]
        cases h1 : (nth bs i).testBit k with
        | false => rfl
        | true =>
          rw [hbs k h1]
          cases isActAt ops k <;> rfl
      · show (bif isAct o.op then Nat.beq (Nat.land D (2 ^ i)) 0 else Nat.beq (Nat.land D (aftMask ops.toList bs i)) 0) = true
        cases hact : isAct o.op with
        | true =>
          refine beq_of_eq (Nat.eq_of_testBit_eq fun k => ?_)
          rw [land_bit, hbits, pow_bit, Nat.zero_testBit]
          by_cases e : i = k
          · subst e; rw [hnl2]; simp
          · simp [e]
        | false =>
          refine beq_of_eq (Nat.eq_of_testBit_eq fun k => ?_)
          rw [land_bit, hbits, Nat.zero_testBit]
          have hab : (aftMask ops.toList bs i).testBit k = atOr ops.toList k (fun q => isAct q.op && (nth bs k).testBit i) := orIdx_bit ops.toList (fun p => isAct p.1.op && (nth bs p.2).testBit i) k
          rw [hab]
          cases hl : listed.getD k false with
          | false => simp
          | true =>
            have : (nth bs k).testBit i = false := by
              cases hb : (nth bs k).testBit i with
              | false => rfl
              | true => rw [h.shut k hl i hb] at hnl2; cases hnl2
            rw [this]
            unfold atOr
            split <;> simp
    obtain ⟨v, hv, ⟨s1, s', f1, f2, f3⟩, hgs⟩ := hF.done D hD i o ho hexec
    rw [hlook] at f1
    cases f1
    have hagree : ∀ t ∈ o.looksAt ops, gets (accs N (dvs (ops.toList.zipIdx.map (inf ops.toList bs (actMask ops.toList))) rs) a0 i) t = gets (sl N (dvs (ops.toList.zipIdx.map (inf ops.toList bs (actMask ops.toList))) rs) (fun k => listed.getD k false) 0 a0) t := fun t ht => by
      rw [accs_sl _ _ 0 i]
      refine sl_agree hN t _ _ _ 0 a0 a0 (fun j d u hj hd => ?_) rfl
      subst hd
      obtain ⟨q, hq1, hq2⟩ : ∃ q, ops.toList[j]? = some q ∧ q.dst = some t := by
        rw [dvs, List.getElem?_zipWith, infs_get] at hj
        cases hq : ops.toList[j]? with
        | none => rw [hq] at hj; simp at hj
        | some q =>
          rw [hq] at hj
          cases hr : rs[j]? with
          | none => rw [hr] at hj; simp at hj
          | some r =>
            rw [hr] at hj
            simp only [Option.map_some, Option.some.injEq, Prod.mk.injEq] at hj
            exact ⟨q, rfl, hj.1⟩
      have hS := zip_all hF.slots ho
      have hS2 := zip_all (List.all_eq_true.1 hS t ht) hq1
      dsimp only at hS2
      rw [hq2] at hS2
      simp only [beq_self_eq_true, Bool.not_true, Bool.false_or, Bool.or_eq_true] at hS2
      simp only [Nat.zero_add]
      rcases hS2 with hS2 | hS2
      · have e := Nat.eq_of_beq_eq_true hS2
        subst e
        rw [hnl2]
        simp
      · by_cases hji : j < i
        · rw [Nat.max_eq_left (by omega), Nat.min_eq_right (by omega)] at hS2
          rw [hbs j hS2]
          simp [hji]
        · by_cases e : j = i
          · subst e; rw [hnl2]; simp
          · rw [Nat.max_eq_right (by omega), Nat.min_eq_left (by omega)] at hS2
            have : listed.getD j false = false := by
              cases hb : listed.getD j false with
              | false => rfl
              | true => rw [h.shut j hb i hS2] at hnl2; cases hnl2
            rw [this]
            simp [hji]
    have hev : evO P call (nameIf (isAct o.op) (base + i)) ops o (sl N (dvs (ops.toList.zipIdx.map (inf ops.toList bs (actMask ops.toList))) rs) (fun k => listed.getD k false) 0 a0) s = some (v, s') := by
      rw [← evO_congr hagree]; exact f2
    unfold wpOp
    rw [ho2]
    refine evO_sound hcl hev hholds hrs fun m2 W2 v2 k1 k2 k3 k4 => ?_
    refine ih _ _ _ ⟨by simpa using h.size, fun j hj k hk => ?_, by rw [put_defers]; exact h.defers, ?_⟩ (by have := open_set ops listed i hin h.size hnl2; omega)
    · rw [listed_set _ _ _ hil] at hj ⊢
      rw [Bool.or_eq_true] at hj ⊢
      rcases hj with hj | hj
      · exact .inl (h.shut j hj k hk)
      · have e : j = i := by simpa using hj
        subst e
        exact .inl (hbs k hk)
    · have hdv : (dvs (ops.toList.zipIdx.map (inf ops.toList bs (actMask ops.toList))) rs)[i]? = some (o.dst, v) := dvs_get (f := inf ops.toList bs (actMask ops.toList) (o, i)) _ _ i (by rw [infs_get, ho]; rfl) hv
      have hrs2 : RS N m2 (sl N (dvs (ops.toList.zipIdx.map (inf ops.toList bs (actMask ops.toList))) rs) (fun k => (listed.setIfInBounds i true).getD k false) 0 a0) (A.put o.dst v2) := by
        refine RS.same ((hrs.up k1).putO o.dst k4) fun t => ?_
        refine sl_add hN t _ (fun k => listed.getD k false) _ i a0 hdv (fun k => listed_set _ _ _ hil) (fun j d u hj hd hne => ?_)
        rw [dvs, List.getElem?_zipWith, infs_get] at hj
        cases hq : ops.toList[j]? with
        | none => rw [hq] at hj; simp at hj
        | some q =>
          rw [hq] at hj
          cases hr : rs[j]? with
          | none => rw [hr] at hj; simp at hj
          | some r =>
            rw [hr] at hj
            simp only [Option.map_some, Option.some.injEq, Prod.mk.injEq] at hj
            have hqd : q.dst = o.dst := by rw [← hd]; exact hj.1
            have hD4 := zip_all hF.dst ho
            dsimp only at hD4
            cases hod : o.dst with
            | none => exact absurd hod hne
            | some d0 =>
              rw [hod] at hD4
              dsimp only at hD4
              have := zip_all hD4 hq
              dsimp only at this
              rw [hqd, hod] at this
              simp only [beq_self_eq_true, Bool.not_true, Bool.or_false] at this
              exact Nat.eq_of_beq_eq_true this
      cases hact : isAct o.op with
      | true =>
        refine ⟨Nat.lor D (2 ^ i), s', m2, hgs hact, fun k => ?_, f3 hact, hsub.trans k1, k2, hbelow.trans k3, hrs2⟩
        rw [lor_bit, hbits, pow_bit, listed_set _ _ _ hil]
        by_cases e : i = k
        · subst e
          have : isActAt ops i = true := by unfold isActAt atOr; rw [ho]; exact hact
          simp [this]
        · simp [e, Ne.symm e]
      | false =>
        rw [show (inf ops.toList bs (actMask ops.toList) (o, i)).act = isAct o.op from rfl, hact] at f2
        obtain ⟨q1, q2, q3⟩ := evO_still hact f2
        have hh : Holds m2 s B W2 := by
          have hc := hholds.cin
          refine ⟨by rw [← q2]; exact k2.fresh, by rw [← q2, ← q3]; exact k2.laid, hc, by rw [← q2]; exact k2.big, k2.room, ?_, ?_, ?_, k2.keep, ?_⟩
          · intro n c hn hc; exact k2.at' n c hn (by unfold St.get at hc ⊢; rw [q1]; exact hc)
          · intro n k c d l e hc hd; exact k2.inj n k c d l e (by unfold St.get at hc ⊢; rw [q1]; exact hc) (by unfold St.get at hd ⊢; rw [q1]; exact hd)
          · intro n c hn hc; exact k2.glob n c hn (by unfold St.get at hc ⊢; rw [q1]; exact hc)
          · refine ⟨fun n c hn hc => k2.maps.1 n c hn (by unfold St.get at hc ⊢; rw [q1]; exact hc), fun n k c d l e hn hk hc hd => k2.maps.2 n k c d l e hn hk (by unfold St.get at hc ⊢; rw [q1]; exact hc) (by unfold St.get at hd ⊢; rw [q1]; exact hd)⟩
        refine ⟨D, s, m2, hD, fun k => ?_, hlook, hsub.trans k1, hh, hbelow.trans k3, hrs2⟩
        rw [hbits, listed_set _ _ _ hil]
        by_cases e : k = i
        · subst e
          have : isActAt ops k = false := by unfold isActAt atOr; rw [ho]; exact hact
          simp [this]
        · simp [e]
end
theorem evDraw_ok (P : Program) : DrOk P (evDraw P) := by
  intro N call hcl id ops a a' s s' e m B W A Q h ha hd hq
  unfold evDraw at e
  cases hp : planOf P ops with
  | none => rw [hp] at e; cases e
  | some pl =>
    rw [hp] at e
    dsimp only at e
    unfold planOf at hp
    cases hok : (P.follows .mixedOrders && okPlan ops ops.toList (mkPlan ops.toList)) with
    | false => rw [hok] at hp; cases hp
    | true =>
      rw [hok, cond_true] at hp
      cases hp
      rw [Bool.and_eq_true] at hok
      obtain ⟨hmix, hok⟩ := hok
      cases hble : Nat.ble (Nat.add s.next ops.size) (2 ^ 40) with
      | false => rw [hble] at e; cases e
      | true =>
        rw [hble, sel_true] at e
        have hnext : s.next + ops.size ≤ 2 ^ 40 := Nat.le_of_ble_eq_true hble
        split at e
        · cases e
        · rename_i rs σ z hc
          split at e
          · cases e
          · rename_i τ hs
            split at e
            · cases e
            · rename_i t ht
              cases e
              have h0 : Holds m ⟨s.heap, Nat.add s.next ops.size, namesFrom s.next ops.size ++ s.res, none⟩ B W := by
                refine ⟨fun n hn => h.fresh n (by have : s.next + ops.size ≤ n := hn; omega), fun n hn => ?_, (fun n e => by cases e), hnext, h.room, h.at', h.inj, h.glob, h.keep, h.maps⟩
                show m n = none ∧ n < s.next + ops.size
                rcases List.mem_append.1 hn with hn | hn
                · have := mem_namesFrom _ _ _ hn
                  exact ⟨h.fresh n this.1, this.2⟩
                · have := h.laid n hn
                  exact ⟨this.1, by omega⟩
              obtain ⟨hF, hl0, hz⟩ := found_of hok hc hs
              refine wp_region_any hmix (any_sound hcl hF ha.most (m0 := m) (B := B) (W0 := W) ?_ ops.size _ A _ ⟨by simp, fun i hi => ?_, hd, ?_⟩ ?_)
              · intro listed A2 W2 hall hst
                obtain ⟨D, s2, m2, hD, hbits, hlook, hsub, hholds, hbelow, hrs⟩ := hst.state
                have hDf : D = (mkPlan ops.toList).full := by
                  refine Nat.eq_of_testBit_eq fun k => ?_
                  have ham : (mkPlan ops.toList).full.testBit k = isActAt ops k := orIdx_bit ops.toList (fun p => isAct p.1.op) k
                  rw [ham, hbits]
                  by_cases hk : k < ops.size
                  · rw [hall k hk]; simp
                  · have : isActAt ops k = false := by
                      unfold isActAt atOr
                      rw [List.getElem?_eq_none (by simp; omega)]
                    rw [this]; rfl
                rw [hDf, ht] at hlook
                cases hlook
                refine hq A2 W2 ⟨m2, hsub, ?_, hbelow, ?_, hst.defers⟩
                · refine ⟨hholds.fresh, fun n hn => hholds.laid n (List.mem_filter.1 hn).1, (fun n e => by cases e), hholds.big, hholds.room, hholds.at', hholds.inj, hholds.glob, hholds.keep, hholds.maps⟩
                · refine RS.same hrs fun t => ?_
                  rw [hz, accs_sl _ _ 0 ops.size]
                  refine sl_agree ha.most t _ _ _ 0 a a (fun j d v hj hd => ?_) rfl
                  have hj2 : j < ops.size := by
                    have := (List.getElem?_eq_some_iff.1 hj).1
                    simp [dvs] at this
                    omega
                  simp only [Nat.zero_add]
                  rw [hall j hj2]
                  simp [hj2]
              · simp [Array.getD_eq_getD_getElem?, Array.getElem?_replicate] at hi
                split at hi <;> simp at hi
              · refine ⟨0, _, m, hF.zero, fun k => ?_, hl0, Sub.refl m, h0.below ?_, ?_, ?_⟩
                · have : (Array.replicate ops.size false).getD k false = false := by
                    simp [Array.getD_eq_getD_getElem?, Array.getElem?_replicate]
                    split <;> simp
                  rw [this]; simp
                · exact ⟨rfl, rfl, rfl, Nat.le_refl _, fun _ _ => rfl⟩
                · exact ⟨rfl, rfl, rfl, Nat.le_refl _, fun _ _ => rfl⟩
                · refine RS.same ha fun t => ?_
                  have e : ∀ (l : DVs) (i : Nat) (b : Sls), sl N l (fun k => (Array.replicate ops.size false).getD k false) i b = b := by
                    intro l
                    induction l with
                    | nil => intro i b; rfl
                    | cons x l ih =>
                      intro i b
                      obtain ⟨d, v⟩ := x
                      have : (Array.replicate ops.size false).getD i false = false := by
                        simp [Array.getD_eq_getD_getElem?, Array.getElem?_replicate]
                        split <;> simp
                      simp only [sl, this, cond_false]
                      exact ih _ _
                  rw [e]
              · unfold open'
                exact Nat.le_trans (List.length_filter_le ..) (by simp)
end Go.Proofs.YtabpfolbemmhlaaGreatDoor.Ev
