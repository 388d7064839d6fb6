/-
  A checked evaluator of concrete calls, 7: one operation that enters no function. No walk.
-/
import Derived.Test.YtabpfolbemmhlaaGreatDoorEvMap
namespace Go.Proofs.YtabpfolbemmhlaaGreatDoor.Ev
open Go.ChangeShapes Go.WideShapes Go.ChangeAt Go.RowKit
open Go.Proofs.YtabpfolbemmhlaaGreatDoor.Mem
variable {N : Nat}
set_option linter.unusedVariables false
set_option linter.unusedSimpArgs false
noncomputable def evXs (s : St) (a : Sls) : List Operand → Option (List Value)
  | [] => some []
  | x :: r => match evX s a x, evXs s a r with
    | some v, some l => some (v :: l)
    | _, _ => none
theorem evXs_sound {m : Mu} {s : St} {B : Nat} {W : World} (h : Holds m s B W) {a : Sls} {A : Act} (ha : RS N m a A) : ∀ (xs : List Operand) (l : List Value), evXs s a xs = some l → RL m l (xs.map A.eval) := by
  intro xs
  induction xs with
  | nil => intro l e; cases e; exact .nil
  | cons x xs ih =>
    intro l e
    simp only [evXs] at e
    split at e
    · rename_i v r hv hr
      cases e
      exact .cons (evX_sound h ha hv) (ih _ hr)
    · cases e
/-- an operand that may be left out -/
noncomputable def evXo (s : St) (a : Sls) : Option Operand → Option (Option Value)
  | none => some none
  | some x => (evX s a x).map some
/-! ### what is common, at once -/
/-- the sum is in range -/
def fits (k : IntKind) (n : Nat) : Bool := bif Nat.blt n 128 then true else match k with
  | .i64 => Nat.blt n 9223372036854775808
  | _ => false
theorem fits_wrap {k : IntKind} {n : Nat} (h : fits k n = true) : k.wrap (n : Int) = n := by
  unfold fits at h
  cases hb : Nat.blt n 128 with
  | true =>
    have hn : n < 128 := by simpa [Nat.blt_eq] using hb
    cases k <;> simp [IntKind.wrap, IntKind.bits, IntKind.signed] <;> omega
  | false =>
    rw [hb, cond_false] at h
    cases k <;> (try simp only [] at h) <;> first | (cases h; done) | skip
    have hn : n < 9223372036854775808 := by simpa [Nat.blt_eq] using h
    simp [IntKind.wrap, IntKind.bits, IntKind.signed]
    omega
def ltN (a b : Int) : Bool := match a with
  | .ofNat a => (match b with
    | .ofNat b => Nat.blt a b
    | .negSucc _ => false)
  | .negSucc _ => decide (a < b)
theorem ltN_eq (a b : Int) : ltN a b = decide (a < b) := by
  cases a with
  | ofNat a =>
    cases b with
    | ofNat b =>
      simp only [ltN]
      rw [Bool.eq_iff_iff]
      simp [Nat.blt_eq]
    | negSucc b =>
      simp only [ltN]
      symm
      simp
      omega
  | negSucc a => rfl
def ints (f : IntKind → Int → Int → Option Value) : Value → Value → Option Value
  | .int k a => fun y => match y with
    | .int k' b => if k = k' then f k a b else none
    | _ => none
  | _ => fun _ => none
def addN (k : IntKind) (a b : Int) : Option Value := match a with
  | .ofNat a => (match b with
    | .ofNat b => bif fits k (Nat.add a b) then some (.int k (.ofNat (Nat.add a b))) else none
    | .negSucc _ => none)
  | .negSucc _ => none
def subN (k : IntKind) (a b : Int) : Option Value := match a with
  | .ofNat a => (match b with
    | .ofNat b => bif Nat.ble b a then (bif fits k (Nat.sub a b) then some (.int k (.ofNat (Nat.sub a b))) else none) else none
    | .negSucc _ => none)
  | .negSucc _ => none
def fastEq (neg : Bool) : Value → Value → Option Value
  | .int k a => fun y => match y with
    | .int k' b => if k = k' then some (.bool (bif neg then !(eqN a b) else eqN a b)) else none
    | _ => none
  | .string x => fun y => match y with
    | .string y => some (.bool (bif neg then !(eqBytes x.data.toList y.data.toList) else eqBytes x.data.toList y.data.toList))
    | _ => none
  | _ => fun _ => none
def fastBin : BinOp → Value → Value → Option Value
  | .lss => ints fun _ a b => some (.bool (ltN a b))
  | .gtr => ints fun _ a b => some (.bool (ltN b a))
  | .leq => ints fun _ a b => some (.bool (!(ltN b a)))
  | .geq => ints fun _ a b => some (.bool (!(ltN a b)))
  | .add => ints addN
  | .sub => ints subN
  | .eql => fastEq false
  | .neq => fastEq true
  | _ => fun _ _ => none
theorem ints_some {f : IntKind → Int → Int → Option Value} {x y v : Value} (h : ints f x y = some v) : ∃ k a b, x = .int k a ∧ y = .int k b ∧ f k a b = some v := by
  cases x <;> simp only [ints] at h <;> first | (cases h; done) | skip
  rename_i k a
  cases y <;> (try simp only [] at h) <;> first | (cases h; done) | skip
  rename_i k' b
  split at h
  · rename_i hk; subst hk; exact ⟨k, a, b, rfl, rfl, h⟩
  · cases h
theorem fastBin_run {P : Program} {op : BinOp} {t : TypeId} {x y v : Value} (ox oy : Operand) (h : fastBin op x y = some v) (W : World) : (do eqGuard op t ox oy x y; binOp op t x y : Sem Value).run P W = .ok v W := by
  cases op <;> simp only [fastBin] at h <;> first | (cases h; done) | skip
  all_goals first
    | (replace h := ints_some h; obtain ⟨k, a, b, rfl, rfl, h⟩ := h)
    | skip
  case eql =>
    cases x <;> simp only [fastEq] at h <;> first | (cases h; done) | skip
    · rename_i k a
      cases y <;> (try simp only [] at h) <;> first | (cases h; done) | skip
      rename_i k' b
      split at h
      · rename_i hk; subst hk; cases h
        simp [eqGuard, binOp, Op.intCmp, eqN_eq, Sem.run_bind]
      · cases h
    · rename_i x
      cases y <;> (try simp only [] at h) <;> first | (cases h; done) | skip
      rename_i y
      cases h
      simp [eqGuard, binOp, Op.stringOp, eqBytes_eq, Sem.run_bind, ByteArray.toList_eq]
  case neq =>
    cases x <;> simp only [fastEq] at h <;> first | (cases h; done) | skip
    · rename_i k a
      cases y <;> (try simp only [] at h) <;> first | (cases h; done) | skip
      rename_i k' b
      split at h
      · rename_i hk; subst hk; cases h
        simp [eqGuard, binOp, Op.intCmp, eqN_eq, Sem.run_bind, bne]
      · cases h
    · rename_i x
      cases y <;> (try simp only [] at h) <;> first | (cases h; done) | skip
      rename_i y
      cases h
      simp [eqGuard, binOp, Op.stringOp, eqBytes_eq, Sem.run_bind, ByteArray.toList_eq]
  case add =>
    cases a <;> simp only [addN] at h <;> first | (cases h; done) | skip
    cases b <;> (try simp only [] at h) <;> first | (cases h; done) | skip
    rename_i a b
    cases hf : fits k (Nat.add a b) with
    | false => rw [hf] at h; cases h
    | true =>
      rw [hf] at h
      cases h
      have hw := fits_wrap hf
      simp [eqGuard, binOp, Op.intArith, Sem.run_bind]
      exact hw
  case sub =>
    cases a <;> simp only [subN] at h <;> first | (cases h; done) | skip
    cases b <;> (try simp only [] at h) <;> first | (cases h; done) | skip
    rename_i a b
    cases hl : Nat.ble b a with
    | false => rw [hl] at h; cases h
    | true =>
      rw [hl, cond_true] at h
      cases hf : fits k (Nat.sub a b) with
      | false => rw [hf] at h; cases h
      | true =>
        rw [hf] at h
        cases h
        have hw := fits_wrap hf
        have hle : b ≤ a := Nat.le_of_ble_eq_true hl
        simp [eqGuard, binOp, Op.intArith, Sem.run_bind]
        rw [← Int.ofNat_sub hle]
        exact hw
  all_goals
    cases h
    simp [eqGuard, binOp, Op.intCmp, ltN_eq, Sem.run_bind]
    try (rw [Bool.eq_iff_iff]; simp)
/-- a byte of a text -/
def fastIndex : Value → Value → Option Value
  | .string s => fun y => match y with
    | .int _ (.ofNat i) => match s.data.toList[i]? with
      | some b => some (.int .u8 b.toNat)
      | none => none
    | _ => none
  | _ => fun _ => none
def isStr (P : Program) (t : TypeId) : Bool := match P.underlying t with
  | some .string => true
  | _ => false
theorem fastIndex_run {P : Program} {t : TypeId} {x y v : Value} (ht : isStr P t = true) (h : fastIndex x y = some v) (W : World) : (Instr.index t x y).run P W = .ok v W := by
  unfold isStr at ht
  split at ht
  · rename_i hu
    cases x <;> simp only [fastIndex] at h <;> first | (cases h; done) | skip
    rename_i s
    cases y <;> (try simp only [] at h) <;> first | (cases h; done) | skip
    rename_i k i
    cases i <;> (try simp only [] at h) <;> first | (cases h; done) | skip
    rename_i i
    split at h
    · rename_i b hb
      cases h
      have hs : s[i]? = some b := by
        rw [Array.getElem?_toList] at hb
        obtain ⟨hlt, e⟩ := Array.getElem?_eq_some_iff.1 hb
        have hlt2 : i < s.size := hlt
        rw [getElem?_pos s i hlt2]
        exact congrArg some e
      simp [Instr.index, asIntOf, Sem.run_bind, underlying_run hu W, hs]
    · cases h
  · cases ht
theorem fastBin_flat {op : BinOp} {x y v : Value} (h : fastBin op x y = some v) : flat x = true ∧ flat y = true ∧ flat v = true := by
  cases op <;> simp only [fastBin] at h <;> first | (cases h; done) | skip
  all_goals first
    | (replace h := ints_some h; obtain ⟨k, a, b, rfl, rfl, h⟩ := h; refine ⟨rfl, rfl, ?_⟩)
    | skip
  case eql =>
    cases x <;> simp only [fastEq] at h <;> first | (cases h; done) | skip
    all_goals
      cases y <;> (try simp only [] at h) <;> first | (cases h; done) | skip
    · split at h
      · cases h; exact ⟨rfl, rfl, rfl⟩
      · cases h
    · cases h; exact ⟨rfl, rfl, rfl⟩
  case neq =>
    cases x <;> simp only [fastEq] at h <;> first | (cases h; done) | skip
    all_goals
      cases y <;> (try simp only [] at h) <;> first | (cases h; done) | skip
    · split at h
      · cases h; exact ⟨rfl, rfl, rfl⟩
      · cases h
    · cases h; exact ⟨rfl, rfl, rfl⟩
  case add =>
    cases a <;> simp only [addN] at h <;> first | (cases h; done) | skip
    cases b <;> (try simp only [] at h) <;> first | (cases h; done) | skip
    rename_i a b
    cases hf : fits k (Nat.add a b) <;> rw [hf] at h <;> cases h
    rfl
  case sub =>
    cases a <;> simp only [subN] at h <;> first | (cases h; done) | skip
    cases b <;> (try simp only [] at h) <;> first | (cases h; done) | skip
    rename_i a b
    cases hl : Nat.ble b a <;> rw [hl] at h <;> first | (cases h; done) | skip
    rw [cond_true] at h
    cases hf : fits k (Nat.sub a b) <;> rw [hf] at h <;> cases h
    rfl
  all_goals (cases h; rfl)
def evBin (P : Program) (op : BinOp) (t : TypeId) (p q : Value) : Option Value :=
  match fastBin op p q with
  | some v => some v
  | none => match op with
    | .eql => (evSame P t p q).map fun b => .bool b
    | .neq => (evSame P t p q).map fun b => .bool (!b)
    | _ => none
theorem evBin_sound {P : Program} {m : Mu} {op : BinOp} {t : TypeId} {x x' y y' v : Value} (hx : R m x x') (hy : R m y y') (e : evBin P op t x y = some v) (ox oy : Operand) (W : World) : (do eqGuard op t ox oy x' y'; binOp op t x' y' : Sem Value).run P W = .ok v W ∧ flat v = true := by
  unfold evBin at e
  split at e
  · rename_i v' hv
    cases e
    obtain ⟨f1, f2, f3⟩ := fastBin_flat hv
    rw [hx.flat_eq f1, hy.flat_eq f2]
    exact ⟨fastBin_run ox oy hv W, f3⟩
  · split at e
    · obtain ⟨b, hb, e⟩ := Option.map_eq_some_iff.1 e
      cases e
      exact ⟨(evSame_run hx hy hb ox oy W).1, rfl⟩
    · obtain ⟨b, hb, e⟩ := Option.map_eq_some_iff.1 e
      cases e
      exact ⟨(evSame_run hx hy hb ox oy W).2, rfl⟩
    · cases e
abbrev EvF := Program → St → Sls → Oper → Option (Option Value × St)
/-- what an operation does, by its kind: each branch a closed term -/
noncomputable def evTab : Op → EvF
  | .move x => fun _ s a _ => (evX s a x).map fun v => (some v, s)
  | .assign x => fun _ s a _ => (evX s a x).map fun v => (some v, s)
  | .pick c x y => fun _ s a _ => match evX s a c with
      | some (.bool b) => (evX s a (if b then x else y)).map fun v => (some v, s)
      | _ => none
  | .load t x => fun P s a _ => match evX s a x with
      | some p => (evLoad P s t p).map fun v => (some v, s)
      | none => none
  | .store t x y => fun P s a _ => match evX s a x, evX s a y with
      | some p, some v => (evStore P s t p v).map fun s' => (none, s')
      | _, _ => none
  | .alloc t => fun P s _ _ => match zeroB P t with
      | some z => (evNew s t z).map fun r => (some r.1, r.2)
      | none => none
  | .box t x => fun _ s a _ => match evX s a x with
      | some v => (evNew s t v).map fun r => (some r.1, r.2)
      | none => none
  | .build t ps => fun P s a _ => (evBuild P s a t ps.toList).map fun v => (some v, s)
  | .buildSlice t len ps => fun P s a _ => (evBuildSlice P s a t len ps.toList).map fun r => (some r.1, r.2)
  | .fieldAddr t x f => fun P s a _ => match evX s a x with
      | some p => (evFieldAddr P t p f).map fun v => (some v, s)
      | none => none
  | .field t x f => fun P s a _ => match evX s a x with
      | some p => (evField P t p f).map fun v => (some v, s)
      | none => none
  | .indexAddr t x i => fun P s a _ => match evX s a x, evX s a i with
      | some p, some j => (evIndexAddr P t p j).map fun v => (some v, s)
      | _, _ => none
  | .index t x i => fun P s a _ => match evX s a x, evX s a i with
      | some p, some j => bif isStr P t then (fastIndex p j).map fun v => (some v, s) else (evIndex P t p j).map fun v => (some v, s)
      | _, _ => none
  | .extract x i => fun _ s a _ => match evX s a x with
      | some p => (evExtract p i).map fun v => (some v, s)
      | none => none
  | .makeMap t none => fun _ s _ _ => (evMakeMap s).map fun r => (some r.1, r.2)
  | .insert t x k y => fun P s a _ => match evX s a x, evX s a k, evX s a y with
      | some p, some q, some r => (evUpdate P s t p q r).map fun s' => (none, s')
      | _, _, _ => none
  | .mapUpdate t x k y => fun P s a _ => match evX s a x, evX s a k, evX s a y with
      | some p, some q, some r => (evUpdate P s t p q r).map fun s' => (none, s')
      | _, _, _ => none
  | .lookup t x k ok => fun P s a _ => match evX s a x, evX s a k with
      | some p, some q => (evLookup P s t p q ok).map fun v => (some v, s)
      | _, _ => none
  | .slice t x lo hi none => fun P s a _ => match evX s a x, evXo s a lo, evXo s a hi with
      | some p, some l, some h => (evSlice P t p l h).map fun v => (some v, s)
      | _, _, _ => none
  | .makeFunc f fs cs => fun _ s a _ => match evXs s a fs.toList, evXs s a cs.toList with
      | some l, some k => some (some (.func f l.toArray k.toArray), s)
      | _, _ => none
  | .nilCheck x => fun _ s a _ => match evX s a x with
      | some p => (evNilCheck p).map fun v => (some v, s)
      | none => none
  | .binOp op t x y _ => fun P s a _ => match evX s a x, evX s a y with
      | some p, some q => (evBin P op t p q).map fun v => (some v, s)
      | _, _ => none
  | .convert src dst x => fun P s a _ => match evX s a x with
      | some p => (evConv P s src dst p).map fun v => (some v, s)
      | none => none
  | .call c => match c.callee with
    | .builtin .len => fun P s a _ => match c.args.toList, (c.argTypes[0]?).bind P.underlying with
      | [x], some (.slice _) => match evX s a x with
        | some p => (evLen p).map fun v => (some v, s)
        | none => none
      | [x], some (.map _ _) => match evX s a x with
        | some p => (evLenM s p).map fun v => (some v, s)
        | none => none
      | _, _ => none
    | .builtin .append => fun P s a _ => match c.args.toList, c.argTypes.toList with
      | [x, y], [t, t'] => match evX s a x, evX s a y with
        | some p, some q => if t = t' then (evAppend P s t p q).map fun r => (some r.1, r.2) else match q with
          | .string b => (evAppendStr P s t t' p b).map fun r => (some r.1, r.2)
          | _ => none
        | _, _ => none
      | _, _ => none
    | .builtin .unsafeSliceData => fun _ s a _ => match c.args.toList with
      | [x] => match evX s a x with
        | some p => (evSliceData p).map fun v => (some v, s)
        | none => none
      | _ => none
    | .builtin .unsafeString => fun P s a _ => match c.args.toList, c.argTypes.toList with
      | [x, y], [pt, it] => match evX s a x, evX s a y with
        | some p, some q => (evUnsafeStr P s pt p q).map fun r => (some r.1, r.2)
        | _, _ => none
      | _, _ => none
    | .value f => fun P s a _ => match c.args.toList with
      | [x] => match evX s a f, evX s a x with
        | some (.func (.func g) b d), some p => bif isSameF P g && b.toList.isEmpty && d.toList.isEmpty then some (some p, s) else none
        | _, _ => none
      | _ => none
    | _ => fun _ _ _ _ => none
  | _ => fun _ _ _ _ => none
noncomputable def evOp (P : Program) (s : St) (a : Sls) (o : Oper) : Option (Option Value × St) :=
  match evTab o.op P s a o with
  | some r => some r
  | none => match evFlat P s a o with
    | some v => some (some v, s)
    | none => none
def OpOk (P : Program) (m : Mu) (B : Nat) (W : World) (o : Oper) (A : Act) (s' : St) (r : Option Value) : Prop :=
  ∃ m' W', Sub m m' ∧ Holds m' s' B W' ∧ Below B W W' ∧ match r with
    | some v => ∃ v', (execOp A.eval o).run P W = .ok (.value v') W' ∧ R m' v v'
    | none => (execOp A.eval o).run P W = .ok .skip W'
theorem OpOk.val {P : Program} {m : Mu} {B : Nat} {W : World} {o : Oper} {A : Act} {s : St} {v v' : Value} (h : Holds m s B W) (e : (execOp A.eval o).run P W = .ok (.value v') W) (r : R m v v') : OpOk P m B W o A s (some v) :=
  ⟨m, W, Sub.refl m, h, Below.refl B W, v', e, r⟩
theorem evOp_sound {P : Program} {m : Mu} {s : St} {B : Nat} {W : World} (h : Holds m s B W) {a : Sls} {A : Act} (ha : RS N m a A) {o : Oper} {r : Option Value} {s' : St} (e : evOp P s a o = some (r, s')) : OpOk P m B W o A s' r := by
  have hflat : (match evFlat P s a o with
    | some v => some (some v, s)
    | none => none) = some (r, s') → OpOk P m B W o A s' r := fun e => by
    split at e
    · rename_i v hv
      cases e
      obtain ⟨h1, h2⟩ := evFlat_sound h ha hv
      exact .val h h1 h2
    · cases e
  unfold evOp at e
  split at e
  case h_2 => exact hflat e
  case h_1 r0 hr0 =>
    clear hflat
    rw [Option.some.inj e] at hr0
    clear e
    have e := hr0
    clear hr0
    unfold evTab at e
    generalize hop : o.op = op at e
    cases op <;> (try dsimp only at e) <;> first | (cases e; done) | skip
    case move x =>
      obtain ⟨v, hv, e⟩ := Option.map_eq_some_iff.1 e
      cases e
      exact .val h (by simp [execOp, hop]) (evX_sound h ha hv)
    case assign x =>
      obtain ⟨v, hv, e⟩ := Option.map_eq_some_iff.1 e
      cases e
      exact .val h (by simp [execOp, hop]) (evX_sound h ha hv)
    case pick c x y =>
      split at e
      · rename_i b hb
        obtain ⟨v, hv, e⟩ := Option.map_eq_some_iff.1 e
        cases e
        have hc := (evX_sound h ha hb).flat_eq rfl
        exact .val h (v' := A.eval _) (by cases b <;> simp [execOp, hop, hc, asBool, Sem.run_bind] <;> rfl) (evX_sound h ha hv)
      · cases e
    case load t x =>
      split at e
      · rename_i p hp
        obtain ⟨v, hv, e⟩ := Option.map_eq_some_iff.1 e
        cases e
        obtain ⟨v', h1, h2⟩ := evLoad_sound h (evX_sound h ha hp) hv
        exact .val h (by simp [execOp, hop, Sem.run_bind, h1]) h2
      · cases e
    case store t x y =>
      split at e
      · rename_i p v hp hv
        obtain ⟨s2, hs, e⟩ := Option.map_eq_some_iff.1 e
        cases e
        obtain ⟨W', h1, h2, h3⟩ := evStore_sound h (evX_sound h ha hp) (evX_sound h ha hv) hs
        exact ⟨m, W', Sub.refl m, h2, h3, by simp [execOp, hop, Sem.run_bind, h1]⟩
      · cases e
    case alloc t =>
      split at e
      · rename_i z hz
        obtain ⟨q, hq, e⟩ := Option.map_eq_some_iff.1 e
        cases e
        obtain ⟨h1, h2⟩ := zero_run hz W
        obtain ⟨r', W', m', g1, g2, g3, g4, g5⟩ := evNew_sound (P := P) h (R.of_closed (m := m) h2) hq
        refine ⟨m', W', g3, g4, g5.mono h.room, r', ?_, g2⟩
        obtain ⟨t, hop⟩ : ∃ t, o.op = .alloc t ∧ (zeroValue t).run P W = .ok z W ∧ (Instr.box t z).run P W = .ok r' W' := ⟨_, hop, h1, g1⟩
        obtain ⟨hop, h1, g1⟩ := hop
        have : (Instr.alloc t true (.tuple #[])).run P W = .ok r' W' := by
          simp only [Instr.alloc, Sem.run_bind, h1, Result.andThen_ok]
          exact g1
        simp [execOp, hop, Sem.run_bind, this]
      · cases e
    case box t x =>
      split at e
      · rename_i p hp
        obtain ⟨q, hq, e⟩ := Option.map_eq_some_iff.1 e
        cases e
        obtain ⟨r', W', m', g1, g2, g3, g4, g5⟩ := evNew_sound (P := P) h (evX_sound h ha hp) hq
        exact ⟨m', W', g3, g4, g5.mono h.room, r', by simp [execOp, hop, Sem.run_bind, g1], g2⟩
      · cases e
    case build t ps =>
      obtain ⟨v, hv, e⟩ := Option.map_eq_some_iff.1 e
      cases e
      obtain ⟨v', h1, h2⟩ := evBuild_sound h ha hv
      exact .val h (by simp [execOp, hop, Sem.run_bind, h1]) h2
    case buildSlice t len ps =>
      obtain ⟨q, hq, e⟩ := Option.map_eq_some_iff.1 e
      cases e
      obtain ⟨r', W', m', g1, g2, g3, g4, g5⟩ := evBuildSlice_sound h ha hq
      exact ⟨m', W', g3, g4, g5.mono h.room, r', by simp [execOp, hop, Sem.run_bind, g1], g2⟩
    case fieldAddr t x f =>
      split at e
      · rename_i p hp
        obtain ⟨v, hv, e⟩ := Option.map_eq_some_iff.1 e
        cases e
        obtain ⟨v', h1, h2⟩ := evFieldAddr_sound (evX_sound h ha hp) _ hv W
        exact .val h (by simp [execOp, hop, Sem.run_bind, h1]) h2
      · cases e
    case field t x f =>
      split at e
      · rename_i p hp
        obtain ⟨v, hv, e⟩ := Option.map_eq_some_iff.1 e
        cases e
        obtain ⟨v', h1, h2⟩ := evField_sound (evX_sound h ha hp) _ hv W
        exact .val h (by simp [execOp, hop, Sem.run_bind, h1]) h2
      · cases e
    case indexAddr t x i =>
      split at e
      · rename_i p j hp hj
        obtain ⟨v, hv, e⟩ := Option.map_eq_some_iff.1 e
        cases e
        obtain ⟨v', h1, h2⟩ := evIndexAddr_sound (evX_sound h ha hp) (evX_sound h ha hj) hv W
        exact .val h (by simp [execOp, hop, Sem.run_bind, h1]) h2
      · cases e
    case index t x i =>
      split at e
      · rename_i p j hp hj
        cases hst : isStr P t with
        | true =>
          rw [hst, cond_true] at e
          obtain ⟨v, hv, e⟩ := Option.map_eq_some_iff.1 e
          cases e
          have hflat : flat v = true := by
            cases p <;> simp only [fastIndex] at hv <;> first | (cases hv; done) | skip
            cases j <;> (try simp only [] at hv) <;> first | (cases hv; done) | skip
            rename_i i
            cases i <;> (try simp only [] at hv) <;> first | (cases hv; done) | skip
            split at hv
            · cases hv; rfl
            · cases hv
          have hx := evX_sound h ha hp
          have hy := evX_sound h ha hj
          have hpf : flat p = true ∧ flat j = true := by
            cases p <;> simp only [fastIndex] at hv <;> first | (cases hv; done) | skip
            cases j <;> (try simp only [] at hv) <;> first | (cases hv; done) | skip
            exact ⟨rfl, rfl⟩
          have e1 := hx.flat_eq hpf.1
          have e2 := hy.flat_eq hpf.2
          exact .val h (by simp [execOp, hop, Sem.run_bind, e1, e2, fastIndex_run hst hv W]) (R.of_flat hflat)
        | false =>
          rw [hst, cond_false] at e
          obtain ⟨v, hv, e⟩ := Option.map_eq_some_iff.1 e
          cases e
          obtain ⟨v', h1, h2⟩ := evIndex_sound (evX_sound h ha hp) (evX_sound h ha hj) hv W
          exact .val h (by simp [execOp, hop, Sem.run_bind, h1]) h2
      · cases e
    case extract x i =>
      split at e
      · rename_i p hp
        obtain ⟨v, hv, e⟩ := Option.map_eq_some_iff.1 e
        cases e
        obtain ⟨v', h1, h2⟩ := evExtract_sound (P := P) (evX_sound h ha hp) _ hv W
        exact .val h (by simp [execOp, hop, Sem.run_bind, h1]) h2
      · cases e
    case slice t x lo hi mx =>
      cases mx with
      | some mx => dsimp only at e; cases e
      | none =>
      dsimp only at e
      split at e
      · rename_i p l hh hp hl hhi
        obtain ⟨v, hv, e⟩ := Option.map_eq_some_iff.1 e
        cases e
        have key : ∀ (q : Option Operand) (u : Option Value), evXo s a q = some u → (∀ z, u = some z → ∃ z', q.map A.eval = some z' ∧ R m z z') ∧ (u = none → q.map A.eval = none) := fun q u hq => by
          cases q with
          | none => cases hq; exact ⟨fun z hz => (by cases hz), fun _ => rfl⟩
          | some x =>
            obtain ⟨z, hz, e⟩ := Option.map_eq_some_iff.1 hq
            subst e
            exact ⟨fun z' hz' => (by cases hz'; exact ⟨_, rfl, evX_sound h ha hz⟩), fun e => (by cases e)⟩
        obtain ⟨v', h1, h2⟩ := evSlice_sound (evX_sound h ha hp) (key _ _ hl).1 (key _ _ hl).2 (key _ _ hhi).1 (key _ _ hhi).2 hv W
        exact .val h (by simp [execOp, hop, Sem.run_bind, h1]) h2
      · cases e
    case makeFunc f fs cs =>
      split at e
      · rename_i l k hl hk
        cases e
        exact .val h (v' := .func f (fs.map A.eval) (cs.map A.eval)) (by simp [execOp, hop, Sem.run_bind, Instr.makeFunc]) (.func _ _ _ _ _ (by simpa using evXs_sound h ha _ _ hl) (by simpa using evXs_sound h ha _ _ hk))
      · cases e
    case nilCheck x =>
      split at e
      · rename_i p hp
        obtain ⟨v, hv, e⟩ := Option.map_eq_some_iff.1 e
        cases e
        have hr := evX_sound h ha hp
        unfold evNilCheck at hv
        split at hv
        · cases hv
          generalize hy : A.eval _ = y at hr
          cases hr with
          | ptr n o' l hl => exact .val h (v' := .pointer (some ⟨l.blk, o', none⟩)) (by simp [execOp, hop, hy]) (.ptr _ _ _ hl)
        · cases hv
          generalize hy : A.eval _ = y at hr
          cases hr with
          | func f a0 b0 a' b' h0 g0 => refine .val h (v' := .func _ a' b') ?_ (.func _ _ _ _ _ h0 g0); simp [execOp, hop, hy]
        · cases hv
      · cases e
    case makeMap t r =>
      cases r with
      | some _ => cases e
      | none =>
        obtain ⟨q, hq, e⟩ := Option.map_eq_some_iff.1 e
        cases e
        obtain ⟨v', W', m', g1, g2, g3, g4, g5⟩ := evMakeMap_sound (P := P) h t hq
        refine ⟨m', W', g3, g4, g5.mono h.room, v', ?_, g2⟩
        simp [execOp, hop, Sem.run_bind, g1]
    case insert t x k y =>
      split at e
      · rename_i p q r hp hq hr
        obtain ⟨s2, hs, e⟩ := Option.map_eq_some_iff.1 e
        cases e
        obtain ⟨W', h1, h2, h3⟩ := evUpdate_sound h (evX_sound h ha hp) (evX_sound h ha hq) (evX_sound h ha hr) hs
        exact ⟨m, W', Sub.refl m, h2, h3, by simp [execOp, hop, Sem.run_bind, h1]⟩
      · cases e
    case mapUpdate t x k y =>
      split at e
      · rename_i p q r hp hq hr
        obtain ⟨s2, hs, e⟩ := Option.map_eq_some_iff.1 e
        cases e
        obtain ⟨W', h1, h2, h3⟩ := evUpdate_sound h (evX_sound h ha hp) (evX_sound h ha hq) (evX_sound h ha hr) hs
        exact ⟨m, W', Sub.refl m, h2, h3, by simp [execOp, hop, Sem.run_bind, h1]⟩
      · cases e
    case lookup t x k ok =>
      split at e
      · rename_i p q hp hq
        obtain ⟨v, hv, e⟩ := Option.map_eq_some_iff.1 e
        cases e
        obtain ⟨v', h1, h2⟩ := evLookup_sound (P := P) h (evX_sound h ha hp) (evX_sound h ha hq) hv
        exact .val h (by simp [execOp, hop, Sem.run_bind, h1]) h2
      · cases e
    case call c =>
      generalize hcal : c.callee = cl at e
      cases cl <;> (try dsimp only at e) <;> first | (cases e; done) | skip
      case builtin bi =>
        cases bi <;> (try dsimp only at e) <;> first | (cases e; done) | skip
        case len =>
          split at e
          · rename_i x el hargs hu
            split at e
            · rename_i p hp
              obtain ⟨v, hv, e⟩ := Option.map_eq_some_iff.1 e
              cases e
              have hr := evX_sound h ha hp
              unfold evLen at hv
              split at hv
              · rename_i q n ex
                cases hv
                obtain ⟨t, ht, hu⟩ := Option.bind_eq_some_iff.1 hu
                have hargs := Array.toList_inj.1 (show _ = (#[x] : Array Operand).toList from hargs)
                have hy : ∃ ad cp, A.eval x = .slice ad n cp := by
                  generalize hy : A.eval x = y at hr
                  cases hr with
                  | sliceNil => exact ⟨_, _, rfl⟩
                  | slice n o' len e l hl hc hm => exact ⟨_, _, rfl⟩
                obtain ⟨ad, cp, hy⟩ := hy
                refine .val h (v' := .int .i64 n) ?_ (.int _ _)
                simp [execOp, hop, Sem.run_bind, resolve, hcal, invoke, builtin, Builtin.len_, hargs, ht, hy, underlying_run hu W, goInt]
              · cases hv
            · cases e
          · rename_i x kt et hargs hu
            split at e
            · rename_i p hp
              obtain ⟨v, hv, e⟩ := Option.map_eq_some_iff.1 e
              cases e
              have hr := evX_sound h ha hp
              obtain ⟨t, ht, hu⟩ := Option.bind_eq_some_iff.1 hu
              have hargs := Array.toList_inj.1 (show _ = (#[x] : Array Operand).toList from hargs)
              obtain ⟨v', g1, g2⟩ := evLenM_sound (P := P) (ty := o.type) h hu hr hv
              refine .val h (v' := v') ?_ g2
              have hl : ∀ ts : Array TypeId, ts[0]? = some t → (Builtin.len_ ts o.type #[A.eval x]).run P W = (Builtin.len_ #[t] o.type #[A.eval x]).run P W := fun ts hts => by simp [Builtin.len_, hts]
              simp [execOp, hop, Sem.run_bind, resolve, hcal, invoke, builtin, hargs, hl _ ht, g1]
            · cases e
          · cases e
        case append =>
          split at e
          · rename_i x y t t' hargs hat
            have hargs := Array.toList_inj.1 (show _ = (#[x, y] : Array Operand).toList from hargs)
            have hats := Array.toList_inj.1 (show _ = (#[t, t'] : Array TypeId).toList from hat)
            split at e
            · rename_i p q hp hq
              split at e
              · rename_i htt
                subst htt
                obtain ⟨r2, hr2, e⟩ := Option.map_eq_some_iff.1 e
                cases e
                obtain ⟨v', W', m', g1, g2, g3, g4, g5⟩ := evAppend_sound (P := P) (ty := o.type) h (evX_sound h ha hp) (evX_sound h ha hq) hr2
                refine ⟨m', W', g3, g4, g5, v', ?_, g2⟩
                simp [execOp, hop, Sem.run_bind, resolve, hcal, invoke, builtin, hargs, hats, g1]
              · split at e
                · rename_i b
                  obtain ⟨r2, hr2, e⟩ := Option.map_eq_some_iff.1 e
                  cases e
                  have hyb : A.eval y = .string b := (evX_sound h ha hq).flat_eq rfl
                  obtain ⟨v', W', m', g1, g2, g3, g4, g5⟩ := evAppendStr_sound (P := P) (ty := o.type) h (evX_sound h ha hp) hr2
                  refine ⟨m', W', g3, g4, g5, v', ?_, g2⟩
                  simp [execOp, hop, Sem.run_bind, resolve, hcal, invoke, builtin, hargs, hats, hyb, g1]
                · cases e
            · cases e
          · cases e
        case unsafeSliceData =>
          split at e
          · rename_i x hargs
            have hargs := Array.toList_inj.1 (show _ = (#[x] : Array Operand).toList from hargs)
            split at e
            · rename_i p hp
              obtain ⟨v, hv, e⟩ := Option.map_eq_some_iff.1 e
              cases e
              obtain ⟨v', h1, h2⟩ := evSliceData_sound (P := P) (evX_sound h ha hp) hv c.argTypes o.type W
              exact .val h (by simp [execOp, hop, Sem.run_bind, resolve, hcal, invoke, builtin, hargs, h1]) h2
            · cases e
          · cases e
        case unsafeString =>
          split at e
          · rename_i x y pt it hargs hat
            have hargs := Array.toList_inj.1 (show _ = (#[x, y] : Array Operand).toList from hargs)
            have hats := Array.toList_inj.1 (show _ = (#[pt, it] : Array TypeId).toList from hat)
            split at e
            · rename_i p q hp hq
              obtain ⟨r2, hr2, e⟩ := Option.map_eq_some_iff.1 e
              cases e
              obtain ⟨v', W', g1, g2, g3, g4⟩ := evUnsafeStr_sound (P := P) (it := it) (ty := o.type) h (evX_sound h ha hp) (evX_sound h ha hq) hr2
              refine ⟨m, W', Sub.refl m, g3, g4, v', ?_, g2⟩
              simp [execOp, hop, Sem.run_bind, resolve, hcal, invoke, builtin, hargs, hats, g1]
            · cases e
          · cases e
      case value f =>
        split at e
        · rename_i x hargs
          have hargs := Array.toList_inj.1 (show _ = (#[x] : Array Operand).toList from hargs)
          split at e
          · rename_i g b d p hf hp
            obtain ⟨e1, e2⟩ := bif_some e
            cases e2
            simp only [Bool.and_eq_true, List.isEmpty_iff] at e1
            obtain ⟨⟨e1, e2⟩, e3⟩ := e1
            have hb : b = #[] := Array.toList_inj.1 e2
            have hd : d = #[] := Array.toList_inj.1 e3
            subst hb hd
            have hfe : A.eval f = .func (.func g) #[] #[] := (evX_sound h ha hf).closed_eq rfl
            have hrun := isSameF_run e1 (A.eval x) W
            refine .val h (v' := A.eval x) ?_ (evX_sound h ha hp)
            simp [execOp, hop, Sem.run_bind, resolve, hcal, Deferred.ofValue, hfe, hargs, invoke, hrun]
          · cases e
        · cases e
    case binOp op t x y t2 =>
      split at e
      · rename_i p q hp hq
        obtain ⟨v, hv, e⟩ := Option.map_eq_some_iff.1 e
        cases e
        obtain ⟨hr, hf⟩ := evBin_sound (evX_sound h ha hp) (evX_sound h ha hq) hv x y W
        refine .val h (v' := v) ?_ (R.of_flat hf)
        simp only [Sem.run_bind] at hr
        simp only [execOp, hop, Sem.run_bind, hr, Result.andThen_ok, Sem.run_pure]
      · cases e
    case convert src dst x =>
      split at e
      · rename_i p hp
        obtain ⟨v, hv, e⟩ := Option.map_eq_some_iff.1 e
        cases e
        obtain ⟨v', h1, h2⟩ := evConv_sound h (evX_sound h ha hp) hv
        exact .val h (by simp [execOp, hop, Sem.run_bind, h1]) h2
      · cases e
end Go.Proofs.YtabpfolbemmhlaaGreatDoor.Ev
