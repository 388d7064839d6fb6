/-
  An evaluated call's leaves: strconv.ParseInt and token.Quote, by their contracts. No walk.
-/
import Derived.Test.YtklclfolmfhocaaGreatDoorEvAllC
import Derived.Test.YtklclfolmfhocaaGreatDoorTokQuoted
import Derived.Test.YtklclfolmfhocaaGreatDoorValTold
import Derived.Lib.ValidLaws
import Derived.Lib.SmallJoins
namespace Go.Proofs.YtklclfolmfhocaaGreatDoor.Ev
open Go.ChangeShapes Go.WideShapes Go.ChangeAt Go.RowKit
open Go.Proofs.YtklclfolmfhocaaGreatDoor.Mem Go.Proofs.YtklclfolmfhocaaGreatDoor.Tok Go.Proofs.YtklclfolmfhocaaGreatDoor.Lik
set_option linter.unusedVariables false
set_option linter.unusedSimpArgs false
set_option maxRecDepth 100000
theorem valid_told : Tok.ValidTold := fun s w hs hT => Tryz.utf8_ValidString s w (by omega) hT
def lowL (l : List UInt8) : Bool := l.all fun b => Nat.ble b.toNat 127
theorem lowL_valid {l : List UInt8} (h : lowL l = true) : Lib.validD l = true := by
  rw [Lib.validD_ascii l.length l (fun b hb => by
    have := List.all_eq_true.1 h b (List.mem_of_mem_take hb)
    have := Nat.le_of_ble_eq_true this
    omega)]
  rw [List.drop_length]
  rfl
noncomputable def orcInt (args : List Value) (s : St) : Option (Value × St) :=
  match args with
  | [.string b, .int .i64 x, .int .i64 y] => if x = 10 ∧ y = 64 ∧ b.size ≤ 1000 then
      match Lib.parseIntB 64 b.data.toList with
      | .ok v => some (.tuple #[.int .i64 v, .nilIface], s)
      | _ => none
    else none
  | _ => none
noncomputable def orcQuote (args : List Value) (s : St) : Option (Value × St) :=
  match args with
  | [.string b] => if lowL b.data.toList = true ∧ b.size ≤ 256 then some (.tuple #[.string (bs (quoteL b.data.toList)), .int .i64 0], s) else none
  | _ => none
noncomputable def orcValid (args : List Value) (s : St) : Option (Value × St) :=
  match args with
  | [.string b] => if lowL b.data.toList = true ∧ b.size ≤ 100000 then some (.bool true, s) else none
  | _ => none
noncomputable def orcPrefix (args : List Value) (s : St) : Option (Value × St) :=
  match args with
  | [.string b, .string c] => sel (Lib.hasPrefix b.data.toList c.data.toList) (some (.bool true, s)) (some (.bool false, s))
  | _ => none
/-- a type's name of one word, none of the words that mean something -/
def headOk : List UInt8 → Bool
  | [] => false
  | c :: _ => !Nam.dig c.toNat
def isWord (l : List UInt8) : Bool := headOk l && l.all (fun b => Nam.chr b.toNat) && Nat.ble l.length 64 && Nam.wordsL.all fun w => !eqBytes w l
theorem isWord_type {b : ByteArray} (h : isWord b.data.toList = true) : Nam.typeB b = true := by
  unfold isWord at h
  simp only [Bool.and_eq_true, List.all_eq_true, Bool.not_eq_true'] at h
  obtain ⟨⟨⟨h1, h2⟩, h3⟩, h4⟩ := h
  have hsz : b.size = b.data.toList.length := Lib.size_eq b
  have h64 : b.size ≤ 64 := by rw [hsz]; exact Nat.le_of_ble_eq_true h3
  have hpos : 0 < b.size := by
    rw [hsz]
    cases hl : b.data.toList with
    | nil => rw [hl] at h1; cases h1
    | cons c r => simp
  have hat : ∀ i (hi : i < b.size), ∃ hj : i < b.data.toList.length, b[i] = b.data.toList[i] := fun i hi => ⟨by rw [← hsz]; exact hi, by simp [ByteArray.getElem_eq_getElem_data]⟩
  have hchr : ∀ i (hi : i < b.size), Nam.chr b[i].toNat = true := fun i hi => by
    obtain ⟨hj, e⟩ := hat i hi
    rw [e]
    exact h2 _ (List.getElem_mem hj)
  have hname : Nam.nameB b = true := by
    refine Nam.nameB_yes hpos h64 (fun hm => ?_) ?_ hchr
    · have := h4 _ hm
      rw [eqBytes_eq, beq_self_eq_true] at this
      cases this
    · obtain ⟨hj, e⟩ := hat 0 hpos
      rw [e]
      have key : ∀ (l : List UInt8) (hj : 0 < l.length), headOk l = true → Nam.dig (l[0]).toNat = false := by
        intro l hj q
        cases l with
        | nil => cases q
        | cons c r => simpa [headOk] using q
      exact key _ hj h1
  have hocc : ∀ j, Lib.occAt b.data.toList Nam.sep.data.toList j = false := fun j => by
    cases ho : Lib.occAt b.data.toList Nam.sep.data.toList j with
    | false => rfl
    | true =>
      unfold Lib.occAt at ho
      have hp := List.isPrefixOf_iff_prefix.1 ho
      obtain ⟨t, ht⟩ := hp
      have hm : (58 : UInt8) ∈ b.data.toList := List.mem_of_mem_drop (i := j) (by rw [← ht]; exact List.mem_append_left _ (by show (58 : UInt8) ∈ ([58, 58] : List UInt8); simp))
      have := h2 _ hm
      cases this
  unfold Nam.typeB
  rw [decide_eq_true h64, Bool.true_and, Nam.restB_miss (show Lib.indexB b Nam.sep = -1 from Lib.index_none fun j _ => hocc j)]
  exact hname
noncomputable def orcType (args : List Value) (s : St) : Option (Value × St) :=
  match args with
  | [.string b] => sel (isWord b.data.toList) (some (.bool true, s)) none
  | _ => none
theorem orcType_ok {args args' : List Value} {s s' : St} {v : Value} (e : orcType args s = some (v, s')) {m : Mu} {B : Nat} {W : World} (h : Holds m s B W) (ha : RL m args args') :
    Calls Tryz.prog 79 args'.toArray W fun e W' => ∃ m' v', e = .returned v' ∧ R m' v v' ∧ Sub m m' ∧ Holds m' s' B W' ∧ Below B W W' := by
  unfold orcType at e
  split at e
  · rename_i b
    cases hw : isWord b.data.toList with
    | false => rw [hw] at e; cases e
    | true =>
      rw [hw] at e
      cases e
      cases ha with
      | cons ha1 ha =>
        cases ha; cases ha1
        have hsz : b.size ≤ 64 := by
          have h2 := hw
          unfold isWord at h2
          simp only [Bool.and_eq_true] at h2
          rw [Lib.size_eq]
          exact Nat.le_of_ble_eq_true h2.1.2
        refine (Nam.type_any Nam.split_told b W (by omega) h.keep.laid.ml).mono ?_
        rintro e' W' ⟨rfl, hbel⟩
        rw [isWord_type hw]
        exact ⟨m, _, rfl, .bool _, Sub.refl m, h.below hbel, hbel.mono h.room⟩
  · cases e
noncomputable def orc (f : FuncId) (args : List Value) (s : St) : Option (Value × St) :=
  sel (Nat.beq f 178) (orcInt args s) (sel (Nat.beq f 119) (orcQuote args s) (sel (Nat.beq f 70) (orcValid args s) (sel (Nat.beq f 131) (orcPrefix args s) (sel (Nat.beq f 79) (orcType args s) none))))
theorem orc_ok : CallOk Tryz.prog orc := by
  intro f args s v s' e m B W args' h ha
  unfold orc sel at e
  cases h1 : Nat.beq f 178 with
  | true =>
    rw [h1] at e
    have hf := Nat.eq_of_beq_eq_true h1
    subst hf
    unfold orcInt at e
    dsimp only at e
    split at e
    · rename_i b x y
      split at e
      · rename_i hc
        obtain ⟨rfl, rfl, hb⟩ := hc
        split at e
        · rename_i z hz
          cases e
          cases ha with
          | cons ha1 ha =>
            cases ha with
            | cons ha2 ha =>
              cases ha with
              | cons ha3 ha =>
                cases ha; cases ha1; cases ha2; cases ha3
                refine (Tryz.strconv_ParseInt_10_at64_ok b (by omega) z hz W).mono ?_
                rintro e' W' ⟨rfl, hW⟩
                have hbel : Below W.heap.size W W' := by
                  rcases hW with rfl | ⟨t, rfl⟩
                  · exact Below.refl _ _
                  · exact Lib.bytesWorld_below _ _ _
                exact ⟨m, _, rfl, .tuple _ _ (.cons (.int _ _) (.cons .nilIface .nil)), Sub.refl m, h.below hbel, hbel.mono h.room⟩
        · cases e
      · cases e
    · cases e
  | false =>
    rw [h1] at e
    cases h2 : Nat.beq f 119 with
    | false =>
      rw [h2] at e
      cases h3 : Nat.beq f 70 with
      | true =>
        rw [h3] at e
        have hf := Nat.eq_of_beq_eq_true h3
        subst hf
        unfold orcValid at e
        dsimp only at e
        split at e
        · rename_i b
          split at e
          · rename_i hc
            cases e
            cases ha with
            | cons ha1 ha =>
              cases ha; cases ha1
              refine (valid_told b W (by omega) h.keep.laid.tabs).mono ?_
              rintro e' W' ⟨rfl, hbel⟩
              rw [lowL_valid hc.1]
              exact ⟨m, _, rfl, .bool _, Sub.refl m, h.below hbel, hbel.mono h.room⟩
          · cases e
        · cases e
      | false =>
        rw [h3] at e
        cases h4 : Nat.beq f 131 with
        | false =>
          rw [h4] at e
          cases h5 : Nat.beq f 79 with
          | false => rw [h5] at e; cases e
          | true =>
            rw [h5] at e
            have hf := Nat.eq_of_beq_eq_true h5
            subst hf
            exact orcType_ok e h ha
        | true =>
          rw [h4] at e
          have hf := Nat.eq_of_beq_eq_true h4
          subst hf
          unfold orcPrefix at e
          dsimp only at e
          split at e
          · rename_i b c
            have e2 : v = .bool (Lib.hasPrefix b.data.toList c.data.toList) ∧ s' = s := by
              cases hp : Lib.hasPrefix b.data.toList c.data.toList with
              | true => rw [hp] at e; cases e; exact ⟨rfl, rfl⟩
              | false => rw [hp] at e; cases e; exact ⟨rfl, rfl⟩
            obtain ⟨rfl, rfl⟩ := e2
            cases ha with
            | cons ha1 ha =>
              cases ha with
              | cons ha2 ha =>
                cases ha; cases ha1; cases ha2
                refine (Tryz.strings_HasPrefix b c W).mono ?_
                rintro e' W' ⟨rfl, rfl⟩
                exact ⟨m, _, rfl, .bool _, Sub.refl m, h, Below.refl _ _⟩
          · cases e
    | true =>
      rw [h2] at e
      have hf := Nat.eq_of_beq_eq_true h2
      subst hf
      unfold orcQuote at e
      dsimp only at e
      split at e
      · rename_i b
        split at e
        · rename_i hc
          obtain ⟨hlow, hb⟩ := hc
          cases e
          cases ha with
          | cons ha1 ha =>
            cases ha; cases ha1
            refine (quote_any valid_told b W (by omega) h.keep.laid.tabs).mono ?_
            rintro e' W' ⟨rfl, hbel⟩
            have hk : checkE b = 0 := by
              unfold checkE
              rw [if_pos (lowL_valid hlow), if_neg (by omega)]
            rw [if_pos hk, hk]
            exact ⟨m, _, rfl, .tuple _ _ (.cons (.string _) (.cons (.int _ _) .nil)), Sub.refl m, h.below hbel, hbel.mono h.room⟩
        · cases e
      · cases e
end Go.Proofs.YtklclfolmfhocaaGreatDoor.Ev
