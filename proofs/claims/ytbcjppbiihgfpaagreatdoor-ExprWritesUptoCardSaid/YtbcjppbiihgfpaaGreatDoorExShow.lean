/-
  The text of an expression as a function of the tree, and how long it is. No walk.
-/
import Derived.Test.YtbcjppbiihgfpaaGreatDoorExMath
import Derived.Test.YtbcjppbiihgfpaaGreatDoorTokQuote
import Derived.Lib.ItoaNum
import Derived.Lib.ItoaLen
namespace Go.Proofs.YtbcjppbiihgfpaaGreatDoor.Ex
open Go.ChangeShapes Go.WideShapes Go.ChangeAt Go.RowKit
open Go.Proofs.YtbcjppbiihgfpaaGreatDoor.Mem
set_option linter.unusedVariables false
set_option linter.unusedSimpArgs false
set_option maxRecDepth 100000
abbrev By := List UInt8
/-- an attribute's name, as it stands in a text -/
def namedL (s : ByteArray) : By := if Nam.nameB s = true then s.data.toList else Tok.quoteL s.data.toList
def baseL (k : Nat) (s : By) : By := if k = 12 ∨ k = 13 then 40 :: (s ++ [41]) else s
def aheadL (x : T) (i : Nat) : By := if x.kind = 7 then namedL (x.names.getD i ⟨#[]⟩) ++ [58, 32] else []
def sepL (i : Nat) : By := if i = 0 then [] else [44, 32]
def itemsL (x : T) (ks : List By) : Nat → By
  | 0 => []
  | n + 1 => itemsL x ks n ++ (sepL n ++ (aheadL x n ++ ks.getD n []))
/-- the kind of the first part -/
def kk (x : T) : Nat := (x.list.head?.map T.kind).getD 0
def k0 (ks : List By) : By := ks.getD 0 []
def k1 (ks : List By) : By := ks.getD 1 []
def k2 (ks : List By) : By := ks.getD 2 []
/-- a node's text, its parts' texts being ks -/
def nodeS (x : T) (ks : List By) : By :=
  if x.kind = 1 then (if x.num = 1 then [116, 114, 117, 101] else [102, 97, 108, 115, 101])
  else if x.kind = 2 then Lib.decDigits x.num.toNat
  else if x.kind = 3 then Tok.quoteL x.str.data.toList
  else if x.kind = 4 then x.typ.data.toList ++ ([58, 58] ++ Tok.quoteL x.str.data.toList)
  else if x.kind = 5 then x.str.data.toList
  else if x.kind = 6 then [91] ++ (itemsL x ks x.list.length ++ [93])
  else if x.kind = 7 then [123] ++ (itemsL x ks x.list.length ++ [125])
  else if x.kind = 8 then baseL (kk x) (k0 ks) ++ (if Nam.nameB x.str = true then [46] ++ x.str.data.toList else [91] ++ (Tok.quoteL x.str.data.toList ++ [93]))
  else if x.kind = 9 then [40] ++ (k0 ks ++ ([32, 104, 97, 115, 32] ++ (namedL x.str ++ [41])))
  else if x.kind = 10 then [40] ++ (k0 ks ++ ([32, 105, 115, 32] ++ (x.typ.data.toList ++ [41])))
  else if x.kind = 11 then [40] ++ (k0 ks ++ ([32, 108, 105, 107, 101, 32] ++ (Tok.quoteL x.str.data.toList ++ [41])))
  else if x.kind = 12 then [33] ++ k0 ks
  else if x.kind = 13 then [45] ++ k0 ks
  else if x.kind = 14 then [40, 105, 102, 32] ++ (k0 ks ++ ([32, 116, 104, 101, 110, 32] ++ (k1 ks ++ ([32, 101, 108, 115, 101, 32] ++ (k2 ks ++ [41])))))
  else if x.kind = 27 ∨ x.kind = 28 ∨ x.kind = 29 then baseL (kk x) (k0 ks) ++ ([46] ++ (spellT x.kind ++ ([40] ++ (k1 ks ++ [41]))))
  else [40] ++ (k0 ks ++ ([32] ++ (spellT x.kind ++ ([32] ++ (k1 ks ++ [41])))))
mutual
def showT : T → By
  | .mk k n s t na nv l lv => nodeS (.mk k n s t na nv l lv) (showsL l)
def showsL : List T → List By
  | [] => []
  | x :: r => showT x :: showsL r
end
theorem showsL_map (l : List T) : showsL l = l.map showT := by
  induction l with
  | nil => rfl
  | cons x l ih => rw [showsL, ih, List.map_cons]
theorem showT_eq (x : T) : showT x = nodeS x (x.list.map showT) := by
  cases x
  rw [showT, showsL_map]
  rfl
theorem ks_at (x : T) (i : Nat) (h : i < x.list.length) : (x.list.map showT).getD i [] = showT x.list[i] := by
  rw [List.getD_eq_getElem?_getD, List.getElem?_map, List.getElem?_eq_getElem h]
  rfl
theorem quoteL_len (s : By) : (Tok.quoteL s).length ≤ 2 * s.length + 2 := by
  have := Tok.quoteGo_len s
  simp only [Tok.quoteL, List.length_cons, List.length_append, List.length_nil]
  omega
theorem namedL_len (s : ByteArray) : (namedL s).length ≤ 2 * s.size + 2 := by
  have := quoteL_len s.data.toList
  have e : s.data.toList.length = s.size := by simp
  unfold namedL
  split
  · omega
  · omega
theorem baseL_len (k : Nat) (s : By) : (baseL k s).length ≤ s.length + 2 := by
  unfold baseL
  split
  · simp only [List.length_cons, List.length_append, List.length_nil]; omega
  · omega
def sumL (ks : List By) : Nat := (ks.map List.length).sum
theorem k0_len (ks : List By) : (k0 ks).length + (k1 ks).length + (k2 ks).length ≤ sumL ks := by
  match ks with
  | [] => simp [k0, k1, k2, sumL]
  | [a] => simp [k0, k1, k2, sumL]
  | [a, b] => simp [k0, k1, k2, sumL]
  | a :: b :: c :: r => simp [k0, k1, k2, sumL]; omega
theorem sum_take (ks : List By) (n : Nat) : sumL (ks.take (n + 1)) = sumL (ks.take n) + (ks.getD n []).length := by
  by_cases h : n < ks.length
  · have e : (ks.getD n []).length = ks[n].length := by rw [List.getD_eq_getElem?_getD, List.getElem?_eq_getElem h]; rfl
    unfold sumL
    rw [List.take_succ_eq_append_getElem h, List.map_append, List.sum_append, e]
    simp only [List.map_cons, List.map_nil, List.sum_cons, List.sum_nil]
    omega
  · rw [List.take_of_length_le (by omega), List.take_of_length_le (by omega), List.getD_eq_getElem?_getD, List.getElem?_eq_none (by omega)]
    simp
theorem items_len (x : T) (ks : List By) (c : Nat) (hc : ∀ i, i < x.list.length → (aheadL x i).length ≤ c) : ∀ n, n ≤ x.list.length → (itemsL x ks n).length ≤ sumL (ks.take n) + n * (c + 2) := by
  intro n
  induction n with
  | zero => intro _; simp [itemsL]
  | succ n ih =>
    intro hn
    have h1 := ih (by omega)
    have h2 := hc n (by omega)
    have h3 : (sepL n).length ≤ 2 := by unfold sepL; split <;> simp
    rw [itemsL, sum_take]
    simp only [List.length_append]
    have : (n + 1) * (c + 2) = n * (c + 2) + (c + 2) := Nat.succ_mul _ _
    omega
theorem items_mono (x : T) (ks : List By) (n : Nat) {m : Nat} (h : n ≤ m) : (itemsL x ks n).length ≤ (itemsL x ks m).length := by
  induction m with
  | zero => have : n = 0 := by omega
            subst this; exact Nat.le_refl _
  | succ m ih =>
    by_cases e : n = m + 1
    · subst e; exact Nat.le_refl _
    · have := ih (by omega)
      rw [itemsL.eq_2 x ks m]
      simp only [List.length_append]
      omega
theorem items_step (x : T) (ks : List By) (n m : Nat) (h : n < m) : (itemsL x ks n).length + ((sepL n).length + ((aheadL x n).length + (ks.getD n []).length)) ≤ (itemsL x ks m).length := by
  have := items_mono x ks (n + 1) (show n + 1 ≤ m by omega)
  rw [itemsL.eq_2 x ks n] at this
  simp only [List.length_append] at this
  omega
theorem nmB_len {s : ByteArray} (h : nmB s = true) : s.size ≤ 64 := by
  unfold nmB at h
  simp only [Bool.and_eq_true, decide_eq_true_eq] at h
  exact h.2.1
theorem txB_len {s : ByteArray} (h : txB s = true) : s.size ≤ 256 := by
  unfold txB at h
  simp only [Bool.and_eq_true, decide_eq_true_eq] at h
  exact h.2
theorem uidB_len {t s : ByteArray} (h : uidB t s = true) : t.size ≤ 64 ∧ s.size ≤ 64 := by
  unfold uidB Nam.typeB at h
  simp only [Bool.and_eq_true, decide_eq_true_eq] at h
  exact ⟨h.1.1, h.2.2⟩
theorem typeB_len {t : ByteArray} (h : Nam.typeB t = true) : t.size ≤ 64 := by
  unfold Nam.typeB at h
  simp only [Bool.and_eq_true, decide_eq_true_eq] at h
  exact h.1
theorem varB_len {s : ByteArray} (h : varB s = true) : s.size ≤ 64 := by
  unfold varB hasB varsL at h
  simp only [List.any_cons, List.any_nil, Bool.or_false, Bool.or_eq_true, beq_iff_eq, ByteArray.toList_eq] at h
  have key : ∀ l : List UInt8, l = s.data.toList → l.length = s.size := by intro l e; rw [e]; simp
  rcases h with h | h | h | h <;> (have := key _ h; simp at this; omega)
theorem namesGo_all : ∀ (l pre : List ByteArray), namesGo pre l = true → ∀ y ∈ l, nmB y = true := by
  intro l
  induction l with
  | nil => intro _ _ y hy; cases hy
  | cons x l ih =>
    intro pre h y hy
    rw [namesGo] at h
    simp only [Bool.and_eq_true] at h
    rcases List.mem_cons.1 hy with rfl | hy
    · exact h.1.1
    · exact ih _ h.2 y hy
theorem digits_len {n : Int} (h : n ≤ 9223372036854775807) : (Lib.decDigits n.toNat).length ≤ 20 := by
  rw [Lib.decDigits_length]
  have h2 : n.toNat < 10 ^ 20 := by omega
  rcases Nat.lt_or_ge 20 (Lib.nDigits n.toNat) with h | h
  · exfalso
    have key : ∀ (k u : Nat), u < 10 ^ k → 1 ≤ k → Lib.nDigits u ≤ k := by
      intro k
      induction k with
      | zero => intro u _ h; omega
      | succ k ih =>
        intro u hu _
        by_cases hs : u < 10
        · rw [Lib.nDigits_small hs]; omega
        · rw [Lib.nDigits_big hs]
          have hk : 1 ≤ k := by
            rcases Nat.eq_zero_or_pos k with rfl | hk
            · simp at hu; omega
            · exact hk
          have := ih (u / 10) (by rw [Nat.pow_succ] at hu; omega) hk
          omega
    have := key 20 n.toNat h2 (by omega)
    omega
  · exact h
theorem spellT_len (k : Nat) : (spellT k).length ≤ 11 := by
  unfold spellT
  split <;> simp
theorem ahead_len {x : T} (h : fldB x = true) (i : Nat) (hi : i < x.list.length) : (aheadL x i).length ≤ 132 := by
  unfold aheadL
  split
  · rename_i hk
    unfold fldB at h
    rw [if_neg (by omega), if_neg (by omega), if_neg (by omega), if_neg (by omega), if_neg (by omega), if_pos hk] at h
    simp only [Bool.and_eq_true, decide_eq_true_eq] at h
    have hl : i < x.names.length := by rw [h.1.1]; exact hi
    rw [List.getD_eq_getElem?_getD, List.getElem?_eq_getElem hl]
    have := nmB_len (namesGo_all _ _ h.1.2 _ (List.getElem_mem hl))
    have := namedL_len x.names[i]
    simp only [Option.getD_some, List.length_append, List.length_cons, List.length_nil]
    omega
  · simp
theorem if_len {c : Prop} [Decidable c] {a b : By} {n : Nat} (h1 : c → a.length ≤ n) (h2 : ¬ c → b.length ≤ n) : (if c then a else b).length ≤ n := by
  split
  · rename_i h; exact h1 h
  · rename_i h; exact h2 h
set_option maxHeartbeats 4000000 in
theorem node_len {x : T} (h : nodeB x = true) (hn : x.num ≤ 9223372036854775807) (ks : List By) (hk : ks.length = x.list.length) : (nodeS x ks).length ≤ sumL ks + 4096 := by
  unfold nodeB at h
  simp only [Bool.and_eq_true] at h
  obtain ⟨hf, hkd⟩ := h
  have ha := ahead_len hf
  have hq := quoteL_len x.str.data.toList
  have es : x.str.data.toList.length = x.str.size := by simp
  have et : x.typ.data.toList.length = x.typ.size := by simp
  have hnm := namedL_len x.str
  have hkk := k0_len ks
  have hb := baseL_len (kk x) (k0 ks)
  have hsp := spellT_len x.kind
  have hit := fun (hx : x.list.length ≤ 16) => items_len x ks 132 ha x.list.length (Nat.le_refl _)
  rw [List.take_of_length_le (by omega)] at hit
  have hdg := digits_len hn
  unfold fldB at hf
  unfold kidsB at hkd
  unfold nodeS
  refine if_len (fun c => ?_) fun c1 => ?_
  · refine if_len (fun _ => ?_) fun _ => ?_ <;> (simp only [List.length_cons, List.length_nil]; omega)
  rw [if_neg c1] at hf
  refine if_len (fun c => ?_) fun c2 => ?_
  · omega
  rw [if_neg c2] at hf
  refine if_len (fun c => ?_) fun c3 => ?_
  · rw [if_pos c] at hf
    simp only [Bool.and_eq_true] at hf
    have := txB_len hf.1
    omega
  rw [if_neg c3] at hf
  refine if_len (fun c => ?_) fun c4 => ?_
  · rw [if_pos c] at hf
    simp only [Bool.and_eq_true] at hf
    have := uidB_len hf.1
    simp only [List.length_append, List.length_cons, List.length_nil]
    omega
  rw [if_neg c4] at hf
  refine if_len (fun c => ?_) fun c5 => ?_
  · rw [if_pos c] at hf
    simp only [Bool.and_eq_true] at hf
    have := varB_len hf.1
    omega
  rw [if_neg c5] at hf
  rw [if_neg (by omega)] at hkd
  refine if_len (fun c => ?_) fun c6 => ?_
  · rw [if_pos (by omega)] at hkd
    simp only [decide_eq_true_eq] at hkd
    have := hit hkd
    simp only [List.length_append, List.length_cons, List.length_nil]
    have : x.list.length * (132 + 2) ≤ 16 * (132 + 2) := Nat.mul_le_mul_right _ hkd
    omega
  refine if_len (fun c => ?_) fun c7 => ?_
  · rw [if_pos (by omega)] at hkd
    simp only [decide_eq_true_eq] at hkd
    have := hit hkd
    simp only [List.length_append, List.length_cons, List.length_nil]
    have : x.list.length * (132 + 2) ≤ 16 * (132 + 2) := Nat.mul_le_mul_right _ hkd
    omega
  rw [if_neg c7] at hf
  refine if_len (fun c => ?_) fun c8 => ?_
  · rw [if_pos c] at hf
    simp only [Bool.and_eq_true] at hf
    have := nmB_len hf.1
    rw [List.length_append]
    have : (if Nam.nameB x.str = true then [46] ++ x.str.data.toList else [91] ++ (Tok.quoteL x.str.data.toList ++ [93])).length ≤ 200 := by
      refine if_len (fun _ => ?_) fun _ => ?_ <;> (simp only [List.length_append, List.length_cons, List.length_nil]; omega)
    omega
  rw [if_neg c8] at hf
  refine if_len (fun c => ?_) fun c9 => ?_
  · rw [if_pos c] at hf
    simp only [Bool.and_eq_true] at hf
    have := nmB_len hf.1
    simp only [List.length_append, List.length_cons, List.length_nil]
    omega
  rw [if_neg c9] at hf
  refine if_len (fun c => ?_) fun c10 => ?_
  · rw [if_pos c] at hf
    simp only [Bool.and_eq_true] at hf
    have := typeB_len hf.1
    simp only [List.length_append, List.length_cons, List.length_nil]
    omega
  rw [if_neg c10] at hf
  refine if_len (fun c => ?_) fun c11 => ?_
  · rw [if_pos c] at hf
    simp only [Bool.and_eq_true] at hf
    have := txB_len hf.1
    simp only [List.length_append, List.length_cons, List.length_nil]
    omega
  refine if_len (fun c => ?_) fun c12 => ?_
  · simp only [List.length_append, List.length_cons, List.length_nil]; omega
  refine if_len (fun c => ?_) fun c13 => ?_
  · simp only [List.length_append, List.length_cons, List.length_nil]; omega
  refine if_len (fun c => ?_) fun c14 => ?_
  · simp only [List.length_append, List.length_cons, List.length_nil]; omega
  refine if_len (fun c => ?_) fun c15 => ?_
  · simp only [List.length_append, List.length_cons, List.length_nil]; omega
  · simp only [List.length_append, List.length_cons, List.length_nil]; omega
theorem show_len : ∀ (x : T) (w : World), x.ok w → rightB x = true → (showT x).length ≤ 4096 * x.size := by
  suffices g : ∀ n (x : T), x.size ≤ n → ∀ (w : World), x.ok w → rightB x = true → (showT x).length ≤ 4096 * x.size from fun x => g x.size x (Nat.le_refl _)
  intro n
  induction n with
  | zero => intro x hx; have := x.size_pos; omega
  | succ n ih =>
    intro x hx w hw hr
    rw [rightB_eq, rightL_all] at hr
    simp only [Bool.and_eq_true, List.all_eq_true] at hr
    have hp := hw.parts
    have key : ∀ l : List T, (∀ y ∈ l, y ∈ x.list) → sumL (l.map showT) ≤ 4096 * T.sizeL l := by
      intro l
      induction l with
      | nil => intro _; simp [sumL, T.sizeL]
      | cons y l ihl =>
        intro hl
        have hy := hl y (List.mem_cons_self ..)
        have h1 := ih y (by have := T.size_part hy; omega) w (hp.2.2.2.2.2.2.2 y hy) (hr.2 y hy)
        have h2 := ihl (fun z hz => hl z (List.mem_cons_of_mem _ hz))
        simp only [sumL, List.map_cons, List.sum_cons, T.sizeL] at h2 ⊢
        omega
    have h3 := key x.list (fun y hy => hy)
    have h4 := node_len hr.1 hp.2.1.2 (x.list.map showT) (by simp)
    rw [showT_eq, T.size_list]
    omega
end Go.Proofs.YtbcjppbiihgfpaaGreatDoor.Ex
