/-
  What the document's answer reads of bytes as a request: its parts, and what right requests have these bytes (pure).
-/
import Derived.Test.YtldlkoiekdlmhaaWireRefF
import Derived.Test.YtldlkoiekdlmhaaPkChRight
import Derived.Test.YtldlkoiekdlmhaaPkWireChg
import Derived.Test.YtldlkoiekdlmhaaPkWireRefE
namespace Go.Proofs.Ytldlkoiekdlmhaa.Wi
open Go.ChangeShapes Go.WideShapes Go.ChangeAt Go.RowKit
open Go.Proofs.Ytldlkoiekdlmhaa.Mem
open Go.Proofs.Ytldlkoiekdlmhaa.Lik (Kept)
open Go.Proofs.Ytldlkoiekdlmhaa.Crc hiding hid bt
set_option linter.unusedVariables false
set_option linter.unusedSimpArgs false
set_option maxRecDepth 100000
/-- a right change -/
def pCR : P Ch := fun l => (pC l).bind fun y => if chR y.1 then some y else none
def pCRs : Nat → P (List Ch)
  | 0 => pRet []
  | n + 1 => pBind pCR fun c => pBind (pCRs n) fun l => pRet (c :: l)
def pL16 : P (List Ch) := pBind pB pCRs
theorem pCR_of {l t : List UInt8} {c : Ch} (h : pCR l = some (c, t)) : l = chE c ++ t ∧ chS c ∧ chR c := by
  unfold pCR at h
  cases hp : pC l with
  | none => rw [hp] at h; cases h
  | some y =>
    rw [hp] at h
    simp only [Option.bind_some] at h
    split at h
    · rename_i hr
      simp only [Option.some.injEq] at h
      subst h
      obtain ⟨e, hs, _⟩ := pC_of hp
      exact ⟨e, hs, hr⟩
    · cases h
theorem pCR_E (c : Ch) (t : List UInt8) (hs : chS c) (hr : chR c) : pCR (chE c ++ t) = some (c, t) := by
  unfold pCR
  rw [pC_chE c t hs (chR_k hr)]
  simp [hr]
theorem pCRs_of (n : Nat) : ∀ {l t : List UInt8} {cs : List Ch}, pCRs n l = some (cs, t) → l = cs.flatMap chE ++ t ∧ cs.length = n ∧ (∀ c ∈ cs, chR c) ∧ ∀ c ∈ cs, chS c := by
  induction n with
  | zero =>
    intro l t cs h
    simp only [pCRs, pRet, Option.some.injEq, Prod.mk.injEq] at h
    obtain ⟨rfl, rfl⟩ := h
    simp
  | succ n ih =>
    intro l t cs h
    obtain ⟨c, u, h1, h⟩ := pBind_some h
    obtain ⟨m, v, h2, h⟩ := pBind_some h
    simp only [pRet, Option.some.injEq, Prod.mk.injEq] at h
    obtain ⟨rfl, rfl⟩ := h
    obtain ⟨e1, s1, r1⟩ := pCR_of h1
    obtain ⟨e2, n2, r2, s2⟩ := ih h2
    refine ⟨by rw [e1, e2]; simp, by simp [n2], ?_, ?_⟩
    · intro x hx
      rcases List.mem_cons.1 hx with rfl | hx
      · exact r1
      · exact r2 x hx
    · intro x hx
      rcases List.mem_cons.1 hx with rfl | hx
      · exact s1
      · exact s2 x hx
theorem pCRs_E (cs : List Ch) (t : List UInt8) (hs : ∀ c ∈ cs, chS c) (hr : ∀ c ∈ cs, chR c) : pCRs cs.length (cs.flatMap chE ++ t) = some (cs, t) := by
  induction cs with
  | nil => rfl
  | cons c cs ih =>
    show pBind pCR _ _ = _
    rw [List.flatMap_cons, List.append_assoc, pBind_of (pCR_E c _ (hs c (by simp)) (hr c (by simp))), pBind_of (ih (fun x hx => hs x (by simp [hx])) (fun x hx => hr x (by simp [hx])))]
    rfl
theorem pL16_of {l t : List UInt8} {cs : List Ch} (h : pL16 l = some (cs, t)) : l = packE cs ++ t ∧ packR cs := by
  obtain ⟨n, u, h1, h2⟩ := pBind_some h
  obtain ⟨e1, hn⟩ := pB_of h1
  obtain ⟨e2, hl, hr, hs⟩ := pCRs_of n h2
  refine ⟨?_, by omega, hr, hs⟩
  unfold packE
  rw [e1, e2, hl]; rfl
theorem pL16_E (cs : List Ch) (t : List UInt8) (h : packR cs) : pL16 (packE cs ++ t) = some (cs, t) := by
  unfold pL16 packE
  rw [List.cons_append, pBind_of (pB_cons cs.length _ (by have := h.1; omega))]
  exact pCRs_E cs t h.2.2 h.2.1
theorem pCRs_step {m : Nat} {r r2 : ByteArray} {c : Ch} (h : pCR r.data.toList = some (c, r2.data.toList)) : pCRs (m + 1) r.data.toList = (pCRs m r2.data.toList).map fun y => (c :: y.1, y.2) := by
  show pBind pCR (fun s => pBind (pCRs m) fun l => pRet (s :: l)) _ = _
  rw [pBind_of h]
  unfold pBind pRet
  cases pCRs m r2.data.toList <;> rfl
theorem pCRs_stop {m : Nat} {r : List UInt8} (h : pCR r = none) : pCRs (m + 1) r = none := by
  show pBind pCR (fun s => pBind (pCRs m) fun l => pRet (s :: l)) _ = _
  unfold pBind
  rw [h]
theorem OneP.cases {s r : ByteArray} {c : Ch} {ok : Bool} (h : OneP s c r ok) : ok = true ∧ pCR s.data.toList = some (c, r.data.toList) ∨ ok = false ∧ pCR s.data.toList = none := by
  rcases h with ⟨rfl, h, hr⟩ | ⟨rfl, h⟩
  · exact .inl ⟨rfl, by unfold pCR; rw [h]; simp [hr]⟩
  · refine .inr ⟨rfl, ?_⟩
    unfold pCR
    cases hp : pC s.data.toList with
    | none => rfl
    | some y =>
      have := h y.1 y.2 (by rw [hp])
      simp [this]
def SmC (B : Nat) (s : ByteArray) (e : Ending) (w' : World) : Prop := ∃ so cap l r ok, e = .returned (.tuple #[.slice so l.length cap, .string r, .bool ok]) ∧ w'.ownsRow B 28 5 (.slice so l.length cap) l.length (chC l) ∧ (ok = true ∧ pL16 s.data.toList = some (l, r.data.toList) ∨ ok = false ∧ so = none ∧ cap = 0 ∧ l = [] ∧ r = ⟨#[]⟩ ∧ pL16 s.data.toList = none)
set_option maxHeartbeats 8000000 in
theorem some16_ref (s : ByteArray) (w : World) (hs : s.size ≤ 16777216) : Calls Try.prog 37 #[.string s] w fun e w' => SmC w.heap.size s e w' ∧ Below w.heap.size w w' := by
  obtain ⟨ic, zc, hi, hz0, hz1, hz2, hz3⟩ := info_ch
  by_cases h0 : s.size = 0
  · obtain rfl : s = ⟨#[]⟩ := by
      have : s.data.toList = [] := by rw [← List.length_eq_zero_iff, len_size]; exact h0
      rw [← bs_of s, this]; rfl
    go_enter Try.func37, Try.ntmps37
    go_wp2_with fail
    go_ret3
    exact ⟨⟨none, 0, [], ⟨#[]⟩, false, rfl, World.ownsRow_nil _ _ _ _, .inr ⟨rfl, rfl, rfl, rfl, rfl, rfl⟩⟩, Below.refl _ _⟩
  have hne : s.toList.isEmpty = false := by
    rw [ByteArray.toList_eq, List.isEmpty_eq_false_iff]
    intro e
    have := congrArg List.length e
    rw [len_size] at this
    exact h0 this
  have hpos : 0 < s.size := by omega
  have hposi : (0 : Int) < (s.size : Int) := by omega
  have hone : (1 : Int) ≤ (s.size : Int) := by omega
  have hl := hid (show s.data.toList = s[0] :: (s.extract 1 s.size).data.toList by
    rw [ext_drop _ _ (by omega)]
    have : ∀ (l : List UInt8) (h : 0 < l.length), l = l[0] :: l.drop 1 := by
      intro l h
      match l, h with
      | a :: t, _ => rfl
    exact this s.data.toList (by rw [len_size]; exact hpos))
  have hc := hid (UInt8.toNat_lt s[0])
  have hxs := hid (show (s.extract 1 s.size).size ≤ 16777216 by rw [← len_size, ext_drop _ _ (by omega), List.length_drop, len_size]; omega)
  go_enter Try.func37, Try.ntmps37
  have hwr : wrap64 (s[0].toNat : Int) = (s[0].toNat : Int) := by have := hc.out; simp only [RowKit.wrap64]; omega
  have hpl : pL16 s.data.toList = pCRs s[0].toNat (s.extract 1 s.size).data.toList := by
    rw [hl.out]; rfl
  go_upto_region 6 with fail
  rw [hwr]
  have hn8 : s[0].toNat < 256 := hc.out
  clear hwr hl hc hs
  obtain ⟨n, hn⟩ : ∃ n, s[0].toNat = n := ⟨_, rfl⟩
  obtain ⟨r0, hr0⟩ : ∃ r0, s.extract 1 s.size = r0 := ⟨_, rfl⟩
  rw [hn] at hpl hn8 ⊢
  rw [hr0] at hpl hxs ⊢
  clear hn hr0 hone hposi hne h0
  replace hpl := hid hpl
  go_wp2_with fail
  go_loopw [0, 6, 7] (fun rv v i wr => ∃ (j : Nat) (pre : List Ch) (r : ByteArray), j ≤ n ∧ i = .int .i64 j ∧ rv = .string r ∧ Hid (r.size ≤ 16777216 ∧ pre.length = j) ∧ Hid (pL16 s.data.toList = (pCRs (n - j) r.data.toList).map fun y => (pre ++ y.1, y.2)) ∧ (∃ so cap, v = .slice so j cap ∧ Hid (wr.ownsRow w.heap.size 28 5 (.slice so j cap) j (chC pre))) ∧ Hid (Below w.heap.size w wr)) (fun _ _ i _ => n - (intOf i).toNat)
  case atStart => exact ⟨0, [], r0, by omega, rfl, rfl, hid ⟨hxs.out, rfl⟩, hid (by rw [hpl.out, Nat.sub_zero]; cases pCRs n r0.data.toList <;> simp), ⟨none, 0, rfl, hid (World.ownsRow_nil _ _ _ _)⟩, hid (Below.refl _ _)⟩
  case round =>
    clear hpl hxs
    obtain ⟨j, pre, r, hj, rfl, rfl, hrp, hR, ⟨so, cap, rfl, hown⟩, bw⟩ := hrel
    by_cases hjn : j < n
    · have hji : (j : Int) < (n : Int) := by omega
      have hst := hid (show n - j = (n - (j + 1)) + 1 by omega)
      go_wp2_with fail
      refine (one_ref r wr hrp.out.1).mono ?_
      rintro e w3 ⟨⟨c, r2, ok, rfl, hT0⟩, q3⟩
      have hT := hT0.cases
      have hown3 := hid (ownsRow_below hown.out q3)
      replace bw := hid (bw.out.trans (q3.mono bw.out.size))
      clear hT0 q3 hown
      go_upto_region 10 with fail
      have K := hid (Blk.new w3 [.int .u8 (c.k : Nat), .string c.i, .string c.t, .string c.ut, .string c.ui] 28)
      replace hown3 := hid (ownsRow_below hown3.out ((Below.refl w3.heap.size w3).alloc (Nat.le_refl _) (.cells #[.int .u8 (c.k : Nat), .string c.i, .string c.t, .string c.ut, .string c.ui] 28)))
      replace bw := hid (bw.out.alloc bw.out.size (.cells #[.int .u8 (c.k : Nat), .string c.i, .string c.t, .string c.ut, .string c.ui] 28))
      change Hid (Blk (w3.alloc (.cells #[.int .u8 (c.k : Nat), .string c.i, .string c.t, .string c.ut, .string c.ui] 28)) _ _ _) at K
      generalize w3.alloc (.cells #[.int .u8 (c.k : Nat), .string c.i, .string c.t, .string c.ut, .string c.ui] 28) = W4 at K hown3 bw ⊢
      obtain ⟨cb, hcb⟩ : ∃ cb, w3.heap.size = cb := ⟨_, rfl⟩
      rw [hcb] at K ⊢
      clear hcb
      rcases hT with ⟨rfl, hT⟩ | ⟨rfl, hT⟩
      · have hsz2 := hid (show r2.size ≤ 16777216 by
          have := congrArg List.length (pCR_of hT).1
          rw [List.length_append, len_size, len_size] at this
          have := hrp.out.1
          omega)
        have hR2 := hid (show pL16 s.data.toList = (pCRs (n - (j + 1)) r2.data.toList).map fun y => ((pre ++ [c]) ++ y.1, y.2) by
          rw [hR.out, hst.out, pCRs_step hT, Option.map_map]
          congr 1
          funext y
          simp)
        have hB3 := hid (show w.heap.size ≤ W4.heap.size from bw.out.size)
        clear hT hR
        obtain ⟨k0, k1, k2, k3, k4, kf⟩ := five K.out
        obtain ⟨so', cap', W1, hrun, ho, hbl, hkp, hsz3⟩ := push (P := Try.prog) W4 w.heap.size 62 28 ic zc 5 72 Try.underlying62 hi hz0 hz1 hz2 hz3 (by decide) _ j _ hown3.out (chV c) rfl (by intro u hu; simp [chV] at hu; rcases hu with rfl | rfl | rfl | rfl | rfl <;> rfl) (by unfold maxLen; omega) (by omega) hB3.out
        replace bw := hid (bw.out.trans hbl)
        replace hrun := hid hrun
        replace ho := hid ho
        clear hbl hkp hsz3 hown3 hB3
        go_wp2_with (at_builtin; refine wpList_push rfl (.tmp 31) (.tmp 33) _ _ rfl _ _ _ _ rfl rfl hrun.out ?_)
        go_roundw
        case rel => exact ⟨j + 1, pre ++ [c], r2, by omega, by go_num, rfl, hid ⟨hsz2.out, by rw [List.length_append, hrp.out.2]; rfl⟩, hR2, ⟨_, _, rfl, hid (by rw [chC_app, show chC [c] = chV c from List.append_nil _]; exact ho.out)⟩, bw⟩
        case measure => simp [intOf]; omega
      · have hfin := hid (show pL16 s.data.toList = none by rw [hR.out, hst.out, pCRs_stop hT]; rfl)
        clear hT hR hown3 K
        go_wp2_with fail
        go_ret3
        exact ⟨⟨none, 0, [], ⟨#[]⟩, false, rfl, World.ownsRow_nil _ _ _ _, .inr ⟨rfl, rfl, rfl, rfl, rfl, hfin.out⟩⟩, bw.out⟩
    · obtain rfl : j = n := by omega
      have hji : ¬ (j : Int) < (j : Int) := by omega
      have hfin := hid (show pL16 s.data.toList = some (pre, r.data.toList) by
        rw [hR.out, Nat.sub_self]
        show (some (([] : List Ch), r.data.toList)).map _ = _
        simp)
      have hlen := hid hrp.out.2
      clear hR
      go_wp2_with fail
      go_ret3
      exact ⟨⟨so, cap, pre, r, true, by rw [hlen.out]; rfl, by rw [hlen.out]; exact hown.out, .inl ⟨rfl, hfin.out⟩⟩, bw.out⟩
/-- what Unpack answers -/
def UnQ (s : List UInt8) (l : List Ch) (z : Int) : Prop := z = 0 ∧ packR l ∧ packE l = s ∨ z = 14 ∧ l = [] ∧ ∀ l0, packR l0 → packE l0 ≠ s
set_option maxHeartbeats 4000000 in
theorem unpack_ref (s : ByteArray) (w : World) (hs : s.size ≤ 16777216) : Calls Try.prog 26 #[.string s] w fun e w' => (∃ so cap l z, e = .returned (.tuple #[.slice so l.length cap, .int .i64 z]) ∧ w'.ownsRow w.heap.size 28 5 (.slice so l.length cap) l.length (chC l) ∧ UnQ s.data.toList l z) ∧ Below w.heap.size w w' := by
  go_enter Try.func26, Try.ntmps26
  go_wp2_with fail
  refine (some16_ref s w hs).mono ?_
  rintro e w3 ⟨⟨so, cap, l, r, ok, rfl, hown, hA⟩, q3⟩
  replace hown := hid hown
  replace q3 := hid q3
  rcases hA with ⟨rfl, h⟩ | ⟨rfl, rfl, rfl, rfl, rfl, h⟩
  · by_cases he : r.toList.isEmpty = true
    · have hr : r.data.toList = [] := by
        rw [ByteArray.toList_eq, List.isEmpty_iff] at he
        exact he
      have hfin := hid (show UnQ s.data.toList l 0 from .inl ⟨rfl, (pL16_of h).2, by have := (pL16_of h).1; rw [hr, List.append_nil] at this; exact this.symm⟩)
      clear h hr
      go_wp2_with fail
      go_ret2
      exact ⟨⟨_, _, l, _, rfl, hown.out, hfin.out⟩, q3.out⟩
    · have hfin := hid (show UnQ s.data.toList [] 14 from .inr ⟨rfl, rfl, fun l0 h0 e => he (by
        have := pL16_E l0 [] h0
        rw [List.append_nil, e, h] at this
        simp only [Option.some.injEq, Prod.mk.injEq] at this
        rw [ByteArray.toList_eq, this.2]; rfl)⟩)
      have he2 : r.toList.isEmpty = false := by simpa using he
      clear h he
      go_wp2_with fail
      go_ret2
      exact ⟨⟨none, 0, [], _, rfl, World.ownsRow_nil _ _ _ _, hfin.out⟩, q3.out⟩
  · have hfin := hid (show UnQ s.data.toList [] 14 from .inr ⟨rfl, rfl, fun l0 h0 e => by
      have := pL16_E l0 [] h0
      rw [List.append_nil, e, h] at this
      cases this⟩)
    clear h
    go_wp2_with fail
    go_ret2
    exact ⟨⟨none, 0, [], _, rfl, World.ownsRow_nil _ _ _ _, hfin.out⟩, q3.out⟩
end Go.Proofs.Ytldlkoiekdlmhaa.Wi
namespace Go.Proofs.Ytldlkoiekdlmhaa.Wi
open Go.Proofs.Ytldlkoiekdlmhaa.Crc hiding hid bt
set_option linter.unusedVariables false
set_option linter.unusedSimpArgs false
/-- if any right request has these bytes, it is a, and nothing was missing -/
def Hit (s : List UInt8) (a : Ask) (ok : Bool) : Prop := ∀ a', askR a' → askN a' → askE a' = s → ok = true ∧ a' = a
theorem hit_yes {s t : ByteArray} {a : Ask} {z : Int} (hN : askN a) (hW : AskW a t z) (hz : z = 0) (ht : t = s) : AskP s.data.toList a 0 := by
  rcases hW with ⟨_, hr, he⟩ | ⟨h, _⟩
  · exact .inl ⟨rfl, hr, hN, by rw [← ht, he, bs_list]⟩
  · rw [h] at hz; exact absurd hz (by decide)
theorem hit_no {s t : ByteArray} {a : Ask} {ok : Bool} {z : Int} (h : Hit s.data.toList a ok) (hW : AskW a t z) (hn : ¬ (ok = true ∧ z = 0 ∧ t = s)) : AskP s.data.toList askZ 14 := by
  refine .inr ⟨rfl, rfl, fun a' hr hN he => hn ?_⟩
  obtain ⟨h1, rfl⟩ := h a' hr hN he
  rcases hW with ⟨hz, _, ht⟩ | ⟨_, hno, _⟩
  · exact ⟨h1, hz, by rw [ht, he, bs_of]⟩
  · exact absurd hr hno
theorem askE_head {a' : Ask} {c0 : UInt8} {s1 : List UInt8} (hN : askN a') (he : askE a' = c0 :: s1) : a'.k = c0.toNat ∧ askT a' = s1 := by
  unfold askE at he
  simp only [List.cons.injEq] at he
  refine ⟨?_, he.2⟩
  rw [← he.1, UInt8.toNat_ofNat']
  have := hN.1
  omega
theorem hit_1 {c0 : UInt8} {s1 : List UInt8} (h2 : c0.toNat ≠ 2) (h3 : c0.toNat ≠ 3) (h4 : c0.toNat ≠ 4) (h5 : c0.toNat ≠ 5) (h6 : c0.toNat ≠ 6) : Hit (c0 :: s1) { askZ with k := c0.toNat } true := by
  intro a' hr hN he
  obtain ⟨hk, ht⟩ := askE_head hN he
  refine ⟨rfl, ?_⟩
  generalize c0.toNat = kk at *
  obtain ⟨k, tx, c, v, s0, s1', s2, s3, s4, s5, s6⟩ := a'
  simp only at hk
  subst hk
  simp_all [askR, noQ, askZ]
theorem hit_3 {c0 : UInt8} {s1 r : ByteArray} {n : Nat} {ok : Bool} (hk0 : c0.toNat = 3 ∨ c0.toNat = 4) (hn : NmP s1 n r ok) : Hit (c0 :: s1.data.toList) { askZ with k := c0.toNat, tx := n } ok := by
  intro a' hr hN he
  obtain ⟨hk, ht⟩ := askE_head hN he
  have ht' : askT a' = leb 8 a'.tx := by
    unfold askT
    rw [if_neg (by omega), if_pos (by omega)]
  have hp := pN_leb a'.tx [] hN.2.1
  rw [List.append_nil, ← ht', ht] at hp
  rcases hn.2 with ⟨rfl, h⟩ | ⟨_, _, _, h⟩
  · rw [hp] at h
    simp only [Option.some.injEq, Prod.mk.injEq] at h
    refine ⟨rfl, ?_⟩
    rw [← h.1, ← hk]
    rw [← hk] at hk0
    clear he ht ht' hp hN h hn hk
    obtain ⟨k, tx, c, v, s0, s1', s2, s3, s4, s5, s6⟩ := a'
    simp only at hk0
    rcases hk0 with rfl | rfl <;> simp_all [askR, noQ, askZ]
  · rw [hp] at h; cases h
theorem hit_2 {c0 : UInt8} {s1 r : ByteArray} {n : Nat} {ok : Bool} {l : List Ch} {z : Int} (hk0 : c0.toNat = 2) (hn : NmP s1 n r ok) (hu : UnQ r.data.toList l z) :
    ∀ a', askR a' → askN a' → askE a' = c0 :: s1.data.toList → z = 0 ∧ ok = true ∧ a'.tx = n ∧ l = [a'.c] ∧ a' = { askZ with k := c0.toNat, tx := a'.tx, c := a'.c } := by
  intro a' hr hN he
  obtain ⟨hk, ht⟩ := askE_head hN he
  have hc : cR a'.c := by have := hr.2.2.1; rw [if_pos (by omega)] at this; exact this
  have hpk := packR_one.2 hc
  have ht' : askT a' = leb 8 a'.tx ++ packE [a'.c] := by
    unfold askT
    rw [if_pos (by omega)]
  have hp := pN_leb a'.tx (packE [a'.c]) hN.2.1
  rw [← ht', ht] at hp
  rcases hn.2 with ⟨rfl, h⟩ | ⟨_, _, _, h⟩
  · rw [hp] at h
    simp only [Option.some.injEq, Prod.mk.injEq] at h
    have hl : z = 0 ∧ l = [a'.c] := by
      rcases hu with ⟨hz, hR, e⟩ | ⟨_, _, hno⟩
      · exact ⟨hz, packE_inj hR hpk (e.trans h.2.symm)⟩
      · exact absurd h.2 (hno _ hpk)
    refine ⟨hl.1, rfl, h.1, hl.2, ?_⟩
    rw [← hk]
    have hk2 : a'.k = 2 := by omega
    clear he ht ht' hp hN h hn hk hk0 hl hu hpk
    obtain ⟨k, tx, c, v, s0, s1', s2, s3, s4, s5, s6⟩ := a'
    simp only at hk2
    subst hk2
    simp_all [askR, noQ, askZ]
  · rw [hp] at h; cases h
theorem qE_seven (a : Ask) (t : List UInt8) (h : qS a) : pTs 7 (qE a ++ t) = some ([a.s0, a.s1, a.s2, a.s3, a.s4, a.s5, a.s6], t) := by
  have := pTs_E [a.s0, a.s1, a.s2, a.s3, a.s4, a.s5, a.s6] t (by intro c hc; unfold qS at h; simp at hc; rcases hc with rfl | rfl | rfl | rfl | rfl | rfl | rfl <;> omega)
  rw [← this]
  show pTs 7 _ = pTs 7 _
  congr 1
  simp [qE]
theorem hit_56 {c0 : UInt8} {s1 s2 r : ByteArray} {n : Nat} {ok0 ok : Bool} {x0 x1 x2 x3 x4 x5 x6 : ByteArray} (hk0 : c0.toNat = 5 ∧ s2 = s1 ∧ n = 0 ∧ ok0 = true ∨ c0.toNat = 6 ∧ NmP s1 n s2 ok0)
    (h7 : ok = true ∧ ok0 = true ∧ pTs 7 s2.data.toList = some ([x0, x1, x2, x3, x4, x5, x6], r.data.toList) ∨ ok = false ∧ (ok0 = false ∨ pTs 7 s2.data.toList = none)) :
    Hit (c0 :: s1.data.toList) { askZ with k := c0.toNat, v := n, s0 := x0, s1 := x1, s2 := x2, s3 := x3, s4 := x4, s5 := x5, s6 := x6 } ok := by
  intro a' hr hN he
  obtain ⟨hk, ht⟩ := askE_head hN he
  have hq : qS a' := by have := hr.2.2.2.2; rw [if_pos (by omega)] at this; exact this
  have key : ok0 = true ∧ a'.v = n ∧ s2.data.toList = qE a' := by
    rcases hk0 with ⟨h5, rfl, rfl, rfl⟩ | ⟨h6, hn⟩
    · refine ⟨rfl, hr.2.2.2.1 (by omega), ?_⟩
      rw [← ht]
      unfold askT
      rw [if_neg (by omega), if_neg (by omega), if_pos (by omega)]
    · have ht' : askT a' = leb 8 a'.v ++ qE a' := by
        unfold askT
        rw [if_neg (by omega), if_neg (by omega), if_neg (by omega), if_pos (by omega)]
      have hp := pN_leb a'.v (qE a') hN.2.2.1
      rw [← ht', ht] at hp
      rcases hn.2 with ⟨rfl, h⟩ | ⟨_, _, _, h⟩
      · rw [hp] at h
        simp only [Option.some.injEq, Prod.mk.injEq] at h
        exact ⟨rfl, h.1, h.2.symm⟩
      · rw [hp] at h; cases h
  have hp := qE_seven a' [] hq
  rw [List.append_nil, ← key.2.2] at hp
  rcases h7 with ⟨rfl, _, h⟩ | ⟨_, h | h⟩
  · rw [hp] at h
    simp only [Option.some.injEq, Prod.mk.injEq, List.cons.injEq, and_true] at h
    refine ⟨rfl, ?_⟩
    obtain ⟨⟨e0, e1, e2, e3, e4, e5, e6⟩, _⟩ := h
    rw [← e0, ← e1, ← e2, ← e3, ← e4, ← e5, ← e6, ← key.2.1, ← hk]
    have hk2 : a'.k = 5 ∨ a'.k = 6 := by omega
    clear he ht hp hN hk hk0 key e0 e1 e2 e3 e4 e5 e6 hq
    obtain ⟨k, tx, c, v, s0, s1', s2, s3, s4, s5, s6⟩ := a'
    simp only at hk2
    rcases hk2 with rfl | rfl <;> simp_all [askR, noQ, askZ]
  · rw [key.1] at h; cases h
  · rw [hp] at h; cases h
theorem AskP.one {s : List UInt8} {r r2 : Ask} {z z2 : Int} (h : AskP s r z) (g : AskP s r2 z2) : r = r2 ∧ z = z2 := by
  rcases h with ⟨rfl, h1, h2, h3⟩ | ⟨rfl, rfl, h⟩ <;> rcases g with ⟨rfl, g1, g2, g3⟩ | ⟨rfl, rfl, g⟩
  · exact ⟨askE_inj h1 g1 h2 g2 (h3.trans g3.symm), rfl⟩
  · exact absurd h3 (g _ h1 h2)
  · exact absurd g3 (h _ g1 g2)
  · exact ⟨rfl, rfl⟩
theorem AskW.one {a : Ask} {s s2 : ByteArray} {z z2 : Int} (h : AskW a s z) (g : AskW a s2 z2) : s = s2 ∧ z = z2 := by
  rcases h with ⟨rfl, h1, h2⟩ | ⟨rfl, h1, h2⟩ <;> rcases g with ⟨rfl, g1, g2⟩ | ⟨rfl, g1, g2⟩
  · exact ⟨h2.trans g2.symm, rfl⟩
  · exact absurd h1 g1
  · exact absurd g1 h1
  · exact ⟨h2.trans g2.symm, rfl⟩
end Go.Proofs.Ytldlkoiekdlmhaa.Wi
