/-
  eval.between: its contract.
-/
import Derived.Test.YtocibbnenelniaaLikBuild
import Derived.Test.YtocibbnenelniaaLikMath
namespace Go.Proofs.Ytocibbnenelniaa.Lik
open Go.ChangeShapes Go.WideShapes Go.ChangeAt Go.RowKit
open Go.Proofs.Ytocibbnenelniaa.Mem
set_option linter.unusedVariables false
set_option linter.unusedSimpArgs false
set_option maxRecDepth 100000
theorem infoStr : (Try.prog.info? 9).map (fun i => (i.zero, i.size, i.bytes)) = some (some (.string ⟨#[]⟩), 1, 16) := by kernel_rfl
theorem pre_is (s : ByteArray) (k : Nat) (b : Bool) (w : World) (h : Lib.hasPrefix (s.data.toList.drop k) [92, 42] = b) :
    Calls Try.prog 9 #[.string (s.extract k s.size), .string ⟨#[92, 42]⟩] w fun e w' => e = .returned (.bool b) ∧ w = w' := by
  refine (Try.strings_HasPrefix _ _ w).mono ?_
  rintro e w' ⟨rfl, rfl⟩
  refine ⟨?_, rfl⟩
  rw [Lib.extract_data, List.take_of_length_le (by rw [List.length_drop, ← Lib.size_eq]; omega)]
  show Ending.returned (.bool (Lib.hasPrefix (s.data.toList.drop k) [92, 42])) = _
  rw [h]
theorem bld_star (B b : Nat) (l : By) (w : World) (h : IsB B b l w) (hlen : l.length + 1 ≤ 140737488355328) (hBw : B ≤ w.heap.size) :
    Calls Try.prog 10 #[.pointer (some ⟨b, 0, none⟩), .int .u8 42] w fun e w' => e = .returned .nilIface ∧ IsB B b (l ++ [42]) w' ∧ Below B w w' ∧ Kept b w w' := bld_byte B b l 42 w h hlen hBw
theorem strs_len (L : List By) : (strC (L.map bs)).length = L.length * 1 := by simp [strC]
theorem row_kind {w : World} {base : Nat} {e : TypeId} {v : Value} {n : Nat} {xs : List Value} (h : w.ownsRow base e 1 v n xs) (g : Nat) (q : v.ownBlock = some g) : ∃ c fz, w.heap[g]? = some (.cells c e fz) := by
  rcases h.2 with ⟨rfl, -⟩ | ⟨g', cap, cur, rfl, -, hg, -⟩
  · cases q
  · cases q; exact ⟨_, _, hg⟩
theorem IsB.blk {B b : Nat} {l : By} {w : World} (h : IsB B b l w) : ∃ cs, Blk w b cs 33 := by
  obtain ⟨p, v, h1, -⟩ := h.at
  exact ⟨[p, v], ⟨h1⟩⟩
theorem IsB.alloc {B b : Nat} {l : By} {w : World} (h : IsB B b l w) (o : Obj) : IsB B b l (w.alloc o) := by
  rcases h with h | h
  · exact .inl (Lib.BuilderAtF.alloc h o)
  · exact .inr (Lib.BuilderAtF.alloc h o)
/-- what is kept from round to round -/
structure Rnd (s : ByteArray) (w : World) (n0 : Nat) (t : Value) (L : List By) (cur : By) (k : Nat) (wr : World) : Prop where
  said : L ++ btw (s.data.toList.drop k) cur = btw s.data.toList []
  few : L.length ≤ k
  short : cur.length ≤ k
  bld : IsB n0 n0 cur wr
  row : wr.ownsRow n0 9 1 t L.length (strC (L.map bs))
  below : Below n0 w wr
  room : n0 ≤ wr.heap.size
theorem Rnd.byte {s : ByteArray} {w : World} {n0 : Nat} {t : Value} {L : List By} {cur : By} {k : Nat} {wr w2 : World} (h : Rnd s w n0 t L cur k wr) (c : UInt8) (k' : Nat) (hk : k + 1 ≤ k') (g : IsB n0 n0 (cur ++ [c]) w2) (b : Below n0 wr w2) (q : Kept n0 wr w2)
    (e : btw (s.data.toList.drop k) cur = btw (s.data.toList.drop k') (cur ++ [c])) : Rnd s w n0 t L (cur ++ [c]) k' w2 := by
  obtain ⟨cs, hb⟩ := h.bld.blk
  have h1 := h.few; have h2 := h.short
  exact ⟨by rw [← e]; exact h.said, by omega, by simp; omega, g, own_kept h.row q hb (by decide) (by decide), h.below.trans b, Nat.le_trans h.room b.size⟩
theorem drop_one (s : ByteArray) (k : Nat) (h : k < s.size) : s.data.toList.drop k = s[k] :: s.data.toList.drop (k + 1) := by
  rw [List.drop_eq_getElem_cons (by rw [← Lib.size_eq]; exact h)]
  rfl
set_option maxHeartbeats 4000000 in
theorem between_any (s : ByteArray) (w : World) (hs : s.size ≤ 4194304) :
    Calls Try.prog 5 #[.string s] w fun e w' => ∃ v, e = .returned v ∧ w'.ownsRow w.heap.size 9 1 v (btw s.data.toList []).length (strC ((btw s.data.toList []).map bs)) ∧ Below w.heap.size w w' := by
  obtain ⟨i0, hi, hz0, hz1, hz2⟩ := info_parts infoStr
  have hn0 : ∃ n0, n0 = w.heap.size := ⟨_, rfl⟩
  obtain ⟨n0, hn0⟩ := hn0
  have hn := hid hn0
  clear hn0
  have hsi : (s.size : Int) ≤ 4194304 := by omega
  go_enter Try.func5, Try.ntmps5
  go_wp2
  have hst : Hid (Rnd s w w.heap.size (.slice none 0 0) [] [] 0 (w.alloc (.cells #[.pointer none, .slice none 0 0] 33))) := hid
    ⟨by simp, by simp, by simp, IsB.fresh w, ⟨rfl, .inl ⟨rfl, rfl⟩⟩, (Below.refl _ w).alloc (Nat.le_refl _) _, by simp⟩
  generalize hw1 : w.alloc (.cells #[.pointer none, .slice none 0 0] 33) = w1 at hst ⊢
  clear hw1
  rw [← hn.out] at hst ⊢
  have hn2 := hid hn.out
  clear hn
  go_loopw [3, 5] (fun t i wr => ∃ (L : List By) (cur : By) (k : Nat), k ≤ s.size ∧ i = .int .i64 k ∧ Hid (Rnd s w n0 t L cur k wr)) (fun _ i _ => s.size - (intOf i).toNat)
  case atStart => exact ⟨[], [], 0, Nat.zero_le _, rfl, hst⟩
  case round =>
    obtain ⟨L, cur, k, hk, rfl, hR⟩ := hrel
    clear hst
    have hlen := hR.out.short
    have hroom := hR.out.room
    by_cases hlt : k < s.size
    · have hki : (k : Int) < s.size := by omega
      have hk0 : (0 : Int) ≤ (k : Int) := by omega
      have hd := hid (drop_one s k hlt)
      by_cases hp : Lib.hasPrefix (s.data.toList.drop k) [92, 42] = true
      · have hp' := hid hp
        clear hp
        have hk2 : k + 2 ≤ s.size ∧ btw (s.data.toList.drop k) cur = btw (s.data.toList.drop (k + 2)) (cur ++ [42]) := by
          have h1 := hp'.out
          simp only [Lib.hasPrefix, List.isPrefixOf_iff_prefix] at h1
          obtain ⟨r, hr⟩ := h1
          have hl := congrArg List.length hr
          simp only [List.length_append, List.length_cons, List.length_nil, List.length_drop, ← Lib.size_eq] at hl
          refine ⟨by omega, ?_⟩
          rw [← hr, show s.data.toList.drop (k + 2) = (s.data.toList.drop k).drop 2 by rw [List.drop_drop], ← hr]
          exact btw_esc r cur
        obtain ⟨hk2, he⟩ := hk2
        have he := hid he
        have hk2i : (k : Int) + 2 ≤ s.size := by omega
        go_wp2_with fail
        refine (pre_is s k true _ hp'.out).mono ?_
        rintro e w' ⟨rfl, rfl⟩
        go_wp2_with fail
        refine (bld_star n0 n0 cur _ hR.out.bld (by omega) hroom).mono ?_
        rintro e w2 ⟨rfl, g1, g2, g3⟩
        have hR2 := hid (hR.out.byte 42 (k + 2) (by omega) g1 g2 g3 he.out)
        clear g1 g2 g3 hR
        go_wp2
        go_roundw
        case rel => exact ⟨L, cur ++ [42], k + 2, hk2, by go_num, hR2⟩
        case measure => simp [intOf]; omega
      · have hp' := hid (Bool.eq_false_iff.2 hp)
        clear hp
        by_cases hc : s[k] = 42
        · have hci : ((s[k].toNat : Int) == 42) = true := by rw [hc]; rfl
          have he := hid (show btw (s.data.toList.drop k) cur = cur :: btw (s.data.toList.drop (k + 1)) [] by rw [hd.out, hc, btw_star])
          clear hc
          go_wp2_with fail
          refine (pre_is s k false _ hp'.out).mono ?_
          rintro e w' ⟨rfl, rfl⟩
          go_wp2_with fail
          refine (bld_string n0 n0 cur _ hR.out.bld hroom).mono ?_
          rintro e w2 ⟨rfl, g1, g2, g3⟩
          obtain ⟨cs, hb⟩ := hR.out.bld.blk
          have hrow := own_kept hR.out.row g3 hb (by decide) (by decide)
          have hw2 := hid (Nat.le_trans hroom g2.size)
          have hbel := hid (hR.out.below.trans g2)
          have g1' := hid g1
          have hrow' := hid hrow
          have hs' := hid (And.intro hR.out.said hR.out.few)
          clear hb hrow g1 g2 g3 hR
          go_wp2_with (at_builtin; refine wpList_append_own _ rfl _ _ 24 rfl n0 9 i0 (.string ⟨#[]⟩) 1 16 Try.underlying24 hi hz0 hz1 hz2 rfl (by decide) _ _ _ rfl (ownsRow_below hrow'.out ((Below.refl _ _).alloc (Nat.le_refl _) _)) ⟨w2.heap.size, 0, none⟩ 1 1 [.string (bs cur)] rfl rfl ?c1 ?c2 ?c3 ?c4 ?c5 ?_)
          case c1 =>
            intro j u hj
            match j, hj with
            | 0, hj => simp at hj; subst hj; simp [Addr.add]
          case c2 => intro u hu; simp at hu; subst hu; rfl
          case c3 => have := hs'.out.2; unfold maxLen; omega
          case c4 => have := hs'.out.2; omega
          case c5 => have := hw2.out; simp; omega
          intro v' w3 hown hgr _
          have hal := hid (g1'.out.alloc (.cells #[.string (bs cur)] 9))
          have g4 := hid (hal.out.grown hgr (fun g q => by
            obtain ⟨c, fz, hc⟩ := row_kind (ownsRow_below hrow'.out ((Below.refl _ _).alloc (Nat.le_refl _) (.cells #[.string (bs cur)] 9))) g q
            exact ⟨c, _, fz, hc, by decide, by decide⟩))
          have hbel3 := hid (show Below n0 w w3 from (hbel.out.alloc hw2.out _).grown hgr (by have := hw2.out; simp; omega) (fun q hq => (hrow'.out.lt q hq).1))
          have hw3 := hid (show n0 ≤ w3.heap.size from by have h1 := hgr.size; have h2 := hw2.out; simp at h1; omega)
          have hown' := hid hown
          clear hown hgr hal
          go_wp2_with fail
          refine (bld_reset n0 n0 cur _ g4.out).mono ?_
          rintro e w4 ⟨rfl, q1, q2, q3⟩
          obtain ⟨cs, hb⟩ := g4.out.blk
          have hR2 : Hid (Rnd s w n0 v' (L ++ [cur]) [] (k + 1) w4) := hid ⟨by have := hs'.out.1; rw [he.out] at this; simpa using this, by have := hs'.out.2; simp; omega, by simp, q1, by
            have := own_kept hown'.out q3 hb (by decide) (by decide)
            simpa [strC] using this, hbel3.out.trans q2, Nat.le_trans hw3.out q2.size⟩
          clear hb q1 q2 q3
          go_wp2
          go_roundw
          case rel => exact ⟨L ++ [cur], [], k + 1, by omega, by go_num, hR2⟩
          case measure => simp [intOf]; omega
        · have hci : ((s[k].toNat : Int) == 42) = false := by
            rw [beq_eq_false_iff_ne]
            intro q
            exact hc (UInt8.toNat_inj.1 (by simpa using (Int.ofNat.inj q : s[k].toNat = 42)))
          have he := hid (show btw (s.data.toList.drop k) cur = btw (s.data.toList.drop (k + 1)) (cur ++ [s[k]]) by
            have := hp'.out
            rw [hd.out] at this ⊢
            exact btw_else _ _ _ this hc)
          clear hc
          go_wp2_with fail
          refine (pre_is s k false _ hp'.out).mono ?_
          rintro e w' ⟨rfl, rfl⟩
          go_wp2_with fail
          refine (bld_byte n0 n0 cur s[k] _ hR.out.bld (by omega) hroom).mono ?_
          rintro e w2 ⟨rfl, g1, g2, g3⟩
          have hR2 := hid (hR.out.byte s[k] (k + 1) (by omega) g1 g2 g3 he.out)
          clear g1 g2 g3 hR
          go_wp2
          go_roundw
          case rel => exact ⟨L, cur ++ [s[k]], k + 1, by omega, by go_num, hR2⟩
          case measure => simp [intOf]; omega
    · have hke : s.data.toList.drop k = [] := List.drop_eq_nil_of_le (by rw [← Lib.size_eq]; omega)
      have hend := hid (show L ++ [cur] = btw s.data.toList [] from by have := hR.out.said; rw [hke, btw] at this; exact this)
      have hki : (s.size : Int) ≤ k := by omega
      clear hke
      go_wp2_with fail
      refine (bld_string n0 n0 cur _ hR.out.bld hroom).mono ?_
      rintro e w2 ⟨rfl, g1, g2, g3⟩
      obtain ⟨cs, hb⟩ := hR.out.bld.blk
      have hrow := own_kept hR.out.row g3 hb (by decide) (by decide)
      have hw2 := hid (Nat.le_trans hroom g2.size)
      have hbel := hid (hR.out.below.trans g2)
      have hrow' := hid hrow
      have hs' := hid (hR.out.few)
      clear hb hrow g1 g2 g3 hR
      go_wp2_with (at_builtin; refine wpList_append_own _ rfl _ _ 24 rfl n0 9 i0 (.string ⟨#[]⟩) 1 16 Try.underlying24 hi hz0 hz1 hz2 rfl (by decide) _ _ _ rfl (ownsRow_below hrow'.out ((Below.refl _ _).alloc (Nat.le_refl _) _)) ⟨w2.heap.size, 0, none⟩ 1 1 [.string (bs cur)] rfl rfl ?c1 ?c2 ?c3 ?c4 ?c5 ?_)
      case c1 =>
        intro j u hj
        match j, hj with
        | 0, hj => simp at hj; subst hj; simp [Addr.add]
      case c2 => intro u hu; simp at hu; subst hu; rfl
      case c3 => have := hs'.out; unfold maxLen; omega
      case c4 => have := hs'.out; omega
      case c5 => have := hw2.out; simp; omega
      intro v' w3 hown hgr _
      have hbel3 := hid (show Below n0 w w3 from (hbel.out.alloc hw2.out _).grown hgr (by have := hw2.out; simp; omega) (fun q hq => (hrow'.out.lt q hq).1))
      have hown' := hid hown
      clear hown hgr
      go_wp2
      go_ret
      rw [← hn2.out]
      refine ⟨_, rfl, ?_, hbel3.out⟩
      have := hown'.out
      rw [← hend.out]
      simpa [strC] using this
end Go.Proofs.Ytocibbnenelniaa.Lik
