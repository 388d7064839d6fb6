/-
  token.Quote: its walk.
-/
import Derived.Test.YtklclfolmfhocaaGreatDoorTokQuote
namespace Go.Proofs.YtklclfolmfhocaaGreatDoor.Tok
open Go.ChangeShapes Go.WideShapes Go.ChangeAt Go.RowKit Go.Maps
open Go.Proofs.YtklclfolmfhocaaGreatDoor.Mem Go.Proofs.YtklclfolmfhocaaGreatDoor.Lik
set_option linter.unusedVariables false
set_option linter.unusedSimpArgs false
set_option maxRecDepth 100000
theorem map_kept {w w' : World} {P : Program} {k : TypeId} {R : Value → Option (DataW Unit × List MemPlace)} {b n nb : Nat} {D : DataW Unit} (h : w.ownsMap P k R b n D) (q : Kept nb w w') (hb : ∃ cs T, Blk w nb cs T) : w'.ownsMap P k R b n D := by
  obtain ⟨es, clock, h1, h2, h3, h4⟩ := h
  refine ⟨es, clock, q b _ h1 ?_ (fun c fz e => by cases e), h2, h3, h4⟩
  intro e
  obtain ⟨cs, T, hB⟩ := hb
  have e := Option.some.inj e
  subst e
  rw [hB.at'] at h1
  cases h1
theorem pre_is (s : ByteArray) (k : Nat) (b : Bool) (w : World) (h : Lib.hasPrefix (s.data.toList.drop k) [92, 42] = b) :
    Calls Tryz.prog 131 #[.string (s.extract k s.size), .string ⟨#[92, 42]⟩] w fun e w' => e = .returned (.bool b) ∧ w = w' := by
  refine (Tryz.strings_HasPrefix _ _ w).mono ?_
  rintro e w' ⟨rfl, rfl⟩
  refine ⟨?_, rfl⟩
  rw [Lib.extract_data, List.take_of_length_le (by rw [List.length_drop, ← Lib.size_eq]; omega)]
  show Ending.returned (.bool (Lib.hasPrefix (s.data.toList.drop k) [92, 42])) = _
  rw [h]
theorem bld_const (c : Nat) (hc : c < 256) (B b : Nat) (l : By) (w : World) (h : IsB B b l w) (hlen : l.length + 1 ≤ 140737488355328) (hBw : B ≤ w.heap.size) :
    Calls Tryz.prog 164 #[.pointer (some ⟨b, 0, none⟩), .int .u8 c] w fun e w' => e = .returned .nilIface ∧ IsB B b (l ++ [UInt8.ofNat c]) w' ∧ Below B w w' ∧ Kept b w w' := by
  have := bld_byte B b l (UInt8.ofNat c) w h hlen hBw
  rw [UInt8.toNat_ofNat_of_lt' hc] at this
  exact this
theorem drop_one (s : ByteArray) (k : Nat) (h : k < s.size) : s.data.toList.drop k = s[k] :: s.data.toList.drop (k + 1) := by
  rw [List.drop_eq_getElem_cons (by rw [← Lib.size_eq]; exact h)]
  rfl
/-- what is kept from round to round -/
structure Rq (s : ByteArray) (n0 M n : Nat) (D : DataW Unit) (wc : World) (k : Nat) (wr : World) : Prop where
  bld : IsB n0 n0 (quoteTo s.data.toList k) wr
  map : wr.ownsMap Tryz.prog 5 (plainElem Tryz.prog 5) M n D
  below : Below n0 wc wr
  room : n0 ≤ wr.heap.size
theorem isB_blk {B b : Nat} {l : By} {w : World} (h : IsB B b l w) : ∃ cs T, Blk w b cs T := by
  obtain ⟨p, v, h1, -⟩ := h.at
  exact ⟨[p, v], _, ⟨h1⟩⟩
theorem bytes_app (a b : By) (c : UInt8) (h : b = [c]) : a ++ b = a ++ [c] := by rw [h]
set_option maxHeartbeats 8000000 in
theorem quote_any (hV : ValidTold) (s : ByteArray) (w : World) (hs : s.size ≤ 140737488355328) (hT : Tabs w) :
    Calls Tryz.prog 119 #[.string s] w fun e w' => e = .returned (.tuple #[.string (bs (if checkE s = 0 then quoteL s.data.toList else [])), .int .i64 (checkE s)]) ∧ Below w.heap.size w w' := by
  have hct := hid (checkText_any hV s w hs hT)
  clear hT hV
  by_cases hz : checkE s = 0
  · have hz' := hid hz
    rw [hz] at hct
    have hs2 : s.size ≤ 256 := by
      unfold checkE at hz
      split at hz
      · split at hz
        · cases hz
        · omega
      · cases hz
    have hsi : (s.size : Int) ≤ 256 := by omega
    rw [if_pos hz, hz]
    clear hz hs
    go_enter Tryz.func119, Tryz.ntmps119
    go_wp2_with fail
    refine hct.out.mono ?_
    rintro e wc ⟨rfl, Bc⟩
    have Bc := hid Bc
    clear hct
    go_wp2_with fail
    refine (letters_any _).mono ?_
    rintro e w2 ⟨D, n, rfl, hn, hM, hD, B2⟩
    have hb0 : Hid (IsB wc.heap.size wc.heap.size [] w2) := by
      have h0 := IsB.fresh wc
      refine hid ?_
      obtain ⟨p, v, h1, hB, h2, h3⟩ := h0.at
      have hal : (wc.alloc (.cells #[.pointer none, .slice none 0 0] 210)).heap.size = wc.heap.size + 1 := by simp
      refine .inl ⟨Nat.le_refl _, .slice none 0 0, ?_, ⟨rfl, .inl ⟨rfl, rfl⟩⟩, by simp [Value.ownBlock]⟩
      rw [B2.block wc.heap.size (by rw [hal]; omega)]
      exact (Blk.new wc [.pointer none, .slice none 0 0] 210).at'
    have hal : (wc.alloc (.cells #[.pointer none, .slice none 0 0] 210)).heap.size = wc.heap.size + 1 := by simp
    rw [hal] at hM ⊢
    have X2 := hid (((Below.refl wc.heap.size wc).alloc (Nat.le_refl _) (.cells #[.pointer none, .slice none 0 0] 210)).trans (B2.mono (by rw [hal]; omega)))
    have hw2 := hid (Nat.le_trans (show wc.heap.size ≤ _ by rw [hal]; omega) B2.size)
    have hD := hid hD
    clear B2
    obtain ⟨n0, hn0⟩ : ∃ n0, n0 = wc.heap.size := ⟨_, rfl⟩
    rw [← hn0] at hb0 hM X2 hw2 ⊢
    have Bc : Hid (Below w.heap.size w wc ∧ w.heap.size ≤ n0) := hid ⟨Bc.out, by rw [hn0]; exact Bc.out.size⟩
    clear hn0 hal
    go_wp2_with fail
    refine (bld_const 34 (by omega) n0 n0 [] _ hb0.out (by simp) hw2.out).mono ?_
    rintro e w3 ⟨rfl, g1, g2, g3⟩
    have hR0 : Hid (Rq s n0 (n0 + 1) n D wc 0 w3) := hid ⟨g1, map_kept hM g3 (isB_blk hb0.out), X2.out.trans g2, Nat.le_trans hw2.out g2.size⟩
    clear g1 g2 g3 hb0 hM X2 hw2
    go_wp2_with fail
    go_loopw [19] (fun i wr => ∃ k : Nat, k ≤ s.size ∧ i = .int .i64 k ∧ Hid (Rq s n0 (n0 + 1) n D wc k wr)) (fun i _ => s.size - (intOf i).toNat)
    case atStart => exact ⟨0, Nat.zero_le _, rfl, hR0⟩
    case round =>
      obtain ⟨k, hk, rfl, hR⟩ := hrel
      clear hR0
      have hroom := hR.out.room
      have hlen := quoteTo_len s.data.toList k
      by_cases hlt : k < s.size
      · have hki : (k : Int) < s.size := by omega
        have hk0 : (0 : Int) ≤ (k : Int) := by omega
        have hd := hid (drop_one s k hlt)
        have hsucc := hid (show quoteTo s.data.toList (k + 1) = quoteTo s.data.toList k ++ quote1 s[k] (s.data.toList.drop (k + 1)) from quoteTo_succ s.data.toList k (by rw [← Lib.size_eq]; exact hlt))
        have hc8 : ((s[k].toNat : Nat) : Int) ≤ 255 := by have := s[k].toNat_lt; omega
        have hc0 : (0 : Int) ≤ ((s[k].toNat : Nat) : Int) := by omega
        have hmap := hR.out.map
        have hDk := hid (hD.out (s[k].toNat : Int))
        have hkey := keyOf_int_mk (P := Tryz.prog) Tryz.underlying5 (wf8 hc0 hc8)
        have hzr : ∀ w : World, (zeroValue 5).run Tryz.prog w = .ok (.int .u8 0) w := Tryz.zeroValue5
        cases hl : letV (s[k].toNat : Int) with
        | none =>
          have hhas : Maps.has D (Lit.int .u8 (s[k].toNat : Int)) = false := by have h1 := hDk.out.1; rw [hl] at h1; exact h1
          have hq := hid (show quote1 s[k] (s.data.toList.drop (k + 1)) = [s[k]] from by unfold quote1; rw [hl])
          go_wp2_with (first
            | (at_lookup; refine wpList_lookup_own_ok_int _ rfl _ _ 211 rfl 5 5 .u8 law8 Tryz.underlying211 Tryz.underlying5 (hzr _) (n0 + 1) n D rfl hmap _ _ rfl hkey ?_; intro x hat hwx; rw [hhas]; replace hat := hid hat; clear hwx)
            | fail)
          clear hl hhas hkey hmap
          refine (bld_byte n0 n0 _ s[k] _ hR.out.bld (by omega) hroom).mono ?_
          rintro e w4 ⟨rfl, g1, g2, g3⟩
          have hR2 : Hid (Rq s n0 (n0 + 1) n D wc (k + 1) w4) := hid ⟨by rw [hsucc.out, hq.out]; exact g1, map_kept hR.out.map g3 (isB_blk hR.out.bld), hR.out.below.trans g2, Nat.le_trans hroom g2.size⟩
          clear g1 g2 g3 hR
          go_wp2
          go_roundw
          case rel => exact ⟨k + 1, by omega, by go_num, hR2⟩
          case measure => simp [intOf]; omega
        | some xl =>
          have hhas : Maps.has D (Lit.int .u8 (s[k].toNat : Int)) = true := by have h1 := hDk.out.1; rw [hl] at h1; exact h1
          have hl0 := hid hl
          clear hl
          have hD2 := hDk.out.2
          have hD2 := hid hD2
          go_wp2_with (first
            | (at_lookup; refine wpList_lookup_own_ok_int _ rfl _ _ 211 rfl 5 5 .u8 law8 Tryz.underlying211 Tryz.underlying5 (hzr _) (n0 + 1) n D rfl hmap _ _ rfl hkey ?_; intro x hat hwx; rw [hhas]; replace hat := hid hat; clear hwx)
            | fail)
          clear hhas hkey hmap
          have hl := hl0.out
          have hx : x = xl := by
            have h1 := hat.out
            rw [hD2.out xl hl] at h1
            injection h1 with h1
            injection h1 with h1 h2
            exact h2.symm
          subst hx
          have hxr : ∃ xn : Nat, x = xn ∧ xn < 128 := by
            unfold letV at hl
            repeat' split at hl
            all_goals first | (cases hl; done) | (cases hl; first | exact ⟨48, rfl, by omega⟩ | exact ⟨116, rfl, by omega⟩ | exact ⟨110, rfl, by omega⟩ | exact ⟨92, rfl, by omega⟩ | exact ⟨34, rfl, by omega⟩)
          obtain ⟨xn, rfl, hxn⟩ := hxr
          have hl' := hid hl
          clear hl
          by_cases hp : Lib.hasPrefix (s.data.toList.drop k) [92, 42] = true
          · have hq := hid (show quote1 s[k] (s.data.toList.drop (k + 1)) = [s[k]] from by unfold quote1; rw [hl'.out, ← hd.out, hp]; rfl)
            have hp' := hid hp
            clear hp
            refine (pre_is s k true _ hp'.out).mono ?_
            rintro e w' ⟨rfl, rfl⟩
            go_wp2_with fail
            refine (bld_byte n0 n0 _ s[k] _ hR.out.bld (by omega) hroom).mono ?_
            rintro e w4 ⟨rfl, g1, g2, g3⟩
            have hR2 : Hid (Rq s n0 (n0 + 1) n D wc (k + 1) w4) := hid ⟨by rw [hsucc.out, hq.out]; exact g1, map_kept hR.out.map g3 (isB_blk hR.out.bld), hR.out.below.trans g2, Nat.le_trans hroom g2.size⟩
            clear g1 g2 g3 hR
            go_wp2
            go_roundw
            case rel => exact ⟨k + 1, by omega, by go_num, hR2⟩
            case measure => simp [intOf]; omega
          · have hpf := Bool.eq_false_iff.2 hp
            have hq := hid (show quote1 s[k] (s.data.toList.drop (k + 1)) = [92, UInt8.ofNat xn] from by
              unfold quote1; rw [hl'.out, ← hd.out, hpf]; simp)
            have hp' := hid hpf
            clear hp hpf
            refine (pre_is s k false _ hp'.out).mono ?_
            rintro e w' ⟨rfl, rfl⟩
            go_wp2_with fail
            refine (bld_const 92 (by omega) n0 n0 _ _ hR.out.bld (by omega) hroom).mono ?_
            rintro e w4 ⟨rfl, g1, g2, g3⟩
            have hm4 := hid (map_kept hR.out.map g3 (isB_blk hR.out.bld))
            have hbel4 := hid (hR.out.below.trans g2)
            have hw4 := hid (Nat.le_trans hroom g2.size)
            have g1 := hid g1
            clear g2 g3 hR
            go_wp2_with fail
            refine (bld_const xn (by omega) n0 n0 _ _ g1.out (by simp; omega) hw4.out).mono ?_
            rintro e w5 ⟨rfl, q1, q2, q3⟩
            have hR2 : Hid (Rq s n0 (n0 + 1) n D wc (k + 1) w5) := hid ⟨by rw [hsucc.out, hq.out]; simpa using q1, map_kept hm4.out q3 (isB_blk g1.out), hbel4.out.trans q2, Nat.le_trans hw4.out q2.size⟩
            clear q1 q2 q3
            go_wp2
            go_roundw
            case rel => exact ⟨k + 1, by omega, by go_num, hR2⟩
            case measure => simp [intOf]; omega
      · have hke : k = s.size := by omega
        have hki : (s.size : Int) ≤ k := by omega
        have hall := hid (show quoteTo s.data.toList k ++ [34] = quoteL s.data.toList from by
          have := quoteTo_all s.data.toList
          rw [← Lib.size_eq, ← hke] at this
          exact this)
        clear hke
        go_wp2_with fail
        refine (bld_const 34 (by omega) n0 n0 _ _ hR.out.bld (by omega) hroom).mono ?_
        rintro e w4 ⟨rfl, g1, g2, g3⟩
        have hbel4 := hid (hR.out.below.trans g2)
        have hw4 := hid (Nat.le_trans hroom g2.size)
        have g1 : Hid (IsB n0 n0 (quoteL s.data.toList) w4) := hid (by rw [← hall.out]; exact g1)
        clear g2 g3 hR
        go_wp2_with fail
        refine (bld_string n0 n0 _ _ g1.out hw4.out).mono ?_
        rintro e w5 ⟨rfl, q1, q2, q3⟩
        have hbel5 := hid (Bc.out.1.trans ((hbel4.out.trans q2).mono Bc.out.2))
        clear q1 q2 q3
        go_wp2
        go_ret2
        exact ⟨rfl, hbel5.out⟩
  · have hz' := hid hz
    have hni : (checkE s != 0) = true := by rw [bne_iff_ne]; exact hz
    rw [if_neg hz]
    clear hz
    generalize checkE s = c at *
    go_enter Tryz.func119, Tryz.ntmps119
    go_wp2_with fail
    refine hct.out.mono ?_
    rintro e wc ⟨rfl, Bc⟩
    have Bc := hid Bc
    clear hct
    go_wp2
    go_ret2
    exact ⟨rfl, Bc.out⟩
end Go.Proofs.YtklclfolmfhocaaGreatDoor.Tok
