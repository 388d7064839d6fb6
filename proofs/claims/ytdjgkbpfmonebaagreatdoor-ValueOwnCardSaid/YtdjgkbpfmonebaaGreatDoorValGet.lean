/-
  value.Get: contract.
-/
import Derived.Test.YtdjgkbpfmonebaaGreatDoorValMake
import Derived.Test.YtdjgkbpfmonebaaGreatDoorPlaceMath
namespace Go.Proofs.YtdjgkbpfmonebaaGreatDoor.Val
open Go.ChangeShapes Go.WideShapes Go.ChangeAt Go.RowKit
open Go.Proofs.YtdjgkbpfmonebaaGreatDoor.Mem Go.Proofs.YtdjgkbpfmonebaaGreatDoor.Nam
set_option linter.unusedVariables false
set_option linter.unusedSimpArgs false
set_option maxRecDepth 100000
theorem fold_at (p : List WSok) (s : ByteArray) : Maps.has (foldS p) (keyS s) = true → ∃ x ∈ p, x.1.2 = s ∧ ∀ z : DataW Unit, (foldS p).atKey (keyS s) z = .lit (.int .i64 x.1.1) := by
  refine snoc_ind (P := fun p => Maps.has (foldS p) (keyS s) = true → ∃ x ∈ p, x.1.2 = s ∧ ∀ z : DataW Unit, (foldS p).atKey (keyS s) z = .lit (.int .i64 x.1.1)) ?_ ?_ p
  · intro h; exact absurd (show false = true from h) (by decide)
  · intro l x ih h
    have ht := foldS_tidy l
    have e : foldS (l ++ [x]) = (foldS l).put (keyS x.1.2) (.lit (.int .i64 x.1.1)) := foldS_snoc l x
    rw [e] at h ⊢
    by_cases hs : keyS s = keyS x.1.2
    · refine ⟨x, by simp, (keyS_inj hs).symm, fun z => ?_⟩
      rw [hs, Maps.atKey_put_same ht.isMap (keyS_key _)]
    · rw [Maps.has_put_other hs] at h
      obtain ⟨y, hy, e', ha⟩ := ih h
      exact ⟨y, List.mem_append_left _ hy, e', fun z => by rw [Maps.atKey_put_other hs, ha z]⟩
/-- a look-up with ok in the map of places -/
theorem place_get {W : World} {b n : Nat} {L : List ByteArray} (h : MapP W b n (plD L)) (hz : ∀ y ∈ L, y.size ≤ 140737488355328) (hl : (L.length : Int) ≤ 9223372036854775807) (s : ByteArray) (hs : s.size ≤ 140737488355328) :
    (s ∉ L ∧ ∃ c : Int, (Instr.lookup 52 (.map (some b)) (.string s) true).run Tryz.prog W = .ok (.tuple #[.int .i64 c, .bool false]) W) ∨
    ∃ q, ∃ hq : q < L.length, L[q] = s ∧ (Instr.lookup 52 (.map (some b)) (.string s) true).run Tryz.prog W = .ok (.tuple #[.int .i64 (q : Int), .bool true]) W := by
  have hkey := WideMaps.keyOf_string_mk Tryz.underlying9 (s := s) (by unfold maxLen; omega)
  obtain ⟨v, ps, hrun, hv⟩ := World.ownsMap.look_ok h (Maps.string_keyed Tryz.underlying9) Tryz.underlying52 (Tryz.zeroValue3 _) (zd := .lit (.int .i64 0)) (zp := []) (plainElem_int Tryz.underlying3 (by decide)) hkey
  obtain ⟨c, rfl, hc, hwc⟩ := plainElem_int_inv Tryz.underlying3 hv
  have hat := congrArg Prod.fst hc
  dsimp only at hat
  change (plD L).atKey (keyS s) _ = _ at hat
  rw [show Maps.has (plD L) (.string s.data.toList) = Maps.has (plD L) (keyS s) from rfl] at hrun
  cases hh : Maps.has (plD L) (keyS s) with
  | false =>
    rw [hh] at hrun
    exact .inl ⟨fun hm => by rw [(plD_has hz hl s).2 hm] at hh; exact absurd hh (by simp), c, hrun⟩
  | true =>
    rw [hh] at hrun
    obtain ⟨x, hx, e, ha⟩ := fold_at _ s hh
    obtain ⟨q, hq, rfl⟩ := (mem_upto x).1 hx
    rw [elS_at hz hl q hq] at e ha
    rw [show (plD L).atKey (keyS s) (.lit (.int .i64 0)) = .lit (.int .i64 (q : Int)) from ha _] at hat
    simp only [DataW.lit.injEq, Lit.int.injEq, true_and] at hat
    rw [← hat] at hrun
    exact .inr ⟨q, hq, e, hrun⟩
def GetP (B : Nat) (x : T) (s : ByteArray) (e : Ending) (w' : World) : Prop :=
  (x.kind ≠ 5 ∧ e = (.returned (.tuple #[.agg zeroA, .int .i64 7]))) ∨ (x.kind = 5 ∧ s ∉ x.names ∧ e = (.returned (.tuple #[.agg zeroA, .int .i64 8]))) ∨
  (x.kind = 5 ∧ ∃ q, ∃ hq : q < x.names.length, x.names[q] = s ∧ ((x.list.length ≤ q ∧ e = (.returned (.tuple #[.agg zeroA, .int .i64 8]))) ∨ ∃ hl : q < x.list.length, ∃ y : T, e = .returned (.tuple #[y.val, .int .i64 0]) ∧ x.list[q].like y ∧ y.ok w' ∧ y.inS (B ≤ ·)))
set_option maxHeartbeats 4000000 in
theorem get_any (x : T) (s : ByteArray) (w : World) (h : x.ok w) (hs : s.size ≤ 140737488355328) :
    Calls Tryz.prog 9 #[x.val, .string s] w fun e w' => GetP w.heap.size x s e w' ∧ Below w.heap.size w w' := by
  have hsz := hid h.parts.2.2.2.2.1
  have cP := hid (fun W (b : Below w.heap.size w W) => places_any x.names x.nv W ((h.below b).parts.2.2.2.2.2.1) hsz.out)
  have cG := hid (fun W b (hm : MapP W b x.names.length (plD x.names)) hL => place_get hm hsz.out hL s hs)
  have hLV := hid (LV.of h)
  have cY := hid (fun W (b : Below w.heap.size w W) z (hz : z ∈ x.list) => copied_any z W (((LV.of h).all z hz).below b))
  have hzok := hid (LV.of h).all
  obtain ⟨no, nc, lo, lc, e1, e2, l1, l2⟩ := h.forms
  have hxv : x.val = .agg #[.int .u8 (x.kind : Nat), .bool x.bool, .int .i64 x.num, .string x.str, .string x.typ, .slice no x.names.length nc, .slice lo x.list.length lc] := by rw [T.lit, e1, e2]
  rw [e1] at cP
  rw [e2] at hLV
  rw [hxv]
  have hLi := hid (show (x.names.length : Int) ≤ 9223372036854775807 by omega)
  have hli := hid l2
  clear h hs hxv e1 e2 l1 l2
  go_enter Tryz.func9, Tryz.ntmps9
  go_upto_region 1 with fail
  have K1 := hid (Blk.new w [.int .u8 (x.kind : Nat), .bool x.bool, .int .i64 x.num, .string x.str, .string x.typ, .slice no x.names.length nc, .slice lo x.list.length lc] 27)
  have bw := hid ((Below.refl w.heap.size w).alloc (Nat.le_refl _) (.cells #[.int .u8 (x.kind : Nat), .bool x.bool, .int .i64 x.num, .string x.str, .string x.typ, .slice no x.names.length nc, .slice lo x.list.length lc] 27))
  have hs : w.heap.size + 1 = (w.alloc (.cells #[.int .u8 (x.kind : Nat), .bool x.bool, .int .i64 x.num, .string x.str, .string x.typ, .slice no x.names.length nc, .slice lo x.list.length lc] 27)).heap.size := by simp
  generalize w.alloc (.cells #[.int .u8 (x.kind : Nat), .bool x.bool, .int .i64 x.num, .string x.str, .string x.typ, .slice no x.names.length nc, .slice lo x.list.length lc] 27) = X0 at K1 bw hs ⊢
  have K2 := hid (Blk.new' X0 [.int .u8 0, .bool false, .int .i64 0, .string ⟨#[]⟩, .string ⟨#[]⟩, .slice none 0 0, .slice none 0 0] 27 (w.heap.size + 1) hs)
  replace K1 := hid (K1.out.alloc (.cells #[.int .u8 0, .bool false, .int .i64 0, .string ⟨#[]⟩, .string ⟨#[]⟩, .slice none 0 0, .slice none 0 0] 27))
  replace bw := hid (bw.out.alloc (by omega) (.cells #[.int .u8 0, .bool false, .int .i64 0, .string ⟨#[]⟩, .string ⟨#[]⟩, .slice none 0 0, .slice none 0 0] 27))
  clear hs
  generalize X0.alloc (.cells #[.int .u8 0, .bool false, .int .i64 0, .string ⟨#[]⟩, .string ⟨#[]⟩, .slice none 0 0, .slice none 0 0] 27) = X1 at K1 K2 bw ⊢
  by_cases hk : x.kind = 5
  · have e1 : ((x.kind : Int) == (5 : Int)) = true := by rw [beq_iff_eq]; omega
    have e2 : ((x.kind : Int) != (5 : Int)) = false := by unfold bne; rw [e1]; rfl
    have hk' := hid hk
    clear hk
    obtain ⟨c0, c1, c2, c3, c4, c5, c6, cf⟩ := seven K1.out
    go_wp2_with fail
    clear c0 c1 c2 c3 c4 c5 c6 cf e1 e2
    refine (cP.out _ bw.out).mono ?_
    rintro e w2 ⟨b, rfl, hbge, hmap, b2⟩
    have hlook := hid (cG.out w2 b hmap hLi.out)
    replace K1 := hid (K1.out.below b2 K1.out.lt)
    replace K2 := hid (K2.out.below b2 K2.out.lt)
    replace bw := hid (bt bw.out b2)
    clear b2 hbge cP cG hmap
    obtain ⟨c0, c1, c2, c3, c4, c5, c6, cf⟩ := seven K1.out
    rcases hlook.out with ⟨hno, c, hl⟩ | ⟨q, hq, hqe, hl⟩
    · have hfin := hid (fun w' => show GetP w.heap.size x s (.returned (.tuple #[.agg zeroA, .int .i64 8])) w' from .inr (.inl ⟨hk'.out, hno, rfl⟩))
      clear hno hlook hk' cY hLV hzok c0 c1 c2 c3 c4 c5 c6 cf
      have hK := hid (show Blk _ _ [.int .u8 0, .bool false, .int .i64 0, .string ⟨#[]⟩, .string ⟨#[]⟩, .slice none 0 0, .slice none 0 0] 27 from blk_st7 (A := []) (C := []) (o := 0) K2.out rfl (.int .u8 0) (.bool false) (.int .i64 0) (.string ⟨#[]⟩) (.string ⟨#[]⟩) (.slice none 0 0) (.slice none 0 0))
      have hBF := hid (below_st7 bw.out (g := w.heap.size + 1) (Nat.le_succ _) 0 (.int .u8 0) (.bool false) (.int .i64 0) (.string ⟨#[]⟩) (.string ⟨#[]⟩) (.slice none 0 0) (.slice none 0 0))
      obtain ⟨c0, c1, c2, c3, c4, c5, c6, cf⟩ := seven K1.out
      obtain ⟨d0, d1, d2, d3, d4, d5, d6, df⟩ := seven K2.out
      go_wp2_with fail
      clear c0 c1 c2 c3 c4 c5 c6 cf d0 d1 d2 d3 d4 d5 d6 df
      obtain ⟨q0, q1, q2, q3, q4, q5, q6, qf⟩ := seven hK.out
      exact bodyPost_ret (v := .tuple #[.agg #[.int .u8 0, .bool false, .int .i64 0, .string ⟨#[]⟩, .string ⟨#[]⟩, .slice none 0 0, .slice none 0 0], .int .i64 8]) (by unfold st7 at q0 q1 q2 q3 q4 q5 q6; simp [results, Tryz.results9, go_sem, q0, q1, q2, q3, q4, q5, q6]) rfl ⟨hfin.out _, hBF.out⟩
    · by_cases hql : q < x.list.length
      · have hqi : (q : Int) < (x.list.length : Int) := by omega
        have hq0 : (0 : Int) ≤ (q : Int) := by omega
        have hqn : ¬ ((x.list.length : Int) ≤ (q : Int)) := by omega
        obtain ⟨z, hz⟩ : ∃ z, x.list[q] = z := ⟨_, rfl⟩
        have hcel0 := (hLV.out.below bw.out).cells q hql
        have hmem : z ∈ x.list := by rw [← hz]; exact List.getElem_mem hql
        have cYz := cY.out w2 bw.out z hmem
        have hpost := hid (fun (y : T) W' (hlk : z.like y) (hok : y.ok W') (hin : y.inS (w.heap.size ≤ ·)) => show GetP w.heap.size x s (.returned (.tuple #[y.val, .int .i64 0])) W' from
          .inr (.inr ⟨hk'.out, q, hq, hqe, .inr ⟨hql, y, rfl, by rw [hz]; exact hlk, hok, hin⟩⟩))
        obtain ⟨zno, znc, zlo, zlc, ez1, ez2, zl1, zl2⟩ := (hzok.out z hmem).forms
        have hzv : z.val = .agg #[.int .u8 (z.kind : Nat), .bool z.bool, .int .i64 z.num, .string z.str, .string z.typ, .slice zno z.names.length znc, .slice zlo z.list.length zlc] := by rw [T.lit, ez1, ez2]
        rw [hzv] at cYz
        replace cYz := hid cYz
        rw [hz, ez1, ez2] at hcel0
        obtain ⟨lb, lof, rfl, x0, x1, x2, x3, x4, x5, x6⟩ := hcel0
        clear hlook hk' cY hLV hzok hzv ez1 ez2 zl1 zl2 hmem hz
        go_wp2_with fail
        refine cYz.out.mono ?_
        clear c0 c1 c2 c3 c4 c5 c6 cf x0 x1 x2 x3 x4 x5 x6 hl hqi hq0 hqn
        rintro e w3 ⟨⟨y, rfl, hlk, hyok, hyin⟩, b3⟩
        obtain ⟨yno, ync, ylo, ylc, ey1, ey2, yl1, yl2⟩ := hyok.forms
        have hyv : y.val = .agg #[.int .u8 (y.kind : Nat), .bool y.bool, .int .i64 y.num, .string y.str, .string y.typ, .slice yno y.names.length ync, .slice ylo y.list.length ylc] := by rw [T.lit, ey1, ey2]
        have hfin := hid (show ∀ W', (∀ k, w2.heap.size ≤ k → W'.heap[k]? = w3.heap[k]?) → GetP w.heap.size x s (.returned (.tuple #[.agg #[.int .u8 (y.kind : Nat), .bool y.bool, .int .i64 y.num, .string y.str, .string y.typ, .slice yno y.names.length ync, .slice ylo y.list.length ylc], .int .i64 0])) W' from fun W' hk => by
          rw [← hyv]
          exact hpost.out y W' hlk (hyok.keep hk hyin) (hyin.mono (fun k hk => Nat.le_trans bw.out.size hk)))
        rw [hyv]
        clear hyv hlk hyok hyin ey1 ey2 yl1 yl2 cYz hpost
        have hlt := hid K2.out.lt
        replace K1 := hid (K1.out.below b3 K1.out.lt)
        replace K2 := hid (K2.out.below b3 K2.out.lt)
        replace bw := hid (bt bw.out b3)
        clear b3
        have hK := hid (show Blk _ _ [.int .u8 (y.kind : Nat), .bool y.bool, .int .i64 y.num, .string y.str, .string y.typ, .slice yno y.names.length ync, .slice ylo y.list.length ylc] 27 from blk_st7 (A := []) (C := []) (o := 0) K2.out rfl (.int .u8 (y.kind : Nat)) (.bool y.bool) (.int .i64 y.num) (.string y.str) (.string y.typ) (.slice yno y.names.length ync) (.slice ylo y.list.length ylc))
        have hBF := hid (below_st7 bw.out (g := w.heap.size + 1) (Nat.le_succ _) 0 (.int .u8 (y.kind : Nat)) (.bool y.bool) (.int .i64 y.num) (.string y.str) (.string y.typ) (.slice yno y.names.length ync) (.slice ylo y.list.length ylc))
        obtain ⟨c0, c1, c2, c3, c4, c5, c6, cf⟩ := seven K1.out
        obtain ⟨d0, d1, d2, d3, d4, d5, d6, df⟩ := seven K2.out
        go_wp2_with fail
        clear c0 c1 c2 c3 c4 c5 c6 cf d0 d1 d2 d3 d4 d5 d6 df
        obtain ⟨q0, q1, q2, q3, q4, q5, q6, qf⟩ := seven hK.out
        exact bodyPost_ret (v := .tuple #[.agg #[.int .u8 (y.kind : Nat), .bool y.bool, .int .i64 y.num, .string y.str, .string y.typ, .slice yno y.names.length ync, .slice ylo y.list.length ylc], .int .i64 0]) (by unfold st7 at q0 q1 q2 q3 q4 q5 q6; simp [results, Tryz.results9, go_sem, q0, q1, q2, q3, q4, q5, q6]) rfl ⟨hfin.out _ (fun k hk => heap_st7 _ _ _ _ _ _ _ _ _ _ (by have := hlt.out; omega)), hBF.out⟩
      · have hqi : (x.list.length : Int) ≤ (q : Int) := by omega
        have hfin := hid (fun w' => show GetP w.heap.size x s (.returned (.tuple #[.agg zeroA, .int .i64 8])) w' from .inr (.inr ⟨hk'.out, q, hq, hqe, .inl ⟨by omega, rfl⟩⟩))
        clear hlook hk' cY hLV hzok hql hqe c0 c1 c2 c3 c4 c5 c6 cf
        have hK := hid (show Blk _ _ [.int .u8 0, .bool false, .int .i64 0, .string ⟨#[]⟩, .string ⟨#[]⟩, .slice none 0 0, .slice none 0 0] 27 from blk_st7 (A := []) (C := []) (o := 0) K2.out rfl (.int .u8 0) (.bool false) (.int .i64 0) (.string ⟨#[]⟩) (.string ⟨#[]⟩) (.slice none 0 0) (.slice none 0 0))
        have hBF := hid (below_st7 bw.out (g := w.heap.size + 1) (Nat.le_succ _) 0 (.int .u8 0) (.bool false) (.int .i64 0) (.string ⟨#[]⟩) (.string ⟨#[]⟩) (.slice none 0 0) (.slice none 0 0))
        obtain ⟨c0, c1, c2, c3, c4, c5, c6, cf⟩ := seven K1.out
        obtain ⟨d0, d1, d2, d3, d4, d5, d6, df⟩ := seven K2.out
        go_wp2_with fail
        clear c0 c1 c2 c3 c4 c5 c6 cf d0 d1 d2 d3 d4 d5 d6 df
        obtain ⟨q0, q1, q2, q3, q4, q5, q6, qf⟩ := seven hK.out
        exact bodyPost_ret (v := .tuple #[.agg #[.int .u8 0, .bool false, .int .i64 0, .string ⟨#[]⟩, .string ⟨#[]⟩, .slice none 0 0, .slice none 0 0], .int .i64 8]) (by unfold st7 at q0 q1 q2 q3 q4 q5 q6; simp [results, Tryz.results9, go_sem, q0, q1, q2, q3, q4, q5, q6]) rfl ⟨hfin.out _, hBF.out⟩
  · have e1 : ((x.kind : Int) == (5 : Int)) = false := by rw [beq_eq_false_iff_ne]; omega
    have e2 : ((x.kind : Int) != (5 : Int)) = true := by unfold bne; rw [e1]; rfl
    have hfin := hid (fun w' => show GetP w.heap.size x s (.returned (.tuple #[.agg zeroA, .int .i64 7])) w' from .inl ⟨hk, rfl⟩)
    clear hk cP cG cY hLV hzok
    have hK := hid (show Blk _ _ [.int .u8 0, .bool false, .int .i64 0, .string ⟨#[]⟩, .string ⟨#[]⟩, .slice none 0 0, .slice none 0 0] 27 from blk_st7 (A := []) (C := []) (o := 0) K2.out rfl (.int .u8 0) (.bool false) (.int .i64 0) (.string ⟨#[]⟩) (.string ⟨#[]⟩) (.slice none 0 0) (.slice none 0 0))
    have hBF := hid (below_st7 bw.out (g := w.heap.size + 1) (Nat.le_succ _) 0 (.int .u8 0) (.bool false) (.int .i64 0) (.string ⟨#[]⟩) (.string ⟨#[]⟩) (.slice none 0 0) (.slice none 0 0))
    obtain ⟨c0, c1, c2, c3, c4, c5, c6, cf⟩ := seven K1.out
    obtain ⟨d0, d1, d2, d3, d4, d5, d6, df⟩ := seven K2.out
    go_wp2_with fail
    clear c0 c1 c2 c3 c4 c5 c6 cf d0 d1 d2 d3 d4 d5 d6 df
    obtain ⟨q0, q1, q2, q3, q4, q5, q6, qf⟩ := seven hK.out
    exact bodyPost_ret (v := .tuple #[.agg #[.int .u8 0, .bool false, .int .i64 0, .string ⟨#[]⟩, .string ⟨#[]⟩, .slice none 0 0, .slice none 0 0], .int .i64 7]) (by unfold st7 at q0 q1 q2 q3 q4 q5 q6; simp [results, Tryz.results9, go_sem, q0, q1, q2, q3, q4, q5, q6]) rfl ⟨hfin.out _, hBF.out⟩
end Go.Proofs.YtdjgkbpfmonebaaGreatDoor.Val
