/-
  lictorlaw06.ValueRecords: the walk.
-/
import Derived.Test.YtdjgkbpfmonebaaGreatDoorValRecord
import Derived.Test.YtdjgkbpfmonebaaGreatDoorValGet
import Derived.Test.YtdjgkbpfmonebaaGreatDoorLikeMath
import Derived.Test.YtdjgkbpfmonebaaGreatDoorValLives
namespace Go.Proofs.YtdjgkbpfmonebaaGreatDoor.Val
open Go.ChangeShapes Go.WideShapes Go.ChangeAt Go.RowKit
open Go.Proofs.YtdjgkbpfmonebaaGreatDoor.Mem Go.Proofs.YtdjgkbpfmonebaaGreatDoor.Nam
set_option linter.unusedVariables false
set_option linter.unusedSimpArgs false
set_option maxRecDepth 100000
/-- y is the record of these names and parts -/
def Recd (L : List ByteArray) (l : List T) (y : T) : Prop := L.length = l.length ∧ y.kind = 5 ∧ y.names.Perm L ∧ y.list.length = l.length ∧ chkV y = 0 ∧
  ∀ q i (hq : q < y.list.length) (hi : i < l.length), i < L.length → y.names[q]? = L[i]? → (l[i]).like y.list[q]
theorem rec_cases {w w' : World} {L : List ByteArray} {l : List T} {e : Ending} (h : RecP w L l e w') :
    (∃ c : Int, c ≠ 0 ∧ e = .returned (.tuple #[.agg zeroA, .int .i64 c])) ∨ ∃ y : T, e = .returned (.tuple #[y.val, .int .i64 0]) ∧ y.ok w' ∧ y.inS (w.heap.size ≤ ·) ∧ Recd L l y := by
  rcases h with ⟨_, rfl⟩ | ⟨_, _, rfl⟩ | ⟨hl, ho, N, ls, nv, lv, hp, hls, hpick, hm⟩
  · exact .inl ⟨2, by decide, rfl⟩
  · exact .inl ⟨10, by decide, rfl⟩
  · rcases hm with ⟨h0, rfl⟩ | ⟨h0, y, rfl, hlk, hok, hin, _⟩
    · exact .inl ⟨_, h0, rfl⟩
    · obtain ⟨h1, h2, h3, h4, h5, h6, h7⟩ := T.like_iff.1 hlk
      have h6' : N = y.names := h6
      have h7' : T.likeL ls y.list := h7
      have hlen := T.likeL_length h7'
      have hN := hp.length_eq
      refine .inr ⟨y, rfl, hok, hin, hl, h1.symm, by rw [← h6']; exact hp, by omega, by rw [← like_chk hlk]; exact h0, fun q i hq hi hi2 e => ?_⟩
      rw [← h6'] at e
      have hql : q < ls.length := by omega
      have := hpick.2 q i hql hi2 e
      rw [List.getElem?_eq_getElem hql, List.getElem?_eq_getElem hi] at this
      rw [← Option.some.inj this]
      exact T.likeL_get h7' q hql hq
theorem get_own {L : List ByteArray} {l : List T} {y : T} {W : World} (h : Recd L l y) (hy : y.ok W) (i : Nat) (hi : i < L.length) (hil : i < l.length) (hs : (L[i]).size ≤ 140737488355328) :
    Calls Tryz.prog 9 #[y.val, .string L[i]] W fun e w' => (∃ z : T, e = .returned (.tuple #[z.val, .int .i64 0]) ∧ z.ok w' ∧ (l[i]).like z) ∧ Below W.heap.size W w' := by
  obtain ⟨h1, h2, h3, h4, h5, h6⟩ := h
  have hN := h3.length_eq
  refine (get_any y L[i] W hy hs).mono ?_
  rintro e w' ⟨hg, b⟩
  refine ⟨?_, b⟩
  rcases hg with ⟨hk, _⟩ | ⟨_, hno, _⟩ | ⟨_, q, hq, he, ⟨hle, _⟩ | ⟨hl, z, rfl, hlk, hok, _⟩⟩
  · exact absurd h2 hk
  · exact absurd (h3.mem_iff.2 (List.getElem_mem hi)) hno
  · omega
  · exact ⟨z, rfl, hok, T.like_trans (h6 q i hl hil hi (by rw [List.getElem?_eq_getElem hq, List.getElem?_eq_getElem hi, he])) hlk⟩
theorem zero_same : sameT (T.mk 0 false 0 ⟨#[]⟩ ⟨#[]⟩ [] (.slice none 0 0) [] (.slice none 0 0)) (T.mk 0 false 0 ⟨#[]⟩ ⟨#[]⟩ [] (.slice none 0 0) [] (.slice none 0 0)) = true := like_same (T.like_iff.2 ⟨rfl, rfl, rfl, rfl, rfl, rfl, (show T.likeL [] [] from trivial)⟩)
theorem zero_ok (W : World) : (T.mk 0 false 0 ⟨#[]⟩ ⟨#[]⟩ [] (.slice none 0 0) [] (.slice none 0 0)).ok W := plain_ok 0 0 W (by decide) (by decide)
theorem get_other {L : List ByteArray} {l : List T} {y : T} {W : World} (h : Recd L l y) (hy : y.ok W) (s : ByteArray) (hs : s.size ≤ 140737488355328) :
    Calls Tryz.prog 9 #[y.val, .string s] W fun e w' => (∃ (z : T) (c : Int), e = .returned (.tuple #[z.val, .int .i64 c]) ∧ z.ok w' ∧ (c = 0 ↔ s ∈ L)) ∧ Below W.heap.size W w' := by
  obtain ⟨h1, h2, h3, h4, h5, h6⟩ := h
  have hN := h3.length_eq
  refine (get_any y s W hy hs).mono ?_
  rintro e w' ⟨hg, b⟩
  refine ⟨?_, b⟩
  rcases hg with ⟨hk, _⟩ | ⟨_, hno, rfl⟩ | ⟨_, q, hq, he, ⟨hle, _⟩ | ⟨hl, z, rfl, hlk, hok, _⟩⟩
  · exact absurd h2 hk
  · exact ⟨_, 8, rfl, zero_ok w', ⟨fun e => absurd e (by decide), fun hm => absurd (h3.mem_iff.2 hm) hno⟩⟩
  · omega
  · exact ⟨z, 0, rfl, hok, ⟨fun _ => h3.mem_iff.1 (he ▸ List.getElem_mem hq), fun _ => rfl⟩⟩
def knB (L : List ByteArray) (s : ByteArray) (k : Nat) : Bool := (L.take k).any fun n => n.toList == s.toList
theorem knB_step {L : List ByteArray} {s : ByteArray} {k : Nat} (h : k < L.length) : knB L s (k + 1) = (knB L s k || (L[k].toList == s.toList)) := by
  unfold knB
  rw [List.take_succ_eq_append_getElem h, List.any_append]
  simp
theorem knB_all {L : List ByteArray} {s : ByteArray} : knB L s L.length = true ↔ s ∈ L := by
  unfold knB
  rw [List.take_length, List.any_eq_true]
  constructor
  · rintro ⟨n, hn, e⟩
    rw [beq_iff_eq, ByteArray.toList_eq, ByteArray.toList_eq] at e
    have : n = s := by
      have h := Array.toList_inj.1 e
      cases n; cases s
      simpa using h
    exact this ▸ hn
  · intro h
    exact ⟨s, h, by simp⟩
set_option maxHeartbeats 4000000 in
theorem records_walk (hS : SplitTold) (hV : ValidTold) (L : List ByteArray) (l : List T) (nv lv : Value) (s : ByteArray) (w : World) (hn : StrsV w nv L) (hsz : ∀ y ∈ L, y.size ≤ 140737488355328) (hnr : L.length * 16 ≤ 140737488355328) (h : LV w lv l) (hss : s.size ≤ 140737488355328) (hw : Val.Start w) :
    Calls Tryz.prog 3 #[nv, lv, .string s] w fun e w' => e = .returned (.bool true) ∧ Below w.heap.size w w' := by
  have cL := hid (lives_any hS hV w hw)
  have cR := hid (fun W (b : Below w.heap.size w W) => record_any hS hV L l nv lv W (hn.below b) hsz hnr (h.below b) (hw.below b))
  have cK := hid (fun W (b : Below w.heap.size w W) y (hy : T.ok W y) => check_any hS hV y W hy (hw.below b))
  obtain ⟨no, nc, rfl, _, _⟩ := hn.form
  obtain ⟨lo, lc, rfl, _⟩ := h.form
  have h' := hid h
  have hn' := hid hn
  have hsz' := hid hsz
  have hss' := hid hss
  have hLi : (L.length : Int) ≤ 9223372036854775807 := by omega
  have hli : (l.length : Int) ≤ 9223372036854775807 := by have := h.room; omega
  clear h hn hsz hnr hw hS hV hss
  go_enter Tryz.func3, Tryz.ntmps3
  go_wp2_with fail
  refine cL.out.mono ?_
  rintro e w1 ⟨rfl, b1⟩
  have bw := hid b1
  clear b1 cL
  go_wp2_with fail
  refine (cR.out _ bw.out).mono ?_
  rintro e w2 ⟨hrec, b2⟩
  replace bw := hid (bt bw.out b2)
  clear b2 cR
  rcases rec_cases hrec with ⟨c, hc, rfl⟩ | ⟨y, rfl, yok, _, hrd⟩
  · have e0 : (c != 0) = true := by simpa using hc
    clear hrec cK h' hn' hsz' hss' hc
    rw [show Value.agg zeroA = .agg #[.int .u8 0, .bool false, .int .i64 0, .string ⟨#[]⟩, .string ⟨#[]⟩, .slice none 0 0, .slice none 0 0] from rfl]
    go_upto_region 4 with fail
    have K := hid (Blk.new w2 [.int .u8 0, .bool false, .int .i64 0, .string ⟨#[]⟩, .string ⟨#[]⟩, .slice none 0 0, .slice none 0 0] 27)
    replace bw := hid (bw.out.alloc bw.out.size (.cells #[.int .u8 0, .bool false, .int .i64 0, .string ⟨#[]⟩, .string ⟨#[]⟩, .slice none 0 0, .slice none 0 0] 27))
    generalize w2.alloc (.cells #[.int .u8 0, .bool false, .int .i64 0, .string ⟨#[]⟩, .string ⟨#[]⟩, .slice none 0 0, .slice none 0 0] 27) = X2 at K bw ⊢
    generalize w2.heap.size = n2 at K ⊢
    have cS := hid (fun W => same_any (T.mk 0 false 0 ⟨#[]⟩ ⟨#[]⟩ [] (.slice none 0 0) [] (.slice none 0 0)) (T.mk 0 false 0 ⟨#[]⟩ ⟨#[]⟩ [] (.slice none 0 0) [] (.slice none 0 0)) W (zero_ok W) (zero_ok W))
    replace cS := hid (show ∀ W, Calls Tryz.prog 8 #[.agg #[.int .u8 0, .bool false, .int .i64 0, .string ⟨#[]⟩, .string ⟨#[]⟩, .slice none 0 0, .slice none 0 0], .agg #[.int .u8 0, .bool false, .int .i64 0, .string ⟨#[]⟩, .string ⟨#[]⟩, .slice none 0 0, .slice none 0 0]] W fun e w' => e = .returned (.bool true) ∧ Below W.heap.size W w' from fun W => (cS.out W).mono fun e w' ⟨h1, h2⟩ => ⟨h1.trans (by rw [zero_same]), h2⟩)
    obtain ⟨c0, c1, c2, c3, c4, c5, c6, cf⟩ := seven K.out
    go_wp2_with fail
    clear c0 c1 c2 c3 c4 c5 c6 cf
    refine (cS.out _).mono ?_
    rintro e w3 ⟨rfl, b3⟩
    replace bw := hid (bt bw.out b3)
    clear b3 cS
    go_wp2_with fail
    go_ret
    exact ⟨rfl, bw.out⟩
  · clear hrec
    replace hrd := hid hrd
    obtain ⟨yno, ync, ylo, ylc, ey1, ey2, yl1, yl2⟩ := yok.forms
    have hyv : y.val = .agg #[.int .u8 (y.kind : Nat), .bool y.bool, .int .i64 y.num, .string y.str, .string y.typ, .slice yno y.names.length ync, .slice ylo y.list.length ylc] := by rw [T.lit, ey1, ey2]
    have yok' := hid yok
    rw [hyv]
    clear yok ey1 ey2 yl1 yl2
    replace hyv := hid hyv
    go_upto_region 4 with fail
    have K := hid (Blk.new w2 [.int .u8 (y.kind : Nat), .bool y.bool, .int .i64 y.num, .string y.str, .string y.typ, .slice yno y.names.length ync, .slice ylo y.list.length ylc] 27)
    replace yok' := hid (yok'.out.below ((Below.refl w2.heap.size w2).alloc (Nat.le_refl _) (.cells #[.int .u8 (y.kind : Nat), .bool y.bool, .int .i64 y.num, .string y.str, .string y.typ, .slice yno y.names.length ync, .slice ylo y.list.length ylc] 27)))
    replace bw := hid (bw.out.alloc bw.out.size (.cells #[.int .u8 (y.kind : Nat), .bool y.bool, .int .i64 y.num, .string y.str, .string y.typ, .slice yno y.names.length ync, .slice ylo y.list.length ylc] 27))
    generalize w2.alloc (.cells #[.int .u8 (y.kind : Nat), .bool y.bool, .int .i64 y.num, .string y.str, .string y.typ, .slice yno y.names.length ync, .slice ylo y.list.length ylc] 27) = X2 at K bw yok' ⊢
    generalize w2.heap.size = n2 at K ⊢
    go_wp2_with fail
    go_loopw [9, 31] (fun kn i wr => ∃ k : Nat, k ≤ L.length ∧ i = .int .i64 k ∧ kn = .bool (knB L s k) ∧ Hid (Blk wr n2 [.int .u8 (y.kind : Nat), .bool y.bool, .int .i64 y.num, .string y.str, .string y.typ, .slice yno y.names.length ync, .slice ylo y.list.length ylc] 27) ∧ Hid (y.ok wr) ∧ Hid (Below w.heap.size w wr)) (fun _ i _ => L.length - (intOf i).toNat)
    case atStart => exact ⟨0, by omega, rfl, rfl, K, yok', bw⟩
    case round =>
      clear K yok' bw
      obtain ⟨k, hk, rfl, rfl, K, yok, bw⟩ := hrel
      rename_i wr _
      by_cases hkl : k < L.length
      · have hki : (k : Int) < (L.length : Int) := by omega
        have hk0 : (0 : Int) ≤ (k : Int) := by omega
        have hkm : k < l.length := by rw [← hrd.out.1]; exact hkl
        have hki2 : (k : Int) < (l.length : Int) := by omega
        have hkn2 : decide ((l.length : Int) ≤ (k : Int)) = false := by rw [decide_eq_false_iff_not]; omega
        have hkn3 : decide (l.length ≤ k) = false := by rw [decide_eq_false_iff_not]; omega
        obtain ⟨nb, nof, rfl, hname⟩ : ∃ nb nof, no = some ⟨nb, nof, none⟩ ∧ wr.cell? ⟨nb, nof + k, none⟩ = some (.string L[k]) := by
          obtain ⟨nb, nof, cap, h1, _, _, _, h5⟩ := StrsV.open (hn'.out.below bw.out) (by omega)
          simp only [Value.slice.injEq] at h1
          exact ⟨nb, nof, h1.1, h5 k hkl⟩
        have hget := get_own hrd.out yok.out k hkl hkm (hsz'.out _ (List.getElem_mem hkl))
        rw [hyv.out] at hget
        have hst := hid (knB_step (s := s) hkl)
        obtain ⟨lb, lof, rfl, _⟩ := (h'.out.below bw.out).cells k hkm
        have hcel := hid (fun W (b : Below w.heap.size w W) => (h'.out.below b).cells k hkm)
        have huok := hid (fun W (b : Below w.heap.size w W) => ((h'.out.all _ (List.getElem_mem hkm)).below b))
        generalize L[k] = sq at hname hget hst
        generalize l[k] = u at hget hcel huok
        replace hget := hid hget
        generalize hB : knB L s k = B at hst ⊢
        clear hB
        obtain ⟨c0, c1, c2, c3, c4, c5, c6, cf⟩ := seven K.out
        go_upto_region 10 with fail
        clear hname
        go_wp2_with fail
        clear c0 c1 c2 c3 c4 c5 c6 cf
        refine hget.out.mono ?_
        rintro e w3 ⟨⟨z, rfl, zok, hlk⟩, b3⟩
        replace K := hid (K.out.below b3 K.out.lt)
        replace yok := hid (yok.out.below b3)
        replace bw := hid (bt bw.out b3)
        clear b3 hget
        obtain ⟨zno, znc, zlo, zlc, ez1, ez2, zl1, zl2⟩ := zok.forms
        have hzv : z.val = .agg #[.int .u8 (z.kind : Nat), .bool z.bool, .int .i64 z.num, .string z.str, .string z.typ, .slice zno z.names.length znc, .slice zlo z.list.length zlc] := by rw [T.lit, ez1, ez2]
        obtain ⟨uno, unc, ulo, ulc, eu1, eu2, ul1, ul2⟩ := (huok.out _ bw.out).forms
        have huv : u.val = .agg #[.int .u8 (u.kind : Nat), .bool u.bool, .int .i64 u.num, .string u.str, .string u.typ, .slice uno u.names.length unc, .slice ulo u.list.length ulc] := by rw [T.lit, eu1, eu2]
        rw [hzv]
        have hcl := fun W (b : Below w3.heap.size w3 W) => same_any z u W (zok.below b) (huok.out _ (bt bw.out b))
        rw [hzv, huv, like_same (T.like_symm hlk)] at hcl
        replace hcl := hid hcl
        have hcel2 := hid (fun W (b : Below w.heap.size w W) => (show W.cell? ⟨lb, lof + k * 7, none⟩ = some (.int .u8 (u.kind : Nat)) ∧ W.cell? ⟨lb, lof + k * 7 + 1, none⟩ = some (.bool u.bool) ∧ W.cell? ⟨lb, lof + k * 7 + 2, none⟩ = some (.int .i64 u.num) ∧ W.cell? ⟨lb, lof + k * 7 + 3, none⟩ = some (.string u.str) ∧ W.cell? ⟨lb, lof + k * 7 + 4, none⟩ = some (.string u.typ) ∧ W.cell? ⟨lb, lof + k * 7 + 5, none⟩ = some (.slice uno u.names.length unc) ∧ W.cell? ⟨lb, lof + k * 7 + 6, none⟩ = some (.slice ulo u.list.length ulc) from by
          obtain ⟨lb', lof', e', hx⟩ := hcel.out W b
          simp only [Option.some.injEq, Addr.mk.injEq, and_true] at e'
          obtain ⟨rfl, rfl⟩ := e'
          rw [eu1, eu2] at hx
          exact hx))
        clear hzv huv zok hlk ez1 ez2 zl1 zl2 eu1 eu2 ul1 ul2 huok hcel
        go_upto_region 11 with fail
        have K2 := hid (Blk.new w3 [.int .u8 (z.kind : Nat), .bool z.bool, .int .i64 z.num, .string z.str, .string z.typ, .slice zno z.names.length znc, .slice zlo z.list.length zlc] 27)
        have b4 := hid ((Below.refl w3.heap.size w3).alloc (Nat.le_refl _) (.cells #[.int .u8 (z.kind : Nat), .bool z.bool, .int .i64 z.num, .string z.str, .string z.typ, .slice zno z.names.length znc, .slice zlo z.list.length zlc] 27))
        replace K := hid (K.out.below b4.out K.out.lt)
        replace yok := hid (yok.out.below b4.out)
        replace bw := hid (bt bw.out b4.out)
        generalize w3.alloc (.cells #[.int .u8 (z.kind : Nat), .bool z.bool, .int .i64 z.num, .string z.str, .string z.typ, .slice zno z.names.length znc, .slice zlo z.list.length zlc] 27) = X3 at K K2 b4 yok bw ⊢
        replace hcl := hid (fun W (b : Below X3.heap.size X3 W) => hcl.out W (bt b4.out b))
        clear b4
        generalize w3.heap.size = n3 at K2 ⊢
        obtain ⟨d0, d1, d2, d3, d4, d5, d6, df⟩ := seven K2.out
        obtain ⟨xf0, xf1, xf2, xf3, xf4, xf5, xf6⟩ := hcel2.out _ bw.out
        clear hcel2 K2
        go_region_held3 (fun W => W.cell? ⟨n3, 0, none⟩ = some (.int .u8 (z.kind : Nat)) ∧ W.cell? ⟨n3, 1, none⟩ = some (.bool z.bool) ∧ W.cell? ⟨n3, 2, none⟩ = some (.int .i64 z.num) ∧ W.cell? ⟨n3, 3, none⟩ = some (.string z.str) ∧ W.cell? ⟨n3, 4, none⟩ = some (.string z.typ) ∧ W.cell? ⟨n3, 5, none⟩ = some (.slice zno z.names.length znc) ∧ W.cell? ⟨n3, 6, none⟩ = some (.slice zlo z.list.length zlc) ∧ W.cell? ⟨lb, lof + k * 7, none⟩ = some (.int .u8 (u.kind : Nat)) ∧ W.cell? ⟨lb, lof + k * 7 + 1, none⟩ = some (.bool u.bool) ∧ W.cell? ⟨lb, lof + k * 7 + 2, none⟩ = some (.int .i64 u.num) ∧ W.cell? ⟨lb, lof + k * 7 + 3, none⟩ = some (.string u.str) ∧ W.cell? ⟨lb, lof + k * 7 + 4, none⟩ = some (.string u.typ) ∧ W.cell? ⟨lb, lof + k * 7 + 5, none⟩ = some (.slice uno u.names.length unc) ∧ W.cell? ⟨lb, lof + k * 7 + 6, none⟩ = some (.slice ulo u.list.length ulc)) (exact ⟨d0, d1, d2, d3, d4, d5, d6, xf0, xf1, xf2, xf3, xf4, xf5, xf6⟩) (first
          | (go_at_call 8; (with_reducible refine (hcl.out _ ((Below.refl _ X3).drew)).mono ?_); rintro e w4 ⟨rfl, b1⟩; replace b1 := (Below.refl X3.heap.size X3).drew.trans b1
             have ca : ∀ {a : Addr} {v : Value}, X3.cell? a = some v → w4.cell? a = some v := fun h => (b1.cell (World.block_lt_of_cell? _ _ h)).trans h
             replace d0 := ca d0; replace d1 := ca d1; replace d2 := ca d2; replace d3 := ca d3; replace d4 := ca d4; replace d5 := ca d5; replace d6 := ca d6; replace xf0 := ca xf0; replace xf1 := ca xf1; replace xf2 := ca xf2; replace xf3 := ca xf3; replace xf4 := ca xf4; replace xf5 := ca xf5; replace xf6 := ca xf6; clear ca))
        clear d0 d1 d2 d3 d4 d5 d6 xf0 xf1 xf2 xf3 xf4 xf5 xf6 df hcl
        replace K := hid (K.out.below b1 K.out.lt)
        replace yok := hid (yok.out.below b1)
        replace bw := hid (bt bw.out b1)
        clear b1
        obtain ⟨t, ht⟩ : ∃ t, (sq.toList == s.toList) = t := ⟨_, rfl⟩
        rw [ht] at hst
        cases B with
        | false =>
          rw [Bool.false_or] at hst
          go_wp2_with fail
          go_roundw
          case rel => exact ⟨k + 1, by omega, by go_num, by rw [hst.out], K, yok, bw⟩
          case measure => simp [intOf]; omega
        | true =>
          rw [Bool.true_or] at hst
          go_wp2_with fail
          go_roundw
          case rel => exact ⟨k + 1, by omega, by go_num, by rw [hst.out], K, yok, bw⟩
          case measure => simp [intOf]; omega
      · obtain rfl : k = L.length := by omega
        clear hkl hk
        have hget := get_other hrd.out yok.out s hss'.out
        rw [hyv.out] at hget
        replace hget := hid hget
        obtain ⟨c0, c1, c2, c3, c4, c5, c6, cf⟩ := seven K.out
        go_wp2_with fail
        clear c0 c1 c2 c3 c4 c5 c6 cf
        refine hget.out.mono ?_
        rintro e w3 ⟨⟨z, c, rfl, zok, hc⟩, b3⟩
        have e1 : (c == 0) = knB L s L.length := by
          rw [Bool.eq_iff_iff, beq_iff_eq, knB_all]
          exact hc
        generalize knB L s L.length = B at e1 ⊢
        have e2 : (B == B) = true := by simp
        replace K := hid (K.out.below b3 K.out.lt)
        replace yok := hid (yok.out.below b3)
        replace bw := hid (bt bw.out b3)
        clear b3 hget hc
        obtain ⟨zno, znc, zlo, zlc, ez1, ez2, zl1, zl2⟩ := zok.forms
        have hzv : z.val = .agg #[.int .u8 (z.kind : Nat), .bool z.bool, .int .i64 z.num, .string z.str, .string z.typ, .slice zno z.names.length znc, .slice zlo z.list.length zlc] := by rw [T.lit, ez1, ez2]
        rw [hzv]
        clear hzv zok ez1 ez2 zl1 zl2
        go_upto_region 16 with fail
        have b4 := hid ((Below.refl w3.heap.size w3).alloc (Nat.le_refl _) (.cells #[.int .u8 (z.kind : Nat), .bool z.bool, .int .i64 z.num, .string z.str, .string z.typ, .slice zno z.names.length znc, .slice zlo z.list.length zlc] 27))
        replace K := hid (K.out.below b4.out K.out.lt)
        replace yok := hid (yok.out.below b4.out)
        replace bw := hid (bt bw.out b4.out)
        generalize w3.alloc (.cells #[.int .u8 (z.kind : Nat), .bool z.bool, .int .i64 z.num, .string z.str, .string z.typ, .slice zno z.names.length znc, .slice zlo z.list.length zlc] 27) = X3 at K b4 yok bw ⊢
        clear b4
        have hck := cK.out X3 bw.out y yok.out
        rw [hyv.out, hrd.out.2.2.2.2.1] at hck
        replace hck := hid hck
        have e3 : ((y.list.length : Int) == (l.length : Int)) = true := by rw [beq_iff_eq, hrd.out.2.2.2.1]
        obtain ⟨c0, c1, c2, c3, c4, c5, c6, cf⟩ := seven K.out
        go_wp2_with fail
        clear c0 c1 c2 c3 c4 c5 c6 cf
        refine hck.out.mono ?_
        rintro e w4 ⟨rfl, b4⟩
        replace K := hid (K.out.below b4 K.out.lt)
        replace bw := hid (bt bw.out b4)
        clear b4 hck
        obtain ⟨c0, c1, c2, c3, c4, c5, c6, cf⟩ := seven K.out
        go_wp2_with fail
        go_ret
        exact ⟨rfl, bw.out⟩
end Go.Proofs.YtdjgkbpfmonebaaGreatDoor.Val
