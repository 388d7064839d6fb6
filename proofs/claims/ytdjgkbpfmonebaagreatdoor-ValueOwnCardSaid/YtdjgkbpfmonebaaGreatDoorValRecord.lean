/-
  value.Record: contract.
-/
import Derived.Test.YtdjgkbpfmonebaaGreatDoorValMake
import Derived.Test.YtdjgkbpfmonebaaGreatDoorPlaceMath
import Derived.Test.YtdjgkbpfmonebaaGreatDoorStrSorted
namespace Go.Proofs.YtdjgkbpfmonebaaGreatDoor.Val
open Go.ChangeShapes Go.WideShapes Go.ChangeAt Go.RowKit
open Go.Proofs.YtdjgkbpfmonebaaGreatDoor.Mem Go.Proofs.YtdjgkbpfmonebaaGreatDoor.Nam
set_option linter.unusedVariables false
set_option linter.unusedSimpArgs false
set_option maxRecDepth 100000
theorem MapP.below {W W' : World} {b n : Nat} {D : DataW Unit} (h : MapP W b n D) (hb : Below W.heap.size W W') : MapP W' b n D := by
  have hlt := World.ownsMap.lt h
  obtain ⟨es, clock, hh, r⟩ := h
  exact ⟨es, clock, (hb.block b hlt).trans hh, r⟩
theorem MapP.keepAt {W W' : World} {b n : Nat} {D : DataW Unit} (h : MapP W b n D) (hb : W'.heap[b]? = W.heap[b]?) : MapP W' b n D := by
  obtain ⟨es, clock, hh, r⟩ := h
  exact ⟨es, clock, hb.trans hh, r⟩
theorem row_keepAt {W W' : World} {base : Nat} {e : TypeId} {size n : Nat} {v : Value} {xs : List Value} (h : W.ownsRow base e size v n xs) (hk : ∀ g, v.ownBlock = some g → W'.heap[g]? = W.heap[g]?) : W'.ownsRow base e size v n xs := by
  obtain ⟨h1, h2⟩ := h
  refine ⟨h1, ?_⟩
  rcases h2 with h2 | ⟨g, cap, cur, rfl, hge, hh, r⟩
  · exact .inl h2
  · exact .inr ⟨g, cap, cur, rfl, hge, (hk g rfl).trans hh, r⟩
/-- between two names: the box of the record, the map of places, the sorted names, the parts' row -/
structure RSt (w0 : World) (L N : List ByteArray) (b n3 : Nat) (so : Option Addr) (sc : Nat) (bv rv : Value) (ls : List T) (W : World) : Prop where
  zero : Blk W w0.heap.size [.int .u8 0, .bool false, .int .i64 0, .string ⟨#[]⟩, .string ⟨#[]⟩, .slice none 0 0, .slice none 0 0] 27
  box : Blk W n3 [.int .u8 5, .bool false, .int .i64 0, .string ⟨#[]⟩, .string ⟨#[]⟩, .slice so N.length sc, bv] 27
  map : MapP W b L.length (plD L)
  names : W.ownsRow w0.heap.size 9 1 (.slice so N.length sc) N.length (strC N)
  row : W.ownsRow w0.heap.size 27 7 rv ls.length (T.encL ls)
  bel : Below w0.heap.size w0 W
  lt : w0.heap.size < n3
  mlt : w0.heap.size < b ∧ b < n3
  nlt : ∀ g, (Value.slice so N.length sc).ownBlock = some g → w0.heap.size < g ∧ g < n3
  rlt : ∀ g, rv.ownBlock = some g → n3 < g
  all : ∀ x ∈ ls, x.ok w0
theorem RSt.below {w0 W W' : World} {L N : List ByteArray} {b n3 : Nat} {so : Option Addr} {sc : Nat} {bv rv : Value} {ls : List T} (h : RSt w0 L N b n3 so sc bv rv ls W) (hb : Below W.heap.size W W') : RSt w0 L N b n3 so sc bv rv ls W' :=
  ⟨h.zero.below hb h.zero.lt, h.box.below hb h.box.lt, h.map.below hb, ownsRow_below h.names hb, ownsRow_below h.row hb, bt h.bel hb, h.lt, h.mlt, h.nlt, h.rlt, h.all⟩
theorem RSt.app {w0 W : World} {L N : List ByteArray} {b n3 : Nat} {so : Option Addr} {sc : Nat} {bv rv : Value} {ls : List T} {z : T} (h : RSt w0 L N b n3 so sc bv rv ls W) (hz : z.ok w0) (hzin : z.ok W) (hroom : (ls.length + 1) * 96 ≤ 140737488355328) :
    ∃ ro2 rc2 W7, (Builtin.append_ #[23, 23] 23 #[rv, .slice (some ⟨W.heap.size, 0, none⟩) 1 1]).run Tryz.prog (W.alloc (.cells z.enc.toArray 27)) = .ok (.slice ro2 (ls.length + 1) rc2) W7 ∧ RSt w0 L N b n3 so sc bv (.slice ro2 (ls.length + 1) rc2) (ls ++ [z]) W7 := by
  have b6 : Below W.heap.size W (W.alloc (.cells z.enc.toArray 27)) := (Below.refl _ W).alloc (Nat.le_refl _) _
  have h6 := h.below b6
  obtain ⟨i0, hi, hz0, hz1, hz2⟩ := info_parts' info_value
  have hK := Blk.new W z.enc 27
  have hm : maxLen = 9223372036854775807 := rfl
  obtain ⟨v', W7, hrun, ho, hg, hpl⟩ := run_append_place (P := Tryz.prog) (W.alloc (.cells z.enc.toArray 27)) w0.heap.size 23 23 27 i0 (.agg #[.int .u8 0, .bool false, .int .i64 0, .string ⟨#[]⟩, .string ⟨#[]⟩, .slice none 0 0, .slice none 0 0]) 7 96 Tryz.underlying23 hi hz0 hz1 hz2 rfl (by decide) rv ls.length (T.encL ls) h6.row
    ⟨W.heap.size, 0, none⟩ 1 1 z.enc rfl (getElem?_cells' (fun j hj => by rw [Mem.add_plain, Nat.zero_add]; exact hK.cell j hj)) (enc_one hzin) (by omega) hroom h6.bel.size
  obtain ⟨ro2, rc2, rfl, _⟩ := ownsRow_form ho
  have hk : ∀ k, k ≤ n3 → W7.heap[k]? = (W.alloc (.cells z.enc.toArray 27)).heap[k]? := fun k hk => hg.block k (by have := h6.box.lt; omega) (fun e => by have := h.rlt k e.symm; omega)
  refine ⟨ro2, rc2, W7, hrun, Blk.keepAt h6.zero (hk _ (by have := h.lt; omega)), Blk.keepAt h6.box (hk _ (Nat.le_refl _)), h6.map.keepAt (hk _ (by have := h.mlt; omega)), row_keepAt h6.names (fun g e => hk g (by have := h.nlt g e; omega)), ?_,
    h6.bel.grown hg h6.bel.size (fun k e => by have := h.rlt k e; have := h.lt; omega), h.lt, h.mlt, h.nlt, fun g e => ?_, fun x hx => ?_⟩
  · rw [List.length_append, encL_append, encL_cons]
    simpa [T.encL] using ho
  · rcases hpl with hp | ⟨g', hp, hge⟩
    · rw [hp] at e; exact h.rlt g e
    · rw [hp] at e; cases e; have := h6.box.lt; omega
  · rcases List.mem_append.1 hx with hx | hx
    · exact h.all x hx
    · rw [List.mem_singleton] at hx; subst hx; exact hz
theorem RSt.put {w0 W : World} {L N : List ByteArray} {b n3 : Nat} {so : Option Addr} {sc : Nat} {bv rv : Value} {ls : List T} (h : RSt w0 L N b n3 so sc bv rv ls W) : RSt w0 L N b n3 so sc rv rv ls (W.setCell ⟨n3, 6, none⟩ rv) := by
  have hk : ∀ k, k ≠ n3 → (W.setCell ⟨n3, 6, none⟩ rv).heap[k]? = W.heap[k]? := fun k hk => Below.heap_setCell _ _ _ _ hk
  exact ⟨Blk.keepAt h.zero (hk _ (by have := h.lt; omega)), h.box.set 6 rv, h.map.keepAt (hk _ (by have := h.mlt; omega)), row_keepAt h.names (fun g e => hk g (by have := h.nlt g e; omega)), row_keepAt h.row (fun g e => hk g (by have := h.rlt g e; omega)),
    h.bel.setCell (by have := h.lt; show w0.heap.size ≤ n3; omega) _, h.lt, h.mlt, h.nlt, h.rlt, h.all⟩
/-- the parts so far, each that of its name -/
def Picked (L : List ByteArray) (l : List T) (N : List ByteArray) (ls : List T) : Prop := (∀ x ∈ ls, x ∈ l) ∧ ∀ j q, j < ls.length → q < L.length → N[j]? = L[q]? → ls[j]? = l[q]?
theorem picked_next {L : List ByteArray} {l : List T} {N : List ByteArray} {ls : List T} {k q : Nat} {z : T} (h : Picked L l N ls) (hl : ls.length = k) (ho : Once L) (hq : q < L.length) (hN : N[k]? = some L[q]) (hz : l[q]? = some z) : Picked L l N (ls ++ [z]) := by
  refine ⟨fun x hx => ?_, fun j r hj hr e => ?_⟩
  · rcases List.mem_append.1 hx with hx | hx
    · exact h.1 x hx
    · rw [List.mem_singleton] at hx; subst hx; exact List.mem_of_getElem? hz
  · rw [List.length_append, List.length_singleton, hl] at hj
    by_cases hjk : j < k
    · rw [List.getElem?_append_left (by omega)]
      exact h.2 j r (by omega) hr e
    · obtain rfl : j = k := by omega
      rw [hN, List.getElem?_eq_getElem hr] at e
      have := ho q r hq hr (Option.some.inj e)
      subst this
      rw [List.getElem?_append_right (by omega), hl, Nat.sub_self, hz]
      rfl
theorem step_append_run {P : Program} {ops : Array Oper} {o : Oper} {a : Act} {w : World} {K : Act → World → Prop} {Q : Exit → Act → World → Prop} {E : Prop}
    (hg : o.guard = none) (s x : Operand) (t : TypeId) (hop : o.op = Op.call { callee := Callee.builtin Builtin.append, args := #[s, x], argTypes := #[t, t] })
    (v1 v2 v : Value) (w' : World) (hs : a.eval s = v1) (hx : a.eval x = v2) (hrun : (Builtin.append_ #[t, t] o.type #[v1, v2]).run P w = .ok v w') (hK : K (a.put o.dst v) w') :
    if Region.wanted o (yielded ops a.tmps) = true then Oper.wp P o a w K Q else E := by
  have hw : Region.wanted o (yielded ops a.tmps) = true := by simp [Region.wanted, hg]
  rw [if_pos hw]
  unfold Oper.wp
  simp [execOp, hop, resolve, invoke, builtin, hs, hx, hrun, Result.andThen]
  exact hK
/-- the record that has names and parts -/
def recT (N : List ByteArray) (nv : Value) (ls : List T) (lv : Value) : T := .mk 5 false 0 ⟨#[]⟩ ⟨#[]⟩ N nv ls lv
theorem recT_ok {W : World} {N : List ByteArray} {nv : Value} {ls : List T} {lv : Value} (hN : StrsV W nv N) (hs : ∀ y ∈ N, y.size ≤ 140737488355328) (hNb : N.length * 16 ≤ 140737488355328) (h : SlV W lv ls.length (T.encL ls)) (hb : ls.length * 96 ≤ 140737488355328) (hall : ∀ x ∈ ls, x.ok W) : (recT N nv ls lv).ok W :=
  T.ok.mk' ⟨⟨(by decide : 5 < 256), hNb, hb⟩, (by decide : (-9223372036854775808 : Int) ≤ 0 ∧ (0 : Int) ≤ 9223372036854775807), (by decide : (⟨#[]⟩ : ByteArray).size ≤ 140737488355328), (by decide : (⟨#[]⟩ : ByteArray).size ≤ 140737488355328), hs, hN, h, hall⟩
def RecP (w : World) (L : List ByteArray) (l : List T) (e : Ending) (w' : World) : Prop :=
  (L.length ≠ l.length ∧ e = .returned (.tuple #[.agg zeroA, .int .i64 2])) ∨ (L.length = l.length ∧ ¬ Once L ∧ e = .returned (.tuple #[.agg zeroA, .int .i64 10])) ∨
  (L.length = l.length ∧ Once L ∧ ∃ (N : List ByteArray) (ls : List T) (nv lv : Value), N.Perm L ∧ ls.length = N.length ∧ Picked L l N ls ∧ MadeP w.heap.size (recT N nv ls lv) e w')
set_option maxHeartbeats 4000000 in
theorem record_any (hS : SplitTold) (hV : ValidTold) (L : List ByteArray) (l : List T) (nv lv : Value) (w : World) (hn : StrsV w nv L) (hsz : ∀ y ∈ L, y.size ≤ 140737488355328) (hnr : L.length * 16 ≤ 140737488355328) (h : LV w lv l) (hw : Start w) :
    Calls Tryz.prog 7 #[nv, lv] w fun e w' => RecP w L l e w' ∧ Below w.heap.size w w' := by
  have cP := hid (fun W (b : Below w.heap.size w W) => places_any L nv W (hn.below b) hsz)
  have cV := hid (fun W => vals_any (Option.none) 0 0 W)
  have cK := hid (fun W (b : Below w.heap.size w W) x (hx : T.ok W x) => checked_any hS hV x W hx (hw.below b))
  obtain ⟨no, nc, rfl, hn2, hn3⟩ := hn.form
  obtain ⟨lo, lc, rfl, hl⟩ := h.form
  have h' := hid h
  have hn' := hid hn
  have hsz' := hid hsz
  have hnr' := hid hnr
  have hroom := hid h.room
  have hli : (l.length : Int) ≤ 9223372036854775807 := by omega
  have hLi : (L.length : Int) ≤ 9223372036854775807 := by omega
  clear h hn hsz hnr hw hS hV hl hn2 hn3 cV
  go_enter Tryz.func7, Tryz.ntmps7
  go_upto_region 1 with fail
  have K2 := hid (Blk.new w [.int .u8 0, .bool false, .int .i64 0, .string ⟨#[]⟩, .string ⟨#[]⟩, .slice none 0 0, .slice none 0 0] 27)
  have bw := hid ((Below.refl w.heap.size w).alloc (Nat.le_refl _) (.cells #[.int .u8 0, .bool false, .int .i64 0, .string ⟨#[]⟩, .string ⟨#[]⟩, .slice none 0 0, .slice none 0 0] 27))
  generalize w.alloc (.cells #[.int .u8 0, .bool false, .int .i64 0, .string ⟨#[]⟩, .string ⟨#[]⟩, .slice none 0 0, .slice none 0 0] 27) = X1 at K2 bw ⊢
  by_cases hlen : L.length = l.length
  · have e1 : ((L.length : Int) == (l.length : Int)) = true := by rw [beq_iff_eq]; omega
    have e2 : ((L.length : Int) != (l.length : Int)) = false := by unfold bne; rw [e1]; rfl
    have hlen' := hid hlen
    clear hlen
    go_wp2_with fail
    refine (cP.out _ bw.out).mono ?_
    rintro e w2 ⟨b, rfl, hbge, hmap, b2⟩
    have hblt := hid (Nat.lt_of_lt_of_le K2.out.lt hbge)
    replace hmap := hid hmap
    have hmlt := hid (World.ownsMap.lt hmap.out)
    replace K2 := hid (K2.out.below b2 K2.out.lt)
    replace bw := hid (bt bw.out b2)
    clear b2 hbge cP e1 e2
    by_cases ho : Once L
    · have hsize := hid ((plD_size hsz'.out hLi).2 ho)
      replace ho := hid ho
      obtain ⟨ms, hms⟩ : ∃ ms, Hid (Maps.size (plD L) = ms) := ⟨_, hid rfl⟩
      have e1 : ((ms : Int) == (L.length : Int)) = true := by rw [beq_iff_eq, ← hms.out, hsize.out]
      have e2 : ((ms : Int) != (L.length : Int)) = false := by unfold bne; rw [e1]; rfl
      have hml : ∀ ty, (Builtin.len_ #[52] ty #[.map (some b)]).run Tryz.prog w2 = .ok (.int .i64 (ms : Int)) w2 := fun ty => by
        have := World.ownsMap.len hmap.out Tryz.underlying52 ty
        rw [hms.out] at this
        exact this
      go_wp2_with fail
      refine (vals_any no L.length nc _).mono ?_
      rintro e w3 ⟨rfl, rfl⟩
      clear hml e1 e2 hms hsize
      have hA := hid (show Below w2.heap.size w2 (w2.alloc (.cells #[.slice no L.length nc] 22)) from (Below.refl _ w2).alloc (Nat.le_refl _) _)
      have hbx := hid (Blk.new w2 [.slice no L.length nc] 22)
      have hw3 := hid (show (w2.alloc (.cells #[.slice no L.length nc] 22)).heap.size = w2.heap.size + 1 by simp)
      replace hmap := hid (hmap.out.below hA.out)
      replace K2 := hid (K2.out.below hA.out K2.out.lt)
      replace bw := hid (bt bw.out hA.out)
      generalize w2.alloc (.cells #[.slice no L.length nc] 22) = w3 at hA hbx hw3 hmap K2 bw ⊢
      have hso := hid (sorted_any L (.slice no L.length nc) w2.heap.size w3 w hnr'.out (by have := hw3.out; omega) hbx.out.one.1 bw.out.size bw.out hn'.out)
      clear hbx hA
      go_wp2_with fail
      refine hso.out.mono ?_
      rintro e w4 ⟨so, sc, N, rfl, hperm, hrow, b4⟩
      have hK2lt := hid K2.out.lt
      have hmlt3 := hid (World.ownsMap.lt hmap.out)
      have hperm' := hid hperm
      have hlast := hid (show N.length = L.length from hperm.length_eq)
      have hNi : (N.length : Int) ≤ 9223372036854775807 := by rw [hperm.length_eq]; exact hLi
      have hN16 := hid (show N.length * 16 ≤ 140737488355328 by rw [hperm.length_eq]; exact hnr'.out)
      have hnown := hid hrow
      replace hmap := hid (hmap.out.below b4)
      replace K2 := hid (K2.out.below b4 K2.out.lt)
      replace bw := hid (bt bw.out b4)
      have hb4 := hid b4.size
      clear hso hrow b4 hperm
      go_upto_region 7 with fail
      have hM0 := hid (show RSt w L N b w4.heap.size so sc (.slice none 0 0) (.slice none 0 0) [] (w4.alloc (.cells #[.int .u8 5, .bool false, .int .i64 0, .string ⟨#[]⟩, .string ⟨#[]⟩, .slice so N.length sc, .slice none 0 0] 27)) from
        have b6 : Below w4.heap.size w4 (w4.alloc (.cells #[.int .u8 5, .bool false, .int .i64 0, .string ⟨#[]⟩, .string ⟨#[]⟩, .slice so N.length sc, .slice none 0 0] 27)) := (Below.refl _ w4).alloc (Nat.le_refl _) _
        ⟨K2.out.below b6 K2.out.lt, Blk.new w4 _ _, hmap.out.below b6, ownsRow_mono (ownsRow_below hnown.out b6) (by have := hw3.out; have := hK2lt.out; omega), World.ownsRow_nil _ _ _ _, bt bw.out b6, by have := hK2lt.out; have := hb4.out; have := hw3.out; omega,
          ⟨hblt.out, by have := hmlt3.out; have := hb4.out; omega⟩, fun g e => by have := hnown.out.lt g e; have := hw3.out; have := hK2lt.out; omega, (fun g e => by simp [Value.ownBlock] at e), (fun x hx => by cases hx)⟩)
      clear hmap K2 bw hnown hb4 hK2lt hmlt3 hw3 hmlt hblt
      generalize w4.alloc (.cells #[.int .u8 5, .bool false, .int .i64 0, .string ⟨#[]⟩, .string ⟨#[]⟩, .slice so N.length sc, .slice none 0 0] 27) = X2 at hM0 ⊢
      generalize w4.heap.size = n3 at hM0 ⊢
      obtain ⟨c0, c1, c2, c3, c4, c5, c6, cf⟩ := seven hM0.out.box
      go_wp2_with fail
      go_loopw [31] (fun i wr => ∃ (k : Nat) (ls : List T) (ro : Option Addr) (rc : Nat), k ≤ N.length ∧ i = .int .i64 k ∧ Hid (ls.length = k) ∧ Hid (Picked L l N ls) ∧ Hid (RSt w L N b n3 so sc (.slice ro k rc) (.slice ro k rc) ls wr)) (fun i _ => N.length - (intOf i).toNat)
      case atStart => exact ⟨0, [], none, 0, by omega, rfl, hid rfl, hid ⟨(fun x hx => by cases hx), (fun j q hj => by simp at hj)⟩, hM0⟩
      case round =>
        clear c0 c1 c2 c3 c4 c5 c6 cf hM0
        obtain ⟨k, ls, ro, rc, hk, rfl, hlsl, hpick, M⟩ := hrel
        rename_i wr _
        by_cases hkl : k < N.length
        · have hki : (k : Int) < (N.length : Int) := by omega
          obtain ⟨q, hq, hqe⟩ : ∃ q, ∃ hq : q < L.length, L[q] = N[k] := List.getElem_of_mem (hperm'.out.mem_iff.1 (List.getElem_mem hkl))
          have hql : q < l.length := by have := hlen'.out; omega
          have hqi : (q : Int) < (l.length : Int) := by omega
          have hq0 : (0 : Int) ≤ (q : Int) := by omega
          obtain ⟨nb, nof, rfl, hname⟩ : ∃ nb nof, so = some ⟨nb, nof, none⟩ ∧ wr.cell? ⟨nb, nof + k, none⟩ = some (.string N[k]) := by
            obtain ⟨nb, nof, cap, h1, _, _, _, h5⟩ := StrsV.open (show StrsV wr (.slice so N.length sc) N from SlV.own M.out.names) (by omega)
            simp only [Value.slice.injEq] at h1
            exact ⟨nb, nof, h1.1, h5 k hkl⟩
          have hlook := hid (fun W (hm : MapP W b L.length (plD L)) => place_look hm hsz'.out hLi ho.out q hq)
          have hNk : N[k]? = some L[q] := by rw [List.getElem?_eq_getElem hkl, hqe]
          have hpick2 := hid (picked_next (z := l[q]) hpick.out hlsl.out ho.out hq hNk (List.getElem?_eq_getElem hql))
          rw [← hqe] at hname
          obtain ⟨z, hz⟩ : ∃ z, l[q] = z := ⟨_, rfl⟩
          have hzw := h'.out.all _ (List.getElem_mem hql)
          have hcel0 := fun W (bb : Below w.heap.size w W) => (h'.out.below bb).cells q hql
          rw [hz] at hzw hpick2
          have hzok := hid hzw
          have hzall := hid (fun W (bb : Below w.heap.size w W) => hzw.below bb)
          obtain ⟨zno, znc, zlo, zlc, ez1, ez2, zl1, zl2⟩ := hzw.forms
          have hze := hid (show z.enc.toArray = #[.int .u8 (z.kind : Nat), .bool z.bool, .int .i64 z.num, .string z.str, .string z.typ, .slice zno z.names.length znc, .slice zlo z.list.length zlc] by unfold T.enc; rw [ez1, ez2])
          obtain ⟨lb, lof, rfl, hx0⟩ := hcel0 _ M.out.bel
          have hcel := hid (fun W (bb : Below w.heap.size w W) => (show W.cell? ⟨lb, lof + q * 7, none⟩ = some (.int .u8 (z.kind : Nat)) ∧ W.cell? ⟨lb, lof + q * 7 + 1, none⟩ = some (.bool z.bool) ∧ W.cell? ⟨lb, lof + q * 7 + 2, none⟩ = some (.int .i64 z.num) ∧ W.cell? ⟨lb, lof + q * 7 + 3, none⟩ = some (.string z.str) ∧
            W.cell? ⟨lb, lof + q * 7 + 4, none⟩ = some (.string z.typ) ∧ W.cell? ⟨lb, lof + q * 7 + 5, none⟩ = some (.slice zno z.names.length znc) ∧ W.cell? ⟨lb, lof + q * 7 + 6, none⟩ = some (.slice zlo z.list.length zlc) from by
            obtain ⟨lb', lof', e', hx⟩ := hcel0 W bb
            simp only [Option.some.injEq, Addr.mk.injEq, and_true] at e'
            obtain ⟨rfl, rfl⟩ := e'
            rw [hz, ez1, ez2] at hx
            exact hx))
          have hzin := hzall
          generalize L[q] = sq at hname hlook
          clear hz hzw hcel0 hx0 ez1 ez2 zl1 zl2 hNk hqe
          go_upto_region 10 with fail
          clear hname
          have hmix : Tryz.prog.follows .mixedOrders = true := by kernel_rfl
          refine wp_region_any hmix ?_
          clear hmix
          rw [show ({ heap := wr.heap, tape := wr.tape, drawn := wr.drawn + 1, os := wr.os, output := wr.output } : World) = wr.drew from rfl]
          replace M := hid (M.out.below (Below.refl _ wr).drew)
          generalize wr.drew = w5 at M ⊢
          refine wpAny_take (i := 0) (v := ?_) rfl (by kernel_rfl) (by kernel_rfl) (by kernel_rfl) (fun _ _ _ h => h) (Or.inl ⟨by rfl, ?_⟩) ?_
          rotate_left 1
          (intro w; go_simp; try with_reducible rfl)
          (try simp only [Act.put, List.getElem_toArray, List.getElem_cons_zero, List.getElem_cons_succ, List.setIfInBounds_toArray, List.set_cons_zero, List.set_cons_succ])
          refine wpAny_take (i := 2) (v := ?_) rfl (by kernel_rfl) (by kernel_rfl) (by kernel_rfl) (fun _ _ _ h => h) (Or.inl ⟨by rfl, ?_⟩) ?_
          rotate_left 1
          (intro w; go_simp; try with_reducible rfl)
          (try simp only [Act.put, List.getElem_toArray, List.getElem_cons_zero, List.getElem_cons_succ, List.setIfInBounds_toArray, List.set_cons_zero, List.set_cons_succ])
          refine wpAny_take (i := 3) (v := ?_) rfl (by kernel_rfl) (by kernel_rfl) (by kernel_rfl) (fun _ _ _ h => h) (Or.inl ⟨by rfl, ?_⟩) ?_
          rotate_left 1
          (intro w; go_simp; try with_reducible rfl)
          (try simp only [Act.put, List.getElem_toArray, List.getElem_cons_zero, List.getElem_cons_succ, List.setIfInBounds_toArray, List.set_cons_zero, List.set_cons_succ])
          refine wpAny_take (i := 4) (v := ?_) rfl (by kernel_rfl) (by kernel_rfl) (by kernel_rfl) (fun _ _ _ h => h) (Or.inl ⟨by rfl, ?_⟩) ?_
          rotate_left 1
          (intro w; go_simp; try with_reducible rfl)
          (try simp only [Act.put, List.getElem_toArray, List.getElem_cons_zero, List.getElem_cons_succ, List.setIfInBounds_toArray, List.set_cons_zero, List.set_cons_succ])
          refine wpAny_ready (rs := [1, 5]) (by kernel_rfl) (by simp) ?_
          refine AllReady.cons rfl (fun K hK => ?_) ?_
          · skip
            obtain ⟨c0, c1, c2, c3, c4, c5, c6, cf⟩ := seven M.out.box
            go_simp
            clear c0 c1 c2 c3 c4 c5 c6 cf
            refine hK _ _ ?_
            clear hK K
            (try simp only [Act.put, List.getElem_toArray, List.getElem_cons_zero, List.getElem_cons_succ, List.setIfInBounds_toArray, List.set_cons_zero, List.set_cons_succ])
            refine wpAny_ready (rs := [5]) (by kernel_rfl) (by simp) ?_
            refine AllReady.cons rfl (fun K hK => ?_) AllReady.nil
            have hl := hlook.out _ M.out.map
            go_simp
            clear hl
            refine hK _ _ ?_
            clear hK K
            (try simp only [Act.put, List.getElem_toArray, List.getElem_cons_zero, List.getElem_cons_succ, List.setIfInBounds_toArray, List.set_cons_zero, List.set_cons_succ])
            refine wpAny_take (i := 6) (v := ?_) rfl (by kernel_rfl) (by kernel_rfl) (by kernel_rfl) (fun _ _ _ h => h) (Or.inl ⟨by rfl, ?_⟩) ?_
            rotate_left 1
            (intro w; go_simp; try with_reducible rfl)
            (try simp only [Act.put, List.getElem_toArray, List.getElem_cons_zero, List.getElem_cons_succ, List.setIfInBounds_toArray, List.set_cons_zero, List.set_cons_succ])
            refine wpAny_ready (rs := [7]) (by kernel_rfl) (by simp) ?_
            refine AllReady.cons rfl (fun K hK => ?_) AllReady.nil
            obtain ⟨xf0, xf1, xf2, xf3, xf4, xf5, xf6⟩ := hcel.out _ M.out.bel
            go_simp
            clear xf0 xf1 xf2 xf3 xf4 xf5 xf6
            refine hK _ _ ?_
            clear hK K
            (try simp only [Act.put, List.getElem_toArray, List.getElem_cons_zero, List.getElem_cons_succ, List.setIfInBounds_toArray, List.set_cons_zero, List.set_cons_succ])
            refine wpAny_ready (rs := [8]) (by kernel_rfl) (by simp) ?_
            refine AllReady.cons rfl (fun K hK => ?_) AllReady.nil
            go_simp
            have happ := hid (M.out.app hzok.out (hzin.out _ M.out.bel) (by rw [hlsl.out]; have := hroom.out; have := hlast.out; have := hlen'.out; omega))
            rw [hze.out, hlsl.out] at happ
            replace M := hid (M.out.below ((Below.refl _ w5).alloc (Nat.le_refl _) (.cells #[.int .u8 (z.kind : Nat), .bool z.bool, .int .i64 z.num, .string z.str, .string z.typ, .slice zno z.names.length znc, .slice zlo z.list.length zlc] 27)))
            refine hK _ _ ?_
            clear hK K
            (try simp only [Act.put, List.getElem_toArray, List.getElem_cons_zero, List.getElem_cons_succ, List.setIfInBounds_toArray, List.set_cons_zero, List.set_cons_succ])
            refine wpAny_ready (rs := [9]) (by kernel_rfl) (by simp) ?_
            refine AllReady.cons rfl (fun K hK => ?_) AllReady.nil
            obtain ⟨ro2, rc2, w7, hrun, hM⟩ := happ.out
            refine step_append_run rfl (.tmp 36) (.tmp 43) 23 rfl _ _ _ _ rfl rfl hrun ?_
            replace M := hid hM
            clear hrun hM happ
            refine hK _ _ ?_
            clear hK K
            (try simp only [Act.put, List.getElem_toArray, List.getElem_cons_zero, List.getElem_cons_succ, List.setIfInBounds_toArray, List.set_cons_zero, List.set_cons_succ])
            refine wpAny_take (i := 10) (v := ?_) rfl (by kernel_rfl) (by kernel_rfl) (by kernel_rfl) (fun _ _ _ h => h) (Or.inl ⟨by rfl, ?_⟩) ?_
            rotate_left 1
            (intro w; go_simp; try with_reducible rfl)
            (try simp only [Act.put, List.getElem_toArray, List.getElem_cons_zero, List.getElem_cons_succ, List.setIfInBounds_toArray, List.set_cons_zero, List.set_cons_succ])
            refine wpAny_ready (rs := [11]) (by kernel_rfl) (by simp) ?_
            refine AllReady.cons rfl (fun K hK => ?_) AllReady.nil
            obtain ⟨c0, c1, c2, c3, c4, c5, c6, cf⟩ := seven M.out.box
            go_simp
            clear c0 c1 c2 c3 c4 c5 c6 cf
            replace M := hid M.out.put
            refine hK _ _ ?_
            clear hK K
            (try simp only [Act.put, List.getElem_toArray, List.getElem_cons_zero, List.getElem_cons_succ, List.setIfInBounds_toArray, List.set_cons_zero, List.set_cons_succ])
            refine wpAny_done (by kernel_rfl) ?_ _
            generalize w7.setCell ⟨n3, 6, none⟩ (.slice ro2 (k + 1) rc2) = w8 at M ⊢
            have hlsl2 := hid (show (ls ++ [z]).length = k + 1 by rw [List.length_append, hlsl.out]; rfl)
            go_wp2_with fail
            go_roundw
            case rel => exact ⟨k + 1, ls ++ [z], ro2, rc2, by omega, by go_num, hlsl2, hpick2, M⟩
            case measure => simp [intOf]; omega
          refine AllReady.cons rfl (fun K hK => ?_) AllReady.nil
          have hl := hlook.out _ M.out.map
          go_simp
          clear hl
          refine hK _ _ ?_
          clear hK K
          (try simp only [Act.put, List.getElem_toArray, List.getElem_cons_zero, List.getElem_cons_succ, List.setIfInBounds_toArray, List.set_cons_zero, List.set_cons_succ])
          refine wpAny_take (i := 6) (v := ?_) rfl (by kernel_rfl) (by kernel_rfl) (by kernel_rfl) (fun _ _ _ h => h) (Or.inl ⟨by rfl, ?_⟩) ?_
          rotate_left 1
          (intro w; go_simp; try with_reducible rfl)
          (try simp only [Act.put, List.getElem_toArray, List.getElem_cons_zero, List.getElem_cons_succ, List.setIfInBounds_toArray, List.set_cons_zero, List.set_cons_succ])
          refine wpAny_ready (rs := [1, 7]) (by kernel_rfl) (by simp) ?_
          refine AllReady.cons rfl (fun K hK => ?_) ?_
          · skip
            obtain ⟨c0, c1, c2, c3, c4, c5, c6, cf⟩ := seven M.out.box
            go_simp
            clear c0 c1 c2 c3 c4 c5 c6 cf
            refine hK _ _ ?_
            clear hK K
            (try simp only [Act.put, List.getElem_toArray, List.getElem_cons_zero, List.getElem_cons_succ, List.setIfInBounds_toArray, List.set_cons_zero, List.set_cons_succ])
            refine wpAny_ready (rs := [7]) (by kernel_rfl) (by simp) ?_
            refine AllReady.cons rfl (fun K hK => ?_) AllReady.nil
            obtain ⟨xf0, xf1, xf2, xf3, xf4, xf5, xf6⟩ := hcel.out _ M.out.bel
            go_simp
            clear xf0 xf1 xf2 xf3 xf4 xf5 xf6
            refine hK _ _ ?_
            clear hK K
            (try simp only [Act.put, List.getElem_toArray, List.getElem_cons_zero, List.getElem_cons_succ, List.setIfInBounds_toArray, List.set_cons_zero, List.set_cons_succ])
            refine wpAny_ready (rs := [8]) (by kernel_rfl) (by simp) ?_
            refine AllReady.cons rfl (fun K hK => ?_) AllReady.nil
            go_simp
            have happ := hid (M.out.app hzok.out (hzin.out _ M.out.bel) (by rw [hlsl.out]; have := hroom.out; have := hlast.out; have := hlen'.out; omega))
            rw [hze.out, hlsl.out] at happ
            replace M := hid (M.out.below ((Below.refl _ w5).alloc (Nat.le_refl _) (.cells #[.int .u8 (z.kind : Nat), .bool z.bool, .int .i64 z.num, .string z.str, .string z.typ, .slice zno z.names.length znc, .slice zlo z.list.length zlc] 27)))
            refine hK _ _ ?_
            clear hK K
            (try simp only [Act.put, List.getElem_toArray, List.getElem_cons_zero, List.getElem_cons_succ, List.setIfInBounds_toArray, List.set_cons_zero, List.set_cons_succ])
            refine wpAny_ready (rs := [9]) (by kernel_rfl) (by simp) ?_
            refine AllReady.cons rfl (fun K hK => ?_) AllReady.nil
            obtain ⟨ro2, rc2, w7, hrun, hM⟩ := happ.out
            refine step_append_run rfl (.tmp 36) (.tmp 43) 23 rfl _ _ _ _ rfl rfl hrun ?_
            replace M := hid hM
            clear hrun hM happ
            refine hK _ _ ?_
            clear hK K
            (try simp only [Act.put, List.getElem_toArray, List.getElem_cons_zero, List.getElem_cons_succ, List.setIfInBounds_toArray, List.set_cons_zero, List.set_cons_succ])
            refine wpAny_take (i := 10) (v := ?_) rfl (by kernel_rfl) (by kernel_rfl) (by kernel_rfl) (fun _ _ _ h => h) (Or.inl ⟨by rfl, ?_⟩) ?_
            rotate_left 1
            (intro w; go_simp; try with_reducible rfl)
            (try simp only [Act.put, List.getElem_toArray, List.getElem_cons_zero, List.getElem_cons_succ, List.setIfInBounds_toArray, List.set_cons_zero, List.set_cons_succ])
            refine wpAny_ready (rs := [11]) (by kernel_rfl) (by simp) ?_
            refine AllReady.cons rfl (fun K hK => ?_) AllReady.nil
            obtain ⟨c0, c1, c2, c3, c4, c5, c6, cf⟩ := seven M.out.box
            go_simp
            clear c0 c1 c2 c3 c4 c5 c6 cf
            replace M := hid M.out.put
            refine hK _ _ ?_
            clear hK K
            (try simp only [Act.put, List.getElem_toArray, List.getElem_cons_zero, List.getElem_cons_succ, List.setIfInBounds_toArray, List.set_cons_zero, List.set_cons_succ])
            refine wpAny_done (by kernel_rfl) ?_ _
            generalize w7.setCell ⟨n3, 6, none⟩ (.slice ro2 (k + 1) rc2) = w8 at M ⊢
            have hlsl2 := hid (show (ls ++ [z]).length = k + 1 by rw [List.length_append, hlsl.out]; rfl)
            go_wp2_with fail
            go_roundw
            case rel => exact ⟨k + 1, ls ++ [z], ro2, rc2, by omega, by go_num, hlsl2, hpick2, M⟩
            case measure => simp [intOf]; omega
          refine AllReady.cons rfl (fun K hK => ?_) AllReady.nil
          obtain ⟨xf0, xf1, xf2, xf3, xf4, xf5, xf6⟩ := hcel.out _ M.out.bel
          go_simp
          clear xf0 xf1 xf2 xf3 xf4 xf5 xf6
          refine hK _ _ ?_
          clear hK K
          (try simp only [Act.put, List.getElem_toArray, List.getElem_cons_zero, List.getElem_cons_succ, List.setIfInBounds_toArray, List.set_cons_zero, List.set_cons_succ])
          refine wpAny_ready (rs := [1, 8]) (by kernel_rfl) (by simp) ?_
          refine AllReady.cons rfl (fun K hK => ?_) ?_
          · skip
            obtain ⟨c0, c1, c2, c3, c4, c5, c6, cf⟩ := seven M.out.box
            go_simp
            clear c0 c1 c2 c3 c4 c5 c6 cf
            refine hK _ _ ?_
            clear hK K
            (try simp only [Act.put, List.getElem_toArray, List.getElem_cons_zero, List.getElem_cons_succ, List.setIfInBounds_toArray, List.set_cons_zero, List.set_cons_succ])
            refine wpAny_ready (rs := [8]) (by kernel_rfl) (by simp) ?_
            refine AllReady.cons rfl (fun K hK => ?_) AllReady.nil
            go_simp
            have happ := hid (M.out.app hzok.out (hzin.out _ M.out.bel) (by rw [hlsl.out]; have := hroom.out; have := hlast.out; have := hlen'.out; omega))
            rw [hze.out, hlsl.out] at happ
            replace M := hid (M.out.below ((Below.refl _ w5).alloc (Nat.le_refl _) (.cells #[.int .u8 (z.kind : Nat), .bool z.bool, .int .i64 z.num, .string z.str, .string z.typ, .slice zno z.names.length znc, .slice zlo z.list.length zlc] 27)))
            refine hK _ _ ?_
            clear hK K
            (try simp only [Act.put, List.getElem_toArray, List.getElem_cons_zero, List.getElem_cons_succ, List.setIfInBounds_toArray, List.set_cons_zero, List.set_cons_succ])
            refine wpAny_ready (rs := [9]) (by kernel_rfl) (by simp) ?_
            refine AllReady.cons rfl (fun K hK => ?_) AllReady.nil
            obtain ⟨ro2, rc2, w7, hrun, hM⟩ := happ.out
            refine step_append_run rfl (.tmp 36) (.tmp 43) 23 rfl _ _ _ _ rfl rfl hrun ?_
            replace M := hid hM
            clear hrun hM happ
            refine hK _ _ ?_
            clear hK K
            (try simp only [Act.put, List.getElem_toArray, List.getElem_cons_zero, List.getElem_cons_succ, List.setIfInBounds_toArray, List.set_cons_zero, List.set_cons_succ])
            refine wpAny_take (i := 10) (v := ?_) rfl (by kernel_rfl) (by kernel_rfl) (by kernel_rfl) (fun _ _ _ h => h) (Or.inl ⟨by rfl, ?_⟩) ?_
            rotate_left 1
            (intro w; go_simp; try with_reducible rfl)
            (try simp only [Act.put, List.getElem_toArray, List.getElem_cons_zero, List.getElem_cons_succ, List.setIfInBounds_toArray, List.set_cons_zero, List.set_cons_succ])
            refine wpAny_ready (rs := [11]) (by kernel_rfl) (by simp) ?_
            refine AllReady.cons rfl (fun K hK => ?_) AllReady.nil
            obtain ⟨c0, c1, c2, c3, c4, c5, c6, cf⟩ := seven M.out.box
            go_simp
            clear c0 c1 c2 c3 c4 c5 c6 cf
            replace M := hid M.out.put
            refine hK _ _ ?_
            clear hK K
            (try simp only [Act.put, List.getElem_toArray, List.getElem_cons_zero, List.getElem_cons_succ, List.setIfInBounds_toArray, List.set_cons_zero, List.set_cons_succ])
            refine wpAny_done (by kernel_rfl) ?_ _
            generalize w7.setCell ⟨n3, 6, none⟩ (.slice ro2 (k + 1) rc2) = w8 at M ⊢
            have hlsl2 := hid (show (ls ++ [z]).length = k + 1 by rw [List.length_append, hlsl.out]; rfl)
            go_wp2_with fail
            go_roundw
            case rel => exact ⟨k + 1, ls ++ [z], ro2, rc2, by omega, by go_num, hlsl2, hpick2, M⟩
            case measure => simp [intOf]; omega
          refine AllReady.cons rfl (fun K hK => ?_) AllReady.nil
          go_simp
          have happ := hid (M.out.app hzok.out (hzin.out _ M.out.bel) (by rw [hlsl.out]; have := hroom.out; have := hlast.out; have := hlen'.out; omega))
          rw [hze.out, hlsl.out] at happ
          replace M := hid (M.out.below ((Below.refl _ w5).alloc (Nat.le_refl _) (.cells #[.int .u8 (z.kind : Nat), .bool z.bool, .int .i64 z.num, .string z.str, .string z.typ, .slice zno z.names.length znc, .slice zlo z.list.length zlc] 27)))
          refine hK _ _ ?_
          clear hK K
          (try simp only [Act.put, List.getElem_toArray, List.getElem_cons_zero, List.getElem_cons_succ, List.setIfInBounds_toArray, List.set_cons_zero, List.set_cons_succ])
          refine wpAny_ready (rs := [1]) (by kernel_rfl) (by simp) ?_
          refine AllReady.cons rfl (fun K hK => ?_) AllReady.nil
          obtain ⟨c0, c1, c2, c3, c4, c5, c6, cf⟩ := seven M.out.box
          go_simp
          clear c0 c1 c2 c3 c4 c5 c6 cf
          refine hK _ _ ?_
          clear hK K
          (try simp only [Act.put, List.getElem_toArray, List.getElem_cons_zero, List.getElem_cons_succ, List.setIfInBounds_toArray, List.set_cons_zero, List.set_cons_succ])
          refine wpAny_ready (rs := [9]) (by kernel_rfl) (by simp) ?_
          refine AllReady.cons rfl (fun K hK => ?_) AllReady.nil
          obtain ⟨ro2, rc2, w7, hrun, hM⟩ := happ.out
          refine step_append_run rfl (.tmp 36) (.tmp 43) 23 rfl _ _ _ _ rfl rfl hrun ?_
          replace M := hid hM
          clear hrun hM happ
          refine hK _ _ ?_
          clear hK K
          (try simp only [Act.put, List.getElem_toArray, List.getElem_cons_zero, List.getElem_cons_succ, List.setIfInBounds_toArray, List.set_cons_zero, List.set_cons_succ])
          refine wpAny_take (i := 10) (v := ?_) rfl (by kernel_rfl) (by kernel_rfl) (by kernel_rfl) (fun _ _ _ h => h) (Or.inl ⟨by rfl, ?_⟩) ?_
          rotate_left 1
          (intro w; go_simp; try with_reducible rfl)
          (try simp only [Act.put, List.getElem_toArray, List.getElem_cons_zero, List.getElem_cons_succ, List.setIfInBounds_toArray, List.set_cons_zero, List.set_cons_succ])
          refine wpAny_ready (rs := [11]) (by kernel_rfl) (by simp) ?_
          refine AllReady.cons rfl (fun K hK => ?_) AllReady.nil
          obtain ⟨c0, c1, c2, c3, c4, c5, c6, cf⟩ := seven M.out.box
          go_simp
          clear c0 c1 c2 c3 c4 c5 c6 cf
          replace M := hid M.out.put
          refine hK _ _ ?_
          clear hK K
          (try simp only [Act.put, List.getElem_toArray, List.getElem_cons_zero, List.getElem_cons_succ, List.setIfInBounds_toArray, List.set_cons_zero, List.set_cons_succ])
          refine wpAny_done (by kernel_rfl) ?_ _
          generalize w7.setCell ⟨n3, 6, none⟩ (.slice ro2 (k + 1) rc2) = w8 at M ⊢
          have hlsl2 := hid (show (ls ++ [z]).length = k + 1 by rw [List.length_append, hlsl.out]; rfl)
          go_wp2_with fail
          go_roundw
          case rel => exact ⟨k + 1, ls ++ [z], ro2, rc2, by omega, by go_num, hlsl2, hpick2, M⟩
          case measure => simp [intOf]; omega
        · obtain rfl : k = N.length := by omega
          clear hkl hk
          have hck := hid (show Calls Tryz.prog 23 #[.agg #[.int .u8 5, .bool false, .int .i64 0, .string ⟨#[]⟩, .string ⟨#[]⟩, .slice so N.length sc, .slice ro N.length rc]] wr fun e w' => MadeP wr.heap.size (recT N (.slice so N.length sc) ls (.slice ro N.length rc)) e w' ∧ Below wr.heap.size wr w' from
            cK.out wr M.out.bel (recT N (.slice so N.length sc) ls (.slice ro N.length rc)) (recT_ok (SlV.own M.out.names) (fun y hy => hsz'.out y (hperm'.out.mem_iff.1 hy)) hN16.out (by have := SlV.own M.out.row; rw [hlsl.out] at this ⊢; exact this) (by rw [hlsl.out]; have := hroom.out; have := hlast.out; have := hlen'.out; omega) (fun x hx => (M.out.all x hx).below M.out.bel)))
          have hset := hid (fun e w' (hm : MadeP wr.heap.size (recT N (.slice so N.length sc) ls (.slice ro N.length rc)) e w') => show RecP w L l e w' from .inr (.inr ⟨hlen'.out, ho.out, N, ls, _, _, hperm'.out, hlsl.out, hpick.out, hm.mono M.out.bel.size⟩))
          clear cK hpick hlsl hperm' hlast hlen' hroom hnr' hsz' hn' h' ho hNi hN16 hli hLi
          obtain ⟨c0, c1, c2, c3, c4, c5, c6, cf⟩ := seven M.out.box
          go_wp2_with fail
          clear c0 c1 c2 c3 c4 c5 c6 cf
          refine hck.out.mono ?_
          rintro e w5 ⟨hmade, b5⟩
          have hlt := hid M.out.zero.lt
          have K2 := hid (M.out.zero.below b5 M.out.zero.lt)
          have bw := hid (bt M.out.bel b5)
          clear hck b5 M
          rcases hmade with ⟨h0, rfl⟩ | ⟨h0, y, rfl, hlk, hyok, hyin, hyso⟩
          · have hfin := hid (fun w' => hset.out (.returned (.tuple #[.agg zeroA, .int .i64 (chkV (recT N (.slice so N.length sc) ls (.slice ro N.length rc)))])) w' (.inl ⟨h0, rfl⟩))
            clear h0 hset
            generalize chkV (recT N (.slice so N.length sc) ls (.slice ro N.length rc)) = c at hfin ⊢
            rw [show Value.agg zeroA = .agg #[.int .u8 0, .bool false, .int .i64 0, .string ⟨#[]⟩, .string ⟨#[]⟩, .slice none 0 0, .slice none 0 0] from rfl]
            have hK := hid (show Blk _ _ [.int .u8 0, .bool false, .int .i64 0, .string ⟨#[]⟩, .string ⟨#[]⟩, .slice none 0 0, .slice none 0 0] 27 from blk_st7 (A := []) (C := []) (o := 0) K2.out rfl (.int .u8 0) (.bool false) (.int .i64 0) (.string ⟨#[]⟩) (.string ⟨#[]⟩) (.slice none 0 0) (.slice none 0 0))
            have hBF := hid (below_st7 bw.out (g := w.heap.size) (Nat.le_refl _) 0 (.int .u8 0) (.bool false) (.int .i64 0) (.string ⟨#[]⟩) (.string ⟨#[]⟩) (.slice none 0 0) (.slice none 0 0))
            obtain ⟨d0, d1, d2, d3, d4, d5, d6, df⟩ := seven K2.out
            go_wp2_with fail
            clear d0 d1 d2 d3 d4 d5 d6 df
            obtain ⟨q0, q1, q2, q3, q4, q5, q6, qf⟩ := seven hK.out
            exact bodyPost_ret (v := .tuple #[.agg #[.int .u8 0, .bool false, .int .i64 0, .string ⟨#[]⟩, .string ⟨#[]⟩, .slice none 0 0, .slice none 0 0], .int .i64 c]) (by unfold st7 at q0 q1 q2 q3 q4 q5 q6; simp [results, Tryz.results7, go_sem, q0, q1, q2, q3, q4, q5, q6]) rfl ⟨hfin.out _, hBF.out⟩
          · obtain ⟨yno, ync, ylo, ylc, ey1, ey2, yl1, yl2⟩ := hyok.forms
            have hyv : y.val = .agg #[.int .u8 (y.kind : Nat), .bool y.bool, .int .i64 y.num, .string y.str, .string y.typ, .slice yno y.names.length ync, .slice ylo y.list.length ylc] := by rw [T.lit, ey1, ey2]
            have hfin := hid (show ∀ W', (∀ k, wr.heap.size ≤ k → W'.heap[k]? = w5.heap[k]?) → RecP w L l (.returned (.tuple #[.agg #[.int .u8 (y.kind : Nat), .bool y.bool, .int .i64 y.num, .string y.str, .string y.typ, .slice yno y.names.length ync, .slice ylo y.list.length ylc], .int .i64 0])) W' from fun W' hk => hset.out _ W' (.inr ⟨h0, y, by rw [hyv], hlk, hyok.keep hk hyin, hyin, hyso.keep hk hyin⟩))
            rw [hyv]
            clear hyv hlk hyok hyin hyso ey1 ey2 yl1 yl2 h0 hset
            have hK := hid (show Blk _ _ [.int .u8 (y.kind : Nat), .bool y.bool, .int .i64 y.num, .string y.str, .string y.typ, .slice yno y.names.length ync, .slice ylo y.list.length ylc] 27 from blk_st7 (A := []) (C := []) (o := 0) K2.out rfl (.int .u8 (y.kind : Nat)) (.bool y.bool) (.int .i64 y.num) (.string y.str) (.string y.typ) (.slice yno y.names.length ync) (.slice ylo y.list.length ylc))
            have hBF := hid (below_st7 bw.out (g := w.heap.size) (Nat.le_refl _) 0 (.int .u8 (y.kind : Nat)) (.bool y.bool) (.int .i64 y.num) (.string y.str) (.string y.typ) (.slice yno y.names.length ync) (.slice ylo y.list.length ylc))
            obtain ⟨d0, d1, d2, d3, d4, d5, d6, df⟩ := seven K2.out
            go_wp2_with fail
            clear d0 d1 d2 d3 d4 d5 d6 df
            obtain ⟨q0, q1, q2, q3, q4, q5, q6, qf⟩ := seven hK.out
            exact bodyPost_ret (v := .tuple #[.agg #[.int .u8 (y.kind : Nat), .bool y.bool, .int .i64 y.num, .string y.str, .string y.typ, .slice yno y.names.length ync, .slice ylo y.list.length ylc], .int .i64 0]) (by unfold st7 at q0 q1 q2 q3 q4 q5 q6; simp [results, Tryz.results7, go_sem, q0, q1, q2, q3, q4, q5, q6]) rfl ⟨hfin.out _ (fun k hk => heap_st7 _ _ _ _ _ _ _ _ _ _ (by have := hlt.out; omega)), hBF.out⟩
    · obtain ⟨ms, hms⟩ : ∃ ms, Hid (Maps.size (plD L) = ms) := ⟨_, hid rfl⟩
      have hne : ms ≠ L.length := fun e => ho ((plD_size hsz'.out hLi).1 (hms.out.trans e))
      have e1 : ((ms : Int) == (L.length : Int)) = false := by rw [beq_eq_false_iff_ne]; omega
      have e2 : ((ms : Int) != (L.length : Int)) = true := by unfold bne; rw [e1]; rfl
      have hml : ∀ ty, (Builtin.len_ #[52] ty #[.map (some b)]).run Tryz.prog w2 = .ok (.int .i64 (ms : Int)) w2 := fun ty => by
        have := World.ownsMap.len hmap.out Tryz.underlying52 ty
        rw [hms.out] at this
        exact this
      have hfin := hid (fun w' => show RecP w L l (.returned (.tuple #[.agg zeroA, .int .i64 10])) w' from .inr (.inl ⟨hlen'.out, ho, rfl⟩))
      clear hne ho hms cK h' hn' hsz' hnr' hroom hmap hmlt hblt
      have hK := hid (show Blk _ _ [.int .u8 0, .bool false, .int .i64 0, .string ⟨#[]⟩, .string ⟨#[]⟩, .slice none 0 0, .slice none 0 0] 27 from blk_st7 (A := []) (C := []) (o := 0) K2.out rfl (.int .u8 0) (.bool false) (.int .i64 0) (.string ⟨#[]⟩) (.string ⟨#[]⟩) (.slice none 0 0) (.slice none 0 0))
      have hBF := hid (below_st7 bw.out (g := w.heap.size) (Nat.le_refl _) 0 (.int .u8 0) (.bool false) (.int .i64 0) (.string ⟨#[]⟩) (.string ⟨#[]⟩) (.slice none 0 0) (.slice none 0 0))
      obtain ⟨d0, d1, d2, d3, d4, d5, d6, df⟩ := seven K2.out
      go_wp2_with fail
      clear d0 d1 d2 d3 d4 d5 d6 df
      obtain ⟨q0, q1, q2, q3, q4, q5, q6, qf⟩ := seven hK.out
      exact bodyPost_ret (v := .tuple #[.agg #[.int .u8 0, .bool false, .int .i64 0, .string ⟨#[]⟩, .string ⟨#[]⟩, .slice none 0 0, .slice none 0 0], .int .i64 10]) (by unfold st7 at q0 q1 q2 q3 q4 q5 q6; simp [results, Tryz.results7, go_sem, q0, q1, q2, q3, q4, q5, q6]) rfl ⟨hfin.out _, hBF.out⟩
  · have e1 : ((L.length : Int) == (l.length : Int)) = false := by rw [beq_eq_false_iff_ne]; omega
    have e2 : ((L.length : Int) != (l.length : Int)) = true := by unfold bne; rw [e1]; rfl
    have hfin := hid (fun w' => show RecP w L l (.returned (.tuple #[.agg zeroA, .int .i64 2])) w' from .inl ⟨hlen, rfl⟩)
    clear hlen
    have hK := hid (show Blk _ _ [.int .u8 0, .bool false, .int .i64 0, .string ⟨#[]⟩, .string ⟨#[]⟩, .slice none 0 0, .slice none 0 0] 27 from blk_st7 (A := []) (C := []) (o := 0) K2.out rfl (.int .u8 0) (.bool false) (.int .i64 0) (.string ⟨#[]⟩) (.string ⟨#[]⟩) (.slice none 0 0) (.slice none 0 0))
    have hBF := hid (below_st7 bw.out (g := w.heap.size) (Nat.le_refl _) 0 (.int .u8 0) (.bool false) (.int .i64 0) (.string ⟨#[]⟩) (.string ⟨#[]⟩) (.slice none 0 0) (.slice none 0 0))
    obtain ⟨d0, d1, d2, d3, d4, d5, d6, df⟩ := seven K2.out
    go_wp2_with fail
    clear d0 d1 d2 d3 d4 d5 d6 df
    obtain ⟨q0, q1, q2, q3, q4, q5, q6, qf⟩ := seven hK.out
    exact bodyPost_ret (v := .tuple #[.agg #[.int .u8 0, .bool false, .int .i64 0, .string ⟨#[]⟩, .string ⟨#[]⟩, .slice none 0 0, .slice none 0 0], .int .i64 2]) (by unfold st7 at q0 q1 q2 q3 q4 q5 q6; simp [results, Tryz.results7, go_sem, q0, q1, q2, q3, q4, q5, q6]) rfl ⟨hfin.out _, hBF.out⟩

end Go.Proofs.YtdjgkbpfmonebaaGreatDoor.Val
