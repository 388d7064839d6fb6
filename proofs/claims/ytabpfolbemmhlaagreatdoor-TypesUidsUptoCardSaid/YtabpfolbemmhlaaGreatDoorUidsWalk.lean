/-
  lictorlaw13.TypesUids: the walk. Written by wip/uidswalk.py.
-/
import Derived.Test.YtabpfolbemmhlaaGreatDoorUids
import Derived.Test.YtabpfolbemmhlaaGreatDoorEvLives13
import Derived.Deep.RegionHeld3
namespace Go.Proofs.YtabpfolbemmhlaaGreatDoor.Ex
open Go.ChangeShapes Go.WideShapes Go.ChangeAt Go.RowKit
open Go.Proofs.YtabpfolbemmhlaaGreatDoor.Mem
set_option linter.unusedVariables false
set_option linter.unusedSimpArgs false
set_option maxRecDepth 100000
theorem wpList_app {P : Program} {ops : Array Oper} {rest : List Oper} {o : Oper} {a : Act} {w : World} {Q : Exit → Act → World → Prop} (hgd : o.guard = none) (s x : Operand) (t t' : TypeId)
    (ho : o.op = .call { callee := .builtin .append, args := #[s, x], argTypes := #[t, t'] }) (v1 v2 v : Value) (w' : World) (hs : a.eval s = v1) (hx : a.eval x = v2)
    (hrun : (Builtin.append_ #[t, t'] o.type #[v1, v2]).run P w = .ok v w') (h : ∀ W, W = w' → wpList P ops Q rest (a.put o.dst v) W) : wpList P ops Q (o :: rest) a w :=
  wpList_plain hgd fun _ hK => by
    unfold Oper.wp
    simp [execOp, ho, resolve, invoke, builtin, hs, hx, hrun, Result.andThen]
    exact hK _ _ (h _ rfl)
/-- an op of parts alone -/
def wrap (k : Nat) (l : List T) (lv : Value) : T := .mk k 0 ⟨#[]⟩ ⟨#[]⟩ [] (.slice none 0 0) l lv
theorem wrap_ok {W : World} {b n k : Nat} {l : List T} {ty : TypeId} {cs : List Value} (hk : k < 256) (hn : l.length = n) (hn3 : n ≤ 3) (h0 : 0 < n) (h : ∀ y ∈ l, y.ok W) (hB : Blk W b cs ty) (hc : cs = T.encL l) : (wrap k l (.slice (some ⟨b, 0, none⟩) n n)).ok W := by
  subst hc
  refine T.ok.mk' ⟨⟨hk, by show 0 * 16 ≤ _; omega, show l.length * 96 ≤ _ by omega⟩, ⟨show (-9223372036854775808 : Int) ≤ 0 by decide, show (0 : Int) ≤ 9223372036854775807 by decide⟩, Nat.zero_le _, Nat.zero_le _, (fun y (hy : y ∈ ([] : List ByteArray)) => by cases hy), SlV.nil W, ?_, h⟩
  refine ⟨some ⟨b, 0, none⟩, n, by show Value.slice _ n n = .slice _ l.length n; rw [hn], show l.length ≤ n by omega, by unfold maxLen; omega, (fun e => by cases e), fun e => ?_, fun a ha j hj => ?_⟩
  · exfalso
    have e2 : l.length = 0 := e
    omega
  · cases ha
    rw [Mem.add_plain, Nat.zero_add]
    exact hB.cell j hj
theorem wrap_size (k : Nat) (l : List T) (lv : Value) : (wrap k l lv).size = T.sizeL l + 1 := T.size_list _
theorem wrap_uids (l : List T) (lv : Value) : uidsT (wrap 6 l lv) = uidsL l := by
  rw [uidsT_eq]
  rfl
set_option maxHeartbeats 8000000 in
theorem uids_walk (x y : T) (w : World) (h : x.ok w) (h2 : y.ok w) (hz : x.size ≤ 1048576) (hz2 : y.size ≤ 1048576) (hw : Ev.Laid w) :
    Calls Tryz.prog 9 #[x.val, y.val] w fun e w' => e = .returned (.bool true) ∧ Below w.heap.size w w' := by
  have cL := hid (fun W (b : Below w.heap.size w W) => Ev.lives13_any (hw.below b))
  have cX := hid (show ∀ W : World, Below w.heap.size w W → Calls Tryz.prog 24 #[x.val] W fun e w' =>
      ∃ v', e = .returned v' ∧ w'.ownsRow w.heap.size 61 2 v' (uidsT x).length (encU (uidsT x)) ∧ Below W.heap.size W w' from fun W B => by
    refine (uids_any x W (h.below B) (by omega)).mono ?_
    rintro e w' ⟨v', rfl, h1, h2⟩
    exact ⟨v', rfl, ownsRow_mono h1 B.size, h2⟩)
  have cY := hid (show ∀ W : World, Below w.heap.size w W → Calls Tryz.prog 24 #[y.val] W fun e w' =>
      ∃ v', e = .returned v' ∧ w'.ownsRow w.heap.size 61 2 v' (uidsT y).length (encU (uidsT y)) ∧ Below W.heap.size W w' from fun W B => by
    refine (uids_any y W (h2.below B) (by omega)).mono ?_
    rintro e w' ⟨v', rfl, h1, h2⟩
    exact ⟨v', rfl, ownsRow_mono h1 B.size, h2⟩)
  have cZ := hid (fun (b : Nat) (cs : List Value) (ty : TypeId) (hc : cs = T.encL [x, y]) W (b' : Below w.heap.size w W) (hB : Blk W b cs ty) =>
    uids_any (wrap 6 [x, y] (.slice (some ⟨b, 0, none⟩) 2 2)) W (wrap_ok (by omega) rfl (by omega) (by omega) (fun z hz => by
      rcases List.mem_cons.1 hz with rfl | hz
      · exact h.below b'
      · rcases List.mem_cons.1 hz with rfl | hz
        · exact h2.below b'
        · cases hz) hB hc) (by rw [wrap_size, T.sizeL, T.sizeL, T.sizeL]; omega))
  have hn1 := uids_size x.size x (Nat.le_refl _)
  have hn2 := uids_size y.size y (Nat.le_refl _)
  obtain ⟨no, nc, lo, lc, e1, e2, l1, l2⟩ := h.forms
  obtain ⟨yno, ync, ylo, ylc, e3, e4, l3, l4⟩ := h2.forms
  have hv := T.val_eq e1 e2
  have hv2 := T.val_eq e3 e4
  rw [hv] at cX ⊢
  rw [hv2] at cY ⊢
  have hE : x.enc = [.int .u8 (x.kind : Nat), .int .i64 x.num, .string x.str, .string x.typ, .slice no x.names.length nc, .slice lo x.list.length lc] := by
    have : x.val = .agg x.enc.toArray := rfl
    rw [this, Value.agg.injEq] at hv
    have := congrArg Array.toList hv
    simpa using this
  have hE2 : y.enc = [.int .u8 (y.kind : Nat), .int .i64 y.num, .string y.str, .string y.typ, .slice yno y.names.length ync, .slice ylo y.list.length ylc] := by
    have : y.val = .agg y.enc.toArray := rfl
    rw [this, Value.agg.injEq] at hv2
    have := congrArg Array.toList hv2
    simpa using this
  have hEE := hid (show [.int .u8 (x.kind : Nat), .int .i64 x.num, .string x.str, .string x.typ, .slice no x.names.length nc, .slice lo x.list.length lc, .int .u8 (y.kind : Nat), .int .i64 y.num, .string y.str, .string y.typ, .slice yno y.names.length ync, .slice ylo y.list.length ylc] = T.encL [x, y] by unfold T.encL; rw [List.flatMap_cons, List.flatMap_cons, List.flatMap_nil, List.append_nil, hE, hE2]; rfl)
  replace cZ := hid (show ∀ W : World, Below w.heap.size w W → Calls Tryz.prog 24 #[.agg #[.int .u8 6, .int .i64 0, .string ⟨#[]⟩, .string ⟨#[]⟩, .slice none 0 0, .slice (some ⟨W.heap.size, 0, none⟩) 2 2]] (W.alloc (.cells #[.int .u8 (x.kind : Nat), .int .i64 x.num, .string x.str, .string x.typ, .slice no x.names.length nc, .slice lo x.list.length lc, .int .u8 (y.kind : Nat), .int .i64 y.num, .string y.str, .string y.typ, .slice yno y.names.length ync, .slice ylo y.list.length ylc] 26)) fun e w' =>
      ∃ v', e = .returned v' ∧ w'.ownsRow w.heap.size 61 2 v' (uidsT x ++ uidsT y).length (encU (uidsT x ++ uidsT y)) ∧ Below (W.alloc (.cells #[.int .u8 (x.kind : Nat), .int .i64 x.num, .string x.str, .string x.typ, .slice no x.names.length nc, .slice lo x.list.length lc, .int .u8 (y.kind : Nat), .int .i64 y.num, .string y.str, .string y.typ, .slice yno y.names.length ync, .slice ylo y.list.length ylc] 26)).heap.size (W.alloc (.cells #[.int .u8 (x.kind : Nat), .int .i64 x.num, .string x.str, .string x.typ, .slice no x.names.length nc, .slice lo x.list.length lc, .int .u8 (y.kind : Nat), .int .i64 y.num, .string y.str, .string y.typ, .slice yno y.names.length ync, .slice ylo y.list.length ylc] 26)) w' from fun W B => by
    refine (cZ.out W.heap.size _ 26 hEE.out (W.alloc (.cells #[.int .u8 (x.kind : Nat), .int .i64 x.num, .string x.str, .string x.typ, .slice no x.names.length nc, .slice lo x.list.length lc, .int .u8 (y.kind : Nat), .int .i64 y.num, .string y.str, .string y.typ, .slice yno y.names.length ync, .slice ylo y.list.length ylc] 26)) (B.alloc B.size _) (Blk.new W _ _)).mono ?_
    rintro e w' ⟨v', rfl, h1, h2⟩
    rw [wrap_uids, uidsL, uidsL, uidsL, List.append_nil] at h1
    exact ⟨v', rfl, ownsRow_mono h1 (by have := B.size; simp; omega), h2⟩)
  clear hv hv2 hE hE2 hEE h h2 hw e1 e2 e3 e4
  generalize uidsT x = UX at *
  generalize uidsT y = UY at *
  go_enter Tryz.func9, Tryz.ntmps9
  go_upto_region 1 with fail
  have K1 := hid ((Blk.new w [.int .u8 (x.kind : Nat), .int .i64 x.num, .string x.str, .string x.typ, .slice no x.names.length nc, .slice lo x.list.length lc] 26).alloc (.cells #[.int .u8 (y.kind : Nat), .int .i64 y.num, .string y.str, .string y.typ, .slice yno y.names.length ync, .slice ylo y.list.length ylc] 26))
  have K2 := hid (Blk.new' (w.alloc (.cells #[.int .u8 (x.kind : Nat), .int .i64 x.num, .string x.str, .string x.typ, .slice no x.names.length nc, .slice lo x.list.length lc] 26)) [.int .u8 (y.kind : Nat), .int .i64 y.num, .string y.str, .string y.typ, .slice yno y.names.length ync, .slice ylo y.list.length ylc] 26 (w.heap.size + 1) (by simp))
  have bw := hid (((Below.refl w.heap.size w).alloc (Nat.le_refl _) (.cells #[.int .u8 (x.kind : Nat), .int .i64 x.num, .string x.str, .string x.typ, .slice no x.names.length nc, .slice lo x.list.length lc] 26)).alloc (by simp) (.cells #[.int .u8 (y.kind : Nat), .int .i64 y.num, .string y.str, .string y.typ, .slice yno y.names.length ync, .slice ylo y.list.length ylc] 26))
  generalize (w.alloc (.cells #[.int .u8 (x.kind : Nat), .int .i64 x.num, .string x.str, .string x.typ, .slice no x.names.length nc, .slice lo x.list.length lc] 26)).alloc (.cells #[.int .u8 (y.kind : Nat), .int .i64 y.num, .string y.str, .string y.typ, .slice yno y.names.length ync, .slice ylo y.list.length ylc] 26) = X0 at K1 K2 bw ⊢
  go_wp2_with fail
  refine (cL.out _ bw.out).mono ?_
  rintro e w1 ⟨rfl, b1⟩
  replace K1 := hid (K1.out.below b1 K1.out.lt)
  replace K2 := hid (K2.out.below b1 K2.out.lt)
  replace bw := hid (bt bw.out b1)
  clear b1 cL
  obtain ⟨c0, c1, c2, c3, c4, c5, cf⟩ := six K1.out
  obtain ⟨d0, d1, d2, d3, d4, d5, df⟩ := six K2.out
  go_wp2_with fail
  go_region_held3 (fun W => W.cell? ⟨w.heap.size, 0, none⟩ = some (.int .u8 (x.kind : Nat)) ∧ W.cell? ⟨w.heap.size, 1, none⟩ = some (.int .i64 x.num) ∧ W.cell? ⟨w.heap.size, 2, none⟩ = some (.string x.str) ∧ W.cell? ⟨w.heap.size, 3, none⟩ = some (.string x.typ) ∧ W.cell? ⟨w.heap.size, 4, none⟩ = some (.slice no x.names.length nc) ∧ W.cell? ⟨w.heap.size, 5, none⟩ = some (.slice lo x.list.length lc) ∧ W.cell? ⟨w.heap.size + 1, 0, none⟩ = some (.int .u8 (y.kind : Nat)) ∧ W.cell? ⟨w.heap.size + 1, 1, none⟩ = some (.int .i64 y.num) ∧ W.cell? ⟨w.heap.size + 1, 2, none⟩ = some (.string y.str) ∧ W.cell? ⟨w.heap.size + 1, 3, none⟩ = some (.string y.typ) ∧ W.cell? ⟨w.heap.size + 1, 4, none⟩ = some (.slice yno y.names.length ync) ∧ W.cell? ⟨w.heap.size + 1, 5, none⟩ = some (.slice ylo y.list.length ylc)) (exact ⟨c0, c1, c2, c3, c4, c5, d0, d1, d2, d3, d4, d5⟩) (first
    | (go_at_call 24; (with_reducible refine (cX.out _ bw.out.drew).mono ?_); rintro e wA ⟨v5, rfl, o5, b5⟩
       obtain ⟨p5, q5, rfl, _, _⟩ := ownsRow_form o5
       replace o5 := hid o5
       replace K1 := hid (K1.out.drew.below b5 K1.out.drew.lt)
       replace K2 := hid (K2.out.drew.below b5 K2.out.drew.lt)
       replace bw := hid (bt bw.out.drew b5)
       clear b5 cX c0 c1 c2 c3 c4 c5 d0 d1 d2 d3 d4 d5 cf df
       obtain ⟨c0, c1, c2, c3, c4, c5, cf⟩ := six K1.out
       obtain ⟨d0, d1, d2, d3, d4, d5, df⟩ := six K2.out)
    | (go_at_call 24; (with_reducible refine (cY.out _ bw.out.drew).mono ?_); rintro e wA ⟨v6, rfl, o6, b6⟩
       obtain ⟨p6, q6, rfl, _, _⟩ := ownsRow_form o6
       replace o6 := hid o6
       replace K1 := hid (K1.out.drew.below b6 K1.out.drew.lt)
       replace K2 := hid (K2.out.drew.below b6 K2.out.drew.lt)
       replace bw := hid (bt bw.out.drew b6)
       clear b6 cY c0 c1 c2 c3 c4 c5 d0 d1 d2 d3 d4 d5 cf df
       obtain ⟨c0, c1, c2, c3, c4, c5, cf⟩ := six K1.out
       obtain ⟨d0, d1, d2, d3, d4, d5, df⟩ := six K2.out)
    | (go_at_call 24; (with_reducible refine (cX.out _ bw.out).mono ?_); rintro e wB ⟨v5, rfl, o5, b5⟩
       obtain ⟨p5, q5, rfl, _, _⟩ := ownsRow_form o5
       replace o5 := hid o5
       replace K1 := hid (K1.out.below b5 K1.out.lt)
       replace K2 := hid (K2.out.below b5 K2.out.lt)
       replace bw := hid (bt bw.out b5)
       replace o6 := hid (ownsRow_below o6.out b5)
       clear b5 cX c0 c1 c2 c3 c4 c5 d0 d1 d2 d3 d4 d5 cf df
       obtain ⟨c0, c1, c2, c3, c4, c5, cf⟩ := six K1.out
       obtain ⟨d0, d1, d2, d3, d4, d5, df⟩ := six K2.out)
    | (go_at_call 24; (with_reducible refine (cY.out _ bw.out).mono ?_); rintro e wB ⟨v6, rfl, o6, b6⟩
       obtain ⟨p6, q6, rfl, _, _⟩ := ownsRow_form o6
       replace o6 := hid o6
       replace K1 := hid (K1.out.below b6 K1.out.lt)
       replace K2 := hid (K2.out.below b6 K2.out.lt)
       replace bw := hid (bt bw.out b6)
       replace o5 := hid (ownsRow_below o5.out b6)
       clear b6 cY c0 c1 c2 c3 c4 c5 d0 d1 d2 d3 d4 d5 cf df
       obtain ⟨c0, c1, c2, c3, c4, c5, cf⟩ := six K1.out
       obtain ⟨d0, d1, d2, d3, d4, d5, df⟩ := six K2.out))
  all_goals
    rename_i hHeld
    clear hHeld
    go_wp2_with fail
    refine (cZ.out wB bw.out).mono ?_
    rintro e w7 ⟨v7, rfl, o7, b7⟩
    replace o5 := hid (ownsRow_below (o5.out.alloc _) b7)
    replace o6 := hid (ownsRow_below (o6.out.alloc _) b7)
    replace bw := hid (bt (bw.out.alloc bw.out.size _) b7)
    obtain ⟨L, hL⟩ : ∃ L, UX ++ UY = L := ⟨_, rfl⟩
    have hN : L.length = UX.length + UY.length := by rw [← hL, List.length_append]
    rw [hL] at o7
    replace hL := hid hL
    obtain ⟨p7, q7, rfl, g1, g2⟩ := ownsRow_form o7
    replace o7 := hid o7
    clear b7 cZ K1 K2 c0 c1 c2 c3 c4 c5 d0 d1 d2 d3 d4 d5 cf df g1 g2
    have hadd : IntKind.i64.wrap ((UX.length : Int) + (UY.length : Int)) = (L.length : Int) := by rw [IntWalk.i64_in _ (by omega)]; omega
    replace hN := hid hN
    go_upto_region 7 with fail
    have hs7 := bw.out.size
    have hA : (w7.alloc (.cells #[] 61)).ownsRow w7.heap.size 61 2 (.slice (some ⟨w7.heap.size, 0, none⟩) 0 0) 0 [] := World.ownsRow_lit w7 #[] 0 (Nat.le_refl _) (by decide) rfl
    obtain ⟨s1, W1, hrun1, ho1, hg1⟩ := app_uids (w7.alloc (.cells #[] 61)) w7.heap.size _ 0 [] (.slice p5 UX.length q5) UX hA (by simp) (SlV.own (o5.out.alloc _)) (by omega)
    rw [Nat.zero_add] at ho1
    obtain ⟨a1, r1, rfl, _, _⟩ := ownsRow_form ho1
    have hs1 := hg1.size
    have o6' := (o6.out.alloc (.cells #[] 61)).kept hg1 (.inr (fun e => by have := (o6.out.lt w7.heap.size e).2; omega))
    have o7' := (o7.out.alloc (.cells #[] 61)).kept hg1 (.inr (fun e => by have := (o7.out.lt w7.heap.size e).2; omega))
    have hs1' : w7.heap.size ≤ W1.heap.size := by have := hs1; simp at this; omega
    obtain ⟨s2, W2, hrun2, ho2, hg2⟩ := app_uids W1 w7.heap.size _ _ _ (.slice p6 UY.length q6) UY ho1 hs1' (SlV.own o6') (by omega)
    have o7'' := o7'.kept hg2 (by
      by_cases hne : (Value.slice p7 L.length q7).ownBlock = none
      · exact .inl hne
      · right
        intro e
        obtain ⟨k, hk⟩ := Option.ne_none_iff_exists'.1 hne
        have h1 := (o7.out.lt k hk).2
        have h2 := (ho1.lt k (e ▸ hk)).1
        omega)
    replace bw := hid (((bw.out.alloc bw.out.size (.cells #[] 61)).grown hg1 (by simp; omega) (fun k hk => Nat.le_trans bw.out.size (hA.lt k hk).1)).grown hg2 (Nat.le_trans bw.out.size hs1') (fun k hk => Nat.le_trans bw.out.size (ho1.lt k hk).1))
    obtain ⟨a2, r2, rfl, _, _⟩ := ownsRow_form ho2
    have hV2 : SlV W2 (.slice a2 L.length r2) L.length (encU L) := by
      have := SlV.own ho2
      rw [List.nil_append, ← encU_append, hL.out, ← hN.out] at this
      exact this
    have hVz := hid (SlV.own o7'')
    replace hV2 := hid hV2
    have eL : UX.length + UY.length = L.length := by have := hN.out; omega
    rw [eL] at hrun2
    clear eL ho1 ho2 hg1 hg2 hs1 hs1' o6' o7' o7'' o5 o6 o7 hA hs7
    replace hrun1 := hid hrun1
    replace hrun2 := hid hrun2
    go_wp2_with (first | (at_builtin; refine wpList_app rfl (.tmp 29) (.tmp 30) _ _ rfl _ _ _ _ rfl rfl hrun1.out ?_) | (at_builtin; refine wpList_app rfl (.tmp 31) (.tmp 32) _ _ rfl _ _ _ _ rfl rfl hrun2.out ?_))
    clear hrun1 hrun2
    have hLb : L.length ≤ 2097152 := by have := hN.out; omega
    go_loopw [35] (fun i wr => ∃ k : Nat, k ≤ L.length ∧ i = .int .i64 k ∧ Hid (Below W2.heap.size W2 wr)) (fun i _ => L.length - (intOf i).toNat)
    case atStart => exact ⟨0, by omega, rfl, hid (Below.refl _ _)⟩
    case round =>
      obtain ⟨k, hk, rfl, bk⟩ := hrel
      rename_i wr _
      by_cases hkl : k < L.length
      · have hki : (k : Int) < (L.length : Int) := by omega
        obtain ⟨b2, f2, k2, e2, m1, m2, x0, x1⟩ := uid_cells (hV2.out.below bk.out) k hkl
        obtain ⟨b3, f3, k3, e3, m3, m4, y0, y1⟩ := uid_cells (hVz.out.below bk.out) k hkl
        simp only [Value.slice.injEq] at e2 e3
        obtain ⟨rfl, _, rfl⟩ := e2
        obtain ⟨rfl, _, rfl⟩ := e3
        generalize L[k].1 = sa at x0 y0
        generalize L[k].2 = sb at x1 y1
        clear hV2 hVz
        go_upto_region 10 with fail
        obtain ⟨z0, z1, zf⟩ := (Blk.new wr [.string sa, .string sb] 61).two
        have hb3 := (Below.refl wr.heap.size wr).alloc (Nat.le_refl _) (.cells #[.string sa, .string sb] 61)
        replace y0 := (hb3.cell (World.block_lt_of_cell? _ _ y0)).trans y0
        replace y1 := (hb3.cell (World.block_lt_of_cell? _ _ y1)).trans y1
        replace bk := hid (bt bk.out hb3)
        clear hb3 x0 x1
        generalize wr.alloc (.cells #[.string sa, .string sb] 61) = X3 at z0 z1 zf y0 y1 bk ⊢
        generalize wr.heap.size = n9 at z0 z1 zf ⊢
        go_region
        go_wp2_with fail
        go_roundw
        case rel => exact ⟨k + 1, by omega, by go_num, hid bk.out.drew⟩
        case measure => simp [intOf]; omega
      · have hki : ¬ (k : Int) < (L.length : Int) := by omega
        clear hV2 hVz
        go_wp2_with fail
        go_ret
        exact ⟨rfl, bt bw.out bk.out⟩
end Go.Proofs.YtabpfolbemmhlaaGreatDoor.Ex
