/-
  The document's New (written by wip/refnewgen.py).
-/
import Derived.Test.YtgplioocnbjhaaaSectorLives
import Derived.Laws.AppendOwn
import Derived.Test.YtgplioocnbjhaaaRound
namespace Go.Proofs.Ytgplioocnbjhaaa.Sector
open Go.ChangeShapes Go.WideShapes Go.ChangeAt Go.RowKit
open Go.Proofs.Ytgplioocnbjhaaa.Mem
set_option linter.unusedVariables false
set_option linter.unusedSimpArgs false
set_option maxRecDepth 100000
theorem step_append_run' {P : Program} {ops : Array Oper} {o : Oper} {a : Act} {w : World} {K : Act → World → Prop} {Q : Exit → Act → World → Prop} {E : Prop}
    (hg : o.guard = none) (s x : Operand) (t : TypeId) (hop : o.op = Op.call { callee := Callee.builtin Builtin.append, args := #[s, x], argTypes := #[t, t] })
    (v1 v2 v : Value) (w' : World) (hs : a.eval s = v1) (hx : a.eval x = v2) (hrun : (Builtin.append_ #[t, t] o.type #[v1, v2]).run P w = .ok v w') (hK : K (a.put o.dst v) w') :
    if Region.wanted o (yielded ops a.tmps) = true then Oper.wp P o a w K Q else E := by
  have hw : Region.wanted o (yielded ops a.tmps) = true := by simp [Region.wanted, hg]
  rw [if_pos hw]
  unfold Oper.wp
  simp [execOp, hop, resolve, invoke, builtin, hs, hx, hrun, Result.andThen]
  exact hK
theorem step_make_run {P : Program} {ops : Array Oper} {o : Oper} {a : Act} {w : World} {K : Act → World → Prop} {Q : Exit → Act → World → Prop} {E : Prop}
    (hg : o.guard = none) (l c : Operand) (t : TypeId) (hop : o.op = Op.makeSlice t l c)
    (v1 v2 v : Value) (w' : World) (hs : a.eval l = v1) (hx : a.eval c = v2) (hrun : (Instr.makeSlice t v1 v2).run P w = .ok v w') (hK : K (a.put o.dst v) w') :
    if Region.wanted o (yielded ops a.tmps) = true then Oper.wp P o a w K Q else E := by
  have hw : Region.wanted o (yielded ops a.tmps) = true := by simp [Region.wanted, hg]
  rw [if_pos hw]
  unfold Oper.wp
  simp [execOp, hop, hs, hx, hrun, Result.andThen]
  exact hK
theorem info_string' : (Try.prog.info? 9).map (fun i => (i.zero, i.size, i.bytes)) = some (some (.string ⟨#[]⟩), 1, 16) := by kernel_rfl
/-- A text is appended to a row of the call's own. -/
theorem app_one (B : Nat) (so : Option Addr) (cp n : Nat) (L : List ByteArray) (s : ByteArray) (W : World) (hn : n ≤ 100000) (hrow : W.ownsRow B 9 1 (.slice so n cp) n (strC L)) (hB : B ≤ W.heap.size) :
    ∃ so' cp' W', (Builtin.append_ #[22, 22] 22 #[.slice so n cp, .slice (some ⟨W.heap.size, 0, none⟩) 1 1]).run Try.prog (W.alloc (.cells #[.string s] 9)) = .ok (.slice so' (n + 1) cp') W' ∧
      W'.ownsRow B 9 1 (.slice so' (n + 1) cp') (n + 1) (strC (L ++ [s])) ∧ Below B W W' := by
  obtain ⟨i0, hi, hz0, hz1, hz2⟩ := info_parts info_string'
  obtain ⟨v', w8, hr8, ho8, hg8, _⟩ := run_append_own (P := Try.prog) (W.alloc (.cells #[.string s] 9)) B 22 22 9 i0 (.string ⟨#[]⟩) 1 16 Try.underlying22 hi hz0 hz1 hz2 rfl (by decide) _ _ _ (hrow.alloc _) ⟨W.heap.size, 0, none⟩ 1 1 [.string s] rfl
    (by
      intro j u hu
      match j, hu with
      | 0, hu => simp at hu; subst hu; simp [go_sem]) (by intro v hv; simp at hv; subst hv; rfl) (by unfold maxLen; omega) (by omega) (by simp; omega)
  obtain ⟨so', sc', rfl, _⟩ := ownsRow_form ho8
  refine ⟨so', sc', w8, hr8, ?_, ?_⟩
  · rw [strC_append]; exact ho8
  · exact ((Below.refl B W).alloc hB _).grown hg8 (by simp; omega) (fun k hk => (hrow.lt k hk).1)
theorem rnew_bad (n : Int) (w : World) (h : n < 1 ∨ 1024 < n) : Calls Try.prog 29 #[.int .i64 n] w (Res w (zeroDisk, 1)) := by
  have go : Calls Try.prog 29 #[.int .i64 n] w fun e w' => e = .returned (.tuple #[.agg #[.slice none 0 0, .slice none 0 0, .bool false, .int .i64 0], .int .i64 1]) ∧ Below w.heap.size w w' := by
    rcases h with h | h
    · go_enter Try.func29, Try.ntmps29
      go_wp2_with fail
      go_returns
      exact ⟨rfl, by go_grown⟩
    · have h' : ¬ n < 1 := by omega
      go_enter Try.func29, Try.ntmps29
      go_wp2_with fail
      go_returns
      exact ⟨rfl, by go_grown⟩
  refine go.mono ?_
  rintro e w' ⟨rfl, hb⟩
  exact ⟨_, _, rfl, zero_own hb.size, hb⟩
theorem info_byte' : (Try.prog.info? 5).map (fun i => (i.zero, i.size, i.bytes)) = some (some (Value.int .u8 0), 1, 1) := by kernel_rfl
/-- 64 zero bytes, in a block. -/
def Zeros (W : World) (g : Nat) : Prop := W.heap[g]? = some (.cells (List.replicate 64 (Value.int .u8 0)).toArray 5 (0, 0))
theorem make_zeros (W : World) : ∃ W2, (Instr.makeSlice 105 (.int .i64 64) (.int .i64 64)).run Try.prog W = .ok (.slice (some ⟨W.heap.size, 0, none⟩) 64 64) W2 ∧ Below W.heap.size W W2 ∧ Zeros W2 W.heap.size := by
  obtain ⟨i0, hi, hz0, hz1, hz2⟩ := info_parts info_byte'
  obtain ⟨w', hrun, hown, hg⟩ := run_make_full (P := Try.prog) W W.heap.size 105 5 i0 (.int .u8 0) 1 Try.underlying105 hi hz0 hz1 .i64 .i64 64 (by rw [hz2]; omega) (by decide) (Nat.le_refl _)
  have hg0 : w'.heap[W.heap.size]? = some (.cells (madeCells #[Value.int .u8 0] 64).toList.toArray 5 (0, 0)) := made_blk hown
  rw [made_bytes] at hg0
  exact ⟨w', hrun, (Below.refl _ _).grown hg (Nat.le_refl _) (by simp), hg0⟩
theorem conv_zeros (W : World) (g : Nat) (h : Zeros W g) : (convert 105 9 (.slice (some ⟨g, 0, none⟩) 64 64)).run Try.prog W = .ok (.string blank) W := by
  have hback := run_convert_bytes_back (P := Try.prog) W 105 9 5 ⟨g, 0, none⟩ 64 (List.replicate 64 (UInt8.ofNat 0)) Try.underlying105 Try.underlying5 Try.underlying9
    (fun j hj => by
      rw [List.length_replicate] at hj
      have hB : Blk W g (List.replicate 64 (Value.int .u8 0)) 5 := ⟨h⟩
      rw [Mem.add_plain, Nat.zero_add, hB.cell j (by rw [List.length_replicate]; exact hj), List.getElem_replicate, List.getElem_replicate]
      rfl)
  rw [List.length_replicate] at hback
  exact hback
set_option maxHeartbeats 4000000 in
theorem rnew_ok (n : Nat) (w : World) (h1 : 1 ≤ n) (h2 : n ≤ 1024) : Calls Try.prog 29 #[.int .i64 n] w (Res w (⟨List.replicate n blank, [], false, -1⟩, 0)) := by
  have a1 : ¬ (n : Int) < 1 := by omega
  have a2 : ¬ 1024 < (n : Int) := by omega
  go_enter Try.func29, Try.ntmps29
  go_wp2_with fail
  clear a1 a2
  go_loopw [5] (fun i wr => ∃ (k : Nat) (so : Option Addr) (sc : Nat), k ≤ n ∧ i = .int .i64 k ∧ Blk wr w.heap.size [.slice none 0 0, .slice none 0 0, .bool false, .int .i64 0] 25 ∧ Blk wr (w.heap.size + 1) [.slice so k sc, .slice none 0 0, .bool false, .int .i64 (-1)] 25 ∧
    wr.ownsRow (w.heap.size + 2) 9 1 (.slice so k sc) k (strC (List.replicate k blank)) ∧ Below w.heap.size w wr) (fun i _ => n - (intOf i).toNat)
  case atStart =>
    exact ⟨0, none, 0, by omega, rfl, (Blk.new w _ _).alloc _, Blk.new' _ _ _ _ (by simp), World.ownsRow_nil _ _ _ _, by go_grown⟩
  case round =>
    obtain ⟨k, so, sc, hk, rfl, hR, hD, ho, hbr⟩ := hrel
    have hDl := hD.lt
    by_cases hlt : k < n
    · have hld : Hid (∀ W', Below wr.heap.size wr W' → W'.cell? ⟨w.heap.size + 1, 0, none⟩ = some (.slice so k sc)) := hid (fun W' hb => cell_below hb _ _ hD.four.1)
      have hmk : Hid (∀ W', Below wr.heap.size wr W' → ∃ W2, (Instr.makeSlice 105 (.int .i64 64) (.int .i64 64)).run Try.prog W' = .ok (.slice (some ⟨W'.heap.size, 0, none⟩) 64 64) W2 ∧ Below wr.heap.size wr W2 ∧ Zeros W2 W'.heap.size) := hid (fun W' hb => by
        obtain ⟨W2, h1, h2, h3⟩ := make_zeros W'
        exact ⟨W2, h1, bt hb h2, h3⟩)
      have hcv := hid (fun W g h => conv_zeros W g h)
      have hap : Hid (∀ W', Below wr.heap.size wr W' → ∃ so' sc' W2, (Builtin.append_ #[22, 22] 22 #[.slice so k sc, .slice (some ⟨W'.heap.size, 0, none⟩) 1 1]).run Try.prog (W'.alloc (.cells #[.string blank] 9)) = .ok (.slice so' (k + 1) sc') W2 ∧
          W2.ownsRow (w.heap.size + 2) 9 1 (.slice so' (k + 1) sc') (k + 1) (strC (List.replicate (k + 1) blank)) ∧ Blk W2 w.heap.size [.slice none 0 0, .slice none 0 0, .bool false, .int .i64 0] 25 ∧ Blk W2 (w.heap.size + 1) [.slice so k sc, .slice none 0 0, .bool false, .int .i64 (-1)] 25 ∧ Below w.heap.size w W2) := hid (fun W' hb => by
        obtain ⟨so', sc', W2, g1, g2, g3⟩ := app_one (w.heap.size + 2) so sc k (List.replicate k blank) blank W' (by omega) (ownsRow_below ho hb) (by have := hb.size; omega)
        rw [← List.replicate_succ'] at g2
        exact ⟨so', sc', W2, g1, g2, (hR.below hb hR.lt).below g3 (by omega), (hD.below hb hDl).below g3 (by omega), (bt hbr hb).trans (g3.mono (by omega))⟩)
      have hv0 := hid ((Below.refl wr.heap.size wr).drew)
      have hltI : (k : Int) < (n : Int) := by omega
      clear hbr ho hD hR
      go_upto_region 7 with fail
      have hmix : Try.prog.follows .mixedOrders = true := by kernel_rfl
      refine wp_region_any hmix ?_
      clear hmix
      refine wpAny_take (i := 0) (v := ?_) rfl (by kernel_rfl) (by kernel_rfl) (by kernel_rfl) (fun _ _ _ h => h) (Or.inl ⟨by rfl, ?_⟩) ?_
      rotate_left 1
      (intro w; go_simp; try with_reducible rfl)
      (try simp only [Act.put, List.getElem_toArray, List.getElem_cons_zero, List.getElem_cons_succ, List.setIfInBounds_toArray, List.set_cons_zero, List.set_cons_succ])
      refine wpAny_ready (rs := [1, 2]) (by kernel_rfl) (by simp) ?_
      refine AllReady.cons rfl (fun K hK => ?_) ?_
      · skip
        have c0 : wr.cell? ⟨w.heap.size + 1, 0, none⟩ = some (.slice so k sc) := hld.out wr.drew hv0.out
        go_simp
        refine hK _ _ ?_
        clear hK K
        (try simp only [Act.put, List.getElem_toArray, List.getElem_cons_zero, List.getElem_cons_succ, List.setIfInBounds_toArray, List.set_cons_zero, List.set_cons_succ])
        refine wpAny_ready (rs := [2]) (by kernel_rfl) (by simp) ?_
        refine AllReady.cons rfl (fun K hK => ?_) AllReady.nil
        obtain ⟨W2, hrun, hv2, hbl0⟩ := hmk.out _ hv0.out
        have hbl : Zeros W2 wr.heap.size := hbl0
        clear hbl0
        refine step_make_run rfl _ _ _ rfl _ _ _ _ rfl rfl hrun ?_
        refine hK _ _ ?_
        clear hK K
        (try simp only [Act.put, List.getElem_toArray, List.getElem_cons_zero, List.getElem_cons_succ, List.setIfInBounds_toArray, List.set_cons_zero, List.set_cons_succ])
        refine wpAny_ready (rs := [3]) (by kernel_rfl) (by simp) ?_
        refine AllReady.cons rfl (fun K hK => ?_) AllReady.nil
        go_simp
        rw [hcv.out _ _ hbl]
        go_simp
        refine hK _ _ ?_
        clear hK K
        (try simp only [Act.put, List.getElem_toArray, List.getElem_cons_zero, List.getElem_cons_succ, List.setIfInBounds_toArray, List.set_cons_zero, List.set_cons_succ])
        refine wpAny_ready (rs := [4]) (by kernel_rfl) (by simp) ?_
        refine AllReady.cons rfl (fun K hK => ?_) AllReady.nil
        go_simp
        have hv4 := hid ((hv2).alloc (hv2).size (.cells #[.string blank] 9))
        refine hK _ _ ?_
        clear hK K
        (try simp only [Act.put, List.getElem_toArray, List.getElem_cons_zero, List.getElem_cons_succ, List.setIfInBounds_toArray, List.set_cons_zero, List.set_cons_succ])
        refine wpAny_ready (rs := [5]) (by kernel_rfl) (by simp) ?_
        refine AllReady.cons rfl (fun K hK => ?_) AllReady.nil
        obtain ⟨so', sc', W3, hr, ho, hR, hB, hb⟩ := hap.out _ hv2
        refine step_append_run' rfl (.tmp 20) (.tmp 23) 22 rfl _ _ _ _ rfl rfl hr ?_
        refine hK _ _ ?_
        clear hK K
        (try simp only [Act.put, List.getElem_toArray, List.getElem_cons_zero, List.getElem_cons_succ, List.setIfInBounds_toArray, List.set_cons_zero, List.set_cons_succ])
        refine wpAny_take (i := 6) (v := ?_) rfl (by kernel_rfl) (by kernel_rfl) (by kernel_rfl) (fun _ _ _ h => h) (Or.inl ⟨by rfl, ?_⟩) ?_
        rotate_left 1
        (intro w; go_simp; try with_reducible rfl)
        (try simp only [Act.put, List.getElem_toArray, List.getElem_cons_zero, List.getElem_cons_succ, List.setIfInBounds_toArray, List.set_cons_zero, List.set_cons_succ])
        refine wpAny_ready (rs := [7]) (by kernel_rfl) (by simp) ?_
        refine AllReady.cons rfl (fun K hK => ?_) AllReady.nil
        obtain ⟨d0, d1, d2, d3, df⟩ := hB.four
        go_simp
        refine hK _ _ ?_
        clear hK K
        (try simp only [Act.put, List.getElem_toArray, List.getElem_cons_zero, List.getElem_cons_succ, List.setIfInBounds_toArray, List.set_cons_zero, List.set_cons_succ])
        refine wpAny_done (by kernel_rfl) ?_ _
        have hD := hid (hB.set 0 (.slice so' (k + 1) sc'))
        have hR2 := hid (hR.other (p := ⟨w.heap.size + 1, 0, none⟩) (by simp) (.slice so' (k + 1) sc'))
        have hbf := hid (hb.setCell (p := ⟨w.heap.size + 1, 0, none⟩) (by simp) (.slice so' (k + 1) sc'))
        have hof := hid (ownsRow_setCell_below ho (a := ⟨w.heap.size + 1, 0, none⟩) (by simp) (.slice so' (k + 1) sc'))
        clear hB hb ho hR
        go_wp2_with fail
        go_roundw
        case rel => exact ⟨k + 1, so', sc', by omega, by go_num, hR2.out, hD.out, hof.out, hbf.out⟩
        case measure => simp [intOf]; omega
      refine AllReady.cons rfl (fun K hK => ?_) AllReady.nil
      obtain ⟨W2, hrun, hv2, hbl0⟩ := hmk.out _ hv0.out
      have hbl : Zeros W2 wr.heap.size := hbl0
      clear hbl0
      refine step_make_run rfl _ _ _ rfl _ _ _ _ rfl rfl hrun ?_
      refine hK _ _ ?_
      clear hK K
      (try simp only [Act.put, List.getElem_toArray, List.getElem_cons_zero, List.getElem_cons_succ, List.setIfInBounds_toArray, List.set_cons_zero, List.set_cons_succ])
      refine wpAny_ready (rs := [1, 3]) (by kernel_rfl) (by simp) ?_
      refine AllReady.cons rfl (fun K hK => ?_) ?_
      · skip
        have c0 := hld.out _ hv2
        go_simp
        refine hK _ _ ?_
        clear hK K
        (try simp only [Act.put, List.getElem_toArray, List.getElem_cons_zero, List.getElem_cons_succ, List.setIfInBounds_toArray, List.set_cons_zero, List.set_cons_succ])
        refine wpAny_ready (rs := [3]) (by kernel_rfl) (by simp) ?_
        refine AllReady.cons rfl (fun K hK => ?_) AllReady.nil
        go_simp
        rw [hcv.out _ _ hbl]
        go_simp
        refine hK _ _ ?_
        clear hK K
        (try simp only [Act.put, List.getElem_toArray, List.getElem_cons_zero, List.getElem_cons_succ, List.setIfInBounds_toArray, List.set_cons_zero, List.set_cons_succ])
        refine wpAny_ready (rs := [4]) (by kernel_rfl) (by simp) ?_
        refine AllReady.cons rfl (fun K hK => ?_) AllReady.nil
        go_simp
        have hv4 := hid ((hv2).alloc (hv2).size (.cells #[.string blank] 9))
        refine hK _ _ ?_
        clear hK K
        (try simp only [Act.put, List.getElem_toArray, List.getElem_cons_zero, List.getElem_cons_succ, List.setIfInBounds_toArray, List.set_cons_zero, List.set_cons_succ])
        refine wpAny_ready (rs := [5]) (by kernel_rfl) (by simp) ?_
        refine AllReady.cons rfl (fun K hK => ?_) AllReady.nil
        obtain ⟨so', sc', W3, hr, ho, hR, hB, hb⟩ := hap.out _ hv2
        refine step_append_run' rfl (.tmp 20) (.tmp 23) 22 rfl _ _ _ _ rfl rfl hr ?_
        refine hK _ _ ?_
        clear hK K
        (try simp only [Act.put, List.getElem_toArray, List.getElem_cons_zero, List.getElem_cons_succ, List.setIfInBounds_toArray, List.set_cons_zero, List.set_cons_succ])
        refine wpAny_take (i := 6) (v := ?_) rfl (by kernel_rfl) (by kernel_rfl) (by kernel_rfl) (fun _ _ _ h => h) (Or.inl ⟨by rfl, ?_⟩) ?_
        rotate_left 1
        (intro w; go_simp; try with_reducible rfl)
        (try simp only [Act.put, List.getElem_toArray, List.getElem_cons_zero, List.getElem_cons_succ, List.setIfInBounds_toArray, List.set_cons_zero, List.set_cons_succ])
        refine wpAny_ready (rs := [7]) (by kernel_rfl) (by simp) ?_
        refine AllReady.cons rfl (fun K hK => ?_) AllReady.nil
        obtain ⟨d0, d1, d2, d3, df⟩ := hB.four
        go_simp
        refine hK _ _ ?_
        clear hK K
        (try simp only [Act.put, List.getElem_toArray, List.getElem_cons_zero, List.getElem_cons_succ, List.setIfInBounds_toArray, List.set_cons_zero, List.set_cons_succ])
        refine wpAny_done (by kernel_rfl) ?_ _
        have hD := hid (hB.set 0 (.slice so' (k + 1) sc'))
        have hR2 := hid (hR.other (p := ⟨w.heap.size + 1, 0, none⟩) (by simp) (.slice so' (k + 1) sc'))
        have hbf := hid (hb.setCell (p := ⟨w.heap.size + 1, 0, none⟩) (by simp) (.slice so' (k + 1) sc'))
        have hof := hid (ownsRow_setCell_below ho (a := ⟨w.heap.size + 1, 0, none⟩) (by simp) (.slice so' (k + 1) sc'))
        clear hB hb ho hR
        go_wp2_with fail
        go_roundw
        case rel => exact ⟨k + 1, so', sc', by omega, by go_num, hR2.out, hD.out, hof.out, hbf.out⟩
        case measure => simp [intOf]; omega
      refine AllReady.cons rfl (fun K hK => ?_) AllReady.nil
      go_simp
      rw [hcv.out _ _ hbl]
      go_simp
      refine hK _ _ ?_
      clear hK K
      (try simp only [Act.put, List.getElem_toArray, List.getElem_cons_zero, List.getElem_cons_succ, List.setIfInBounds_toArray, List.set_cons_zero, List.set_cons_succ])
      refine wpAny_ready (rs := [1, 4]) (by kernel_rfl) (by simp) ?_
      refine AllReady.cons rfl (fun K hK => ?_) ?_
      · skip
        have c0 := hld.out _ hv2
        go_simp
        refine hK _ _ ?_
        clear hK K
        (try simp only [Act.put, List.getElem_toArray, List.getElem_cons_zero, List.getElem_cons_succ, List.setIfInBounds_toArray, List.set_cons_zero, List.set_cons_succ])
        refine wpAny_ready (rs := [4]) (by kernel_rfl) (by simp) ?_
        refine AllReady.cons rfl (fun K hK => ?_) AllReady.nil
        go_simp
        have hv4 := hid ((hv2).alloc (hv2).size (.cells #[.string blank] 9))
        refine hK _ _ ?_
        clear hK K
        (try simp only [Act.put, List.getElem_toArray, List.getElem_cons_zero, List.getElem_cons_succ, List.setIfInBounds_toArray, List.set_cons_zero, List.set_cons_succ])
        refine wpAny_ready (rs := [5]) (by kernel_rfl) (by simp) ?_
        refine AllReady.cons rfl (fun K hK => ?_) AllReady.nil
        obtain ⟨so', sc', W3, hr, ho, hR, hB, hb⟩ := hap.out _ hv2
        refine step_append_run' rfl (.tmp 20) (.tmp 23) 22 rfl _ _ _ _ rfl rfl hr ?_
        refine hK _ _ ?_
        clear hK K
        (try simp only [Act.put, List.getElem_toArray, List.getElem_cons_zero, List.getElem_cons_succ, List.setIfInBounds_toArray, List.set_cons_zero, List.set_cons_succ])
        refine wpAny_take (i := 6) (v := ?_) rfl (by kernel_rfl) (by kernel_rfl) (by kernel_rfl) (fun _ _ _ h => h) (Or.inl ⟨by rfl, ?_⟩) ?_
        rotate_left 1
        (intro w; go_simp; try with_reducible rfl)
        (try simp only [Act.put, List.getElem_toArray, List.getElem_cons_zero, List.getElem_cons_succ, List.setIfInBounds_toArray, List.set_cons_zero, List.set_cons_succ])
        refine wpAny_ready (rs := [7]) (by kernel_rfl) (by simp) ?_
        refine AllReady.cons rfl (fun K hK => ?_) AllReady.nil
        obtain ⟨d0, d1, d2, d3, df⟩ := hB.four
        go_simp
        refine hK _ _ ?_
        clear hK K
        (try simp only [Act.put, List.getElem_toArray, List.getElem_cons_zero, List.getElem_cons_succ, List.setIfInBounds_toArray, List.set_cons_zero, List.set_cons_succ])
        refine wpAny_done (by kernel_rfl) ?_ _
        have hD := hid (hB.set 0 (.slice so' (k + 1) sc'))
        have hR2 := hid (hR.other (p := ⟨w.heap.size + 1, 0, none⟩) (by simp) (.slice so' (k + 1) sc'))
        have hbf := hid (hb.setCell (p := ⟨w.heap.size + 1, 0, none⟩) (by simp) (.slice so' (k + 1) sc'))
        have hof := hid (ownsRow_setCell_below ho (a := ⟨w.heap.size + 1, 0, none⟩) (by simp) (.slice so' (k + 1) sc'))
        clear hB hb ho hR
        go_wp2_with fail
        go_roundw
        case rel => exact ⟨k + 1, so', sc', by omega, by go_num, hR2.out, hD.out, hof.out, hbf.out⟩
        case measure => simp [intOf]; omega
      refine AllReady.cons rfl (fun K hK => ?_) AllReady.nil
      go_simp
      have hv4 := hid ((hv2).alloc (hv2).size (.cells #[.string blank] 9))
      refine hK _ _ ?_
      clear hK K
      (try simp only [Act.put, List.getElem_toArray, List.getElem_cons_zero, List.getElem_cons_succ, List.setIfInBounds_toArray, List.set_cons_zero, List.set_cons_succ])
      refine wpAny_ready (rs := [1]) (by kernel_rfl) (by simp) ?_
      refine AllReady.cons rfl (fun K hK => ?_) AllReady.nil
      have c0 := hld.out _ hv4.out
      go_simp
      refine hK _ _ ?_
      clear hK K
      (try simp only [Act.put, List.getElem_toArray, List.getElem_cons_zero, List.getElem_cons_succ, List.setIfInBounds_toArray, List.set_cons_zero, List.set_cons_succ])
      refine wpAny_ready (rs := [5]) (by kernel_rfl) (by simp) ?_
      refine AllReady.cons rfl (fun K hK => ?_) AllReady.nil
      obtain ⟨so', sc', W3, hr, ho, hR, hB, hb⟩ := hap.out _ hv2
      refine step_append_run' rfl (.tmp 20) (.tmp 23) 22 rfl _ _ _ _ rfl rfl hr ?_
      refine hK _ _ ?_
      clear hK K
      (try simp only [Act.put, List.getElem_toArray, List.getElem_cons_zero, List.getElem_cons_succ, List.setIfInBounds_toArray, List.set_cons_zero, List.set_cons_succ])
      refine wpAny_take (i := 6) (v := ?_) rfl (by kernel_rfl) (by kernel_rfl) (by kernel_rfl) (fun _ _ _ h => h) (Or.inl ⟨by rfl, ?_⟩) ?_
      rotate_left 1
      (intro w; go_simp; try with_reducible rfl)
      (try simp only [Act.put, List.getElem_toArray, List.getElem_cons_zero, List.getElem_cons_succ, List.setIfInBounds_toArray, List.set_cons_zero, List.set_cons_succ])
      refine wpAny_ready (rs := [7]) (by kernel_rfl) (by simp) ?_
      refine AllReady.cons rfl (fun K hK => ?_) AllReady.nil
      obtain ⟨d0, d1, d2, d3, df⟩ := hB.four
      go_simp
      refine hK _ _ ?_
      clear hK K
      (try simp only [Act.put, List.getElem_toArray, List.getElem_cons_zero, List.getElem_cons_succ, List.setIfInBounds_toArray, List.set_cons_zero, List.set_cons_succ])
      refine wpAny_done (by kernel_rfl) ?_ _
      have hD := hid (hB.set 0 (.slice so' (k + 1) sc'))
      have hR2 := hid (hR.other (p := ⟨w.heap.size + 1, 0, none⟩) (by simp) (.slice so' (k + 1) sc'))
      have hbf := hid (hb.setCell (p := ⟨w.heap.size + 1, 0, none⟩) (by simp) (.slice so' (k + 1) sc'))
      have hof := hid (ownsRow_setCell_below ho (a := ⟨w.heap.size + 1, 0, none⟩) (by simp) (.slice so' (k + 1) sc'))
      clear hB hb ho hR
      go_wp2_with fail
      go_roundw
      case rel => exact ⟨k + 1, so', sc', by omega, by go_num, hR2.out, hD.out, hof.out, hbf.out⟩
      case measure => simp [intOf]; omega
    · obtain rfl : k = n := by omega
      obtain ⟨c0, c1, c2, c3, cf⟩ := hD.four
      obtain ⟨r0, r1, r2, r3, rf⟩ := hR.four
      have hltI : ¬ (k : Int) < (k : Int) := by omega
      have hfin := box4 (d := ⟨List.replicate k blank, [], false, -1⟩) (sv := .slice so k sc) (pv := .slice none 0 0) hR (B := w.heap.size + 2) ⟨by simpa using ho, wr.heap.size, by omega, Nat.le_refl _, fun j hj => (ownBlock_lt ho hj).2, World.ownsRow_nil _ _ _ _⟩ (by omega) hbr (Nat.le_refl _) (.slice so k sc) (.slice none 0 0) (.bool false) (.int .i64 (-1))
      obtain ⟨R5, O5, b5⟩ := hfin
      clear hD ho hbr hR
      go_wp2_with fail
      obtain ⟨q0, q1, q2, q3, qf⟩ := R5.out.four
      refine bodyPost_ret (v := .tuple #[.agg #[.slice so k sc, .slice none 0 0, .bool false, .int .i64 (-1)], .int .i64 (0)]) (by simp [results, Try.results29, go_sem, q0, q1, q2, q3]) rfl ?_
      exact ⟨_, _, rfl, OwnDisk.mono (B := w.heap.size + 2) (B' := w.heap.size) O5.out (by omega), b5.out⟩
theorem rnew_any (n : Int) (w : World) : Calls Try.prog 29 #[.int .i64 n] w (Res w (newE n)) := by
  unfold newE
  by_cases h : n < 1 ∨ 1024 < n
  · rw [if_pos h]; exact rnew_bad n w h
  · rw [if_neg h]
    obtain ⟨k, rfl⟩ : ∃ k : Nat, n = k := ⟨n.toNat, by omega⟩
    exact rnew_ok k w (by omega) (by omega)
end Go.Proofs.Ytgplioocnbjhaaa.Sector
