/-
  The contract of record.Sectors.
-/
import Derived.Test.YtiegocbdgimimaaRecChunk
import Derived.Test.YtiegocbdgimimaaRecPiece
import Derived.Test.YtiegocbdgimimaaCrcFlp
import Derived.Test.YtiegocbdgimimaaRound
namespace Go.Proofs.Ytiegocbdgimimaa.Rec
open Go.ChangeShapes Go.WideShapes Go.ChangeAt Go.RowKit Go.Shelf
open Go.Proofs.Ytiegocbdgimimaa.Mem Go.Proofs.Ytiegocbdgimimaa.CrcMath
open Go.Proofs.Ytiegocbdgimimaa.Crc (bytes_world)
set_option linter.unusedVariables false
set_option maxRecDepth 100000
attribute [local go_sem] Oper.semAt_some

set_option maxHeartbeats 400000 in
theorem chunk_in (F : Fence) (n : Nat) (hf : F.fn 36) (hro : F.round = none) (a : Option Addr) (len cap : Nat) (w : World) :
    CallsIn F n Try.prog 36 #[.slice a len cap, .int .i64 61] w fun e w' => e = .returned (.func (.func 66) #[] #[.pointer (some ⟨w.heap.size, 0, none⟩), .pointer (some ⟨w.heap.size + 1, 0, none⟩)]) ∧ w' = (w.alloc (.cells #[.slice a len cap] 82)).alloc (.cells #[.int .i64 61] 3) := by
  refine callsIn_of_wp Try.func36 rfl hf ?_ hro
  simp only [Try.ntmps36, List.size_toArray, List.length_cons, List.length_nil, Nat.reduceAdd, Nat.reduceSub, Array.replicate_succ, Array.replicate_zero, List.push_toArray, List.append_toArray, List.nil_append, List.cons_append]
  gi_wp2
  go_ret
  exact ⟨rfl, rfl⟩
theorem chunk_stops (F : Fence) (n : Nat) (hf : F.fn 66) (hro : F.round = none) (hn : 1 ≤ n) (Bs Bn b off len cap : Nat) (hlen : len ≤ 16384) (hcap : len ≤ cap) (hcm : cap ≤ maxLen) (w : World)
    (hBs : w.cell? ⟨Bs, 0, none⟩ = some (.slice (some ⟨b, off, none⟩) len cap)) (hBn : w.cell? ⟨Bn, 0, none⟩ = some (.int .i64 61)) (h1 : Bs < w.heap.size) (h2 : Bn < w.heap.size) :
    SeqStopsK F n Try.prog 66 #[.pointer (some ⟨Bs, 0, none⟩), .pointer (some ⟨Bn, 0, none⟩)] (encC b off len) (Kp2 Bs Bn) (fun ys => ys = firstIx len (pcs len) (Nat.le_refl _)) (fun pre => ∃ k h, pre = firstIx len k h) (pcs len) w := fun l J Jx W hW hJa _ hY h0 =>
  chunk1_in F n hf hro hn l Bs Bn b off len cap hlen hcap hcm J Jx (fun s W1 hs => hJa s W1 W1.drew none hs ⟨rfl, rfl, rfl, Nat.le_refl _, fun _ _ _ => rfl⟩ (by simp)) hY W
    ((hW.cell (p := ⟨Bs, 0, none⟩) h1).trans hBs) ((hW.cell (p := ⟨Bn, 0, none⟩) h2).trans hBn) h0

theorem step_append_run {P : Program} {ops : Array Oper} {o : Oper} {a : Act} {w : World} {K : Act → World → Prop} {Q : Exit → Act → World → Prop} {E : Prop}
    (hg : o.guard = none) (s x : Operand) (t : TypeId) (hop : o.op = Op.call { callee := Callee.builtin Builtin.append, args := #[s, x], argTypes := #[t, t] })
    (v1 v2 v : Value) (w' : World) (hs : a.eval s = v1) (hx : a.eval x = v2) (hrun : (Builtin.append_ #[t, t] o.type #[v1, v2]).run P w = .ok v w') (hK : K (a.put o.dst v) w') :
    if Region.wanted o (yielded ops a.tmps) = true then Oper.wp P o a w K Q else E := by
  have hw : Region.wanted o (yielded ops a.tmps) = true := by simp [Region.wanted, hg]
  rw [if_pos hw]
  unfold Oper.wp
  simp [execOp, hop, resolve, invoke, builtin, hs, hx, hrun, Result.andThen]
  exact hK
theorem info_string : (Try.prog.info? 9).map (fun i => (i.zero, i.size, i.bytes)) = some (some (.string ⟨#[]⟩), 1, 16) := by kernel_rfl
/-- The bytes of a text lie in a block. -/
def BytesAt (W : World) (g : Nat) (p : ByteArray) : Prop := ∃ cs mk, W.heap[g]? = some (.cells cs 5 mk) ∧ ∀ j (h : j < p.size), cs[j]? = some (.int .u8 (p.data.toList[j].toNat : Int))
theorem BytesAt.cell {W : World} {g : Nat} {p : ByteArray} (h : BytesAt W g p) (j : Nat) (hj : j < p.size) : W.cell? ⟨g, j, none⟩ = some (.int .u8 (p.data.toList[j].toNat : Int)) := by
  obtain ⟨cs, mk, h1, h2⟩ := h
  simp [World.cell?, h1, h2 j hj]
theorem BytesAt.grown {W W' : World} {g : Nat} {p : ByteArray} {row : Option Nat} (h : BytesAt W g p) (hg : W.grownBy W' row) (hr : row ≠ some g) : BytesAt W' g p := by
  obtain ⟨cs, mk, h1, h2⟩ := h
  exact ⟨cs, mk, (hg.block g (Array.getElem?_eq_some_iff.1 h1).1 (fun e => hr e.symm)).trans h1, h2⟩
theorem BytesAt.below {W W' : World} {g B : Nat} {p : ByteArray} (h : BytesAt W g p) (hb : Below B W W') (hB : g < B) : BytesAt W' g p := by
  obtain ⟨cs, mk, h1, h2⟩ := h
  exact ⟨cs, mk, (hb.block g hB).trans h1, h2⟩
theorem BytesAt.not_row {W : World} {g : Nat} {p : ByteArray} {base size n : Nat} {v : Value} {xs : List Value} (h : BytesAt W g p) (hr : W.ownsRow base 9 size v n xs) : v.ownBlock ≠ some g := by
  obtain ⟨cs, mk, h1, h2⟩ := h
  rcases hr.2 with ⟨rfl, _⟩ | ⟨g', cap, cur, rfl, _, hg, _⟩
  · simp [Value.ownBlock]
  · intro e
    have : g' = g := by simpa [Value.ownBlock] using e
    subst this
    rw [h1] at hg
    simp at hg
theorem BytesAt.own {β : Type} (g : Nat) (p : ByteArray) : Own (fun (_ : β) W => BytesAt W g p) := fun s X Y row hs hg hrow => hs.grown hg (fun e => by
  obtain ⟨o, ho, hc⟩ := hrow g e
  obtain ⟨cs, mk, h1, _⟩ := hs
  rw [h1] at ho; cases ho; cases hc)
theorem bytes_world2 (w : World) (s : ByteArray) (hs : s.size ≤ maxLen) : ∃ (W : World) (cap : Nat), (convert 9 82 (.string s)).run Try.prog w = .ok (.slice (some ⟨w.heap.size, 0, none⟩) s.size cap) W ∧
    Below w.heap.size w W ∧ W.heap.size = w.heap.size + 1 ∧ BytesAt W w.heap.size s ∧ s.size ≤ cap ∧ cap ≤ maxLen := by
  have hge := grownCap_ge w s.size 0 5
  have hle := grownCap_le_maxLen w s.size 0 5 hs
  have hb := run_bytes_of_string (P := Try.prog) w 9 82 5 s Try.underlying9 Try.underlying82 Try.underlying5
  generalize grownCap w s.size 0 5 = cap at *
  refine ⟨_, cap, hb, (Below.refl _ _).drew.alloc (by simp) _, by simp, ⟨bytesRow s cap, ((bytesRow s cap).size, (bytesRow s cap).size + 1), ?_, ?_⟩, hge, hle⟩
  · show (w.heap.push _)[w.heap.size]? = _
    simp
  · intro j h
    have h' : j < s.data.size := h
    simp only [bytesRow, Array.getElem?_append, Array.getElem?_map, Array.size_map, Array.getElem?_eq_getElem h']
    rw [if_pos h']
    rfl
/-- A part of them, made a string. -/
theorem conv_part {W : World} {g : Nat} {p : ByteArray} (h : BytesAt W g p) (i m : Nat) (hm : m = at61 p.size i) (hi : i * 61 ≤ p.size) :
    (convert 82 9 (.slice (some ⟨g, i * 61, none⟩) m m)).run Try.prog W = .ok (.string (bs (part p.data.toList i))) W := by
  have hl : p.data.toList.length = p.size := rfl
  have hlen : (part p.data.toList i).length = m := by rw [part_len, hm, at61, hl]
  refine (run_convert_bytes_arg W 82 5 Try.underlying82 Try.underlying5 g (i * 61) m m ((part p.data.toList i).map fun b => (b.toNat : Int)) (by simpa using hlen) (fun j hj => ?_) 9 Try.underlying9).trans ?_
  · have hjm : j < 61 ∧ j < p.size - i * 61 := by rw [hm, at61] at hj; omega
    rw [h.cell (i * 61 + j) (by omega)]
    simp [part, List.getD, hjm.1, show i * 61 + j < p.size by omega]
  · congr 2
    unfold strOfNums bs
    congr 1
    simp [Function.comp_def]
/-- The pieces that have been laid. -/
def laid {n : Nat} (p : By) (pre : List (Ix n)) : List ByteArray := pre.mapIdx fun j x => bs (pieceL j (part p x.1))
theorem laid_snoc {n : Nat} (p : By) (pre : List (Ix n)) (x : Ix n) : laid p (pre ++ [x]) = laid p pre ++ [bs (pieceL pre.length (part p x.1))] := by simp [laid, List.mapIdx_concat]
theorem laid_len {n : Nat} (p : By) (pre : List (Ix n)) : (laid p pre).length = pre.length := by simp [laid]
theorem laid_all (k ep sq : Nat) (p : ByteArray) : bs (headL (hdOf ⟨k, ep, sq, p⟩)) :: laid p.data.toList (firstIx p.size (pcs p.size) (Nat.le_refl _)) = secsL ⟨k, ep, sq, p⟩ := by
  unfold secsL laid
  congr 1
  apply List.ext_getElem
  · simp [firstIx]
  · intro i h1 h2
    simp [firstIx]

def Stepped (W w8 : World) (n1 Bs N : Nat) (so' : Option Addr) (cp' : Nat) (L : List ByteArray) (s p : ByteArray) (u1 u2 : Value) (v : Value) : Prop :=
  Boxed w8 (n1 + 1) 22 v ∧ Boxed (w8.setCell ⟨n1 + 1, 0, none⟩ (.slice so' (N + 1) cp')) (n1 + 1) 22 (.slice so' (N + 1) cp') ∧
  (w8.setCell ⟨n1 + 1, 0, none⟩ (.slice so' (N + 1) cp')).ownsRow n1 9 1 (.slice so' (N + 1) cp') (N + 1) (strC (L ++ [s])) ∧
  Boxed (w8.setCell ⟨n1 + 1, 0, none⟩ (.slice so' (N + 1) cp')) Bs 82 u1 ∧ Boxed (w8.setCell ⟨n1 + 1, 0, none⟩ (.slice so' (N + 1) cp')) (Bs + 1) 3 u2 ∧
  BytesAt (w8.setCell ⟨n1 + 1, 0, none⟩ (.slice so' (N + 1) cp')) (n1 + 2) p ∧ KeepsOthers W (w8.setCell ⟨n1 + 1, 0, none⟩ (.slice so' (N + 1) cp')) ∧ Below n1 W (w8.setCell ⟨n1 + 1, 0, none⟩ (.slice so' (N + 1) cp'))
theorem out_step (W w7 : World) (n1 Bs N : Nat) (so : Option Addr) (cp : Nat) (L : List ByteArray) (s p : ByteArray) (u1 u2 : Value) (b7 : Below W.drew.heap.size W.drew w7)
    (hv : Boxed W (n1 + 1) 22 (.slice so N cp)) (hrow : W.ownsRow n1 9 1 (.slice so N cp) N (strC L)) (hY : BytesAt W (n1 + 2) p) (hS : Boxed W Bs 82 u1) (hN : Boxed W (Bs + 1) 3 u2) (hlt : n1 + 3 ≤ Bs) (hNb : N ≤ 1000) :
    ∃ w8 so' cp', (Builtin.append_ #[22, 22] 22 #[.slice so N cp, .slice (some ⟨w7.heap.size, 0, none⟩) 1 1]).run Try.prog (w7.alloc (.cells #[.string s] 9)) = .ok (.slice so' (N + 1) cp') w8 ∧ Boxed w7 (n1 + 1) 22 (.slice so N cp) ∧ Stepped W w8 n1 Bs N so' cp' L s p u1 u2 (.slice so N cp) := by
  obtain ⟨i0, hi, hz0, hz1, hz2⟩ := info_parts info_string
  have b : Below W.heap.size W w7 := (Below.refl W.heap.size W).drew.trans b7
  have hv7 : Boxed w7 (n1 + 1) 22 (.slice so N cp) := (b.block _ hv.lt).trans hv
  have hS7 : Boxed w7 Bs 82 u1 := (b.block _ hS.lt).trans hS
  have hN7 : Boxed w7 (Bs + 1) 3 u2 := (b.block _ hN.lt).trans hN
  have hrow7 := ownsRow_below hrow b
  have hltW := hS.lt
  have hw7 : n1 ≤ w7.heap.size := by have h1 := b.size; omega
  have hY7 := hY.below b (by omega)
  obtain ⟨v', w8, hr8, ho8, hg8, _⟩ := run_append_own (P := Try.prog) (w7.alloc (.cells #[.string s] 9)) n1 22 22 9 i0 (.string ⟨#[]⟩) 1 16 Try.underlying22 hi hz0 hz1 hz2 rfl (by decide) _ _ _ (hrow7.alloc _) ⟨w7.heap.size, 0, none⟩ 1 1 [.string s] rfl
    (by
      intro j u hu
      match j, hu with
      | 0, hu => simp at hu; subst hu; simp [go_sem]) (by simp [Value.oneCell']) (by unfold maxLen; omega) (by omega) (by simp; omega)
  obtain ⟨so', cp', rfl, _, _⟩ := ownsRow_form ho8
  obtain ⟨hv8, hv9, ho9, hk9, hb9⟩ := Boxed.appended hv7 (by decide) hrow7 hw7 (by omega) ho8 hg8
  have nS := (hS7.alloc (.cells #[.string s] 9)).not_row (by decide) (hrow7.alloc (.cells #[.string s] 9))
  have nN := (hN7.alloc (.cells #[.string s] 9)).not_row (by decide) (hrow7.alloc (.cells #[.string s] 9))
  have hYa := hY7.grown (World.grownBy_alloc w7 (.cells #[.string s] 9) none) (by simp)
  have nY := hYa.not_row (hrow7.alloc (.cells #[.string s] 9))
  refine ⟨w8, so', cp', hr8, hv7, hv8, hv9, ?_, ?_, ?_, ?_, ?_, ?_⟩
  · rw [strC_append]; exact ho9
  · exact ((hS7.alloc _).kept hg8 nS).other (by omega) _
  · exact ((hN7.alloc _).kept hg8 nN).other (by omega) _
  · exact (hYa.grown hg8 nY).grown (grownBy_setCell' w8 (n1 + 1) _) (by simp)
  · exact (⟨b.size, fun k o hk _ => (b.block k (Array.getElem?_eq_some_iff.1 hk).1).trans hk⟩ : KeepsOthers W w7).trans hk9
  · exact (b.mono (by omega)).trans hb9

set_option maxHeartbeats 4000000 in
theorem sectors_ok (k ep sq : Nat) (p : ByteArray) (w : World) (h0 : k < 256) (h1 : ep < 18446744073709551616) (h2 : sq < 18446744073709551616) (hk : Hid (fchk k p.size = 0)) :
    Calls Try.prog 17 #[.agg #[.int .u8 k, .int .u64 ep, .int .u64 sq, .string p]] w fun e w' =>
      ∃ sv, e = .returned (.tuple #[sv, .int .i64 0]) ∧ w'.ownsRow w.heap.size 9 1 sv (pcs p.size + 1) (strC (secsL ⟨k, ep, sq, p⟩)) ∧ Below w.heap.size w w' := by
  have hp2 := (fchk_zero hk.out).2
  have hp3 := hid hp2
  refine (callsIn_wide (n := 9)).1 ?_
  refine callsIn_of_wp_marks Try.func17 rfl trivial ?_ rfl
  simp only [Try.ntmps17, List.size_toArray, List.length_cons, List.length_nil, Nat.reduceAdd, Nat.reduceSub, Array.replicate_succ, Array.replicate_zero, List.push_toArray, List.append_toArray, List.nil_append, List.cons_append]
  gi_wp2_with fail
  refine ⟨trivial, ?_⟩
  refine (callsIn_wide.2 (check_any k ep sq p _ (by omega))).mono ?_
  rintro e w1 ⟨rfl, b1⟩
  have D1 := (Blk.new w [.int .u8 k, .int .u64 ep, .int .u64 sq, .string p] 30).below b1 (by simp)
  have hB1 := hid ((show Below w.heap.size w _ from by go_grown).trans (b1.mono (by simp)))
  have D1' := hid D1
  obtain ⟨d0, d1, d2, d3, df⟩ := D1.four
  clear D1 b1
  rw [hk.out]
  gi_wp2_with fail
  refine ⟨trivial, ?_⟩
  refine (callsIn_wide.2 (headOf_any k ep sq p _ (by unfold maxLen; omega))).mono ?_
  rintro e w2 ⟨rfl, b2⟩
  have D2 := D1'.out.below b2 D1'.out.lt
  have hB2 := hid (bt hB1.out b2)
  have D2' := hid D2
  clear d0 d1 d2 d3 df b2 D1' hB1
  obtain ⟨d0, d1, d2, d3, df⟩ := D2.four
  clear D2
  gi_wp2_with fail
  refine ⟨trivial, ?_⟩
  refine (callsIn_wide.2 (head_any k ep sq p.size (more 0 p.data.toList) _ h0 h1 h2 (by omega) (more_lt' _))).mono ?_
  rintro e w3 ⟨rfl, b3⟩
  have D3 := D2'.out.below b3 D2'.out.lt
  have hB3 := hid (bt hB2.out b3)
  have D3' := hid D3
  clear d0 d1 d2 d3 df b3 D2' hB2
  obtain ⟨d0, d1, d2, d3, df⟩ := D3.four
  clear D3
  rw [show (⟨k, ep, sq, p.size, more 0 p.data.toList⟩ : Hd) = hdOf ⟨k, ep, sq, p⟩ from rfl]
  have hHL := headL_len (hdOf ⟨k, ep, sq, p⟩)
  have hHL' := hid hHL
  clear hHL
  obtain ⟨H, hH⟩ : ∃ H, bs (headL (hdOf ⟨k, ep, sq, p⟩)) = H := ⟨_, rfl⟩
  rw [hH]
  have hH' := hid hH
  clear hH
  have c3 : ((w3.alloc (.cells #[.string H] 9)).alloc (.cells #[.slice (some ⟨w3.heap.size, 0, none⟩) 1 1] 22)).cell? ⟨w.heap.size, 3, none⟩ = some (.string p) := ca (ca d3)
  gi_wp2_with fail
  have X4 : Blk ((w3.alloc (.cells #[.string H] 9)).alloc (.cells #[.slice (some ⟨w3.heap.size, 0, none⟩) 1 1] 22)) (w3.heap.size + 1) [.slice (some ⟨w3.heap.size, 0, none⟩) 1 1] 22 := Blk.new' _ _ _ _ (by simp)
  have H4 : Blk ((w3.alloc (.cells #[.string H] 9)).alloc (.cells #[.slice (some ⟨w3.heap.size, 0, none⟩) 1 1] 22)) w3.heap.size [.string H] 9 := (Blk.new _ _ _).alloc _
  have hB4 := (hB3.out.alloc hB3.out.size (.cells #[.string H] 9)).alloc (by have := hB3.out.size; simp; omega) (.cells #[.slice (some ⟨w3.heap.size, 0, none⟩) 1 1] 22)
  have hz4 : ((w3.alloc (.cells #[.string H] 9)).alloc (.cells #[.slice (some ⟨w3.heap.size, 0, none⟩) 1 1] 22)).heap.size = w3.heap.size + 2 := by simp
  generalize hW4 : (w3.alloc (.cells #[.string H] 9)).alloc (.cells #[.slice (some ⟨w3.heap.size, 0, none⟩) 1 1] 22) = w4 at c3 X4 H4 hB4 hz4 ⊢
  clear hW4
  obtain ⟨w5, cap, hr, b5, hz5, hby, hc1, hc2⟩ := bytes_world2 w4 p (by unfold maxLen; omega)
  rw [hr]
  have X5 := X4.below b5 X4.lt
  have H5 := H4.below b5 H4.lt
  have hB5 := bt hB4 b5
  have h53 : w3.heap.size + 3 = w5.heap.size := by omega
  have hg4 : w4.heap.size = w3.heap.size + 2 := hz4
  clear hr b5 c3 d0 d1 d2 d3 df X4 H4 hB4 D3'
  rw [hg4] at hby ⊢
  clear hz4 hz5 hg4
  have X5' := hid X5
  have H5' := hid H5
  have hB5' := hid hB5
  have hby' := hid hby
  have h53' := hid h53
  have hw3 := hid hB3.out.size
  clear X5 H5 hB5 hby h53
  gi_wp2_with fail
  refine ⟨trivial, ?_⟩
  refine (chunk_in _ _ trivial rfl _ _ _ _).mono ?_
  rintro e w6 ⟨rfl, rfl⟩
  have S6 : Blk ((w5.alloc (.cells #[.slice (some ⟨w3.heap.size + 2, 0, none⟩) p.size cap] 82)).alloc (.cells #[.int .i64 61] 3)) w5.heap.size [.slice (some ⟨w3.heap.size + 2, 0, none⟩) p.size cap] 82 := (Blk.new _ _ _).alloc _
  have N6 : Blk ((w5.alloc (.cells #[.slice (some ⟨w3.heap.size + 2, 0, none⟩) p.size cap] 82)).alloc (.cells #[.int .i64 61] 3)) (w5.heap.size + 1) [.int .i64 61] 3 := Blk.new' _ _ _ _ (by simp)
  have b6 : Below w5.heap.size w5 ((w5.alloc (.cells #[.slice (some ⟨w3.heap.size + 2, 0, none⟩) p.size cap] 82)).alloc (.cells #[.int .i64 61] 3)) := ((Below.refl _ _).alloc (Nat.le_refl _) _).alloc (by simp) _
  have hz6 : ((w5.alloc (.cells #[.slice (some ⟨w3.heap.size + 2, 0, none⟩) p.size cap] 82)).alloc (.cells #[.int .i64 61] 3)).heap.size = w5.heap.size + 2 := by simp
  generalize hW6 : (w5.alloc (.cells #[.slice (some ⟨w3.heap.size + 2, 0, none⟩) p.size cap] 82)).alloc (.cells #[.int .i64 61] 3) = w6 at S6 N6 b6 hz6 ⊢
  clear hW6
  have X6 : Boxed w6 (w3.heap.size + 1) 22 (.slice (some ⟨w3.heap.size, 0, none⟩) 1 1) := (X5'.out.below b6 X5'.out.lt).at'
  have H6 := H5'.out.below b6 H5'.out.lt
  have R6 : w6.ownsRow w3.heap.size 9 1 (.slice (some ⟨w3.heap.size, 0, none⟩) 1 1) 1 (strC [H]) := ⟨by simp [strC], .inr ⟨w3.heap.size, 1, _, rfl, Nat.le_refl _, H6.at', Nat.le_refl _, by decide, by simp, by simp [strC]⟩⟩
  have Y6 := hby'.out.below b6 (by have := h53'.out; omega)
  have hB6 := bt hB5'.out b6
  clear X5' H5' hB5' hby' H6 b6
  gi_wp2_with fail
  refine wpIn_rangeFunc_ownF rfl (by omega) (gf := 66) (lb := #[.pointer (some ⟨w5.heap.size, 0, none⟩), .pointer (some ⟨w5.heap.size + 1, 0, none⟩)]) rfl trivial (enters_of Try.func66 (by kernel_rfl) rfl)
    (chunk_stops Fence.wide (9 - 1) trivial rfl (by omega) w5.heap.size (w5.heap.size + 1) (w3.heap.size + 2) 0 p.size cap hp3.out hc1 hc2 w6 S6.one.1 N6.one.1 S6.lt N6.lt) Kp2.trans (fun W l o o' hl _ _ _ => Kp2.put (w := w6) S6.lt N6.lt W l o' hl) (Below.refl _ _) (fun _ => rfl)
    (fun pre W => (∃ v, Boxed W (w3.heap.size + 1) 22 v ∧ W.ownsRow w3.heap.size 9 1 v (pre.length + 1) (strC (H :: laid p.data.toList pre)) ∧ True) ∧ BytesAt W (w3.heap.size + 2) p ∧ (Boxed W w5.heap.size 82 (.slice (some ⟨w3.heap.size + 2, 0, none⟩) p.size cap) ∧ Boxed W (w5.heap.size + 1) 3 (.int .i64 61)) ∧ Below w.heap.size w W ∧ w6.heap.size ≤ W.heap.size)
    (fun _ _ _ => False)
    (OwnFrom.and (Own.from (holdsRow_own _ _ _ _ _ _ _ _) _) (OwnFrom.and (Own.from (BytesAt.own _ _) _) (OwnFrom.and (OwnFrom.and (Own.from (boxed_own _ _ (fun _ => _)) _) (Own.from (boxed_own _ _ (fun _ => _)) _)) (OwnFrom.and (ownFrom_below (by have := hw3.out; have := h53'.out; omega) (by have := hw3.out; have := h53'.out; omega)) (fun _ _ _ _ hs hg _ => Nat.le_trans hs hg.size)))))
    (fun c _ _ _ _ h _ _ => h) ⟨⟨_, X6, R6, trivial⟩, Y6, ⟨S6.at', N6.at'⟩, hB6, Nat.le_refl _⟩
    (fun x => { tmps := #[.agg #[.int .u8 k, .int .u64 ep, .int .u64 sq, .string p], .pointer (some ⟨w.heap.size, 0, none⟩), .slice none 0 0, .int .i64 0, .int .i64 0, .pointer (some ⟨w3.heap.size + 1, 0, none⟩), .slice (some ⟨w3.heap.size + 2, x.1 * 61, none⟩) (at61 p.size x.1) (at61 p.size x.1), .agg #[.int .u8 k, .int .u64 ep, .int .u64 sq, .string p], .int .i64 0, .int .i64 0, .bool false, undef,
      .agg #[.int .u8 k, .int .u64 ep, .int .u64 sq, .string p], .agg #[.int .u8 k, .int .u64 ep, .int .u64 sq, .int .i64 p.size, .int .u32 (more 0 p.data.toList : Nat)], .string H, .slice (some ⟨w3.heap.size, 0, none⟩) 1 1, .pointer (some ⟨w.heap.size, 3, none⟩), .string p, .slice (some ⟨w3.heap.size + 2, 0, none⟩) p.size cap,
      .func (.func 66) #[] #[.pointer (some ⟨w5.heap.size, 0, none⟩), .pointer (some ⟨w5.heap.size + 1, 0, none⟩)], .slice (some ⟨w3.heap.size + 2, x.1 * 61, none⟩) (at61 p.size x.1) (at61 p.size x.1), undef, undef, undef, undef, undef, undef, undef, undef, undef, undef], defers := [] })
    ?assign ?body ?done ?stop
  case stop => intro D c pre W hD hS hx; exact hx.elim
  case assign =>
    intro l x W K hK
    dsimp only [encC]
    gi_wp2
    exact hK
  case body =>
    rintro l pre x W ⟨⟨v, hv, hrow, _⟩, hY, hSN, hBW, hsz⟩ hlt
    have hx := x.2
    have hx2 : x.1 * 61 ≤ p.size ∧ pcs p.size ≤ 269 := by unfold pcs at hx ⊢; have := hp3.out; omega
    have hcv := conv_part (W := W.drew) (show BytesAt W.drew _ p from hY) x.1 (at61 p.size x.1) rfl hx2.1
    generalize at61 p.size x.1 = m at hcv ⊢
    obtain ⟨so, cp, rfl, _, _⟩ := ownsRow_form hrow
    obtain ⟨N, hN⟩ : ∃ N, N = pre.length + 1 := ⟨_, rfl⟩
    have hN1 := hid hN
    rw [← hN] at hrow hv
    have hNw : IntKind.i64.wrap ((N : Int) - 1) = (pre.length : Int) := by rw [IntWalk.i64_in _ (by omega)]; omega
    have hNb : N ≤ 269 := by have := hx2.2; omega
    have hNb' := hid hNb
    obtain ⟨q, hq⟩ : ∃ q, part p.data.toList x.1 = q := ⟨_, rfl⟩
    have hql : q.length ≤ 61 := by rw [← hq]; exact part_le _ _
    rw [hq] at hcv
    have hq' := hid hq
    have hplt : pre.length < 65536 := by have := hx2.2; omega
    have hplt' := hid hplt
    have hql' := hid hql
    have hc0 := hv.cell
    have hv' := hid hv
    have hrow' := hid hrow
    have hY' := hid hY
    have hSN' := hid hSN
    have hBW' := hid hBW
    have hsz' := hid hsz
    have hx2' := hid hx2
    clear hN hNb hq hplt hql hv hrow hY hSN hBW hsz hx2 hx hlt
    have harm := hid (fun w7 b7 => out_step W w7 w3.heap.size w5.heap.size N so cp _ (bs (pieceL pre.length q)) p _ _ b7 hv'.out hrow'.out hY'.out hSN'.out.1 hSN'.out.2 (by have := h53'.out; omega) (by have := hNb'.out; omega))
    have hend : Hid (∀ w7, Below W.drew.heap.size W.drew w7 → ∀ w8 so' cp', Stepped W w8 w3.heap.size w5.heap.size N so' cp' (H :: laid p.data.toList pre) (bs (pieceL pre.length q)) p (.slice (some ⟨w3.heap.size + 2, 0, none⟩) p.size cap) (.int .i64 61) (.slice so N cp) →
      (KeepsOthers W (w8.setCell ⟨w3.heap.size + 1, 0, none⟩ (.slice so' (N + 1) cp')) ∧ Kp2 w5.heap.size (w5.heap.size + 1) W (w8.setCell ⟨w3.heap.size + 1, 0, none⟩ (.slice so' (N + 1) cp')) ∧
        ((∃ v, Boxed (w8.setCell ⟨w3.heap.size + 1, 0, none⟩ (.slice so' (N + 1) cp')) (w3.heap.size + 1) 22 v ∧ (w8.setCell ⟨w3.heap.size + 1, 0, none⟩ (.slice so' (N + 1) cp')).ownsRow w3.heap.size 9 1 v ((pre ++ [x]).length + 1) (strC (H :: laid p.data.toList (pre ++ [x]))) ∧ True) ∧
          BytesAt (w8.setCell ⟨w3.heap.size + 1, 0, none⟩ (.slice so' (N + 1) cp')) (w3.heap.size + 2) p ∧ (Boxed (w8.setCell ⟨w3.heap.size + 1, 0, none⟩ (.slice so' (N + 1) cp')) w5.heap.size 82 (.slice (some ⟨w3.heap.size + 2, 0, none⟩) p.size cap) ∧ Boxed (w8.setCell ⟨w3.heap.size + 1, 0, none⟩ (.slice so' (N + 1) cp')) (w5.heap.size + 1) 3 (.int .i64 61)) ∧
          Below w.heap.size w (w8.setCell ⟨w3.heap.size + 1, 0, none⟩ (.slice so' (N + 1) cp')) ∧ w6.heap.size ≤ (w8.setCell ⟨w3.heap.size + 1, 0, none⟩ (.slice so' (N + 1) cp')).heap.size))) := hid (by
      intro w7 b7 w8 so' cp' ⟨s1, s2, s3, s4, s5, s6, s7, s8⟩
      refine ⟨s7, ⟨?_, ?_⟩, ⟨_, s2, ?_, trivial⟩, s6, ⟨s4, s5⟩, hBW'.out.trans (s8.mono hw3.out), Nat.le_trans hsz'.out s8.size⟩
      · exact (show _ = _ from s4).trans (show _ = _ from hSN'.out.1).symm
      · exact (show _ = _ from s5).trans (show _ = _ from hSN'.out.2).symm
      · rw [laid_snoc, hq'.out, show (pre ++ [x]).length + 1 = N + 1 by rw [hN1.out]; simp]
        exact s3)
    have hmix : Try.prog.follows .mixedOrders = true := by kernel_rfl
    gi_wp2_with fail
    refine region_round hmix (fun ⟨_, _, h⟩ => h) (by kernel_rfl) ?_
    clear hmix
    refine wpAny_take (i := 4) (v := ?_) rfl (by kernel_rfl) (by kernel_rfl) (by kernel_rfl) (fun _ _ _ h => h) (Or.inl ⟨by rfl, ?_⟩) ?_
    rotate_left 1
    (intro w; go_simp; try with_reducible rfl)
    (try simp only [Act.put, List.getElem_toArray, List.getElem_cons_zero, List.getElem_cons_succ, List.setIfInBounds_toArray, List.set_cons_zero, List.set_cons_succ])
    refine wpAny_ready (rs := [0, 1, 5]) (by kernel_rfl) (by simp) ?_
    refine AllReady.cons rfl (fun K hK => ?_) ?_
    · skip
      go_simp
      refine hK _ _ ?_
      clear hK K
      (try simp only [Act.put, List.getElem_toArray, List.getElem_cons_zero, List.getElem_cons_succ, List.setIfInBounds_toArray, List.set_cons_zero, List.set_cons_succ])
      refine wpAny_ready (rs := [1, 5]) (by kernel_rfl) (by simp) ?_
      refine AllReady.cons rfl (fun K hK => ?_) ?_
      · skip
        go_simp
        refine hK _ _ ?_
        clear hK K
        (try simp only [Act.put, List.getElem_toArray, List.getElem_cons_zero, List.getElem_cons_succ, List.setIfInBounds_toArray, List.set_cons_zero, List.set_cons_succ])
        refine wpAny_take (i := 2) (v := ?_) rfl (by kernel_rfl) (by kernel_rfl) (by kernel_rfl) (fun _ _ _ h => h) (Or.inl ⟨by rfl, ?_⟩) ?_
        rotate_left 1
        (intro w; go_simp; try with_reducible rfl)
        (try simp only [Act.put, List.getElem_toArray, List.getElem_cons_zero, List.getElem_cons_succ, List.setIfInBounds_toArray, List.set_cons_zero, List.set_cons_succ])
        refine wpAny_take (i := 3) (v := ?_) rfl (by kernel_rfl) (by kernel_rfl) (by kernel_rfl) (fun _ _ _ h => h) (Or.inl ⟨by rfl, ?_⟩) ?_
        rotate_left 1
        (intro w; go_simp; try with_reducible rfl)
        (try simp only [Act.put, List.getElem_toArray, List.getElem_cons_zero, List.getElem_cons_succ, List.setIfInBounds_toArray, List.set_cons_zero, List.set_cons_succ])
        refine wpAny_ready (rs := [5]) (by kernel_rfl) (by simp) ?_
        refine AllReady.cons rfl (fun K hK => ?_) AllReady.nil
        go_simp
        refine hK _ _ ?_
        clear hK K
        (try simp only [Act.put, List.getElem_toArray, List.getElem_cons_zero, List.getElem_cons_succ, List.setIfInBounds_toArray, List.set_cons_zero, List.set_cons_succ])
        refine wpAny_ready (rs := [6]) (by kernel_rfl) (by simp) ?_
        refine AllReady.cons rfl (fun K hK => ?_) AllReady.nil
        go_simp
        (with_reducible refine (piece_any pre.length q _ hplt'.out hql'.out).mono ?_)
        rintro e w7 ⟨rfl, b7⟩
        obtain ⟨w8, so', cp', hr8, hv7, hst⟩ := harm.out w7 b7
        have c7 := hv7.cell
        have c7a := ca (o := .cells #[.string (bs (pieceL pre.length q))] 9) c7
        have c8 := hst.1.cell
        have f8 := hst.1.frozen
        have hst' := hid hst
        have hr8' := hid hr8
        have b7' := hid b7
        clear hst b7 hv7 hr8
        dsimp only
        refine hK _ _ ?_
        clear hK K
        (try simp only [Act.put, List.getElem_toArray, List.getElem_cons_zero, List.getElem_cons_succ, List.setIfInBounds_toArray, List.set_cons_zero, List.set_cons_succ])
        refine wpAny_ready (rs := [7]) (by kernel_rfl) (by simp) ?_
        refine AllReady.cons rfl (fun K hK => ?_) AllReady.nil
        go_simp
        refine hK _ _ ?_
        clear hK K
        (try simp only [Act.put, List.getElem_toArray, List.getElem_cons_zero, List.getElem_cons_succ, List.setIfInBounds_toArray, List.set_cons_zero, List.set_cons_succ])
        refine wpAny_ready (rs := [8]) (by kernel_rfl) (by simp) ?_
        refine AllReady.cons rfl (fun K hK => ?_) AllReady.nil
        refine step_append_run rfl (.tmp 21) (.tmp 28) 22 rfl _ _ _ _ rfl rfl hr8'.out ?_
        refine hK _ _ ?_
        clear hK K
        (try simp only [Act.put, List.getElem_toArray, List.getElem_cons_zero, List.getElem_cons_succ, List.setIfInBounds_toArray, List.set_cons_zero, List.set_cons_succ])
        refine wpAny_ready (rs := [9]) (by kernel_rfl) (by simp) ?_
        refine AllReady.cons rfl (fun K hK => ?_) AllReady.nil
        go_simp
        refine hK _ _ ?_
        clear hK K
        (try simp only [Act.put, List.getElem_toArray, List.getElem_cons_zero, List.getElem_cons_succ, List.setIfInBounds_toArray, List.set_cons_zero, List.set_cons_succ])
        refine wpAny_done (by kernel_rfl) ?_ _
        exact hend.out w7 b7'.out w8 so' cp' hst'.out
      refine AllReady.cons rfl (fun K hK => ?_) AllReady.nil
      go_simp
      refine hK _ _ ?_
      clear hK K
      (try simp only [Act.put, List.getElem_toArray, List.getElem_cons_zero, List.getElem_cons_succ, List.setIfInBounds_toArray, List.set_cons_zero, List.set_cons_succ])
      refine wpAny_ready (rs := [1]) (by kernel_rfl) (by simp) ?_
      refine AllReady.cons rfl (fun K hK => ?_) AllReady.nil
      go_simp
      refine hK _ _ ?_
      clear hK K
      (try simp only [Act.put, List.getElem_toArray, List.getElem_cons_zero, List.getElem_cons_succ, List.setIfInBounds_toArray, List.set_cons_zero, List.set_cons_succ])
      refine wpAny_take (i := 2) (v := ?_) rfl (by kernel_rfl) (by kernel_rfl) (by kernel_rfl) (fun _ _ _ h => h) (Or.inl ⟨by rfl, ?_⟩) ?_
      rotate_left 1
      (intro w; go_simp; try with_reducible rfl)
      (try simp only [Act.put, List.getElem_toArray, List.getElem_cons_zero, List.getElem_cons_succ, List.setIfInBounds_toArray, List.set_cons_zero, List.set_cons_succ])
      refine wpAny_take (i := 3) (v := ?_) rfl (by kernel_rfl) (by kernel_rfl) (by kernel_rfl) (fun _ _ _ h => h) (Or.inl ⟨by rfl, ?_⟩) ?_
      rotate_left 1
      (intro w; go_simp; try with_reducible rfl)
      (try simp only [Act.put, List.getElem_toArray, List.getElem_cons_zero, List.getElem_cons_succ, List.setIfInBounds_toArray, List.set_cons_zero, List.set_cons_succ])
      refine wpAny_ready (rs := [6]) (by kernel_rfl) (by simp) ?_
      refine AllReady.cons rfl (fun K hK => ?_) AllReady.nil
      go_simp
      (with_reducible refine (piece_any pre.length q _ hplt'.out hql'.out).mono ?_)
      rintro e w7 ⟨rfl, b7⟩
      obtain ⟨w8, so', cp', hr8, hv7, hst⟩ := harm.out w7 b7
      have c7 := hv7.cell
      have c7a := ca (o := .cells #[.string (bs (pieceL pre.length q))] 9) c7
      have c8 := hst.1.cell
      have f8 := hst.1.frozen
      have hst' := hid hst
      have hr8' := hid hr8
      have b7' := hid b7
      clear hst b7 hv7 hr8
      dsimp only
      refine hK _ _ ?_
      clear hK K
      (try simp only [Act.put, List.getElem_toArray, List.getElem_cons_zero, List.getElem_cons_succ, List.setIfInBounds_toArray, List.set_cons_zero, List.set_cons_succ])
      refine wpAny_ready (rs := [7]) (by kernel_rfl) (by simp) ?_
      refine AllReady.cons rfl (fun K hK => ?_) AllReady.nil
      go_simp
      refine hK _ _ ?_
      clear hK K
      (try simp only [Act.put, List.getElem_toArray, List.getElem_cons_zero, List.getElem_cons_succ, List.setIfInBounds_toArray, List.set_cons_zero, List.set_cons_succ])
      refine wpAny_ready (rs := [8]) (by kernel_rfl) (by simp) ?_
      refine AllReady.cons rfl (fun K hK => ?_) AllReady.nil
      refine step_append_run rfl (.tmp 21) (.tmp 28) 22 rfl _ _ _ _ rfl rfl hr8'.out ?_
      refine hK _ _ ?_
      clear hK K
      (try simp only [Act.put, List.getElem_toArray, List.getElem_cons_zero, List.getElem_cons_succ, List.setIfInBounds_toArray, List.set_cons_zero, List.set_cons_succ])
      refine wpAny_ready (rs := [9]) (by kernel_rfl) (by simp) ?_
      refine AllReady.cons rfl (fun K hK => ?_) AllReady.nil
      go_simp
      refine hK _ _ ?_
      clear hK K
      (try simp only [Act.put, List.getElem_toArray, List.getElem_cons_zero, List.getElem_cons_succ, List.setIfInBounds_toArray, List.set_cons_zero, List.set_cons_succ])
      refine wpAny_done (by kernel_rfl) ?_ _
      exact hend.out w7 b7'.out w8 so' cp' hst'.out
    refine AllReady.cons rfl (fun K hK => ?_) ?_
    · skip
      go_simp
      refine hK _ _ ?_
      clear hK K
      (try simp only [Act.put, List.getElem_toArray, List.getElem_cons_zero, List.getElem_cons_succ, List.setIfInBounds_toArray, List.set_cons_zero, List.set_cons_succ])
      refine wpAny_take (i := 2) (v := ?_) rfl (by kernel_rfl) (by kernel_rfl) (by kernel_rfl) (fun _ _ _ h => h) (Or.inl ⟨by rfl, ?_⟩) ?_
      rotate_left 1
      (intro w; go_simp; try with_reducible rfl)
      (try simp only [Act.put, List.getElem_toArray, List.getElem_cons_zero, List.getElem_cons_succ, List.setIfInBounds_toArray, List.set_cons_zero, List.set_cons_succ])
      refine wpAny_take (i := 3) (v := ?_) rfl (by kernel_rfl) (by kernel_rfl) (by kernel_rfl) (fun _ _ _ h => h) (Or.inl ⟨by rfl, ?_⟩) ?_
      rotate_left 1
      (intro w; go_simp; try with_reducible rfl)
      (try simp only [Act.put, List.getElem_toArray, List.getElem_cons_zero, List.getElem_cons_succ, List.setIfInBounds_toArray, List.set_cons_zero, List.set_cons_succ])
      refine wpAny_ready (rs := [0, 5]) (by kernel_rfl) (by simp) ?_
      refine AllReady.cons rfl (fun K hK => ?_) ?_
      · skip
        go_simp
        refine hK _ _ ?_
        clear hK K
        (try simp only [Act.put, List.getElem_toArray, List.getElem_cons_zero, List.getElem_cons_succ, List.setIfInBounds_toArray, List.set_cons_zero, List.set_cons_succ])
        refine wpAny_ready (rs := [5]) (by kernel_rfl) (by simp) ?_
        refine AllReady.cons rfl (fun K hK => ?_) AllReady.nil
        go_simp
        refine hK _ _ ?_
        clear hK K
        (try simp only [Act.put, List.getElem_toArray, List.getElem_cons_zero, List.getElem_cons_succ, List.setIfInBounds_toArray, List.set_cons_zero, List.set_cons_succ])
        refine wpAny_ready (rs := [6]) (by kernel_rfl) (by simp) ?_
        refine AllReady.cons rfl (fun K hK => ?_) AllReady.nil
        go_simp
        (with_reducible refine (piece_any pre.length q _ hplt'.out hql'.out).mono ?_)
        rintro e w7 ⟨rfl, b7⟩
        obtain ⟨w8, so', cp', hr8, hv7, hst⟩ := harm.out w7 b7
        have c7 := hv7.cell
        have c7a := ca (o := .cells #[.string (bs (pieceL pre.length q))] 9) c7
        have c8 := hst.1.cell
        have f8 := hst.1.frozen
        have hst' := hid hst
        have hr8' := hid hr8
        have b7' := hid b7
        clear hst b7 hv7 hr8
        dsimp only
        refine hK _ _ ?_
        clear hK K
        (try simp only [Act.put, List.getElem_toArray, List.getElem_cons_zero, List.getElem_cons_succ, List.setIfInBounds_toArray, List.set_cons_zero, List.set_cons_succ])
        refine wpAny_ready (rs := [7]) (by kernel_rfl) (by simp) ?_
        refine AllReady.cons rfl (fun K hK => ?_) AllReady.nil
        go_simp
        refine hK _ _ ?_
        clear hK K
        (try simp only [Act.put, List.getElem_toArray, List.getElem_cons_zero, List.getElem_cons_succ, List.setIfInBounds_toArray, List.set_cons_zero, List.set_cons_succ])
        refine wpAny_ready (rs := [8]) (by kernel_rfl) (by simp) ?_
        refine AllReady.cons rfl (fun K hK => ?_) AllReady.nil
        refine step_append_run rfl (.tmp 21) (.tmp 28) 22 rfl _ _ _ _ rfl rfl hr8'.out ?_
        refine hK _ _ ?_
        clear hK K
        (try simp only [Act.put, List.getElem_toArray, List.getElem_cons_zero, List.getElem_cons_succ, List.setIfInBounds_toArray, List.set_cons_zero, List.set_cons_succ])
        refine wpAny_ready (rs := [9]) (by kernel_rfl) (by simp) ?_
        refine AllReady.cons rfl (fun K hK => ?_) AllReady.nil
        go_simp
        refine hK _ _ ?_
        clear hK K
        (try simp only [Act.put, List.getElem_toArray, List.getElem_cons_zero, List.getElem_cons_succ, List.setIfInBounds_toArray, List.set_cons_zero, List.set_cons_succ])
        refine wpAny_done (by kernel_rfl) ?_ _
        exact hend.out w7 b7'.out w8 so' cp' hst'.out
      refine AllReady.cons rfl (fun K hK => ?_) AllReady.nil
      go_simp
      refine hK _ _ ?_
      clear hK K
      (try simp only [Act.put, List.getElem_toArray, List.getElem_cons_zero, List.getElem_cons_succ, List.setIfInBounds_toArray, List.set_cons_zero, List.set_cons_succ])
      refine wpAny_ready (rs := [0, 6]) (by kernel_rfl) (by simp) ?_
      refine AllReady.cons rfl (fun K hK => ?_) ?_
      · skip
        go_simp
        refine hK _ _ ?_
        clear hK K
        (try simp only [Act.put, List.getElem_toArray, List.getElem_cons_zero, List.getElem_cons_succ, List.setIfInBounds_toArray, List.set_cons_zero, List.set_cons_succ])
        refine wpAny_ready (rs := [6]) (by kernel_rfl) (by simp) ?_
        refine AllReady.cons rfl (fun K hK => ?_) AllReady.nil
        go_simp
        (with_reducible refine (piece_any pre.length q _ hplt'.out hql'.out).mono ?_)
        rintro e w7 ⟨rfl, b7⟩
        obtain ⟨w8, so', cp', hr8, hv7, hst⟩ := harm.out w7 b7
        have c7 := hv7.cell
        have c7a := ca (o := .cells #[.string (bs (pieceL pre.length q))] 9) c7
        have c8 := hst.1.cell
        have f8 := hst.1.frozen
        have hst' := hid hst
        have hr8' := hid hr8
        have b7' := hid b7
        clear hst b7 hv7 hr8
        dsimp only
        refine hK _ _ ?_
        clear hK K
        (try simp only [Act.put, List.getElem_toArray, List.getElem_cons_zero, List.getElem_cons_succ, List.setIfInBounds_toArray, List.set_cons_zero, List.set_cons_succ])
        refine wpAny_ready (rs := [7]) (by kernel_rfl) (by simp) ?_
        refine AllReady.cons rfl (fun K hK => ?_) AllReady.nil
        go_simp
        refine hK _ _ ?_
        clear hK K
        (try simp only [Act.put, List.getElem_toArray, List.getElem_cons_zero, List.getElem_cons_succ, List.setIfInBounds_toArray, List.set_cons_zero, List.set_cons_succ])
        refine wpAny_ready (rs := [8]) (by kernel_rfl) (by simp) ?_
        refine AllReady.cons rfl (fun K hK => ?_) AllReady.nil
        refine step_append_run rfl (.tmp 21) (.tmp 28) 22 rfl _ _ _ _ rfl rfl hr8'.out ?_
        refine hK _ _ ?_
        clear hK K
        (try simp only [Act.put, List.getElem_toArray, List.getElem_cons_zero, List.getElem_cons_succ, List.setIfInBounds_toArray, List.set_cons_zero, List.set_cons_succ])
        refine wpAny_ready (rs := [9]) (by kernel_rfl) (by simp) ?_
        refine AllReady.cons rfl (fun K hK => ?_) AllReady.nil
        go_simp
        refine hK _ _ ?_
        clear hK K
        (try simp only [Act.put, List.getElem_toArray, List.getElem_cons_zero, List.getElem_cons_succ, List.setIfInBounds_toArray, List.set_cons_zero, List.set_cons_succ])
        refine wpAny_done (by kernel_rfl) ?_ _
        exact hend.out w7 b7'.out w8 so' cp' hst'.out
      refine AllReady.cons rfl (fun K hK => ?_) AllReady.nil
      go_simp
      (with_reducible refine (piece_any pre.length q _ hplt'.out hql'.out).mono ?_)
      rintro e w7 ⟨rfl, b7⟩
      obtain ⟨w8, so', cp', hr8, hv7, hst⟩ := harm.out w7 b7
      have c7 := hv7.cell
      have c7a := ca (o := .cells #[.string (bs (pieceL pre.length q))] 9) c7
      have c8 := hst.1.cell
      have f8 := hst.1.frozen
      have hst' := hid hst
      have hr8' := hid hr8
      have b7' := hid b7
      clear hst b7 hv7 hr8
      dsimp only
      refine hK _ _ ?_
      clear hK K
      (try simp only [Act.put, List.getElem_toArray, List.getElem_cons_zero, List.getElem_cons_succ, List.setIfInBounds_toArray, List.set_cons_zero, List.set_cons_succ])
      refine wpAny_ready (rs := [0, 7]) (by kernel_rfl) (by simp) ?_
      refine AllReady.cons rfl (fun K hK => ?_) ?_
      · skip
        go_simp
        refine hK _ _ ?_
        clear hK K
        (try simp only [Act.put, List.getElem_toArray, List.getElem_cons_zero, List.getElem_cons_succ, List.setIfInBounds_toArray, List.set_cons_zero, List.set_cons_succ])
        refine wpAny_ready (rs := [7]) (by kernel_rfl) (by simp) ?_
        refine AllReady.cons rfl (fun K hK => ?_) AllReady.nil
        go_simp
        refine hK _ _ ?_
        clear hK K
        (try simp only [Act.put, List.getElem_toArray, List.getElem_cons_zero, List.getElem_cons_succ, List.setIfInBounds_toArray, List.set_cons_zero, List.set_cons_succ])
        refine wpAny_ready (rs := [8]) (by kernel_rfl) (by simp) ?_
        refine AllReady.cons rfl (fun K hK => ?_) AllReady.nil
        refine step_append_run rfl (.tmp 21) (.tmp 28) 22 rfl _ _ _ _ rfl rfl hr8'.out ?_
        refine hK _ _ ?_
        clear hK K
        (try simp only [Act.put, List.getElem_toArray, List.getElem_cons_zero, List.getElem_cons_succ, List.setIfInBounds_toArray, List.set_cons_zero, List.set_cons_succ])
        refine wpAny_ready (rs := [9]) (by kernel_rfl) (by simp) ?_
        refine AllReady.cons rfl (fun K hK => ?_) AllReady.nil
        go_simp
        refine hK _ _ ?_
        clear hK K
        (try simp only [Act.put, List.getElem_toArray, List.getElem_cons_zero, List.getElem_cons_succ, List.setIfInBounds_toArray, List.set_cons_zero, List.set_cons_succ])
        refine wpAny_done (by kernel_rfl) ?_ _
        exact hend.out w7 b7'.out w8 so' cp' hst'.out
      refine AllReady.cons rfl (fun K hK => ?_) AllReady.nil
      go_simp
      refine hK _ _ ?_
      clear hK K
      (try simp only [Act.put, List.getElem_toArray, List.getElem_cons_zero, List.getElem_cons_succ, List.setIfInBounds_toArray, List.set_cons_zero, List.set_cons_succ])
      refine wpAny_ready (rs := [0]) (by kernel_rfl) (by simp) ?_
      refine AllReady.cons rfl (fun K hK => ?_) AllReady.nil
      go_simp
      refine hK _ _ ?_
      clear hK K
      (try simp only [Act.put, List.getElem_toArray, List.getElem_cons_zero, List.getElem_cons_succ, List.setIfInBounds_toArray, List.set_cons_zero, List.set_cons_succ])
      refine wpAny_ready (rs := [8]) (by kernel_rfl) (by simp) ?_
      refine AllReady.cons rfl (fun K hK => ?_) AllReady.nil
      refine step_append_run rfl (.tmp 21) (.tmp 28) 22 rfl _ _ _ _ rfl rfl hr8'.out ?_
      refine hK _ _ ?_
      clear hK K
      (try simp only [Act.put, List.getElem_toArray, List.getElem_cons_zero, List.getElem_cons_succ, List.setIfInBounds_toArray, List.set_cons_zero, List.set_cons_succ])
      refine wpAny_ready (rs := [9]) (by kernel_rfl) (by simp) ?_
      refine AllReady.cons rfl (fun K hK => ?_) AllReady.nil
      go_simp
      refine hK _ _ ?_
      clear hK K
      (try simp only [Act.put, List.getElem_toArray, List.getElem_cons_zero, List.getElem_cons_succ, List.setIfInBounds_toArray, List.set_cons_zero, List.set_cons_succ])
      refine wpAny_done (by kernel_rfl) ?_ _
      exact hend.out w7 b7'.out w8 so' cp' hst'.out
    refine AllReady.cons rfl (fun K hK => ?_) AllReady.nil
    go_simp
    refine hK _ _ ?_
    clear hK K
    (try simp only [Act.put, List.getElem_toArray, List.getElem_cons_zero, List.getElem_cons_succ, List.setIfInBounds_toArray, List.set_cons_zero, List.set_cons_succ])
    refine wpAny_ready (rs := [0, 1]) (by kernel_rfl) (by simp) ?_
    refine AllReady.cons rfl (fun K hK => ?_) ?_
    · skip
      go_simp
      refine hK _ _ ?_
      clear hK K
      (try simp only [Act.put, List.getElem_toArray, List.getElem_cons_zero, List.getElem_cons_succ, List.setIfInBounds_toArray, List.set_cons_zero, List.set_cons_succ])
      refine wpAny_ready (rs := [1]) (by kernel_rfl) (by simp) ?_
      refine AllReady.cons rfl (fun K hK => ?_) AllReady.nil
      go_simp
      refine hK _ _ ?_
      clear hK K
      (try simp only [Act.put, List.getElem_toArray, List.getElem_cons_zero, List.getElem_cons_succ, List.setIfInBounds_toArray, List.set_cons_zero, List.set_cons_succ])
      refine wpAny_take (i := 2) (v := ?_) rfl (by kernel_rfl) (by kernel_rfl) (by kernel_rfl) (fun _ _ _ h => h) (Or.inl ⟨by rfl, ?_⟩) ?_
      rotate_left 1
      (intro w; go_simp; try with_reducible rfl)
      (try simp only [Act.put, List.getElem_toArray, List.getElem_cons_zero, List.getElem_cons_succ, List.setIfInBounds_toArray, List.set_cons_zero, List.set_cons_succ])
      refine wpAny_take (i := 3) (v := ?_) rfl (by kernel_rfl) (by kernel_rfl) (by kernel_rfl) (fun _ _ _ h => h) (Or.inl ⟨by rfl, ?_⟩) ?_
      rotate_left 1
      (intro w; go_simp; try with_reducible rfl)
      (try simp only [Act.put, List.getElem_toArray, List.getElem_cons_zero, List.getElem_cons_succ, List.setIfInBounds_toArray, List.set_cons_zero, List.set_cons_succ])
      refine wpAny_ready (rs := [6]) (by kernel_rfl) (by simp) ?_
      refine AllReady.cons rfl (fun K hK => ?_) AllReady.nil
      go_simp
      (with_reducible refine (piece_any pre.length q _ hplt'.out hql'.out).mono ?_)
      rintro e w7 ⟨rfl, b7⟩
      obtain ⟨w8, so', cp', hr8, hv7, hst⟩ := harm.out w7 b7
      have c7 := hv7.cell
      have c7a := ca (o := .cells #[.string (bs (pieceL pre.length q))] 9) c7
      have c8 := hst.1.cell
      have f8 := hst.1.frozen
      have hst' := hid hst
      have hr8' := hid hr8
      have b7' := hid b7
      clear hst b7 hv7 hr8
      dsimp only
      refine hK _ _ ?_
      clear hK K
      (try simp only [Act.put, List.getElem_toArray, List.getElem_cons_zero, List.getElem_cons_succ, List.setIfInBounds_toArray, List.set_cons_zero, List.set_cons_succ])
      refine wpAny_ready (rs := [7]) (by kernel_rfl) (by simp) ?_
      refine AllReady.cons rfl (fun K hK => ?_) AllReady.nil
      go_simp
      refine hK _ _ ?_
      clear hK K
      (try simp only [Act.put, List.getElem_toArray, List.getElem_cons_zero, List.getElem_cons_succ, List.setIfInBounds_toArray, List.set_cons_zero, List.set_cons_succ])
      refine wpAny_ready (rs := [8]) (by kernel_rfl) (by simp) ?_
      refine AllReady.cons rfl (fun K hK => ?_) AllReady.nil
      refine step_append_run rfl (.tmp 21) (.tmp 28) 22 rfl _ _ _ _ rfl rfl hr8'.out ?_
      refine hK _ _ ?_
      clear hK K
      (try simp only [Act.put, List.getElem_toArray, List.getElem_cons_zero, List.getElem_cons_succ, List.setIfInBounds_toArray, List.set_cons_zero, List.set_cons_succ])
      refine wpAny_ready (rs := [9]) (by kernel_rfl) (by simp) ?_
      refine AllReady.cons rfl (fun K hK => ?_) AllReady.nil
      go_simp
      refine hK _ _ ?_
      clear hK K
      (try simp only [Act.put, List.getElem_toArray, List.getElem_cons_zero, List.getElem_cons_succ, List.setIfInBounds_toArray, List.set_cons_zero, List.set_cons_succ])
      refine wpAny_done (by kernel_rfl) ?_ _
      exact hend.out w7 b7'.out w8 so' cp' hst'.out
    refine AllReady.cons rfl (fun K hK => ?_) AllReady.nil
    go_simp
    refine hK _ _ ?_
    clear hK K
    (try simp only [Act.put, List.getElem_toArray, List.getElem_cons_zero, List.getElem_cons_succ, List.setIfInBounds_toArray, List.set_cons_zero, List.set_cons_succ])
    refine wpAny_take (i := 2) (v := ?_) rfl (by kernel_rfl) (by kernel_rfl) (by kernel_rfl) (fun _ _ _ h => h) (Or.inl ⟨by rfl, ?_⟩) ?_
    rotate_left 1
    (intro w; go_simp; try with_reducible rfl)
    (try simp only [Act.put, List.getElem_toArray, List.getElem_cons_zero, List.getElem_cons_succ, List.setIfInBounds_toArray, List.set_cons_zero, List.set_cons_succ])
    refine wpAny_take (i := 3) (v := ?_) rfl (by kernel_rfl) (by kernel_rfl) (by kernel_rfl) (fun _ _ _ h => h) (Or.inl ⟨by rfl, ?_⟩) ?_
    rotate_left 1
    (intro w; go_simp; try with_reducible rfl)
    (try simp only [Act.put, List.getElem_toArray, List.getElem_cons_zero, List.getElem_cons_succ, List.setIfInBounds_toArray, List.set_cons_zero, List.set_cons_succ])
    refine wpAny_ready (rs := [0, 6]) (by kernel_rfl) (by simp) ?_
    refine AllReady.cons rfl (fun K hK => ?_) ?_
    · skip
      go_simp
      refine hK _ _ ?_
      clear hK K
      (try simp only [Act.put, List.getElem_toArray, List.getElem_cons_zero, List.getElem_cons_succ, List.setIfInBounds_toArray, List.set_cons_zero, List.set_cons_succ])
      refine wpAny_ready (rs := [6]) (by kernel_rfl) (by simp) ?_
      refine AllReady.cons rfl (fun K hK => ?_) AllReady.nil
      go_simp
      (with_reducible refine (piece_any pre.length q _ hplt'.out hql'.out).mono ?_)
      rintro e w7 ⟨rfl, b7⟩
      obtain ⟨w8, so', cp', hr8, hv7, hst⟩ := harm.out w7 b7
      have c7 := hv7.cell
      have c7a := ca (o := .cells #[.string (bs (pieceL pre.length q))] 9) c7
      have c8 := hst.1.cell
      have f8 := hst.1.frozen
      have hst' := hid hst
      have hr8' := hid hr8
      have b7' := hid b7
      clear hst b7 hv7 hr8
      dsimp only
      refine hK _ _ ?_
      clear hK K
      (try simp only [Act.put, List.getElem_toArray, List.getElem_cons_zero, List.getElem_cons_succ, List.setIfInBounds_toArray, List.set_cons_zero, List.set_cons_succ])
      refine wpAny_ready (rs := [7]) (by kernel_rfl) (by simp) ?_
      refine AllReady.cons rfl (fun K hK => ?_) AllReady.nil
      go_simp
      refine hK _ _ ?_
      clear hK K
      (try simp only [Act.put, List.getElem_toArray, List.getElem_cons_zero, List.getElem_cons_succ, List.setIfInBounds_toArray, List.set_cons_zero, List.set_cons_succ])
      refine wpAny_ready (rs := [8]) (by kernel_rfl) (by simp) ?_
      refine AllReady.cons rfl (fun K hK => ?_) AllReady.nil
      refine step_append_run rfl (.tmp 21) (.tmp 28) 22 rfl _ _ _ _ rfl rfl hr8'.out ?_
      refine hK _ _ ?_
      clear hK K
      (try simp only [Act.put, List.getElem_toArray, List.getElem_cons_zero, List.getElem_cons_succ, List.setIfInBounds_toArray, List.set_cons_zero, List.set_cons_succ])
      refine wpAny_ready (rs := [9]) (by kernel_rfl) (by simp) ?_
      refine AllReady.cons rfl (fun K hK => ?_) AllReady.nil
      go_simp
      refine hK _ _ ?_
      clear hK K
      (try simp only [Act.put, List.getElem_toArray, List.getElem_cons_zero, List.getElem_cons_succ, List.setIfInBounds_toArray, List.set_cons_zero, List.set_cons_succ])
      refine wpAny_done (by kernel_rfl) ?_ _
      exact hend.out w7 b7'.out w8 so' cp' hst'.out
    refine AllReady.cons rfl (fun K hK => ?_) AllReady.nil
    go_simp
    (with_reducible refine (piece_any pre.length q _ hplt'.out hql'.out).mono ?_)
    rintro e w7 ⟨rfl, b7⟩
    obtain ⟨w8, so', cp', hr8, hv7, hst⟩ := harm.out w7 b7
    have c7 := hv7.cell
    have c7a := ca (o := .cells #[.string (bs (pieceL pre.length q))] 9) c7
    have c8 := hst.1.cell
    have f8 := hst.1.frozen
    have hst' := hid hst
    have hr8' := hid hr8
    have b7' := hid b7
    clear hst b7 hv7 hr8
    dsimp only
    refine hK _ _ ?_
    clear hK K
    (try simp only [Act.put, List.getElem_toArray, List.getElem_cons_zero, List.getElem_cons_succ, List.setIfInBounds_toArray, List.set_cons_zero, List.set_cons_succ])
    refine wpAny_ready (rs := [0, 7]) (by kernel_rfl) (by simp) ?_
    refine AllReady.cons rfl (fun K hK => ?_) ?_
    · skip
      go_simp
      refine hK _ _ ?_
      clear hK K
      (try simp only [Act.put, List.getElem_toArray, List.getElem_cons_zero, List.getElem_cons_succ, List.setIfInBounds_toArray, List.set_cons_zero, List.set_cons_succ])
      refine wpAny_ready (rs := [7]) (by kernel_rfl) (by simp) ?_
      refine AllReady.cons rfl (fun K hK => ?_) AllReady.nil
      go_simp
      refine hK _ _ ?_
      clear hK K
      (try simp only [Act.put, List.getElem_toArray, List.getElem_cons_zero, List.getElem_cons_succ, List.setIfInBounds_toArray, List.set_cons_zero, List.set_cons_succ])
      refine wpAny_ready (rs := [8]) (by kernel_rfl) (by simp) ?_
      refine AllReady.cons rfl (fun K hK => ?_) AllReady.nil
      refine step_append_run rfl (.tmp 21) (.tmp 28) 22 rfl _ _ _ _ rfl rfl hr8'.out ?_
      refine hK _ _ ?_
      clear hK K
      (try simp only [Act.put, List.getElem_toArray, List.getElem_cons_zero, List.getElem_cons_succ, List.setIfInBounds_toArray, List.set_cons_zero, List.set_cons_succ])
      refine wpAny_ready (rs := [9]) (by kernel_rfl) (by simp) ?_
      refine AllReady.cons rfl (fun K hK => ?_) AllReady.nil
      go_simp
      refine hK _ _ ?_
      clear hK K
      (try simp only [Act.put, List.getElem_toArray, List.getElem_cons_zero, List.getElem_cons_succ, List.setIfInBounds_toArray, List.set_cons_zero, List.set_cons_succ])
      refine wpAny_done (by kernel_rfl) ?_ _
      exact hend.out w7 b7'.out w8 so' cp' hst'.out
    refine AllReady.cons rfl (fun K hK => ?_) AllReady.nil
    go_simp
    refine hK _ _ ?_
    clear hK K
    (try simp only [Act.put, List.getElem_toArray, List.getElem_cons_zero, List.getElem_cons_succ, List.setIfInBounds_toArray, List.set_cons_zero, List.set_cons_succ])
    refine wpAny_ready (rs := [0]) (by kernel_rfl) (by simp) ?_
    refine AllReady.cons rfl (fun K hK => ?_) AllReady.nil
    go_simp
    refine hK _ _ ?_
    clear hK K
    (try simp only [Act.put, List.getElem_toArray, List.getElem_cons_zero, List.getElem_cons_succ, List.setIfInBounds_toArray, List.set_cons_zero, List.set_cons_succ])
    refine wpAny_ready (rs := [8]) (by kernel_rfl) (by simp) ?_
    refine AllReady.cons rfl (fun K hK => ?_) AllReady.nil
    refine step_append_run rfl (.tmp 21) (.tmp 28) 22 rfl _ _ _ _ rfl rfl hr8'.out ?_
    refine hK _ _ ?_
    clear hK K
    (try simp only [Act.put, List.getElem_toArray, List.getElem_cons_zero, List.getElem_cons_succ, List.setIfInBounds_toArray, List.set_cons_zero, List.set_cons_succ])
    refine wpAny_ready (rs := [9]) (by kernel_rfl) (by simp) ?_
    refine AllReady.cons rfl (fun K hK => ?_) AllReady.nil
    go_simp
    refine hK _ _ ?_
    clear hK K
    (try simp only [Act.put, List.getElem_toArray, List.getElem_cons_zero, List.getElem_cons_succ, List.setIfInBounds_toArray, List.set_cons_zero, List.set_cons_succ])
    refine wpAny_done (by kernel_rfl) ?_ _
    exact hend.out w7 b7'.out w8 so' cp' hst'.out
  case done =>
    rintro D xs W hD rfl ⟨⟨v, hv, hrow, _⟩, hY, hSN, hBW, hsz⟩ hK
    have hc := hv.cell
    rw [firstIx_len] at hrow
    rw [← hH'.out, laid_all k ep sq p] at hrow
    have hrow' := hid hrow
    have hBW' := hid hBW
    have hsz' := hid hsz
    clear hv hrow hY hSN hBW hsz
    gi_wp2
    refine ⟨by simp, .inl ⟨_, _, rfl, run_takeDeferred hK, ?_⟩⟩
    have h1 := hw3.out
    have h2 := h53'.out
    exact ⟨.tuple #[v, .int .i64 0], by simp [results, Try.results17, go_sem], v, rfl, ownsRow_mono (ownsRow_putObj hrow'.out (.deferred none) hK rfl) h1, hBW'.out.trans (belowK_b (w := w) (Nat.le_refl _) W D _ _ (by omega) hK rfl rfl)⟩

theorem sectors_no (k ep sq : Nat) (p : ByteArray) (w : World) (hs : p.size ≤ 140737488355328) (hk : Hid (fchk k p.size ≠ 0)) :
    Calls Try.prog 17 #[.agg #[.int .u8 k, .int .u64 ep, .int .u64 sq, .string p]] w fun e w' =>
      e = .returned (.tuple #[.slice none 0 0, .int .i64 (fchk k p.size)]) ∧ Below w.heap.size w w' := by
  have hne : (fchk k p.size != 0) = true := by simpa using hk.out
  obtain ⟨c, hc⟩ : ∃ c, fchk k p.size = c := ⟨_, rfl⟩
  rw [hc] at hne
  have hc' := hid hc
  clear hk
  rw [hc]
  clear hc
  go_enter Try.func17, Try.ntmps17
  go_wp2_with fail
  refine (check_any k ep sq p _ hs).mono ?_
  rintro e w1 ⟨rfl, b1⟩
  have hB1 := hid ((show Below w.heap.size w _ from by go_grown).trans (b1.mono (by simp)))
  rw [hc'.out]
  clear b1
  go_wp2_with fail
  go_ret2
  exact ⟨rfl, hB1.out⟩
end Go.Proofs.Ytiegocbdgimimaa.Rec
