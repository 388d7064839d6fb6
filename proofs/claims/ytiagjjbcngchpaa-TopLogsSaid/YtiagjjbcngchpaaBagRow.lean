/-
  Boxes in a bag, and a row of frames beside.
-/
import Derived.Test.YtiagjjbcngchpaaWalStale
import Derived.Test.YtiagjjbcngchpaaFrSame
namespace Go.Proofs.Ytiagjjbcngchpaa.Mem
open Go.ChangeShapes Go.WideShapes Go.ChangeAt Go.RowKit
open Go.Proofs.Ytiagjjbcngchpaa.Mem Go.Proofs.Ytiagjjbcngchpaa.Sector Go.Proofs.Ytiagjjbcngchpaa.Wal Go.Proofs.Ytiagjjbcngchpaa.Rec
set_option linter.unusedVariables false
theorem row_put {w : World} {base e size n : Nat} {v : Value} {xs : List Value} (h : w.ownsRow base e size v n xs) {b : Nat} {cs : List Value} {t : TypeId} (hb : Blk w b cs t) (hne : t ≠ e) (i : Nat) (x : Value) : (w.setCell ⟨b, i, none⟩ x).ownsRow base e size v n xs := by
  have hn := not_row h hb hne
  obtain ⟨q1, q2⟩ := h
  refine ⟨q1, ?_⟩
  rcases q2 with q2 | ⟨g, cap, cur, rfl, hg, hh, r⟩
  · exact .inl q2
  · refine .inr ⟨g, cap, cur, rfl, hg, ?_, r⟩
    rw [Below.heap_setCell _ _ _ _ (fun e => hn (by simp [Value.ownBlock]; exact e))]
    exact hh
theorem Bag.grown {w0 w w' : World} {L : List Bx} {O : List Dk} (h : Bag w0 w L O) {base e size n : Nat} {v : Value} {xs : List Value} (hown : w.ownsRow base e size v n xs) (hg : w.grownBy w' v.ownBlock) (hbase : w0.heap.size ≤ base) (hL : ∀ x ∈ L, x.t ≠ e) (he1 : e ≠ 9) (he2 : e ≠ 80) : Bag w0 w' L O := by
  have key : ∀ (B2 : Nat) (e2 : TypeId) (size2 n2 : Nat) (u : Value) (ys : List Value), w.ownsRow B2 e2 size2 u n2 ys → e ≠ e2 → w'.ownsRow B2 e2 size2 u n2 ys := fun B2 e2 size2 n2 u ys hr hne =>
    hr.kept hg (by
      cases hk : u.ownBlock with
      | none => exact .inl rfl
      | some k =>
        refine .inr (fun e' => ?_)
        rcases hown.2 with ⟨rfl, _⟩ | ⟨g', cap', cur', rfl, _, hg', _⟩
        · simp [Value.ownBlock] at e'
        · have : g' = k := by simpa [Value.ownBlock] using e'.symm
          subst this
          rcases hr.2 with ⟨rfl, _⟩ | ⟨g2, cap2, cur2, rfl, _, hg2, _⟩
          · simp [Value.ownBlock] at hk
          · have : g2 = g' := by simpa [Value.ownBlock] using hk
            subst this
            rw [hg'] at hg2
            simp at hg2
            exact hne hg2.2)
  refine ⟨h.bel.grown hg h.bel.size (fun k hk => Nat.le_trans hbase (hown.lt k hk).1), h.up, h.ge, fun x hx => Blk.grown' (h.at' x hx) hg (not_row hown (h.at' x hx) (hL x hx)), fun o ho => ?_⟩
  obtain ⟨h1, M, h2, h3, h4, h5⟩ := h.own o ho
  exact ⟨key _ _ _ _ _ _ h1 he1, M, h2, Nat.le_trans h3 hg.size, h4, key _ _ _ _ _ _ h5 he2⟩
structure BagR (w0 w : World) (L : List Bx) (O : List Dk) (v : Value) (l : List Fr) : Prop where
  bag : Bag w0 w L O
  row : w.ownsRow w0.heap.size 38 4 v l.length (frC l)
theorem BagR.bel {w0 w : World} {L : List Bx} {O : List Dk} {v : Value} {l : List Fr} (h : BagR w0 w L O v l) : Below w0.heap.size w0 w := h.bag.bel
theorem BagR.below {w0 w w' : World} {L : List Bx} {O : List Dk} {v : Value} {l : List Fr} (h : BagR w0 w L O v l) (hb : Below w.heap.size w w') : BagR w0 w' L O v l := ⟨h.bag.below hb, ownsRow_below h.row hb⟩
theorem BagR.alloc {w0 w : World} {L : List Bx} {O : List Dk} {v : Value} {l : List Fr} (h : BagR w0 w L O v l) (o : Obj) : BagR w0 (w.alloc o) L O v l := h.below ((Below.refl _ w).alloc (Nat.le_refl _) o)
theorem BagR.push {w0 w : World} {L : List Bx} {O : List Dk} {v : Value} {l : List Fr} (h : BagR w0 w L O v l) (cs : List Value) (t : TypeId) (n : Nat) (hn : n = w.heap.size) : BagR w0 (w.alloc (.cells cs.toArray t)) (L ++ [⟨n, cs, t⟩]) O v l := ⟨h.bag.push cs t n hn, (h.alloc _).row⟩
theorem BagR.res {w0 w w' : World} {L : List Bx} {O : List Dk} {v : Value} {l : List Fr} (h : BagR w0 w L O v l) {sv pv : Value} {d : Disk} (o : OwnDisk w.heap.size w' sv pv d) (hb : Below w.heap.size w w') : BagR w0 w' L (O ++ [⟨sv, pv, d⟩]) v l := ⟨h.bag.res o hb, ownsRow_below h.row hb⟩
theorem BagR.get {w0 w : World} {L : List Bx} {O : List Dk} {v : Value} {l : List Fr} (h : BagR w0 w L O v l) {b : Nat} {cs : List Value} {t : TypeId} (k : Nat) (hk : L[k]? = some ⟨b, cs, t⟩) : Blk w b cs t := h.bag.get k hk
theorem BagR.view {w0 w : World} {L : List Bx} {O : List Dk} {v : Value} {l : List Fr} (h : BagR w0 w L O v l) {sv pv : Value} {d : Disk} (k : Nat) (hk : O[k]? = some ⟨sv, pv, d⟩) : DiskV w (.agg #[sv, pv, .bool d.off, .int .i64 d.fuse]) d := h.bag.view k hk
theorem BagR.put {w0 w : World} {L : List Bx} {O : List Dk} {v : Value} {l : List Fr} (h : BagR w0 w L O v l) {b : Nat} {cs : List Value} {t : TypeId} (k : Nat) (hk : L[k]? = some ⟨b, cs, t⟩) (h1 : t ≠ 9) (h2 : t ≠ 80) (h3 : t ≠ 38) (i : Nat) (x : Value) :
    BagR w0 (w.setCell ⟨b, i, none⟩ x) (L.set k ⟨b, cs.set i x, t⟩) O v l := ⟨h.bag.put k hk h1 h2 i x, row_put h.row (h.bag.get k hk) h3 i x⟩
theorem BagR.refuse2 {w0 w : World} {L : List Bx} {O : List Dk} {v : Value} {l : List Fr} (h : BagR w0 w L O v l) {sv pv : Value} {d : Disk} (k : Nat) (hk : O[k]? = some ⟨sv, pv, d⟩) (f : Int) : BagR w0 w L [⟨sv, pv, ⟨d.secs, d.pend, d.off, f⟩⟩] v l :=
  ⟨⟨h.bag.bel, h.bag.up, h.bag.ge, h.bag.at', fun o ho => by
    rw [List.mem_singleton] at ho
    subst ho
    have := h.bag.own ⟨sv, pv, d⟩ (List.mem_of_getElem? hk)
    exact ⟨this.secs, this.far⟩⟩, h.row⟩
theorem BagR.erase {w0 w : World} {L : List Bx} {O : List Dk} {v : Value} {l : List Fr} (h : BagR w0 w L O v l) (k : Nat) : BagR w0 w (L.eraseIdx k) O v l := ⟨h.bag.less (List.eraseIdx_sublist _ _) (List.Sublist.refl _), h.row⟩
theorem BagR.cut {w0 w : World} {L : List Bx} {O : List Dk} {v : Value} {l : List Fr} (h : BagR w0 w L O v l) (k i j : Nat) : BagR w0 w (L.take k) ((O.drop i).take j) v l := ⟨h.bag.cut k i j, h.row⟩
/-- a frame is appended to the row -/
theorem BagR.app {w0 w : World} {L : List Bx} {O : List Dk} {v : Value} {l l' : List Fr} (h : BagR w0 w L O v l) (f : Fr) (hl' : l' = l ++ [f]) (hn : l.length ≤ 2000) (hL : ∀ x ∈ L, x.t ≠ 38) :
    ∃ so cp w1, (Builtin.append_ #[29, 29] 29 #[v, .slice (some ⟨w.heap.size, 0, none⟩) 1 1]).run Try.prog (w.alloc (.cells #[.int .u8 f.kind, .int .u64 f.epoch, .int .u64 f.seq, .string f.pay] 38)) = .ok (.slice so l'.length cp) w1 ∧
      BagR w0 w1 L O (.slice so l'.length cp) l' := by
  obtain ⟨i0, hi, hz0, hz1, hz2⟩ := info_parts info_frame
  have hx := Blk.new w [.int .u8 f.kind, .int .u64 f.epoch, .int .u64 f.seq, .string f.pay] 38
  obtain ⟨x0, x1, x2, x3, _⟩ := hx.four
  have hA := h.alloc (.cells #[.int .u8 f.kind, .int .u64 f.epoch, .int .u64 f.seq, .string f.pay] 38)
  generalize w.heap.size = x at hx x0 x1 x2 x3 ⊢
  generalize w.alloc (.cells #[.int .u8 f.kind, .int .u64 f.epoch, .int .u64 f.seq, .string f.pay] 38) = W at hx x0 x1 x2 x3 hA ⊢
  obtain ⟨v', w8, hr8, ho8, hg8, _⟩ := run_append_own (P := Try.prog) W w0.heap.size 29 29 38 i0 (.agg #[.int .u8 0, .int .u64 0, .int .u64 0, .string ⟨#[]⟩]) 4 40 Try.underlying29 hi hz0 hz1 hz2 rfl (by decide) _ _ _ hA.row ⟨x, 0, none⟩ 1 1 [.int .u8 f.kind, .int .u64 f.epoch, .int .u64 f.seq, .string f.pay] rfl
    (by
      intro j u hu
      match j, hu with
      | 0, hu => simp at hu; subst hu; exact x0
      | 1, hu => simp at hu; subst hu; exact x1
      | 2, hu => simp at hu; subst hu; exact x2
      | 3, hu => simp at hu; subst hu; exact x3) (by simp [Value.oneCell']) (by unfold maxLen; omega) (by omega) hA.bel.size
  obtain ⟨so', cp', rfl, _, _⟩ := ownsRow_form ho8
  rw [show frC l ++ [Value.int .u8 f.kind, .int .u64 f.epoch, .int .u64 f.seq, .string f.pay] = frC l' by rw [hl', frC_app]; rfl, show l.length + 1 = l'.length by rw [hl']; simp] at ho8
  rw [show l.length + 1 = l'.length by rw [hl']; simp] at hr8
  exact ⟨so', cp', w8, hr8, hA.bag.grown hA.row hg8 (Nat.le_refl _) hL (by decide) (by decide), ho8⟩
end Go.Proofs.Ytiagjjbcngchpaa.Mem
