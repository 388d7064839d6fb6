/-
  schema.copiedAttrs: its answer is a row of the call's own. Written by wip/tycopiedgen.py.
-/
import Derived.Test.YtbcjppbiihgfpaaGreatDoorTyCopy
namespace Go.Proofs.YtbcjppbiihgfpaaGreatDoor.Tyt
open Go.ChangeShapes Go.WideShapes Go.ChangeAt Go.RowKit
open Go.Proofs.YtbcjppbiihgfpaaGreatDoor.Mem
set_option linter.unusedVariables false
set_option linter.unusedSimpArgs false
set_option maxRecDepth 100000
/-- four cells from place o on -/
def st4o (W : World) (g o : Nat) (a0 a1 a2 a3 : Value) : World := (((W.setCell ⟨g, o, none⟩ a0).setCell ⟨g, o + 1, none⟩ a1).setCell ⟨g, o + 2, none⟩ a2).setCell ⟨g, o + 3, none⟩ a3
theorem below_st4o {B : Nat} {w W : World} (h : Below B w W) {g : Nat} (hg : B ≤ g) (o : Nat) (a0 a1 a2 a3 : Value) : Below B w (st4o W g o a0 a1 a2 a3) := by
  unfold st4o
  exact (((h.setCell hg _).setCell hg _).setCell hg _).setCell hg _
theorem heap_st4o (W : World) (g o : Nat) (a0 a1 a2 a3 : Value) {k : Nat} (hk : k ≠ g) : (st4o W g o a0 a1 a2 a3).heap[k]? = W.heap[k]? := by
  unfold st4o
  repeat rw [Below.heap_setCell _ _ _ _ (by simpa using hk)]
theorem size_st4o (W : World) (g o : Nat) (a0 a1 a2 a3 : Value) : (st4o W g o a0 a1 a2 a3).heap.size = W.heap.size := by
  unfold st4o
  simp
theorem blk_st4o {W : World} {g o : Nat} {A C : List Value} {b0 b1 b2 b3 : Value} {t : TypeId} (h : Blk W g (A ++ ([b0, b1, b2, b3] ++ C)) t) (ho : A.length = o) (a0 a1 a2 a3 : Value) : Blk (st4o W g o a0 a1 a2 a3) g (A ++ ([a0, a1, a2, a3] ++ C)) t := by
  have h1 := (((h.set o a0).set (o + 1) a1).set (o + 2) a2).set (o + 3) a3
  have e : (((((A ++ ([b0, b1, b2, b3] ++ C)).set o a0).set (o + 1) a1).set (o + 2) a2).set (o + 3) a3) = A ++ ([a0, a1, a2, a3] ++ C) := by
    subst ho
    simp [List.set_append]
  rw [e] at h1
  exact h1
/-- a type's value, and nothing below turned -/
def Anew (w : World) (e : Ending) (w' : World) : Prop := (∃ (k : Nat) (nm : ByteArray) (so : Option Addr) (n c : Nat) (so2 : Option Addr) (n2 c2 : Nat), e = .returned (.agg #[.int .u8 (k : Nat), .string nm, .slice so n c, .slice so2 n2 c2])) ∧ Below w.heap.size w w'
/-- a row of attributes of the call's own, and nothing below turned -/
def AOwn (w : World) (n : Nat) (e : Ending) (w' : World) : Prop := (∃ (so : Option Addr) (sc : Nat) (xs : List Value), e = .returned (.slice so n sc) ∧ w'.ownsRow w.heap.size 65 5 (.slice so n sc) n xs) ∧ Below w.heap.size w w'
def CopiedTy (x : Ty) : Prop := ∀ (w : World), x.ok w → Calls Tryz.prog 98 #[x.val] w fun e w' => Anew w e w'
theorem encA_drop (an : List ByteArray) (att : List Ty) (k : Nat) (h1 : k < an.length) (h2 : k < att.length) : Ty.encA (an.drop k) (att.drop k) = Ty.encP an[k] att[k] ++ Ty.encA (an.drop (k + 1)) (att.drop (k + 1)) := by
  rw [List.drop_eq_getElem_cons h1, List.drop_eq_getElem_cons h2]
  rfl
set_option maxHeartbeats 8000000 in
theorem copiedattrs_step (an : List ByteArray) (att : List Ty) (ih : ∀ z ∈ att, CopiedTy z) (hb : att.length * 88 ≤ 140737488355328) (w : World) (av : Value) (h : AttrsV w av an att) :
    Calls Tryz.prog 51 #[av] w fun e w' => AOwn w att.length e w' := by
  obtain ⟨ic, zc, hi, hz0, hz1, hz2, hz3⟩ := info_attr
  obtain ⟨ao, ac, rfl, l1⟩ := h.form
  have hone : ∀ u ∈ Ty.encA an att, u.oneCell' = true := by
    have key : ∀ (a : List ByteArray) (l : List Ty), (∀ y ∈ l, y.ok w) → ∀ u ∈ Ty.encA a l, u.oneCell' = true := by
      intro a
      induction a with
      | nil => intro l _ u hu; cases l <;> cases hu
      | cons s a iha => intro l hl u hu; cases l with
        | nil => cases hu
        | cons y l =>
          simp only [Ty.encA, List.mem_append] at hu
          rcases hu with hu | hu
          · obtain ⟨_, _, _, _, q1, q2, _, _⟩ := (hl y (List.mem_cons_self ..)).forms
            unfold Ty.encP at hu
            rw [Ty.enc_eq q1 q2] at hu
            simp at hu
            rcases hu with rfl | rfl | rfl | rfl | rfl <;> rfl
          · exact iha l (fun y hy => hl y (List.mem_cons_of_mem _ hy)) u hu
    exact key an att h.2.2.1
  obtain ⟨v1, X1, hrun, ho, hg, _⟩ := app_own (P := Tryz.prog) w w.heap.size 51 51 65 ic zc 5 88 Tryz.underlying51 hi hz0 hz1 hz2 hz3 (by decide) (.slice none 0 0) 0 [] (World.ownsRow_nil _ _ _ _) (.slice ao att.length ac) att.length (Ty.encA an att) h.2.1 (Ty.encA_len _ _ h.1) hone (by unfold maxLen; omega) (by omega) (Nat.le_refl _)
  rw [Nat.zero_add, List.nil_append] at ho
  obtain ⟨so, sc, rfl, _, _⟩ := ownsRow_form ho
  obtain ⟨hbk, hle, hcm, hnil⟩ := own_blk ho
  obtain ⟨n, hn⟩ : ∃ n, att.length = n := ⟨_, rfl⟩
  rw [hn] at l1 hb ho hrun hle ⊢
  have bw := hid (show Below w.heap.size w X1 from ⟨hg.os, hg.tape, hg.output, hg.size, fun b hb => hg.block b hb (by simp [Value.ownBlock])⟩)
  have i1 : (n : Int) ≤ 9223372036854775807 := by omega
  have hnn := hid (show an.length = n from h.1.trans hn)
  have h' := hid h
  have hn' := hid hn
  have ih' := hid ih
  have hrun' := hid hrun
  have hcm' := hid (show n ≤ sc ∧ sc ≤ maxLen from ⟨hle, hcm⟩)
  clear h hn ih l1 hone hg hrun hi hz0 hz1 hz2 hz3 hle hcm hnil
  rcases hbk with ⟨hx0, hs0⟩ | ⟨g, tail, hs0, hgB, hblk⟩
  · have hn0 : n = 0 := by
      have := Ty.encA_len an att (by rw [hnn.out, hn'.out])
      rw [hx0, hn'.out] at this
      simp only [List.length_nil] at this
      omega
    subst hn0
    have hown := hid ho
    clear ho hx0 hs0
    go_enter Tryz.func51, Tryz.ntmps51
    go_wp2_with (at_builtin; refine wpList_app3 rfl (.const (.slice none 0 0)) (.tmp 4) _ _ rfl _ _ _ _ rfl rfl hrun'.out ?_)
    go_loopw [8] (fun i wr => i = .int .i64 0 ∧ wr = X1) (fun _ _ => 0)
    case atStart => exact ⟨rfl, rfl⟩
    case round =>
      obtain ⟨rfl, rfl⟩ := hrel
      have hz : ¬ (0 : Int) < 0 := by omega
      go_wp2_with fail
      go_ret
      exact ⟨⟨_, _, _, rfl, hown.out⟩, bw.out⟩
  · subst hs0
    have htl := hid (show Ty.encA an att = Ty.encA (an.drop 0) (att.drop 0) from rfl)
    have hlen0 := hid (show (Ty.encA an att).length = n * 5 by rw [Ty.encA_len _ _ (by rw [hnn.out, hn'.out]), hn'.out])
    have htail := hid (show tail.length + n * 5 = sc * 5 from by
      rcases ho.2 with ⟨q, _⟩ | ⟨g2, cap2, cur, hv, _, hh, _, _, hcs, _⟩
      · simp at q
      · simp only [Value.slice.injEq, Option.some.injEq, Addr.mk.injEq, and_true] at hv
        obtain ⟨rfl, _, rfl⟩ := hv
        have e := hblk.at'
        rw [hh] at e
        simp only [Option.some.injEq, Obj.cells.injEq] at e
        have e2 := congrArg Array.size e.1
        rw [hcs] at e2
        simp only [List.size_toArray, List.length_append] at e2
        rw [hlen0.out] at e2
        omega)
    have hB0 := hid (show Blk X1 g ([] ++ (Ty.encA (an.drop 0) (att.drop 0) ++ tail)) 65 from hblk)
    have hgB' := hid hgB
    clear ho hblk hgB
    go_enter Tryz.func51, Tryz.ntmps51
    go_wp2_with (at_builtin; refine wpList_app3 rfl (.const (.slice none 0 0)) (.tmp 4) _ _ rfl _ _ _ _ rfl rfl hrun'.out ?_)
    go_loopw [8] (fun i wr => ∃ (k : Nat) (pre : List Value), k ≤ n ∧ i = .int .i64 k ∧ Hid (pre.length = k * 5) ∧ Hid (Blk wr g (pre ++ (Ty.encA (an.drop k) (att.drop k) ++ tail)) 65) ∧ Hid (Below w.heap.size w wr)) (fun i _ => n - (intOf i).toNat)
    case atStart => exact ⟨0, [], by omega, rfl, hid rfl, by first | exact hB0 | (rename_i hW; rw [hW]; exact hB0), by first | exact bw | (rename_i hW; rw [hW]; exact bw)⟩
    case round =>
      clear bw hB0
      obtain ⟨k, pre, hk, rfl, hpl, hB, bw⟩ := hrel
      rename_i wr _
      by_cases hkn : k < n
      · have hki : (k : Int) < (n : Int) := by omega
        have hka : k < att.length := by rw [hn'.out]; exact hkn
        have hkm : k < an.length := by rw [hnn.out]; exact hkn
        have hst := encA_drop an att k hkm hka
        have hzok := hid (h'.out.2.2.1 _ (List.getElem_mem hka))
        have hrec := hid (ih'.out _ (List.getElem_mem hka))
        generalize att[k] = z at hst hzok hrec
        generalize an[k] = nm at hst
        obtain ⟨zoo, zoc, zao, zac, e3, e4, _, _⟩ := hzok.out.forms
        rw [show Ty.encP nm z = [.string nm, .int .u8 (z.kind : Nat), .string z.name, .slice zoo z.of.length zoc, .slice zao z.att.length zac] by unfold Ty.encP; rw [Ty.enc_eq e3 e4]] at hst
        have hcl := hid (show ∀ W, Below w.heap.size w W → Calls Tryz.prog 98 #[.agg #[.int .u8 (z.kind : Nat), .string z.name, .slice zoo z.of.length zoc, .slice zao z.att.length zac]] W fun e w' => Anew W e w' from fun W B => Ty.val_eq e3 e4 ▸ hrec.out W (hzok.out.below B))
        obtain ⟨rest, hrs⟩ : ∃ rest, Ty.encA (an.drop (k + 1)) (att.drop (k + 1)) = rest := ⟨_, rfl⟩
        rw [hrs] at hst
        replace hrs := hid hrs
        have hB2 : Blk wr g ((pre ++ [.string nm]) ++ ([.int .u8 (z.kind : Nat), .string z.name, .slice zoo z.of.length zoc, .slice zao z.att.length zac] ++ (rest ++ tail))) 65 := by
          have := hB.out
          rw [hst] at this
          simpa using this
        have hp1 : (pre ++ [Value.string nm]).length = k * 5 + 1 := by rw [List.length_append, hpl.out]; rfl
        have key : ∀ j (hj : j < 4), wr.cell? ⟨g, k * 5 + 1 + j, none⟩ = some ([Value.int .u8 (z.kind : Nat), .string z.name, .slice zoo z.of.length zoc, .slice zao z.att.length zac][j]'(by simpa using hj)) := fun j hj => by
          rw [hB2.cell (k * 5 + 1 + j) (by rw [List.length_append, hp1]; simp; omega), List.getElem_append_right (by rw [hp1]; omega), List.getElem_append_left (by have := hpl.out; simp; omega)]
          congr 1
          simp [hpl.out]
        have f1 : wr.cell? ⟨g, k * 5 + 1, none⟩ = some (.int .u8 (z.kind : Nat)) := key 0 (by omega)
        have f2 : wr.cell? ⟨g, k * 5 + 1 + 1, none⟩ = some (.string z.name) := key 1 (by omega)
        have f3 : wr.cell? ⟨g, k * 5 + 1 + 2, none⟩ = some (.slice zoo z.of.length zoc) := key 2 (by omega)
        have f4 : wr.cell? ⟨g, k * 5 + 1 + 3, none⟩ = some (.slice zao z.att.length zac) := key 3 (by omega)
        have hB3 := hid hB2
        have hp1' := hid hp1
        clear e3 e4 key hst hB2 hp1 hB hrec hzok
        have cQ := hid (hcl.out wr bw.out)
        go_wp2_with fail
        refine cQ.out.mono ?_
        rintro e w2 ⟨⟨k', nm', so1, n1, c1, so2, n2, c2, rfl⟩, b2⟩
        replace hB3 := hid (hB3.out.below b2 hB3.out.lt)
        replace bw := hid (bt bw.out b2)
        have hst1 := hid (blk_st4o hB3.out hp1'.out (.int .u8 (k' : Nat)) (.string nm') (.slice so1 n1 c1) (.slice so2 n2 c2))
        have hbst := hid (below_st4o bw.out hgB'.out (k * 5 + 1) (.int .u8 (k' : Nat)) (.string nm') (.slice so1 n1 c1) (.slice so2 n2 c2))
        replace f1 := cell_below b2 _ _ f1
        replace f2 := cell_below b2 _ _ f2
        replace f3 := cell_below b2 _ _ f3
        replace f4 := cell_below b2 _ _ f4
        have ff := fun o => hB3.out.free o
        replace hst1 := hid hst1.out
        replace ff := ff
        clear cQ b2 bw hB3
        go_wp2_with fail
        refine ⟨⟨k + 1, (pre ++ [.string nm]) ++ [.int .u8 (k' : Nat), .string nm', .slice so1 n1 c1, .slice so2 n2 c2], by omega, by go_num, hid (by rw [List.length_append, hp1'.out]; simp; omega), hid ?_, hbst⟩, by simp [intOf]; omega⟩
        have e : Ty.encA (an.drop (k + 1)) (att.drop (k + 1)) = rest := hrs.out
        rw [e, List.append_assoc]
        exact hst1.out
      · have hki : ¬ (k : Int) < (n : Int) := by omega
        obtain rfl : k = n := by omega
        have hfin := hid (show wr.ownsRow w.heap.size 65 5 (.slice (some ⟨g, 0, none⟩) k sc) k pre from by
          refine ⟨hpl.out, .inr ⟨g, sc, _, rfl, hgB'.out, hB.out.at', hcm'.out.1, hcm'.out.2, ?_, ?_⟩⟩
          · have e1 : Ty.encA (an.drop k) (att.drop k) = [] := by
              rw [List.drop_eq_nil_of_le (by rw [hnn.out]; exact Nat.le_refl _)]
              cases att.drop k <;> rfl
            rw [e1]
            have h1 := htail.out
            have h2 := hpl.out
            simp
            omega
          · simp only [List.toList_toArray]
            rw [← hpl.out]
            exact List.take_left)
        clear hB hpl
        go_wp2_with fail
        go_ret
        exact ⟨⟨_, _, _, rfl, hfin.out⟩, bw.out⟩
end Go.Proofs.YtbcjppbiihgfpaaGreatDoor.Tyt
