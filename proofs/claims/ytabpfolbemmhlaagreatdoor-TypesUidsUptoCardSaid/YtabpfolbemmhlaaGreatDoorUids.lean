/-
  types.named, types.Uids: the entities that an expression names, from the left; contracts. Written by wip/uidsgen.py.
-/
import Derived.Test.YtabpfolbemmhlaaGreatDoorExDeep
import Derived.Laws.AppendOwn
namespace Go.Proofs.YtabpfolbemmhlaaGreatDoor.Ex
open Go.ChangeShapes Go.WideShapes Go.ChangeAt Go.RowKit
open Go.Proofs.YtabpfolbemmhlaaGreatDoor.Mem
set_option linter.unusedVariables false
set_option linter.unusedSimpArgs false
set_option maxRecDepth 100000
abbrev Ud := ByteArray × ByteArray
def encU (l : List Ud) : List Value := l.flatMap fun p => [.string p.1, .string p.2]
theorem encU_len (l : List Ud) : (encU l).length = l.length * 2 := by
  induction l with
  | nil => rfl
  | cons p l ih => simp only [encU, List.flatMap_cons, List.length_append, List.length_cons, List.length_nil] at ih ⊢; omega
theorem encU_append (a b : List Ud) : encU (a ++ b) = encU a ++ encU b := List.flatMap_append
def own1 (x : T) : List Ud := if x.kind = 4 then [(x.typ, x.str)] else []
mutual
def uidsT : T → List Ud
  | .mk k n s t na nv l lv => own1 (.mk k n s t na nv l lv) ++ uidsL l
def uidsL : List T → List Ud
  | [] => []
  | x :: r => uidsT x ++ uidsL r
end
theorem uidsT_eq (x : T) : uidsT x = own1 x ++ uidsL x.list := by
  cases x
  rw [uidsT]
  rfl
theorem uidsL_append (a b : List T) : uidsL (a ++ b) = uidsL a ++ uidsL b := by
  induction a with
  | nil => rfl
  | cons x a ih => rw [List.cons_append, uidsL, uidsL, ih, List.append_assoc]
theorem uidsL_step (l : List T) (k : Nat) (h : k < l.length) : uidsL (l.take (k + 1)) = uidsL (l.take k) ++ uidsT l[k] := by
  rw [List.take_succ_eq_append_getElem h, uidsL_append, uidsL, uidsL, List.append_nil]
theorem own1_len (x : T) : (own1 x).length ≤ 1 := by
  unfold own1
  split <;> simp
theorem uids_size : ∀ (n : Nat) (x : T), x.size ≤ n → (uidsT x).length ≤ x.size := by
  intro n
  induction n with
  | zero => intro x h; have := x.size_pos; omega
  | succ n ih =>
    intro x h
    rw [uidsT_eq, List.length_append]
    rw [T.size_list] at h ⊢
    have h1 := own1_len x
    have key : ∀ l : List T, T.sizeL l ≤ n → (uidsL l).length ≤ T.sizeL l := by
      intro l
      induction l with
      | nil => intro _; simp [uidsL]
      | cons y l ihl =>
        intro hl
        rw [T.sizeL] at hl ⊢
        rw [uidsL, List.length_append]
        have h1 := ih y (by omega)
        have h2 := ihl (by omega)
        omega
    have := key x.list (by omega)
    omega
theorem uidsL_size (l : List T) : (uidsL l).length ≤ T.sizeL l := by
  induction l with
  | nil => simp [uidsL]
  | cons y l ih =>
    rw [T.sizeL, uidsL, List.length_append]
    have := uids_size y.size y (Nat.le_refl _)
    omega
theorem info_uid : ∃ i z, Tryz.prog.info? 61 = some i ∧ i.zero = some z ∧ i.size = 2 ∧ i.bytes = 32 ∧ z.cells.size = 2 :=
  ⟨_, _, rfl, rfl, rfl, rfl, rfl⟩
def Named (x : T) : Prop := ∀ (w0 w : World) (v : Value) (n : Nat) (cs : List Value), x.ok w0 → Below w0.heap.size w0 w → w.ownsRow w0.heap.size 61 2 v n cs → n + x.size ≤ 8388608 →
  Calls Tryz.prog 49 #[v, x.val] w fun e w' => ∃ v', e = .returned v' ∧ w'.ownsRow w0.heap.size 61 2 v' (n + (uidsT x).length) (cs ++ encU (uidsT x)) ∧ Below w0.heap.size w0 w'
set_option maxHeartbeats 8000000 in
theorem named_step (x : T) (ih : ∀ z ∈ x.list, Named z) : Named x := by
  intro w0 w v n cs h hb hown hsz
  obtain ⟨no, nc, lo, lc, e1, e2, l1, l2⟩ := h.forms
  rw [T.val_eq e1 e2]
  obtain ⟨vo, vc, rfl, _, _⟩ := ownsRow_form hown
  have hR := hid (uidsT_eq x)
  have hsz' := hid (show n + T.sizeL x.list + 1 ≤ 8388608 by have := T.size_list x; omega)
  have i2 : (x.list.length : Int) ≤ 9223372036854775807 := by omega
  have h' := hid h
  have ih' := hid ih
  have e2' := hid e2
  have hge := hid hb.size
  have hown' := hid hown
  have hb' := hid hb
  generalize uidsT x = UX at hR ⊢
  clear ih h e1 e2 hsz hb hown
  go_enter Tryz.func49, Tryz.ntmps49
  go_upto_region 1 with fail
  have K1 := hid (Blk.new w [.int .u8 (x.kind : Nat), .int .i64 x.num, .string x.str, .string x.typ, .slice no x.names.length nc, .slice lo x.list.length lc] 26)
  have hown1 := hid (ownsRow_below hown'.out ((Below.refl w.heap.size w).alloc (Nat.le_refl _) (.cells #[.int .u8 (x.kind : Nat), .int .i64 x.num, .string x.str, .string x.typ, .slice no x.names.length nc, .slice lo x.list.length lc] 26)))
  have hb1 := hid (hb'.out.alloc hge.out (.cells #[.int .u8 (x.kind : Nat), .int .i64 x.num, .string x.str, .string x.typ, .slice no x.names.length nc, .slice lo x.list.length lc] 26))
  have hlt := hid (fun k hk => (hown'.out.lt k hk).2)
  clear hown' hb'
  have hge1 := hid (show w0.heap.size ≤ (w.alloc (.cells #[.int .u8 (x.kind : Nat), .int .i64 x.num, .string x.str, .string x.typ, .slice no x.names.length nc, .slice lo x.list.length lc] 26)).heap.size by have := hge.out; simp; omega)
  generalize w.alloc (.cells #[.int .u8 (x.kind : Nat), .int .i64 x.num, .string x.str, .string x.typ, .slice no x.names.length nc, .slice lo x.list.length lc] 26) = X0 at K1 hown1 hb1 hge1 ⊢
  generalize w.heap.size = n0 at K1 hlt hge ⊢
  obtain ⟨c0, c1, c2, c3, c4, c5, cf⟩ := six K1.out
  by_cases hk4 : x.kind = 4
  · have hc : ((x.kind : Int) == 4) = true := by rw [hk4]; rfl
    have hc2 : ((x.kind : Int) != 4) = false := by rw [hk4]; rfl
    have ho1 := hid (show own1 x = [(x.typ, x.str)] by unfold own1; rw [if_pos hk4])
    obtain ⟨iu, zu, hi, hz0, hz1, hz2, hz3⟩ := info_uid
    clear hk4
    go_wp2_with (at_builtin; refine wpList_append_own _ rfl _ _ 34 rfl w0.heap.size 61 iu zu 2 32 Tryz.underlying34 hi hz0 hz1 hz2 hz3 (by decide) _ _ _ rfl (hown1.out.alloc _) ⟨X0.heap.size, 0, none⟩ 1 1 [.string x.typ, .string x.str] rfl rfl ?c1 ?c2 ?c3 ?c4 ?c5 ?_)
    case c1 =>
      intro i u hu
      match i, hu with
      | 0, hu => simp at hu; subst hu; simp [go_sem]
      | 1, hu => simp at hu; subst hu; simp [go_sem]
    case c2 => simp [Value.oneCell']
    case c3 => unfold maxLen; have := hsz'.out; omega
    case c4 => have := hsz'.out; omega
    case c5 => simp; have := hge1.out; omega
    intro v' w6 hown6 hg6 _
    have hb6 := hid ((hb1.out.alloc hge1.out (.cells #[.string x.typ, .string x.str] 61)).grown hg6 (by simp; have := hge1.out; omega) (fun k hk => (hown1.out.lt k hk).1))
    have K6 := hid (show Blk w6 n0 [.int .u8 (x.kind : Nat), .int .i64 x.num, .string x.str, .string x.typ, .slice no x.names.length nc, .slice lo x.list.length lc] 26 from ⟨(hg6.block n0 (by have := K1.out.lt; simp; omega) (fun e => by have := hlt.out n0 e.symm; omega)).trans (K1.out.alloc (.cells #[.string x.typ, .string x.str] 61)).at'⟩)
    clear c0 c1 c2 c3 c4 c5 cf K1 hg6 hown1 hb1 hge1 hlt hge hi hz0 hz1 hz2 hz3
    obtain ⟨vo', vc', rfl, _, _⟩ := ownsRow_form hown6
    replace hown6 := hid hown6
    have K1 := K6
    clear K6
    obtain ⟨c0, c1, c2, c3, c4, c5, cf⟩ := six K1.out
    go_wp2_with fail
    go_loopw [0, 21] (fun av i wr => ∃ k : Nat, k ≤ x.list.length ∧ i = .int .i64 k ∧ (∃ ao cap, av = .slice ao (n + 1 + (uidsL (x.list.take k)).length) cap ∧ Hid (wr.ownsRow w0.heap.size 61 2 (.slice ao (n + 1 + (uidsL (x.list.take k)).length) cap) (n + 1 + (uidsL (x.list.take k)).length) (cs ++ [.string x.typ, .string x.str] ++ encU (uidsL (x.list.take k))))) ∧ Hid (Below w0.heap.size w0 wr)) (fun _ i _ => x.list.length - (intOf i).toNat)
    case atStart => exact ⟨0, by omega, rfl, ⟨_, _, rfl, hid (by have := hown6.out; simpa [uidsL, encU] using this)⟩, hb6⟩
    case round =>
      obtain ⟨k, hk, rfl, ⟨ao, cap, rfl, hownk⟩, bw'⟩ := hrel
      clear c0 c1 c2 c3 c4 c5 cf K1 hown6 hb6
      rename_i wr _
      by_cases hkl : k < x.list.length
      · have hki : (k : Int) < (x.list.length : Int) := by omega
        have hst := hid (uidsL_step x.list k hkl)
        have hsk := hid (show (uidsL (x.list.take k)).length + (x.list[k]).size ≤ T.sizeL x.list by
          have h1 := uidsL_size (x.list.take k)
          have h2 := sizeL_take_step x.list k hkl
          have h3 := sizeL_take x.list (k + 1)
          omega)
        obtain ⟨xb, xo, rfl, xf0, xf1, xf2, xf3, xf4, xf5⟩ := (h'.out.below bw'.out).part6 e2'.out k hkl
        have hrec := hid (show ∀ (W : World) (v : Value) (n : Nat) (cs : List Value), Below w0.heap.size w0 W → W.ownsRow w0.heap.size 61 2 v n cs → n + (x.list[k]).size ≤ 8388608 →
            Calls Tryz.prog 49 #[v, (x.list[k]).val] W fun e w' => ∃ v', e = .returned v' ∧ w'.ownsRow w0.heap.size 61 2 v' (n + (uidsT x.list[k]).length) (cs ++ encU (uidsT x.list[k])) ∧ Below w0.heap.size w0 w' from
          fun W v n cs b ho hs => ih'.out x.list[k] (List.getElem_mem hkl) w0 W v n cs (h'.out.parts.2.2.2.2.2.2.2 _ (List.getElem_mem hkl)) b ho hs)
        have hzok := (h'.out.below bw'.out).parts.2.2.2.2.2.2.2 _ (List.getElem_mem hkl)
        generalize encU (uidsL (x.list.take (k + 1))) = dummy
        obtain ⟨QL, hQ⟩ : ∃ QL, uidsL (x.list.take k) = QL := ⟨_, rfl⟩
        rw [hQ] at hownk hsk hst ⊢
        obtain ⟨q, hq⟩ : ∃ q, QL.length = q := ⟨_, rfl⟩
        rw [hq] at hownk hsk ⊢
        replace hq := hid hq
        replace hQ := hid hQ
        generalize x.list[k] = z at xf0 xf1 xf2 xf3 xf4 xf5 hrec hst hzok hsk
        obtain ⟨zno, znc, zlo, zlc, ez1, ez2, zl1, zl2⟩ := hzok.forms
        have hzv := T.val_eq ez1 ez2
        rw [ez1] at xf4
        rw [ez2] at xf5
        clear hzok ez1 ez2
        rw [hzv] at hrec
        clear hzv
        go_upto_region 6 with fail
        have hown4 := hid (ownsRow_below hownk.out ((Below.refl wr.heap.size wr).alloc (Nat.le_refl _) (.cells #[.int .u8 (z.kind : Nat), .int .i64 z.num, .string z.str, .string z.typ, .slice zno z.names.length znc, .slice zlo z.list.length zlc] 26)))
        have K4 := hid (Blk.new wr [.int .u8 (z.kind : Nat), .int .i64 z.num, .string z.str, .string z.typ, .slice zno z.names.length znc, .slice zlo z.list.length zlc] 26)
        replace bw' := hid (bw'.out.alloc bw'.out.size (.cells #[.int .u8 (z.kind : Nat), .int .i64 z.num, .string z.str, .string z.typ, .slice zno z.names.length znc, .slice zlo z.list.length zlc] 26))
        clear xf0 xf1 xf2 xf3 xf4 xf5 hownk
        generalize wr.alloc (.cells #[.int .u8 (z.kind : Nat), .int .i64 z.num, .string z.str, .string z.typ, .slice zno z.names.length znc, .slice zlo z.list.length zlc] 26) = X3 at K4 bw' hown4 ⊢
        obtain ⟨f0, f1, f2, f3, f4, f5, ff⟩ := six K4.out
        have hcall := hid (hrec.out X3 (.slice ao (n + 1 + q) cap) (n + 1 + q) (cs ++ [.string x.typ, .string x.str] ++ encU QL) bw'.out hown4.out (by have := hsz'.out; have := hsk.out; omega))
        clear hrec hown4
        generalize uidsT z = R at hcall hst
        go_wp2_with fail
        refine hcall.out.mono ?_
        rintro e w2 ⟨v2, rfl, hown2, b2⟩
        obtain ⟨ao2, cap2, rfl, _, _⟩ := ownsRow_form hown2
        replace bw' := hid b2
        replace hown2 := hid hown2
        clear b2 hcall f0 f1 f2 f3 f4 f5 ff K4
        go_wp2_with fail
        go_roundw
        case rel =>
          refine ⟨k + 1, by omega, by go_num, ?_, bw'⟩
          have hl : (uidsL (x.list.take (k + 1))).length = q + R.length := by rw [hst.out, List.length_append, hq.out]
          rw [hl, hst.out, encU_append, ← List.append_assoc, ← Nat.add_assoc]
          exact ⟨ao2, cap2, rfl, hown2⟩
        case measure => simp [intOf]; omega
      · have hki : ¬ (k : Int) < (x.list.length : Int) := by omega
        have hke : k = x.list.length := by omega
        have hfin := hid (show n + 1 + (uidsL (x.list.take k)).length = n + UX.length ∧ cs ++ [.string x.typ, .string x.str] ++ encU (uidsL (x.list.take k)) = cs ++ encU UX by
          rw [hke, List.take_length, hR.out, ho1.out]
          constructor
          · simp; try omega
          · simp [encU])
        rw [hfin.out.1, hfin.out.2] at hownk
        rw [hfin.out.1]
        clear hfin hR
        go_wp2_with fail
        go_ret
        exact ⟨_, rfl, hownk.out, bw'.out⟩
  · have hc : ((x.kind : Int) == 4) = false := by simp; omega
    have hc2 : ((x.kind : Int) != 4) = true := by simp; omega
    have ho1 := hid (show own1 x = [] by unfold own1; rw [if_neg hk4])
    clear hk4 hlt hge
    go_wp2_with fail
    go_loopw [0, 21] (fun av i wr => ∃ k : Nat, k ≤ x.list.length ∧ i = .int .i64 k ∧ (∃ ao cap, av = .slice ao (n + 0 + (uidsL (x.list.take k)).length) cap ∧ Hid (wr.ownsRow w0.heap.size 61 2 (.slice ao (n + 0 + (uidsL (x.list.take k)).length) cap) (n + 0 + (uidsL (x.list.take k)).length) (cs ++ [] ++ encU (uidsL (x.list.take k))))) ∧ Hid (Below w0.heap.size w0 wr)) (fun _ i _ => x.list.length - (intOf i).toNat)
    case atStart => exact ⟨0, by omega, rfl, ⟨_, _, rfl, hid (by have := hown1.out; simpa [uidsL, encU] using this)⟩, hb1⟩
    case round =>
      obtain ⟨k, hk, rfl, ⟨ao, cap, rfl, hownk⟩, bw'⟩ := hrel
      clear c0 c1 c2 c3 c4 c5 cf K1 hown1 hb1
      rename_i wr _
      by_cases hkl : k < x.list.length
      · have hki : (k : Int) < (x.list.length : Int) := by omega
        have hst := hid (uidsL_step x.list k hkl)
        have hsk := hid (show (uidsL (x.list.take k)).length + (x.list[k]).size ≤ T.sizeL x.list by
          have h1 := uidsL_size (x.list.take k)
          have h2 := sizeL_take_step x.list k hkl
          have h3 := sizeL_take x.list (k + 1)
          omega)
        obtain ⟨xb, xo, rfl, xf0, xf1, xf2, xf3, xf4, xf5⟩ := (h'.out.below bw'.out).part6 e2'.out k hkl
        have hrec := hid (show ∀ (W : World) (v : Value) (n : Nat) (cs : List Value), Below w0.heap.size w0 W → W.ownsRow w0.heap.size 61 2 v n cs → n + (x.list[k]).size ≤ 8388608 →
            Calls Tryz.prog 49 #[v, (x.list[k]).val] W fun e w' => ∃ v', e = .returned v' ∧ w'.ownsRow w0.heap.size 61 2 v' (n + (uidsT x.list[k]).length) (cs ++ encU (uidsT x.list[k])) ∧ Below w0.heap.size w0 w' from
          fun W v n cs b ho hs => ih'.out x.list[k] (List.getElem_mem hkl) w0 W v n cs (h'.out.parts.2.2.2.2.2.2.2 _ (List.getElem_mem hkl)) b ho hs)
        have hzok := (h'.out.below bw'.out).parts.2.2.2.2.2.2.2 _ (List.getElem_mem hkl)
        generalize encU (uidsL (x.list.take (k + 1))) = dummy
        obtain ⟨QL, hQ⟩ : ∃ QL, uidsL (x.list.take k) = QL := ⟨_, rfl⟩
        rw [hQ] at hownk hsk hst ⊢
        obtain ⟨q, hq⟩ : ∃ q, QL.length = q := ⟨_, rfl⟩
        rw [hq] at hownk hsk ⊢
        replace hq := hid hq
        replace hQ := hid hQ
        generalize x.list[k] = z at xf0 xf1 xf2 xf3 xf4 xf5 hrec hst hzok hsk
        obtain ⟨zno, znc, zlo, zlc, ez1, ez2, zl1, zl2⟩ := hzok.forms
        have hzv := T.val_eq ez1 ez2
        rw [ez1] at xf4
        rw [ez2] at xf5
        clear hzok ez1 ez2
        rw [hzv] at hrec
        clear hzv
        go_upto_region 6 with fail
        have hown4 := hid (ownsRow_below hownk.out ((Below.refl wr.heap.size wr).alloc (Nat.le_refl _) (.cells #[.int .u8 (z.kind : Nat), .int .i64 z.num, .string z.str, .string z.typ, .slice zno z.names.length znc, .slice zlo z.list.length zlc] 26)))
        have K4 := hid (Blk.new wr [.int .u8 (z.kind : Nat), .int .i64 z.num, .string z.str, .string z.typ, .slice zno z.names.length znc, .slice zlo z.list.length zlc] 26)
        replace bw' := hid (bw'.out.alloc bw'.out.size (.cells #[.int .u8 (z.kind : Nat), .int .i64 z.num, .string z.str, .string z.typ, .slice zno z.names.length znc, .slice zlo z.list.length zlc] 26))
        clear xf0 xf1 xf2 xf3 xf4 xf5 hownk
        generalize wr.alloc (.cells #[.int .u8 (z.kind : Nat), .int .i64 z.num, .string z.str, .string z.typ, .slice zno z.names.length znc, .slice zlo z.list.length zlc] 26) = X3 at K4 bw' hown4 ⊢
        obtain ⟨f0, f1, f2, f3, f4, f5, ff⟩ := six K4.out
        have hcall := hid (hrec.out X3 (.slice ao (n + 0 + q) cap) (n + 0 + q) (cs ++ [] ++ encU QL) bw'.out hown4.out (by have := hsz'.out; have := hsk.out; omega))
        clear hrec hown4
        generalize uidsT z = R at hcall hst
        go_wp2_with fail
        refine hcall.out.mono ?_
        rintro e w2 ⟨v2, rfl, hown2, b2⟩
        obtain ⟨ao2, cap2, rfl, _, _⟩ := ownsRow_form hown2
        replace bw' := hid b2
        replace hown2 := hid hown2
        clear b2 hcall f0 f1 f2 f3 f4 f5 ff K4
        go_wp2_with fail
        go_roundw
        case rel =>
          refine ⟨k + 1, by omega, by go_num, ?_, bw'⟩
          have hl : (uidsL (x.list.take (k + 1))).length = q + R.length := by rw [hst.out, List.length_append, hq.out]
          rw [hl, hst.out, encU_append, ← List.append_assoc, ← Nat.add_assoc]
          exact ⟨ao2, cap2, rfl, hown2⟩
        case measure => simp [intOf]; omega
      · have hki : ¬ (k : Int) < (x.list.length : Int) := by omega
        have hke : k = x.list.length := by omega
        have hfin := hid (show n + 0 + (uidsL (x.list.take k)).length = n + UX.length ∧ cs ++ [] ++ encU (uidsL (x.list.take k)) = cs ++ encU UX by
          rw [hke, List.take_length, hR.out, ho1.out]
          constructor
          · simp; try omega
          · simp [encU])
        rw [hfin.out.1, hfin.out.2] at hownk
        rw [hfin.out.1]
        clear hfin hR
        go_wp2_with fail
        go_ret
        exact ⟨_, rfl, hownk.out, bw'.out⟩

theorem named_any (x : T) : Named x := by
  suffices h : ∀ n (x : T), x.size ≤ n → Named x from h x.size x (Nat.le_refl _)
  intro n
  induction n with
  | zero => intro x hx; have := x.size_pos; omega
  | succ n ih => intro x hx; exact named_step x (fun z hm => ih z (by have := T.size_part hm; omega))
set_option maxHeartbeats 4000000 in
theorem uids_any (x : T) (w : World) (h : x.ok w) (hz : x.size ≤ 8388608) : Calls Tryz.prog 24 #[x.val] w fun e w' =>
    ∃ v', e = .returned v' ∧ w'.ownsRow w.heap.size 61 2 v' (uidsT x).length (encU (uidsT x)) ∧ Below w.heap.size w w' := by
  have hc := hid (fun W (b : Below w.heap.size w W) => named_any x w W (.slice none 0 0) 0 [] h b (World.ownsRow_nil _ _ _ _) (by omega))
  obtain ⟨no, nc, lo, lc, e1, e2, l1, l2⟩ := h.forms
  rw [T.val_eq e1 e2] at hc ⊢
  clear h e1 e2 hz
  generalize uidsT x = UX at hc ⊢
  go_enter Tryz.func24, Tryz.ntmps24
  go_upto_region 1 with fail
  have K1 := hid (Blk.new w [.int .u8 (x.kind : Nat), .int .i64 x.num, .string x.str, .string x.typ, .slice no x.names.length nc, .slice lo x.list.length lc] 26)
  have bw := hid ((Below.refl w.heap.size w).alloc (Nat.le_refl _) (.cells #[.int .u8 (x.kind : Nat), .int .i64 x.num, .string x.str, .string x.typ, .slice no x.names.length nc, .slice lo x.list.length lc] 26))
  generalize w.alloc (.cells #[.int .u8 (x.kind : Nat), .int .i64 x.num, .string x.str, .string x.typ, .slice no x.names.length nc, .slice lo x.list.length lc] 26) = X0 at K1 bw ⊢
  obtain ⟨c0, c1, c2, c3, c4, c5, cf⟩ := six K1.out
  go_wp2_with fail
  refine (hc.out X0 bw.out).mono ?_
  rintro e w2 ⟨v2, rfl, hown2, b2⟩
  obtain ⟨ao2, cap2, rfl, _, _⟩ := ownsRow_form hown2
  replace hown2 := hid hown2
  replace b2 := hid b2
  clear hc c0 c1 c2 c3 c4 c5 cf K1 bw
  go_wp2_with fail
  go_ret
  exact ⟨_, rfl, by have := hown2.out; simpa using this, b2.out⟩
/-- append of a row of entities to one that is owned -/
theorem app_uids (W : World) (base : Nat) (s : Value) (n : Nat) (cs : List Value) (v : Value) (l : List Ud) (hown : W.ownsRow base 61 2 s n cs) (hb : base ≤ W.heap.size) (hv : SlV W v l.length (encU l)) (hn : n + l.length ≤ 16777216) :
    ∃ s' W1, (Builtin.append_ #[34, 34] 34 #[s, v]).run Tryz.prog W = .ok s' W1 ∧ W1.ownsRow base 61 2 s' (n + l.length) (cs ++ encU l) ∧ W.grownBy W1 s.ownBlock := by
  obtain ⟨so, sc, rfl, hle, _⟩ := ownsRow_form hown
  obtain ⟨ao, cap, rfl, h2, h3, h4, h5, h6⟩ := hv
  cases ao with
  | none =>
    obtain rfl := h4 rfl
    obtain rfl : l = [] := List.eq_nil_of_length_eq_zero (by omega)
    refine ⟨.slice so n sc, W, ?_, by simpa [encU] using hown, World.grownBy.refl _ _⟩
    cases so <;> simp [Builtin.append_, go_sem, hle]
  | some a =>
    obtain ⟨iu, zu, hi, hz0, hz1, hz2, hz3⟩ := info_uid
    obtain ⟨v', w', hrun, ho, hg, _⟩ := run_append_own (P := Tryz.prog) W base 34 34 61 iu zu 2 32 Tryz.underlying34 hi hz0 hz1 hz2 hz3 (by decide) (.slice so n sc) n cs hown a l.length cap (encU l) (by rw [encU_len])
      (by
        intro j u hu
        obtain ⟨hj, rfl⟩ := List.getElem?_eq_some_iff.1 hu
        exact h6 a rfl j hj) (by
        intro u hu
        unfold encU at hu
        obtain ⟨p, _, hp⟩ := List.mem_flatMap.1 hu
        rcases List.mem_cons.1 hp with rfl | hp
        · rfl
        · rcases List.mem_cons.1 hp with rfl | hp
          · rfl
          · cases hp) (by unfold maxLen; omega) (by omega) hb
    exact ⟨v', w', hrun, ho, hg⟩
theorem encU_at (l : List Ud) (k : Nat) (hk : k < l.length) : k * 2 + 1 < (encU l).length ∧ (encU l)[k * 2]? = some (.string l[k].1) ∧ (encU l)[k * 2 + 1]? = some (.string l[k].2) := by
  refine ⟨by rw [encU_len]; omega, ?_⟩
  induction l generalizing k with
  | nil => simp at hk
  | cons p l ih =>
    cases k with
    | zero => exact ⟨rfl, rfl⟩
    | succ k =>
      have := ih k (by simpa using hk)
      rw [show encU (p :: l) = .string p.1 :: .string p.2 :: encU l from rfl, show (k + 1) * 2 = k * 2 + 2 by omega]
      exact this
theorem uid_cells {W : World} {v : Value} {l : List Ud} (h : SlV W v l.length (encU l)) (k : Nat) (hk : k < l.length) :
    ∃ b o cap, v = .slice (some ⟨b, o, none⟩) l.length cap ∧ l.length ≤ cap ∧ cap ≤ maxLen ∧ W.cell? ⟨b, o + k * 2, none⟩ = some (.string l[k].1) ∧ W.cell? ⟨b, o + k * 2 + 1, none⟩ = some (.string l[k].2) := by
  obtain ⟨g1, g2, g3⟩ := encU_at l k hk
  obtain ⟨b, o, cap, rfl, h1, h2, _, h4⟩ := h.open (by omega)
  obtain ⟨i2, e2⟩ := List.getElem?_eq_some_iff.1 g2
  obtain ⟨i3, e3⟩ := List.getElem?_eq_some_iff.1 g3
  exact ⟨b, o, cap, rfl, h1, h2, by rw [← e2]; exact h4 _ i2, by rw [← e3, Nat.add_assoc]; exact h4 _ i3⟩
end Go.Proofs.YtabpfolbemmhlaaGreatDoor.Ex
