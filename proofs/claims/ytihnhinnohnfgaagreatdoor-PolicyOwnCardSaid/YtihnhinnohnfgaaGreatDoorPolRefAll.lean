/-
  lictorref09.Same of two policies that are alike: contract. Written by wip/polref3gen.py.
-/
import Derived.Test.YtihnhinnohnfgaaGreatDoorExRefCopy
import Derived.Test.YtihnhinnohnfgaaGreatDoorExSame
import Derived.Deep.QuietTactic
import Derived.BigQuiet
import Derived.Test.YtihnhinnohnfgaaGreatDoorPolOpen
import Derived.Deep.RegionHeld3
namespace Go.Proofs.YtihnhinnohnfgaaGreatDoor.Pol
open Go.ChangeShapes Go.WideShapes Go.ChangeAt Go.RowKit
open Go.Proofs.YtihnhinnohnfgaaGreatDoor.Mem
open Go.Proofs.YtihnhinnohnfgaaGreatDoor.Ex (T)
set_option linter.unusedVariables false
set_option linter.unusedSimpArgs false
set_option maxRecDepth 100000
theorem info_uid : ∃ i z, Tryz.prog.info? 137 = some i ∧ i.zero = some z ∧ i.size = 2 ∧ i.bytes = 32 ∧ z.cells.size = 2 := ⟨_, _, rfl, rfl, rfl, rfl, rfl⟩
theorem encU_one (l : List Ud) : ∀ u ∈ encU l, u.oneCell' = true := by
  intro u hu
  obtain ⟨p, _, hu⟩ := List.mem_flatMap.1 hu
  rcases List.mem_cons.1 hu with rfl | hu
  · rfl
  · rw [List.mem_singleton] at hu
    subst hu
    rfl
def st3 (W : World) (g : Nat) (a0 a1 a2 : Value) : World := ((W.setCell ⟨g, 0, none⟩ a0).setCell ⟨g, 1, none⟩ a1).setCell ⟨g, 2, none⟩ a2
theorem heap_st3 (W : World) (g : Nat) (a0 a1 a2 : Value) {k : Nat} (hk : k ≠ g) : (st3 W g a0 a1 a2).heap[k]? = W.heap[k]? := by
  unfold st3
  repeat rw [Below.heap_setCell _ _ _ _ (by simpa using hk)]
theorem below_st3 {B : Nat} {w W : World} (h : Below B w W) {g : Nat} (hg : B ≤ g) (a0 a1 a2 : Value) : Below B w (st3 W g a0 a1 a2) := by
  unfold st3
  exact ((h.setCell hg _).setCell hg _).setCell hg _
theorem blk_st3 {W : World} {g : Nat} {b0 b1 b2 : Value} {t : TypeId} (h : Blk W g [b0, b1, b2] t) (a0 a1 a2 : Value) : Blk (st3 W g a0 a1 a2) g [a0, a1, a2] t := ((h.set 0 a0).set 1 a1).set 2 a2
/-- the same scope, its entities in S -/
def ScBuilt (S : Nat → Prop) (s : Sc) (e : Ending) (w' : World) : Prop := ∃ uv, e = .returned (Sc.val ⟨s.k, s.us, uv, s.t⟩) ∧ Sc.ok w' ⟨s.k, s.us, uv, s.t⟩ ∧ SlIn S uv s.us.length
set_option maxHeartbeats 8000000 in
theorem cscope_any (s : Sc) (w : World) (h : s.ok w) (S : Nat → Prop) (hS : ∀ b, w.heap.size ≤ b → S b) :
    Calls Tryz.prog 38 #[s.val] w fun e w' => ScBuilt S s e w' ∧ Below w.heap.size w w' := by
  obtain ⟨uo, uc, e1, hl⟩ := h.form
  rw [show s.val = .agg #[.int .u8 (s.k : Nat), .slice uo s.us.length uc, .string s.t] from by unfold Sc.val Sc.enc; rw [e1]]
  have hsl := hid (fun W (B : Below w.heap.size w W) => (show SlV W (.slice uo s.us.length uc) s.us.length (encU s.us) from e1 ▸ (h.below B).2.2.2))
  have hul : s.us.length * 32 ≤ 140737488355328 := h.1.2
  have h' := hid h
  obtain ⟨iu, zu, hi, hz0, hz1, hz2, hz3⟩ := info_uid
  clear h e1
  go_enter Tryz.func38, Tryz.ntmps38
  go_upto_region 1 with fail
  have K1 := hid (Blk.new w [.int .u8 (s.k : Nat), .slice uo s.us.length uc, .string s.t] 36)
  have bw := hid ((Below.refl w.heap.size w).alloc (Nat.le_refl _) (.cells #[.int .u8 (s.k : Nat), .slice uo s.us.length uc, .string s.t] 36))
  have hs : w.heap.size + 1 = (w.alloc (.cells #[.int .u8 (s.k : Nat), .slice uo s.us.length uc, .string s.t] 36)).heap.size := by simp
  generalize w.alloc (.cells #[.int .u8 (s.k : Nat), .slice uo s.us.length uc, .string s.t] 36) = X0 at K1 bw hs ⊢
  have K2 := hid (Blk.new' X0 [.int .u8 0, .slice none 0 0, .string ⟨#[]⟩] 36 (w.heap.size + 1) hs)
  replace K1 := hid (K1.out.alloc (.cells #[.int .u8 0, .slice none 0 0, .string ⟨#[]⟩] 36))
  replace bw := hid (bw.out.alloc (by omega) (.cells #[.int .u8 0, .slice none 0 0, .string ⟨#[]⟩] 36))
  have hs2 := hid (show w.heap.size + 2 = (X0.alloc (.cells #[.int .u8 0, .slice none 0 0, .string ⟨#[]⟩] 36)).heap.size by simp; omega)
  clear hs
  generalize X0.alloc (.cells #[.int .u8 0, .slice none 0 0, .string ⟨#[]⟩] 36) = X1 at K1 K2 bw hs2 ⊢
  obtain ⟨X2, hX2⟩ : ∃ X, X1.alloc (.cells #[] 137) = X := ⟨_, rfl⟩
  have hb2 := (Below.refl X1.heap.size X1).alloc (Nat.le_refl _) (.cells #[] 137)
  have hr0 := World.ownsRow_made (base := w.heap.size + 2) (e := 137) (size := 2) X1 #[] 0 (by have := hs2.out; omega) (by decide) rfl
  rw [hX2] at hb2 hr0
  replace K1 := hid (K1.out.below hb2 K1.out.lt)
  replace K2 := hid (K2.out.below hb2 K2.out.lt)
  replace bw := hid (bt bw.out hb2)
  obtain ⟨v1, X3, hrun, ho, hg, _⟩ := app_own (P := Tryz.prog) X2 (w.heap.size + 2) 34 34 137 iu zu 2 32 Tryz.underlying34 hi hz0 hz1 hz2 hz3 (by decide) (.slice (some ⟨X1.heap.size, 0, none⟩) 0 0) 0 [] hr0 (.slice uo s.us.length uc) s.us.length (encU s.us) (hsl.out _ bw.out) (encU_len _) (encU_one _) (by unfold maxLen; omega) (by omega) (by have := K2.out.lt; omega)
  have K1a := hid (show Blk X3 w.heap.size [.int .u8 (s.k : Nat), .slice uo s.us.length uc, .string s.t] 36 from ⟨(hg.block _ K1.out.lt (fun e => by have := (hr0.lt _ e.symm).1; omega)).trans K1.out.at'⟩)
  have K2a := hid (show Blk X3 (w.heap.size + 1) [.int .u8 0, .slice none 0 0, .string ⟨#[]⟩] 36 from ⟨(hg.block _ K2.out.lt (fun e => by have := (hr0.lt _ e.symm).1; omega)).trans K2.out.at'⟩)
  have bwa := hid (bw.out.grown hg (by have := bw.out.size; omega) (fun k hk => by have := (hr0.lt k hk).1; omega))
  obtain ⟨ao, ac, rfl, _, _⟩ := ownsRow_form ho
  rw [Nat.zero_add, List.nil_append] at ho
  rw [Nat.zero_add] at hrun
  have hnv := hid (SlV.own ho)
  have hnin := hid (own_in ho)
  replace hrun := hid hrun
  obtain ⟨c0, c1, c2, cf⟩ := K1.out.three
  obtain ⟨a0, a1, a2, af⟩ := K1a.out.three
  clear hb2 hr0 ho hg K1 K2 bw hs2
  go_upto_region 2 with (at_builtin; refine wpList_app2 rfl (.tmp 3) (.tmp 5) _ _ rfl _ _ _ _ rfl rfl hrun.out ?_)
  clear c0 c1 c2 cf a0 a1 a2 af hrun hX2
  have K1 := hid (show Blk (X3.setCell ⟨w.heap.size, 1, none⟩ (.slice ao s.us.length ac)) w.heap.size [.int .u8 (s.k : Nat), .slice ao s.us.length ac, .string s.t] 36 from K1a.out.set 1 (.slice ao s.us.length ac))
  have K2 := hid (K2a.out.other (p := ⟨w.heap.size, 1, none⟩) (by show w.heap.size ≠ w.heap.size + 1; omega) (.slice ao s.us.length ac))
  have bw := hid (bwa.out.setCell (p := ⟨w.heap.size, 1, none⟩) (Nat.le_refl _) (.slice ao s.us.length ac))
  have hnv2 := hid (sl_stay (w' := X3.setCell ⟨w.heap.size, 1, none⟩ (.slice ao s.us.length ac)) hnv.out (fun e => by rw [List.eq_nil_of_length_eq_zero e]; rfl) hnin.out (fun k hk => Below.heap_setCell _ _ _ _ (by have := hk.1; show k ≠ w.heap.size; omega)))
  clear K1a K2a bwa hnv
  generalize X3.setCell ⟨w.heap.size, 1, none⟩ (.slice ao s.us.length ac) = X4 at K1 K2 bw hnv2 ⊢
  obtain ⟨c0, c1, c2, cf⟩ := K1.out.three
  obtain ⟨d0, d1, d2, df⟩ := K2.out.three
  have hB := hid (below_st3 bw.out (g := w.heap.size + 1) (Nat.le_succ _) (.int .u8 (s.k : Nat)) (.slice ao s.us.length ac) (.string s.t))
  have hokf := hid (show Sc.ok (st3 X4 (w.heap.size + 1) (.int .u8 (s.k : Nat)) (.slice ao s.us.length ac) (.string s.t)) ⟨s.k, s.us, .slice ao s.us.length ac, s.t⟩ from ⟨h'.out.1, h'.out.2.1, h'.out.2.2.1, sl_stay hnv2.out (fun e => by rw [List.eq_nil_of_length_eq_zero e]; rfl) hnin.out (fun k hk => heap_st3 _ _ _ _ _ (by have := hk.1; omega))⟩)
  have hinf := hid (sl_sub (R := S) hnin.out (fun b hb => hS b (by have := hb.1; omega)))
  have hK := hid (show Blk (st3 X4 (w.heap.size + 1) (.int .u8 (s.k : Nat)) (.slice ao s.us.length ac) (.string s.t)) (w.heap.size + 1) [.int .u8 (s.k : Nat), .slice ao s.us.length ac, .string s.t] 36 from blk_st3 K2.out (.int .u8 (s.k : Nat)) (.slice ao s.us.length ac) (.string s.t))
  go_wp2_with fail
  obtain ⟨q0, q1, q2, qf⟩ := hK.out.three
  exact bodyPost_ret (v := .agg #[.int .u8 (s.k : Nat), .slice ao s.us.length ac, .string s.t]) (by unfold st3 at q0 q1 q2; simp [results, Tryz.results38, go_sem, q0, q1, q2]) rfl ⟨⟨.slice ao s.us.length ac, rfl, hokf.out, hinf.out⟩, hB.out⟩
set_option maxHeartbeats 8000000 in
theorem sscope_any (s : Sc) (uv : Value) (w : World) (h : s.ok w) (h2 : Sc.ok w ⟨s.k, s.us, uv, s.t⟩) :
    Calls Tryz.prog 40 #[s.val, Sc.val ⟨s.k, s.us, uv, s.t⟩] w fun e w' => e = .returned (.bool true) ∧ Below w.heap.size w w' := by
  obtain ⟨uo, uc, e1, hl⟩ := h.form
  obtain ⟨uo2, uc2, e2, hl2⟩ := h2.form
  have e2 : uv = .slice uo2 s.us.length uc2 := e2
  subst e2
  have hsl := hid (fun W (B : Below w.heap.size w W) i hi => (h.below B).uid e1 i hi)
  have hsl2 := hid (fun W (B : Below w.heap.size w W) i hi => (h2.below B).uid (uo := uo2) (uc := uc2) rfl i hi)
  rw [show s.val = .agg #[.int .u8 (s.k : Nat), .slice uo s.us.length uc, .string s.t] from by unfold Sc.val Sc.enc; rw [e1], show Sc.val ⟨s.k, s.us, .slice uo2 s.us.length uc2, s.t⟩ = .agg #[.int .u8 (s.k : Nat), .slice uo2 s.us.length uc2, .string s.t] from rfl]
  clear h h2 e1 hl2
  obtain ⟨n, hn⟩ : ∃ n, s.us.length = n := ⟨_, rfl⟩
  rw [hn] at hl ⊢
  replace hn := hid hn
  have i2 : (n : Int) ≤ 9223372036854775807 := by omega
  go_enter Tryz.func40, Tryz.ntmps40
  go_upto_region 1 with fail
  have K1 := hid (Blk.new w [.int .u8 (s.k : Nat), .slice uo n uc, .string s.t] 36)
  have bw := hid ((Below.refl w.heap.size w).alloc (Nat.le_refl _) (.cells #[.int .u8 (s.k : Nat), .slice uo n uc, .string s.t] 36))
  have hs : w.heap.size + 1 = (w.alloc (.cells #[.int .u8 (s.k : Nat), .slice uo n uc, .string s.t] 36)).heap.size := by simp
  generalize w.alloc (.cells #[.int .u8 (s.k : Nat), .slice uo n uc, .string s.t] 36) = X0 at K1 bw hs ⊢
  have K2 := hid (Blk.new' X0 [.int .u8 (s.k : Nat), .slice uo2 n uc2, .string s.t] 36 (w.heap.size + 1) hs)
  replace K1 := hid (K1.out.alloc (.cells #[.int .u8 (s.k : Nat), .slice uo2 n uc2, .string s.t] 36))
  replace bw := hid (bw.out.alloc (by omega) (.cells #[.int .u8 (s.k : Nat), .slice uo2 n uc2, .string s.t] 36))
  clear hs
  generalize X0.alloc (.cells #[.int .u8 (s.k : Nat), .slice uo2 n uc2, .string s.t] 36) = X1 at K1 K2 bw ⊢
  obtain ⟨c0, c1, c2, cf⟩ := K1.out.three
  obtain ⟨d0, d1, d2, df⟩ := K2.out.three
  go_wp2_with fail
  clear c0 c1 c2 cf d0 d1 d2 df
  go_loopw [30] (fun i wr => ∃ k : Nat, k ≤ n ∧ i = .int .i64 k ∧ Hid (Blk wr w.heap.size [.int .u8 (s.k : Nat), .slice uo n uc, .string s.t] 36) ∧ Hid (Blk wr (w.heap.size + 1) [.int .u8 (s.k : Nat), .slice uo2 n uc2, .string s.t] 36) ∧ Hid (Below w.heap.size w wr)) (fun i _ => n - (intOf i).toNat)
  case atStart => exact ⟨0, by omega, rfl, K1, K2, bw⟩
  case round =>
    clear K1 K2 bw
    obtain ⟨k, hk, rfl, K1, K2, bw⟩ := hrel
    rename_i wr _
    by_cases hkn : k < n
    · have hki : (k : Int) < (n : Int) := by omega
      have hk0 : (0 : Int) ≤ (k : Int) := by omega
      have hkl : k < s.us.length := by have := hn.out; omega
      obtain ⟨xb, xo, hxo, x0, x1⟩ := hsl.out wr bw.out k hkl
      obtain ⟨yb, yo, hyo, y0, y1⟩ := hsl2.out wr bw.out k hkl
      subst hxo
      subst hyo
      try simp only at y0 y1
      generalize s.us[k].1 = sa at x0 y0
      generalize s.us[k].2 = sb at x1 y1
      obtain ⟨c0, c1, c2, cf⟩ := K1.out.three
      obtain ⟨d0, d1, d2, df⟩ := K2.out.three
      clear hkl
      go_upto_region 6 with fail
      go_quiet (fail)
      rename_i nq
      replace K1 := hid (show Blk (wr.drewN nq) _ _ _ from ⟨K1.out.at'⟩)
      replace K2 := hid (show Blk (wr.drewN nq) _ _ _ from ⟨K2.out.at'⟩)
      replace bw := hid (Ex.below_drewN bw.out nq)
      clear c0 c1 c2 cf d0 d1 d2 df x0 x1 y0 y1
      generalize wr.drewN nq = w5 at K1 K2 bw ⊢
      go_wp2_with fail
      go_roundw
      case rel => exact ⟨k + 1, by omega, by go_num, K1, K2, bw⟩
      case measure => simp [intOf]; omega
    · have hki : ¬ (k : Int) < (n : Int) := by omega
      go_wp2_with fail
      go_ret
      exact ⟨rfl, bw.out⟩
end Go.Proofs.YtihnhinnohnfgaaGreatDoor.Pol
namespace Go.Proofs.YtihnhinnohnfgaaGreatDoor.Pol
open Go.ChangeShapes Go.WideShapes Go.ChangeAt Go.RowKit
open Go.Proofs.YtihnhinnohnfgaaGreatDoor.Mem
open Go.Proofs.YtihnhinnohnfgaaGreatDoor.Ex (T)
set_option linter.unusedVariables false
set_option linter.unusedSimpArgs false
set_option maxRecDepth 100000
theorem step_append_run {P : Program} {ops : Array Oper} {o : Oper} {a : Act} {w : World} {K : Act → World → Prop} {Q : Exit → Act → World → Prop} {E : Prop}
    (hg : o.guard = none) (s x : Operand) (t : TypeId) (hop : o.op = Op.call { callee := Callee.builtin Builtin.append, args := #[s, x], argTypes := #[t, t] })
    (v1 v2 v : Value) (w' : World) (hs : a.eval s = v1) (hx : a.eval x = v2) (hrun : (Builtin.append_ #[t, t] o.type #[v1, v2]).run P w = .ok v w') (hK : K (a.put o.dst v) w') :
    if Region.wanted o (yielded ops a.tmps) = true then Oper.wp P o a w K Q else E := by
  have hw : Region.wanted o (yielded ops a.tmps) = true := by simp [Region.wanted, hg]
  rw [if_pos hw]
  unfold Oper.wp
  simp [execOp, hop, resolve, invoke, builtin, hs, hx, hrun, Result.andThen]
  exact hK
theorem info_condR : ∃ i z, Tryz.prog.info? 48 = some i ∧ i.zero = some z ∧ i.size = 7 ∧ i.bytes = 104 ∧ z.cells.size = 7 := ⟨_, _, rfl, rfl, rfl, rfl, rfl⟩
def likeC : List Cd → List Cd → Prop
  | [], [] => True
  | a :: r, b :: q => (a.u = b.u ∧ a.e.like b.e) ∧ likeC r q
  | _, _ => False
theorem likeC_snoc {a b : List Cd} {p q : Cd} (h : likeC a b) (h1 : p.u = q.u) (h2 : p.e.like q.e) : likeC (a ++ [p]) (b ++ [q]) := by
  induction a generalizing b with
  | nil =>
    cases b with
    | nil => exact ⟨⟨h1, h2⟩, trivial⟩
    | cons y b => exact absurd h (by simp [likeC])
  | cons x a ih =>
    cases b with
    | nil => exact absurd h (by simp [likeC])
    | cons y b => exact ⟨h.1, ih h.2⟩
theorem likeC_len {a b : List Cd} (h : likeC a b) : a.length = b.length := by
  induction a generalizing b with
  | nil =>
    cases b with
    | nil => rfl
    | cons y b => exact absurd h (by simp [likeC])
  | cons x a ih =>
    cases b with
    | nil => exact absurd h (by simp [likeC])
    | cons y b => rw [List.length_cons, List.length_cons, ih h.2]
theorem likeC_get {a b : List Cd} (h : likeC a b) (i : Nat) (h1 : i < a.length) (h2 : i < b.length) : a[i].u = b[i].u ∧ a[i].e.like b[i].e := by
  induction a generalizing b i with
  | nil => simp at h1
  | cons x a ih =>
    cases b with
    | nil => exact absurd h (by simp [likeC])
    | cons y b =>
      cases i with
      | zero => exact h.1
      | succ i => exact ih h.2 i (by simpa using h1) (by simpa using h2)
theorem slv_in {W : World} {v : Value} {l : List Ud} (h : SlV W v l.length (encU l)) : SlIn (· < W.heap.size) v l.length := fun hn ao m cap e a ha => by
  obtain ⟨b, off, cap', q1, _, _, q4, _⟩ := uid_open h hn
  rw [q1] at e
  simp only [Value.slice.injEq] at e
  rw [← e.1] at ha
  cases ha
  exact q4
/-- the same policy, wherever its parts lie -/
def PoBuilt (x : Po) (e : Ending) (w' : World) : Prop := ∃ va vb vc l lv, e = .returned (Po.val ⟨x.p, ⟨x.a.k, x.a.us, va, x.a.t⟩, ⟨x.b.k, x.b.us, vb, x.b.t⟩, ⟨x.c.k, x.c.us, vc, x.c.t⟩, l, lv⟩) ∧ likeC x.l l ∧ Po.ok w' ⟨x.p, ⟨x.a.k, x.a.us, va, x.a.t⟩, ⟨x.b.k, x.b.us, vb, x.b.t⟩, ⟨x.c.k, x.c.us, vc, x.c.t⟩, l, lv⟩
set_option maxHeartbeats 16000000 in
theorem pcopy_any (x : Po) (w : World) (h : x.ok w) :
    Calls Tryz.prog 16 #[x.val] w fun e w' => PoBuilt x e w' ∧ Below w.heap.size w w' := by
  have cAa := hid (fun W (b : Below w.heap.size w W) (hs : w.heap.size + 2 ≤ W.heap.size) => cscope_any x.a W (h.below b).1.1 (fun b => b ≠ w.heap.size ∧ b ≠ w.heap.size + 1) (fun k hk => ⟨by omega, by omega⟩))
  have cAb := hid (fun W (b : Below w.heap.size w W) (hs : w.heap.size + 2 ≤ W.heap.size) => cscope_any x.b W (h.below b).1.2.1 (fun b => b ≠ w.heap.size ∧ b ≠ w.heap.size + 1) (fun k hk => ⟨by omega, by omega⟩))
  have cAc := hid (fun W (b : Below w.heap.size w W) (hs : w.heap.size + 2 ≤ W.heap.size) => cscope_any x.c W (h.below b).1.2.2 (fun b => b ≠ w.heap.size ∧ b ≠ w.heap.size + 1) (fun k hk => ⟨by omega, by omega⟩))
  obtain ⟨ao, ac, e1, _⟩ := h.1.1.form
  obtain ⟨bo, bc, e2, _⟩ := h.1.2.1.form
  obtain ⟨co, cc, e3, _⟩ := h.1.2.2.form
  obtain ⟨lo, lc, e4, hl⟩ := h.form
  rw [show x.a.val = .agg #[.int .u8 (x.a.k : Nat), .slice ao x.a.us.length ac, .string x.a.t] from by unfold Sc.val Sc.enc; rw [e1]] at cAa
  rw [show x.b.val = .agg #[.int .u8 (x.b.k : Nat), .slice bo x.b.us.length bc, .string x.b.t] from by unfold Sc.val Sc.enc; rw [e2]] at cAb
  rw [show x.c.val = .agg #[.int .u8 (x.c.k : Nat), .slice co x.c.us.length cc, .string x.c.t] from by unfold Sc.val Sc.enc; rw [e3]] at cAc
  have hcells := hid (fun W (B : Below w.heap.size w W) k (hk : k < x.l.length) => (h.below B).cond e4 k hk)
  have hcd := hid (fun (c : Cd) (hc : c ∈ x.l) => h.2.2.1 c hc)
  have hbytes : x.l.length * 104 ≤ 140737488355328 := h.2.1
  have h' := hid h
  rw [Po.val_eq e1 e2 e3 e4]
  obtain ⟨m, hm⟩ : ∃ m, x.l.length = m := ⟨_, rfl⟩
  rw [hm] at hl hbytes ⊢
  replace hm := hid hm
  have i2 : (m : Int) ≤ 9223372036854775807 := by omega
  obtain ⟨ic, zc, hi, hz0, hz1, hz2, hz3⟩ := info_condR
  clear h e1 e2 e3 e4
  go_enter Tryz.func16, Tryz.ntmps16
  go_upto_region 1 with fail
  have K1 := hid (Blk.new w [.bool x.p, .int .u8 (x.a.k : Nat), .slice ao x.a.us.length ac, .string x.a.t, .int .u8 (x.b.k : Nat), .slice bo x.b.us.length bc, .string x.b.t, .int .u8 (x.c.k : Nat), .slice co x.c.us.length cc, .string x.c.t, .slice lo m lc] 39)
  have bw := hid ((Below.refl w.heap.size w).alloc (Nat.le_refl _) (.cells #[.bool x.p, .int .u8 (x.a.k : Nat), .slice ao x.a.us.length ac, .string x.a.t, .int .u8 (x.b.k : Nat), .slice bo x.b.us.length bc, .string x.b.t, .int .u8 (x.c.k : Nat), .slice co x.c.us.length cc, .string x.c.t, .slice lo m lc] 39))
  have hs : w.heap.size + 1 = (w.alloc (.cells #[.bool x.p, .int .u8 (x.a.k : Nat), .slice ao x.a.us.length ac, .string x.a.t, .int .u8 (x.b.k : Nat), .slice bo x.b.us.length bc, .string x.b.t, .int .u8 (x.c.k : Nat), .slice co x.c.us.length cc, .string x.c.t, .slice lo m lc] 39)).heap.size := by simp
  generalize w.alloc (.cells #[.bool x.p, .int .u8 (x.a.k : Nat), .slice ao x.a.us.length ac, .string x.a.t, .int .u8 (x.b.k : Nat), .slice bo x.b.us.length bc, .string x.b.t, .int .u8 (x.c.k : Nat), .slice co x.c.us.length cc, .string x.c.t, .slice lo m lc] 39) = X0 at K1 bw hs ⊢
  have K2 := hid (Blk.new' X0 [.bool false, .int .u8 0, .slice none 0 0, .string ⟨#[]⟩, .int .u8 0, .slice none 0 0, .string ⟨#[]⟩, .int .u8 0, .slice none 0 0, .string ⟨#[]⟩, .slice none 0 0] 39 (w.heap.size + 1) hs)
  replace K1 := hid (K1.out.alloc (.cells #[.bool false, .int .u8 0, .slice none 0 0, .string ⟨#[]⟩, .int .u8 0, .slice none 0 0, .string ⟨#[]⟩, .int .u8 0, .slice none 0 0, .string ⟨#[]⟩, .slice none 0 0] 39))
  replace bw := hid (bw.out.alloc (by omega) (.cells #[.bool false, .int .u8 0, .slice none 0 0, .string ⟨#[]⟩, .int .u8 0, .slice none 0 0, .string ⟨#[]⟩, .int .u8 0, .slice none 0 0, .string ⟨#[]⟩, .slice none 0 0] 39))
  clear hs
  generalize X0.alloc (.cells #[.bool false, .int .u8 0, .slice none 0 0, .string ⟨#[]⟩, .int .u8 0, .slice none 0 0, .string ⟨#[]⟩, .int .u8 0, .slice none 0 0, .string ⟨#[]⟩, .slice none 0 0] 39) = V0 at K1 K2 bw ⊢
  obtain ⟨c0, c1, c2, c3, c4, c5, c6, c7, c8, c9, c10, cf⟩ := eleven K1.out
  go_wp2_with fail
  refine (cAa.out _ bw.out (Nat.succ_le_of_lt K2.out.lt)).mono ?_
  rintro e V1w ⟨⟨uv, rfl, hoka, hina⟩, b1⟩
  obtain ⟨a1, q1, hea, _⟩ := hoka.form
  have hea : uv = .slice a1 x.a.us.length q1 := hea
  subst hea
  rw [show Sc.val ⟨x.a.k, x.a.us, .slice a1 x.a.us.length q1, x.a.t⟩ = .agg #[.int .u8 (x.a.k : Nat), .slice a1 x.a.us.length q1, .string x.a.t] from rfl]
  replace K1 := hid (K1.out.below b1 K1.out.lt)
  replace K2 := hid (K2.out.below b1 K2.out.lt)
  replace bw := hid (bt bw.out b1)
  clear c0 c1 c2 c3 c4 c5 c6 c7 c8 c9 c10 cf cAa
  clear b1
  have hsla := hoka.2.2.2
  obtain ⟨c0, c1, c2, c3, c4, c5, c6, c7, c8, c9, c10, cf⟩ := eleven K1.out
  go_upto_region 2 with fail
  clear c0 c1 c2 c3 c4 c5 c6 c7 c8 c9 c10 cf
  have hkp : ∀ b, b ≠ w.heap.size → (((V1w.setCell ⟨w.heap.size, 1, none⟩ (.int .u8 (x.a.k : Nat))).setCell ⟨w.heap.size, 2, none⟩ (.slice a1 x.a.us.length q1)).setCell ⟨w.heap.size, 3, none⟩ (.string x.a.t)).heap[b]? = V1w.heap[b]? := fun b hb => by repeat rw [Below.heap_setCell _ _ _ _ (by simpa using hb)]
  replace K1 := hid (show Blk (((V1w.setCell ⟨w.heap.size, 1, none⟩ (.int .u8 (x.a.k : Nat))).setCell ⟨w.heap.size, 2, none⟩ (.slice a1 x.a.us.length q1)).setCell ⟨w.heap.size, 3, none⟩ (.string x.a.t)) w.heap.size [.bool x.p, .int .u8 (x.a.k : Nat), .slice a1 x.a.us.length q1, .string x.a.t, .int .u8 (x.b.k : Nat), .slice bo x.b.us.length bc, .string x.b.t, .int .u8 (x.c.k : Nat), .slice co x.c.us.length cc, .string x.c.t, .slice lo m lc] 39 from ((K1.out.set 1 (.int .u8 (x.a.k : Nat))).set 2 (.slice a1 x.a.us.length q1)).set 3 (.string x.a.t))
  replace K2 := hid (show Blk (((V1w.setCell ⟨w.heap.size, 1, none⟩ (.int .u8 (x.a.k : Nat))).setCell ⟨w.heap.size, 2, none⟩ (.slice a1 x.a.us.length q1)).setCell ⟨w.heap.size, 3, none⟩ (.string x.a.t)) _ _ _ from Blk.keepAt K2.out (hkp _ (by omega)))
  replace bw := hid (show Below w.heap.size w (((V1w.setCell ⟨w.heap.size, 1, none⟩ (.int .u8 (x.a.k : Nat))).setCell ⟨w.heap.size, 2, none⟩ (.slice a1 x.a.us.length q1)).setCell ⟨w.heap.size, 3, none⟩ (.string x.a.t)) from (((bw.out.setCell (p := ⟨w.heap.size, 1, none⟩) (Nat.le_refl _) _).setCell (p := ⟨w.heap.size, 2, none⟩) (Nat.le_refl _) _).setCell (p := ⟨w.heap.size, 3, none⟩) (Nat.le_refl _) _))
  have hsa := hid (show SlV (((V1w.setCell ⟨w.heap.size, 1, none⟩ (.int .u8 (x.a.k : Nat))).setCell ⟨w.heap.size, 2, none⟩ (.slice a1 x.a.us.length q1)).setCell ⟨w.heap.size, 3, none⟩ (.string x.a.t)) (.slice a1 x.a.us.length q1) x.a.us.length (encU x.a.us) from sl_stay hsla (fun e => by rw [List.eq_nil_of_length_eq_zero e]; rfl) hina (fun b hb => hkp b hb.1))
  have hia := hid (show SlIn (fun b => b ≠ w.heap.size ∧ b ≠ w.heap.size + 1) (.slice a1 x.a.us.length q1) x.a.us.length from hina)
  clear hsla hoka hina hkp
  generalize (((V1w.setCell ⟨w.heap.size, 1, none⟩ (.int .u8 (x.a.k : Nat))).setCell ⟨w.heap.size, 2, none⟩ (.slice a1 x.a.us.length q1)).setCell ⟨w.heap.size, 3, none⟩ (.string x.a.t)) = V1 at K1 K2 bw hsa ⊢
  obtain ⟨c0, c1, c2, c3, c4, c5, c6, c7, c8, c9, c10, cf⟩ := eleven K1.out
  go_wp2_with fail
  refine (cAb.out _ bw.out (Nat.succ_le_of_lt K2.out.lt)).mono ?_
  rintro e V2w ⟨⟨uv, rfl, hokb, hinb⟩, b1⟩
  obtain ⟨a2, q2, heb, _⟩ := hokb.form
  have heb : uv = .slice a2 x.b.us.length q2 := heb
  subst heb
  rw [show Sc.val ⟨x.b.k, x.b.us, .slice a2 x.b.us.length q2, x.b.t⟩ = .agg #[.int .u8 (x.b.k : Nat), .slice a2 x.b.us.length q2, .string x.b.t] from rfl]
  replace K1 := hid (K1.out.below b1 K1.out.lt)
  replace K2 := hid (K2.out.below b1 K2.out.lt)
  replace bw := hid (bt bw.out b1)
  clear c0 c1 c2 c3 c4 c5 c6 c7 c8 c9 c10 cf cAb
  replace hsa := hid (SlV.below hsa.out b1)
  clear b1
  have hslb := hokb.2.2.2
  obtain ⟨c0, c1, c2, c3, c4, c5, c6, c7, c8, c9, c10, cf⟩ := eleven K1.out
  go_upto_region 3 with fail
  clear c0 c1 c2 c3 c4 c5 c6 c7 c8 c9 c10 cf
  have hkp : ∀ b, b ≠ w.heap.size → (((V2w.setCell ⟨w.heap.size, 4, none⟩ (.int .u8 (x.b.k : Nat))).setCell ⟨w.heap.size, 5, none⟩ (.slice a2 x.b.us.length q2)).setCell ⟨w.heap.size, 6, none⟩ (.string x.b.t)).heap[b]? = V2w.heap[b]? := fun b hb => by repeat rw [Below.heap_setCell _ _ _ _ (by simpa using hb)]
  replace K1 := hid (show Blk (((V2w.setCell ⟨w.heap.size, 4, none⟩ (.int .u8 (x.b.k : Nat))).setCell ⟨w.heap.size, 5, none⟩ (.slice a2 x.b.us.length q2)).setCell ⟨w.heap.size, 6, none⟩ (.string x.b.t)) w.heap.size [.bool x.p, .int .u8 (x.a.k : Nat), .slice a1 x.a.us.length q1, .string x.a.t, .int .u8 (x.b.k : Nat), .slice a2 x.b.us.length q2, .string x.b.t, .int .u8 (x.c.k : Nat), .slice co x.c.us.length cc, .string x.c.t, .slice lo m lc] 39 from ((K1.out.set 4 (.int .u8 (x.b.k : Nat))).set 5 (.slice a2 x.b.us.length q2)).set 6 (.string x.b.t))
  replace K2 := hid (show Blk (((V2w.setCell ⟨w.heap.size, 4, none⟩ (.int .u8 (x.b.k : Nat))).setCell ⟨w.heap.size, 5, none⟩ (.slice a2 x.b.us.length q2)).setCell ⟨w.heap.size, 6, none⟩ (.string x.b.t)) _ _ _ from Blk.keepAt K2.out (hkp _ (by omega)))
  replace bw := hid (show Below w.heap.size w (((V2w.setCell ⟨w.heap.size, 4, none⟩ (.int .u8 (x.b.k : Nat))).setCell ⟨w.heap.size, 5, none⟩ (.slice a2 x.b.us.length q2)).setCell ⟨w.heap.size, 6, none⟩ (.string x.b.t)) from (((bw.out.setCell (p := ⟨w.heap.size, 4, none⟩) (Nat.le_refl _) _).setCell (p := ⟨w.heap.size, 5, none⟩) (Nat.le_refl _) _).setCell (p := ⟨w.heap.size, 6, none⟩) (Nat.le_refl _) _))
  have hsb := hid (show SlV (((V2w.setCell ⟨w.heap.size, 4, none⟩ (.int .u8 (x.b.k : Nat))).setCell ⟨w.heap.size, 5, none⟩ (.slice a2 x.b.us.length q2)).setCell ⟨w.heap.size, 6, none⟩ (.string x.b.t)) (.slice a2 x.b.us.length q2) x.b.us.length (encU x.b.us) from sl_stay hslb (fun e => by rw [List.eq_nil_of_length_eq_zero e]; rfl) hinb (fun b hb => hkp b hb.1))
  replace hsa := hid (show SlV (((V2w.setCell ⟨w.heap.size, 4, none⟩ (.int .u8 (x.b.k : Nat))).setCell ⟨w.heap.size, 5, none⟩ (.slice a2 x.b.us.length q2)).setCell ⟨w.heap.size, 6, none⟩ (.string x.b.t)) (.slice a1 x.a.us.length q1) x.a.us.length (encU x.a.us) from sl_stay hsa.out (fun e => by rw [List.eq_nil_of_length_eq_zero e]; rfl) hia.out (fun b hb => hkp b hb.1))
  have hib := hid (show SlIn (fun b => b ≠ w.heap.size ∧ b ≠ w.heap.size + 1) (.slice a2 x.b.us.length q2) x.b.us.length from hinb)
  clear hslb hokb hinb hkp
  generalize (((V2w.setCell ⟨w.heap.size, 4, none⟩ (.int .u8 (x.b.k : Nat))).setCell ⟨w.heap.size, 5, none⟩ (.slice a2 x.b.us.length q2)).setCell ⟨w.heap.size, 6, none⟩ (.string x.b.t)) = V2 at K1 K2 bw hsa hsb ⊢
  obtain ⟨c0, c1, c2, c3, c4, c5, c6, c7, c8, c9, c10, cf⟩ := eleven K1.out
  go_wp2_with fail
  refine (cAc.out _ bw.out (Nat.succ_le_of_lt K2.out.lt)).mono ?_
  rintro e V3w ⟨⟨uv, rfl, hokc, hinc⟩, b1⟩
  obtain ⟨a3, q3, hec, _⟩ := hokc.form
  have hec : uv = .slice a3 x.c.us.length q3 := hec
  subst hec
  rw [show Sc.val ⟨x.c.k, x.c.us, .slice a3 x.c.us.length q3, x.c.t⟩ = .agg #[.int .u8 (x.c.k : Nat), .slice a3 x.c.us.length q3, .string x.c.t] from rfl]
  replace K1 := hid (K1.out.below b1 K1.out.lt)
  replace K2 := hid (K2.out.below b1 K2.out.lt)
  replace bw := hid (bt bw.out b1)
  clear c0 c1 c2 c3 c4 c5 c6 c7 c8 c9 c10 cf cAc
  replace hsa := hid (SlV.below hsa.out b1)
  replace hsb := hid (SlV.below hsb.out b1)
  clear b1
  have hslc := hokc.2.2.2
  obtain ⟨c0, c1, c2, c3, c4, c5, c6, c7, c8, c9, c10, cf⟩ := eleven K1.out
  go_upto_region 4 with fail
  clear c0 c1 c2 c3 c4 c5 c6 c7 c8 c9 c10 cf
  have hkp : ∀ b, b ≠ w.heap.size → (((V3w.setCell ⟨w.heap.size, 7, none⟩ (.int .u8 (x.c.k : Nat))).setCell ⟨w.heap.size, 8, none⟩ (.slice a3 x.c.us.length q3)).setCell ⟨w.heap.size, 9, none⟩ (.string x.c.t)).heap[b]? = V3w.heap[b]? := fun b hb => by repeat rw [Below.heap_setCell _ _ _ _ (by simpa using hb)]
  replace K1 := hid (show Blk (((V3w.setCell ⟨w.heap.size, 7, none⟩ (.int .u8 (x.c.k : Nat))).setCell ⟨w.heap.size, 8, none⟩ (.slice a3 x.c.us.length q3)).setCell ⟨w.heap.size, 9, none⟩ (.string x.c.t)) w.heap.size [.bool x.p, .int .u8 (x.a.k : Nat), .slice a1 x.a.us.length q1, .string x.a.t, .int .u8 (x.b.k : Nat), .slice a2 x.b.us.length q2, .string x.b.t, .int .u8 (x.c.k : Nat), .slice a3 x.c.us.length q3, .string x.c.t, .slice lo m lc] 39 from ((K1.out.set 7 (.int .u8 (x.c.k : Nat))).set 8 (.slice a3 x.c.us.length q3)).set 9 (.string x.c.t))
  replace K2 := hid (show Blk (((V3w.setCell ⟨w.heap.size, 7, none⟩ (.int .u8 (x.c.k : Nat))).setCell ⟨w.heap.size, 8, none⟩ (.slice a3 x.c.us.length q3)).setCell ⟨w.heap.size, 9, none⟩ (.string x.c.t)) _ _ _ from Blk.keepAt K2.out (hkp _ (by omega)))
  replace bw := hid (show Below w.heap.size w (((V3w.setCell ⟨w.heap.size, 7, none⟩ (.int .u8 (x.c.k : Nat))).setCell ⟨w.heap.size, 8, none⟩ (.slice a3 x.c.us.length q3)).setCell ⟨w.heap.size, 9, none⟩ (.string x.c.t)) from (((bw.out.setCell (p := ⟨w.heap.size, 7, none⟩) (Nat.le_refl _) _).setCell (p := ⟨w.heap.size, 8, none⟩) (Nat.le_refl _) _).setCell (p := ⟨w.heap.size, 9, none⟩) (Nat.le_refl _) _))
  have hsc := hid (show SlV (((V3w.setCell ⟨w.heap.size, 7, none⟩ (.int .u8 (x.c.k : Nat))).setCell ⟨w.heap.size, 8, none⟩ (.slice a3 x.c.us.length q3)).setCell ⟨w.heap.size, 9, none⟩ (.string x.c.t)) (.slice a3 x.c.us.length q3) x.c.us.length (encU x.c.us) from sl_stay hslc (fun e => by rw [List.eq_nil_of_length_eq_zero e]; rfl) hinc (fun b hb => hkp b hb.1))
  replace hsa := hid (show SlV (((V3w.setCell ⟨w.heap.size, 7, none⟩ (.int .u8 (x.c.k : Nat))).setCell ⟨w.heap.size, 8, none⟩ (.slice a3 x.c.us.length q3)).setCell ⟨w.heap.size, 9, none⟩ (.string x.c.t)) (.slice a1 x.a.us.length q1) x.a.us.length (encU x.a.us) from sl_stay hsa.out (fun e => by rw [List.eq_nil_of_length_eq_zero e]; rfl) hia.out (fun b hb => hkp b hb.1))
  replace hsb := hid (show SlV (((V3w.setCell ⟨w.heap.size, 7, none⟩ (.int .u8 (x.c.k : Nat))).setCell ⟨w.heap.size, 8, none⟩ (.slice a3 x.c.us.length q3)).setCell ⟨w.heap.size, 9, none⟩ (.string x.c.t)) (.slice a2 x.b.us.length q2) x.b.us.length (encU x.b.us) from sl_stay hsb.out (fun e => by rw [List.eq_nil_of_length_eq_zero e]; rfl) hib.out (fun b hb => hkp b hb.1))
  have hic := hid (show SlIn (fun b => b ≠ w.heap.size ∧ b ≠ w.heap.size + 1) (.slice a3 x.c.us.length q3) x.c.us.length from hinc)
  clear hslc hokc hinc hkp
  generalize (((V3w.setCell ⟨w.heap.size, 7, none⟩ (.int .u8 (x.c.k : Nat))).setCell ⟨w.heap.size, 8, none⟩ (.slice a3 x.c.us.length q3)).setCell ⟨w.heap.size, 9, none⟩ (.string x.c.t)) = V3 at K1 K2 bw hsa hsb hsc ⊢
  have hge := hid (show w.heap.size + 2 ≤ V3.heap.size from Nat.succ_le_of_lt K2.out.lt)
  obtain ⟨BB, hBB⟩ : ∃ B, V3.heap.size = B := ⟨_, rfl⟩
  have hja := hid (show SlIn (· < BB) (.slice a1 x.a.us.length q1) x.a.us.length from hBB ▸ slv_in hsa.out)
  have hjb := hid (show SlIn (· < BB) (.slice a2 x.b.us.length q2) x.b.us.length from hBB ▸ slv_in hsb.out)
  have hjc := hid (show SlIn (· < BB) (.slice a3 x.c.us.length q3) x.c.us.length from hBB ▸ slv_in hsc.out)
  have hB := hid (show BB ≤ V3.heap.size by omega)
  rw [hBB] at hge
  clear hBB
  obtain ⟨c0, c1, c2, c3, c4, c5, c6, c7, c8, c9, c10, cf⟩ := eleven K1.out
  go_wp2_with fail
  clear c0 c1 c2 c3 c4 c5 c6 c7 c8 c9 c10 cf
  go_loopw [3, 21] (fun av i wr => ∃ (k : Nat) (ys : List Cd), k ≤ m ∧ i = .int .i64 k ∧ (∃ ao9 cap, av = .slice ao9 k cap ∧ Hid (wr.ownsRow BB 48 7 (.slice ao9 k cap) k (encC ys)) ∧ Hid (∀ u ∈ ys, u.e.ok wr ∧ u.e.inS (fun b => b ≠ w.heap.size ∧ b ≠ w.heap.size + 1 ∧ (Value.slice ao9 k cap).ownBlock ≠ some b))) ∧ Hid (likeC (x.l.take k) ys) ∧ Hid (SlV wr (.slice a1 x.a.us.length q1) x.a.us.length (encU x.a.us)) ∧ Hid (SlV wr (.slice a2 x.b.us.length q2) x.b.us.length (encU x.b.us)) ∧ Hid (SlV wr (.slice a3 x.c.us.length q3) x.c.us.length (encU x.c.us)) ∧ Hid (Blk wr w.heap.size [.bool x.p, .int .u8 (x.a.k : Nat), .slice a1 x.a.us.length q1, .string x.a.t, .int .u8 (x.b.k : Nat), .slice a2 x.b.us.length q2, .string x.b.t, .int .u8 (x.c.k : Nat), .slice a3 x.c.us.length q3, .string x.c.t, .slice lo m lc] 39) ∧ Hid (Blk wr (w.heap.size + 1) [.bool false, .int .u8 0, .slice none 0 0, .string ⟨#[]⟩, .int .u8 0, .slice none 0 0, .string ⟨#[]⟩, .int .u8 0, .slice none 0 0, .string ⟨#[]⟩, .slice none 0 0] 39) ∧ Hid (BB ≤ wr.heap.size) ∧ Hid (Below w.heap.size w wr)) (fun _ i _ => m - (intOf i).toNat)
  case atStart => exact ⟨0, [], by omega, rfl, ⟨none, 0, rfl, hid (World.ownsRow_nil _ _ _ _), hid (fun y hy => by cases hy)⟩, hid trivial, hsa, hsb, hsc, K1, K2, hB, bw⟩
  case round =>
    clear K1 K2 bw hsa hsb hsc hB
    obtain ⟨k, ys, hk, rfl, ⟨ao9, cap, rfl, hown, hys⟩, hlk, hsa, hsb, hsc, K1, K2, hB, bw⟩ := hrel
    rename_i wr _
    by_cases hkm : k < m
    · have hki : (k : Int) < (m : Int) := by omega
      have hkl : k < x.l.length := by have := hm.out; omega
      obtain ⟨b, off, hlo, z0, z1, z2, z3, z4, z5, z6⟩ := hcells.out wr bw.out k hkl
      subst hlo
      obtain ⟨c, hc⟩ : ∃ c, x.l[k] = c := ⟨_, rfl⟩
      have hst := hid (show x.l.take (k + 1) = x.l.take k ++ [c] by rw [List.take_succ_eq_append_getElem hkl, hc])
      have hcm := hid (hcd.out c (hc ▸ List.getElem_mem hkl))
      rw [hc] at z0 z1 z2 z3 z4 z5 z6
      obtain ⟨no, nc, l9, lc9, ec1, ec2, cl1, cl2⟩ := hcm.out.forms
      rw [ec1] at z5
      rw [ec2] at z6
      have hcv := hid (Ex.T.val_eq ec1 ec2)
      clear ec1 ec2 hc hkl
      go_upto_region 8 with fail
      have K5 := hid (Blk.new wr [.bool c.u, .int .u8 (c.e.kind : Nat), .int .i64 c.e.num, .string c.e.str, .string c.e.typ, .slice no c.e.names.length nc, .slice l9 c.e.list.length lc9] 48)
      have hbX := (Below.refl wr.heap.size wr).alloc (Nat.le_refl _) (.cells #[.bool c.u, .int .u8 (c.e.kind : Nat), .int .i64 c.e.num, .string c.e.str, .string c.e.typ, .slice no c.e.names.length nc, .slice l9 c.e.list.length lc9] 48)
      have hb5n := hid (show (Value.slice ao9 k cap).ownBlock ≠ some wr.heap.size from fun e => by have := (hown.out.lt _ e).2; omega)
      replace K1 := hid (K1.out.below hbX K1.out.lt)
      replace K2 := hid (K2.out.below hbX K2.out.lt)
      have hown3 := hid (ownsRow_below hown.out hbX)
      have hys3 := hid (fun y (hy : y ∈ ys) => (show _ ∧ _ from ⟨(hys.out y hy).1.below hbX, (hys.out y hy).2⟩))
      replace hsa := hid (SlV.below hsa.out hbX)
      replace hsb := hid (SlV.below hsb.out hbX)
      replace hsc := hid (SlV.below hsc.out hbX)
      replace hB := hid (Nat.le_trans hB.out hbX.size)
      replace bw := hid (bt bw.out hbX)
      clear z0 z1 z2 z3 z4 z5 z6 hown hys hbX
      generalize wr.alloc (.cells #[.bool c.u, .int .u8 (c.e.kind : Nat), .int .i64 c.e.num, .string c.e.str, .string c.e.typ, .slice no c.e.names.length nc, .slice l9 c.e.list.length lc9] 48) = X5 at K1 K2 K5 hown3 hys3 hsa hsb hsc hB bw ⊢
      generalize wr.heap.size = b5 at K5 hb5n ⊢
      have hcl := hid (show ∀ W, Below X5.heap.size X5 W → Calls Tryz.prog 39 #[c.e.val] W fun e w' => Built (fun b => b ≠ w.heap.size ∧ b ≠ w.heap.size + 1 ∧ (Value.slice ao9 k cap).ownBlock ≠ some b) c.e e w' ∧ Below W.heap.size W w' from fun W b9 => rcopy_any c.e W (fun b => b ≠ w.heap.size ∧ b ≠ w.heap.size + 1 ∧ (Value.slice ao9 k cap).ownBlock ≠ some b) ((hcm.out.below bw.out).below b9) (fun b hb => ⟨by have := K2.out.lt; have := b9.size; omega, by have := K2.out.lt; have := b9.size; omega, fun e => by have := (hown3.out.lt b e).2; have := b9.size; omega⟩))
      rw [hcv.out] at hcl
      refine wp_region_held_drew (S := (fun W => W.cell? ⟨b5, 0, none⟩ = some (.bool c.u) ∧ W.cell? ⟨b5, 1, none⟩ = some (.int .u8 (c.e.kind : Nat)) ∧ W.cell? ⟨b5, 2, none⟩ = some (.int .i64 c.e.num) ∧ W.cell? ⟨b5, 3, none⟩ = some (.string c.e.str) ∧ W.cell? ⟨b5, 4, none⟩ = some (.string c.e.typ) ∧ W.cell? ⟨b5, 5, none⟩ = some (.slice no c.e.names.length nc) ∧ W.cell? ⟨b5, 6, none⟩ = some (.slice l9 c.e.list.length lc9))) (by kernel_rfl) (by obtain ⟨s0, s1, s2, s3, s4, s5, s6, -⟩ := seven K5.out; exact ⟨s0, s1, s2, s3, s4, s5, s6⟩) (fun hHeld => ?_)
      replace hcl := hid (hcl.out X5.drew (Below.refl X5.heap.size X5).drew)
      replace K1 := hid K1.out.drew
      replace K2 := hid K2.out.drew
      replace K5 := hid K5.out.drew
      replace hown3 := hid (ownsRow_below hown3.out ((Below.refl X5.heap.size X5).drew))
      replace hys3 := hid (fun y (hy : y ∈ ys) => (show _ ∧ _ from ⟨(hys3.out y hy).1.below ((Below.refl X5.heap.size X5).drew), (hys3.out y hy).2⟩))
      replace hsa := hid (SlV.below hsa.out (Below.refl X5.heap.size X5).drew)
      replace hsb := hid (SlV.below hsb.out (Below.refl X5.heap.size X5).drew)
      replace hsc := hid (SlV.below hsc.out (Below.refl X5.heap.size X5).drew)
      replace hB := hid (show BB ≤ X5.drew.heap.size from hB.out)
      replace bw := hid bw.out.drew
      generalize X5.drew = X6 at K1 K2 K5 hown3 hys3 hsa hsb hsc hB bw hcl hHeld ⊢
      refine wpAnyH_take (i := 0) (v := ?_) rfl (by kernel_rfl) (by kernel_rfl) (by kernel_rfl) (fun _ _ _ h => h) (Or.inl ⟨by rfl, ?_⟩) (by assumption) ?_; rotate_left 1; (intro w hSw; (try dsimp only at hSw); go_simp; try with_reducible rfl); (try simp only [Act.put, List.getElem_toArray, List.getElem_cons_zero, List.getElem_cons_succ, List.setIfInBounds_toArray, List.set_cons_zero, List.set_cons_succ])
      refine wpAnyH_take (i := 1) (v := ?_) rfl (by kernel_rfl) (by kernel_rfl) (by kernel_rfl) (fun _ _ _ h => h) (Or.inl ⟨by rfl, ?_⟩) (by assumption) ?_; rotate_left 1; (intro w hSw; (try dsimp only at hSw); go_simp; try with_reducible rfl); (try simp only [Act.put, List.getElem_toArray, List.getElem_cons_zero, List.getElem_cons_succ, List.setIfInBounds_toArray, List.set_cons_zero, List.set_cons_succ])
      refine wpAnyH_take (i := 2) (v := ?_) rfl (by kernel_rfl) (by kernel_rfl) (by kernel_rfl) (fun _ _ _ h => h) (Or.inl ⟨by rfl, ?_⟩) (by assumption) ?_; rotate_left 1; (intro w hSw; (try dsimp only at hSw); go_simp; try with_reducible rfl); (try simp only [Act.put, List.getElem_toArray, List.getElem_cons_zero, List.getElem_cons_succ, List.setIfInBounds_toArray, List.set_cons_zero, List.set_cons_succ])
      refine wpAnyH_take (i := 3) (v := ?_) rfl (by kernel_rfl) (by kernel_rfl) (by kernel_rfl) (fun _ _ _ h => h) (Or.inl ⟨by rfl, ?_⟩) (by assumption) ?_; rotate_left 1; (intro w hSw; (try dsimp only at hSw); go_simp; try with_reducible rfl); (try simp only [Act.put, List.getElem_toArray, List.getElem_cons_zero, List.getElem_cons_succ, List.setIfInBounds_toArray, List.set_cons_zero, List.set_cons_succ])
      refine wpAnyH_take (i := 4) (v := ?_) rfl (by kernel_rfl) (by kernel_rfl) (by kernel_rfl) (fun _ _ _ h => h) (Or.inl ⟨by rfl, ?_⟩) (by assumption) ?_; rotate_left 1; (intro w hSw; (try dsimp only at hSw); go_simp; try with_reducible rfl); (try simp only [Act.put, List.getElem_toArray, List.getElem_cons_zero, List.getElem_cons_succ, List.setIfInBounds_toArray, List.set_cons_zero, List.set_cons_succ])
      refine wpAnyH_ready (rs := [5]) (by kernel_rfl) (by simp) ?_
      refine AllReadyH.cons rfl (fun K hK => ?_) AllReadyH.nil
      go_simp
      (with_reducible refine (hcl.out).mono ?_)
      rintro e w6 ⟨⟨y, rfl, hyl, hyok, hyin⟩, b6⟩
      obtain ⟨yno, ync, ylo, ylc, ey1, ey2, yl1, yl2⟩ := hyok.forms
      have hye := enc_eq ey1 ey2
      rw [Ex.T.val_eq ey1 ey2]
      replace hown3 := hid (ownsRow_below hown3.out b6)
      have hys6 := hid (fun u (hu : u ∈ ys) => (show _ ∧ _ from ⟨(hys3.out u hu).1.below b6, (hys3.out u hu).2⟩))
      replace K1 := hid (K1.out.below b6 K1.out.lt)
      replace K2 := hid (K2.out.below b6 K2.out.lt)
      replace K5 := hid (K5.out.below b6 K5.out.lt)
      replace hsa := hid (SlV.below hsa.out b6)
      replace hsb := hid (SlV.below hsb.out b6)
      replace hsc := hid (SlV.below hsc.out b6)
      replace hB := hid (Nat.le_trans hB.out b6.size)
      replace bw := hid (bt bw.out b6)
      clear b6 hcl ey1 ey2 hys3
      refine hK.out _ _ ((by obtain ⟨s0, s1, s2, s3, s4, s5, s6, -⟩ := seven K5.out; exact ⟨s0, s1, s2, s3, s4, s5, s6⟩)) (fun hHeldN => ?_)
      clear hK K hHeld
      have hHeld := hHeldN
      clear hHeldN
      (try simp only [Act.put, List.getElem_toArray, List.getElem_cons_zero, List.getElem_cons_succ, List.setIfInBounds_toArray, List.set_cons_zero, List.set_cons_succ])
      refine wpAnyH_take (i := 6) (v := ?_) rfl (by kernel_rfl) (by kernel_rfl) (by kernel_rfl) (fun _ _ _ h => h) (Or.inl ⟨by rfl, ?_⟩) (by assumption) ?_; rotate_left 1; (intro w hSw; (try dsimp only at hSw); go_simp; try with_reducible rfl); (try simp only [Act.put, List.getElem_toArray, List.getElem_cons_zero, List.getElem_cons_succ, List.setIfInBounds_toArray, List.set_cons_zero, List.set_cons_succ])
      refine wpAnyH_ready (rs := [7]) (by kernel_rfl) (by simp) ?_
      refine AllReadyH.cons rfl (fun K hK => ?_) AllReadyH.nil
      go_simp
      have hb7 := (Below.refl w6.heap.size w6).alloc (Nat.le_refl _) (.cells #[.bool c.u, .int .u8 (y.kind : Nat), .int .i64 y.num, .string y.str, .string y.typ, .slice yno y.names.length ync, .slice ylo y.list.length ylc] 48)
      have K9 := Blk.new w6 [.bool c.u, .int .u8 (y.kind : Nat), .int .i64 y.num, .string y.str, .string y.typ, .slice yno y.names.length ync, .slice ylo y.list.length ylc] 48
      have hown7 := ownsRow_below hown3.out hb7
      have hys7 := hid (fun u (hu : u ∈ ys ++ [⟨c.u, y⟩]) => (show u.e.ok (w6.alloc (.cells #[.bool c.u, .int .u8 (y.kind : Nat), .int .i64 y.num, .string y.str, .string y.typ, .slice yno y.names.length ync, .slice ylo y.list.length ylc] 48)) ∧ u.e.inS (fun b => (fun b => b ≠ w.heap.size ∧ b ≠ w.heap.size + 1 ∧ (Value.slice ao9 k cap).ownBlock ≠ some b) b ∧ b < (w6.alloc (.cells #[.bool c.u, .int .u8 (y.kind : Nat), .int .i64 y.num, .string y.str, .string y.typ, .slice yno y.names.length ync, .slice ylo y.list.length ylc] 48)).heap.size) from by
        have key : ∀ u : T, u.ok w6 → u.inS (fun b => b ≠ w.heap.size ∧ b ≠ w.heap.size + 1 ∧ (Value.slice ao9 k cap).ownBlock ≠ some b) → _ := fun u h1 h2 => (show u.ok (w6.alloc (.cells #[.bool c.u, .int .u8 (y.kind : Nat), .int .i64 y.num, .string y.str, .string y.typ, .slice yno y.names.length ync, .slice ylo y.list.length ylc] 48)) ∧ u.inS (fun b => (fun b => b ≠ w.heap.size ∧ b ≠ w.heap.size + 1 ∧ (Value.slice ao9 k cap).ownBlock ≠ some b) b ∧ b < (w6.alloc (.cells #[.bool c.u, .int .u8 (y.kind : Nat), .int .i64 y.num, .string y.str, .string y.typ, .slice yno y.names.length ync, .slice ylo y.list.length ylc] 48)).heap.size) from ⟨h1.below hb7, inS_and h2 (h1.below hb7).inS⟩)
        rcases List.mem_append.1 hu with hu | hu
        · exact key u.e (hys6.out u hu).1 (hys6.out u hu).2
        · rw [List.mem_singleton] at hu
          subst hu
          exact key y hyok hyin))
      replace K1 := hid (K1.out.below hb7 K1.out.lt)
      replace K2 := hid (K2.out.below hb7 K2.out.lt)
      replace K5 := hid (K5.out.below hb7 K5.out.lt)
      replace hsa := hid (SlV.below hsa.out hb7)
      replace hsb := hid (SlV.below hsb.out hb7)
      replace hsc := hid (SlV.below hsc.out hb7)
      replace hB := hid (Nat.le_trans hB.out hb7.size)
      replace bw := hid (bt bw.out hb7)
      replace hown7 := hid hown7
      replace K9 := hid K9
      clear hb7 hown3 hys6 hyok hyin
      generalize w6.alloc (.cells #[.bool c.u, .int .u8 (y.kind : Nat), .int .i64 y.num, .string y.str, .string y.typ, .slice yno y.names.length ync, .slice ylo y.list.length ylc] 48) = X7 at K1 K2 K5 K9 hown7 hys7 hsa hsb hsc hB bw ⊢
      generalize w6.heap.size = b9 at K9 ⊢
      refine hK.out _ _ ((by obtain ⟨s0, s1, s2, s3, s4, s5, s6, -⟩ := seven K5.out; exact ⟨s0, s1, s2, s3, s4, s5, s6⟩)) (fun hHeldN => ?_)
      clear hK K hHeld
      have hHeld := hHeldN
      clear hHeldN
      (try simp only [Act.put, List.getElem_toArray, List.getElem_cons_zero, List.getElem_cons_succ, List.setIfInBounds_toArray, List.set_cons_zero, List.set_cons_succ])
      refine wpAnyH_ready (rs := [8]) (by kernel_rfl) (by simp) ?_
      refine AllReadyH.cons rfl (fun K hK => ?_) AllReadyH.nil
      obtain ⟨v', w8, hrun, ho, hg, hp⟩ := run_append_place (P := Tryz.prog) X7 BB 37 37 48 ic zc 7 104 Tryz.underlying37 hi hz0 hz1 hz2 hz3 (by decide)
        (.slice ao9 k cap) k (encC ys) hown7.out ⟨b9, 0, none⟩ 1 1 [.bool c.u, .int .u8 (y.kind : Nat), .int .i64 y.num, .string y.str, .string y.typ, .slice yno y.names.length ync, .slice ylo y.list.length ylc] rfl
        (getElem?_cells' (fun j hj => by rw [Mem.add_plain, Nat.zero_add]; exact K9.out.cell j hj)) (by simp [Value.oneCell']) (by unfold maxLen; omega) (by omega) hB.out
      have hrun2 := hrun
      clear hrun
      refine step_append_run rfl (.tmp 25) (.tmp 32) 37 rfl _ _ _ _ rfl rfl hrun2 ?_
      have hgr := hid hg
      have hb8 := hid (bw.out.grown hg (by have := bw.out.size; omega) (fun k hk => by have := (hown7.out.lt k hk).1; have := hge.out; omega))
      have K1f := hid (show Blk w8 w.heap.size _ _ from ⟨(hg.block w.heap.size (by have := K1.out.lt; omega) (fun e => by have := (hown7.out.lt _ e.symm).1; have := hge.out; omega)).trans K1.out.at'⟩)
      have K2f := hid (show Blk w8 (w.heap.size + 1) _ _ from ⟨(hg.block (w.heap.size + 1) (by have := K2.out.lt; omega) (fun e => by have := (hown7.out.lt _ e.symm).1; have := hge.out; omega)).trans K2.out.at'⟩)
      have hkpg := hid (fun b (hb : b < BB) => hg.block b (by have := hB.out; omega) (fun e => by have := (hown7.out.lt _ e.symm).1; omega))
      have hsaf := hid (sl_stay (w' := w8) hsa.out (fun e => by rw [List.eq_nil_of_length_eq_zero e]; rfl) hja.out (fun b hb => hkpg.out b hb))
      have hsbf := hid (sl_stay (w' := w8) hsb.out (fun e => by rw [List.eq_nil_of_length_eq_zero e]; rfl) hjb.out (fun b hb => hkpg.out b hb))
      have hscf := hid (sl_stay (w' := w8) hsc.out (fun e => by rw [List.eq_nil_of_length_eq_zero e]; rfl) hjc.out (fun b hb => hkpg.out b hb))
      have K5f := hid (show Blk w8 b5 _ _ from ⟨(hg.block b5 (by have := K5.out.lt; omega) (fun e => hb5n.out e.symm)).trans K5.out.at'⟩)
      have hBf := hid (Nat.le_trans hB.out hg.size)
      obtain ⟨ao', cap', hv', _, _⟩ := ownsRow_form ho
      subst hv'
      have hrow8 := hid (show w8.ownsRow BB 48 7 (.slice ao' (k + 1) cap') (k + 1) (encC (ys ++ [⟨c.u, y⟩])) from by
        rw [encC_append, show encC [(⟨c.u, y⟩ : Cd)] = [.bool c.u, .int .u8 (y.kind : Nat), .int .i64 y.num, .string y.str, .string y.typ, .slice yno y.names.length ync, .slice ylo y.list.length ylc] from by show Value.bool c.u :: (y.enc ++ []) = _; rw [List.append_nil, hye]]
        exact ho)
      have hysf := hid (show ∀ u ∈ ys ++ [(⟨c.u, y⟩ : Cd)], u.e.ok w8 ∧ u.e.inS (fun b => b ≠ w.heap.size ∧ b ≠ w.heap.size + 1 ∧ (Value.slice ao' (k + 1) cap').ownBlock ≠ some b) from fun u hu => by
        obtain ⟨h1, h2⟩ := hys7.out u hu
        refine ⟨h1.keep (fun b hb => hgr.out.block b hb.2 (fun e => hb.1.2.2 e.symm)) h2, h2.mono (fun b hb => ⟨hb.1.1, hb.1.2.1, fun e => ?_⟩)⟩
        rcases hp with hp | ⟨g2, hp, hge⟩
        · exact hb.1.2.2 (hp.symm.trans e)
        · have h3 : g2 = b := Option.some.inj (hp.symm.trans e)
          have := hb.2
          omega)
      have hlkf := hid (show likeC (x.l.take (k + 1)) (ys ++ [(⟨c.u, y⟩ : Cd)]) by rw [hst.out]; exact likeC_snoc hlk.out rfl hyl)
      replace K5 := K5f
      clear hg hp ho hown7 hys7 K9 K1 K2 bw hgr hyl hst hlk hye hrun2 hsa hsb hsc hB hkpg K5f
      refine hK.out _ _ ((by obtain ⟨s0, s1, s2, s3, s4, s5, s6, -⟩ := seven K5.out; exact ⟨s0, s1, s2, s3, s4, s5, s6⟩)) (fun hHeldN => ?_)
      clear hK K hHeld
      have hHeld := hHeldN
      clear hHeldN
      (try simp only [Act.put, List.getElem_toArray, List.getElem_cons_zero, List.getElem_cons_succ, List.setIfInBounds_toArray, List.set_cons_zero, List.set_cons_succ])
      refine wpAnyH_take (i := 9) (v := ?_) rfl (by kernel_rfl) (by kernel_rfl) (by kernel_rfl) (fun _ _ _ h => h) (Or.inl ⟨by rfl, ?_⟩) (by assumption) ?_; rotate_left 1; (intro w hSw; (try dsimp only at hSw); go_simp; try with_reducible rfl); (try simp only [Act.put, List.getElem_toArray, List.getElem_cons_zero, List.getElem_cons_succ, List.setIfInBounds_toArray, List.set_cons_zero, List.set_cons_succ])
      refine wpAnyH_done (by kernel_rfl) ?_ _
      clear hHeld
      go_wp2_with fail
      go_roundw
      case rel => exact ⟨k + 1, ys ++ [⟨c.u, y⟩], by omega, by go_num, ⟨ao', cap', rfl, hrow8, hysf⟩, hlkf, hsaf, hsbf, hscf, K1f, K2f, hBf, hb8⟩
      case measure => simp [intOf]; omega
    · have hki : ¬ (k : Int) < (m : Int) := by omega
      obtain rfl : k = m := by omega
      have hlk2 := hid (show likeC x.l ys by have := hlk.out; rwa [List.take_of_length_le (by have := hm.out; omega)] at this)
      have hlen := hid (show ys.length = k by have := likeC_len hlk2.out; have := hm.out; omega)
      obtain ⟨c0, c1, c2, c3, c4, c5, c6, c7, c8, c9, c10, cf⟩ := eleven K1.out
      go_upto_region 11 with fail
      clear c0 c1 c2 c3 c4 c5 c6 c7 c8 c9 c10 cf
      have K1s := hid (show Blk (wr.setCell ⟨w.heap.size, 10, none⟩ (.slice ao9 k cap)) w.heap.size [.bool x.p, .int .u8 (x.a.k : Nat), .slice a1 x.a.us.length q1, .string x.a.t, .int .u8 (x.b.k : Nat), .slice a2 x.b.us.length q2, .string x.b.t, .int .u8 (x.c.k : Nat), .slice a3 x.c.us.length q3, .string x.c.t, .slice ao9 k cap] 39 from K1.out.set 10 (.slice ao9 k cap))
      have K2s := hid (K2.out.other (p := ⟨w.heap.size, 10, none⟩) (by show w.heap.size ≠ w.heap.size + 1; omega) (.slice ao9 k cap))
      have bws := hid (bw.out.setCell (p := ⟨w.heap.size, 10, none⟩) (Nat.le_refl _) (.slice ao9 k cap))
      have hkp1 := hid (show ∀ b, b ≠ w.heap.size → (wr.setCell ⟨w.heap.size, 10, none⟩ (.slice ao9 k cap)).heap[b]? = wr.heap[b]? from fun b hb => Below.heap_setCell _ _ _ _ hb)
      clear K1 K2 bw
      generalize wr.setCell ⟨w.heap.size, 10, none⟩ (.slice ao9 k cap) = W9 at K1s K2s bws hkp1 ⊢
      have hkp2 := hid (show ∀ b, b ≠ w.heap.size + 1 → (((((((((((W9.setCell ⟨w.heap.size + 1, 0, none⟩ (.bool x.p)).setCell ⟨w.heap.size + 1, 1, none⟩ (.int .u8 (x.a.k : Nat))).setCell ⟨w.heap.size + 1, 2, none⟩ (.slice a1 x.a.us.length q1)).setCell ⟨w.heap.size + 1, 3, none⟩ (.string x.a.t)).setCell ⟨w.heap.size + 1, 4, none⟩ (.int .u8 (x.b.k : Nat))).setCell ⟨w.heap.size + 1, 5, none⟩ (.slice a2 x.b.us.length q2)).setCell ⟨w.heap.size + 1, 6, none⟩ (.string x.b.t)).setCell ⟨w.heap.size + 1, 7, none⟩ (.int .u8 (x.c.k : Nat))).setCell ⟨w.heap.size + 1, 8, none⟩ (.slice a3 x.c.us.length q3)).setCell ⟨w.heap.size + 1, 9, none⟩ (.string x.c.t)).setCell ⟨w.heap.size + 1, 10, none⟩ (.slice ao9 k cap)).heap[b]? = W9.heap[b]? from fun b hb => by repeat rw [Below.heap_setCell _ _ _ _ (by simpa using hb)])
      have hkp := hid (fun b (h1 : b ≠ w.heap.size) (h2 : b ≠ w.heap.size + 1) => (hkp2.out b h2).trans (hkp1.out b h1))
      have hBf := hid (show Below w.heap.size w (((((((((((W9.setCell ⟨w.heap.size + 1, 0, none⟩ (.bool x.p)).setCell ⟨w.heap.size + 1, 1, none⟩ (.int .u8 (x.a.k : Nat))).setCell ⟨w.heap.size + 1, 2, none⟩ (.slice a1 x.a.us.length q1)).setCell ⟨w.heap.size + 1, 3, none⟩ (.string x.a.t)).setCell ⟨w.heap.size + 1, 4, none⟩ (.int .u8 (x.b.k : Nat))).setCell ⟨w.heap.size + 1, 5, none⟩ (.slice a2 x.b.us.length q2)).setCell ⟨w.heap.size + 1, 6, none⟩ (.string x.b.t)).setCell ⟨w.heap.size + 1, 7, none⟩ (.int .u8 (x.c.k : Nat))).setCell ⟨w.heap.size + 1, 8, none⟩ (.slice a3 x.c.us.length q3)).setCell ⟨w.heap.size + 1, 9, none⟩ (.string x.c.t)).setCell ⟨w.heap.size + 1, 10, none⟩ (.slice ao9 k cap)) from (((((((((((bws.out.setCell (p := ⟨w.heap.size + 1, 0, none⟩) (Nat.le_succ _) _).setCell (p := ⟨w.heap.size + 1, 1, none⟩) (Nat.le_succ _) _).setCell (p := ⟨w.heap.size + 1, 2, none⟩) (Nat.le_succ _) _).setCell (p := ⟨w.heap.size + 1, 3, none⟩) (Nat.le_succ _) _).setCell (p := ⟨w.heap.size + 1, 4, none⟩) (Nat.le_succ _) _).setCell (p := ⟨w.heap.size + 1, 5, none⟩) (Nat.le_succ _) _).setCell (p := ⟨w.heap.size + 1, 6, none⟩) (Nat.le_succ _) _).setCell (p := ⟨w.heap.size + 1, 7, none⟩) (Nat.le_succ _) _).setCell (p := ⟨w.heap.size + 1, 8, none⟩) (Nat.le_succ _) _).setCell (p := ⟨w.heap.size + 1, 9, none⟩) (Nat.le_succ _) _).setCell (p := ⟨w.heap.size + 1, 10, none⟩) (Nat.le_succ _) _))
      have hK := hid (show Blk (((((((((((W9.setCell ⟨w.heap.size + 1, 0, none⟩ (.bool x.p)).setCell ⟨w.heap.size + 1, 1, none⟩ (.int .u8 (x.a.k : Nat))).setCell ⟨w.heap.size + 1, 2, none⟩ (.slice a1 x.a.us.length q1)).setCell ⟨w.heap.size + 1, 3, none⟩ (.string x.a.t)).setCell ⟨w.heap.size + 1, 4, none⟩ (.int .u8 (x.b.k : Nat))).setCell ⟨w.heap.size + 1, 5, none⟩ (.slice a2 x.b.us.length q2)).setCell ⟨w.heap.size + 1, 6, none⟩ (.string x.b.t)).setCell ⟨w.heap.size + 1, 7, none⟩ (.int .u8 (x.c.k : Nat))).setCell ⟨w.heap.size + 1, 8, none⟩ (.slice a3 x.c.us.length q3)).setCell ⟨w.heap.size + 1, 9, none⟩ (.string x.c.t)).setCell ⟨w.heap.size + 1, 10, none⟩ (.slice ao9 k cap)) (w.heap.size + 1) [.bool x.p, .int .u8 (x.a.k : Nat), .slice a1 x.a.us.length q1, .string x.a.t, .int .u8 (x.b.k : Nat), .slice a2 x.b.us.length q2, .string x.b.t, .int .u8 (x.c.k : Nat), .slice a3 x.c.us.length q3, .string x.c.t, .slice ao9 k cap] 39 from (((((((((((K2s.out.set 0 (.bool x.p)).set 1 (.int .u8 (x.a.k : Nat))).set 2 (.slice a1 x.a.us.length q1)).set 3 (.string x.a.t)).set 4 (.int .u8 (x.b.k : Nat))).set 5 (.slice a2 x.b.us.length q2)).set 6 (.string x.b.t)).set 7 (.int .u8 (x.c.k : Nat))).set 8 (.slice a3 x.c.us.length q3)).set 9 (.string x.c.t)).set 10 (.slice ao9 k cap)))
      have hokf := hid (show Po.ok (((((((((((W9.setCell ⟨w.heap.size + 1, 0, none⟩ (.bool x.p)).setCell ⟨w.heap.size + 1, 1, none⟩ (.int .u8 (x.a.k : Nat))).setCell ⟨w.heap.size + 1, 2, none⟩ (.slice a1 x.a.us.length q1)).setCell ⟨w.heap.size + 1, 3, none⟩ (.string x.a.t)).setCell ⟨w.heap.size + 1, 4, none⟩ (.int .u8 (x.b.k : Nat))).setCell ⟨w.heap.size + 1, 5, none⟩ (.slice a2 x.b.us.length q2)).setCell ⟨w.heap.size + 1, 6, none⟩ (.string x.b.t)).setCell ⟨w.heap.size + 1, 7, none⟩ (.int .u8 (x.c.k : Nat))).setCell ⟨w.heap.size + 1, 8, none⟩ (.slice a3 x.c.us.length q3)).setCell ⟨w.heap.size + 1, 9, none⟩ (.string x.c.t)).setCell ⟨w.heap.size + 1, 10, none⟩ (.slice ao9 k cap)) ⟨x.p, ⟨x.a.k, x.a.us, .slice a1 x.a.us.length q1, x.a.t⟩, ⟨x.b.k, x.b.us, .slice a2 x.b.us.length q2, x.b.t⟩, ⟨x.c.k, x.c.us, .slice a3 x.c.us.length q3, x.c.t⟩, ys, .slice ao9 k cap⟩ from ⟨⟨⟨h'.out.1.1.1, h'.out.1.1.2.1, h'.out.1.1.2.2.1, sl_stay hsa.out (fun e => by rw [List.eq_nil_of_length_eq_zero e]; rfl) hia.out (fun b hb => hkp.out b hb.1 hb.2)⟩,
        ⟨h'.out.1.2.1.1, h'.out.1.2.1.2.1, h'.out.1.2.1.2.2.1, sl_stay hsb.out (fun e => by rw [List.eq_nil_of_length_eq_zero e]; rfl) hib.out (fun b hb => hkp.out b hb.1 hb.2)⟩,
        ⟨h'.out.1.2.2.1, h'.out.1.2.2.2.1, h'.out.1.2.2.2.2.1, sl_stay hsc.out (fun e => by rw [List.eq_nil_of_length_eq_zero e]; rfl) hic.out (fun b hb => hkp.out b hb.1 hb.2)⟩⟩,
        by show ys.length * 104 ≤ _; rw [hlen.out]; exact hbytes, fun u hu => (hys.out u hu).1.keep (fun b hb => hkp.out b hb.1 hb.2.1) (hys.out u hu).2, by
          show SlV _ (.slice ao9 k cap) ys.length (encC ys)
          rw [hlen.out]
          exact sl_stay (SlV.own hown.out) (fun e => by rw [List.eq_nil_of_length_eq_zero (hlen.out.trans e)]; rfl) (own_in hown.out) (fun b hb => hkp.out b (by have := hb.1; have := hge.out; omega) (by have := hb.1; have := hge.out; omega))⟩)
      have hyv := hid (show Po.val ⟨x.p, ⟨x.a.k, x.a.us, .slice a1 x.a.us.length q1, x.a.t⟩, ⟨x.b.k, x.b.us, .slice a2 x.b.us.length q2, x.b.t⟩, ⟨x.c.k, x.c.us, .slice a3 x.c.us.length q3, x.c.t⟩, ys, .slice ao9 k cap⟩ = .agg #[.bool x.p, .int .u8 (x.a.k : Nat), .slice a1 x.a.us.length q1, .string x.a.t, .int .u8 (x.b.k : Nat), .slice a2 x.b.us.length q2, .string x.b.t, .int .u8 (x.c.k : Nat), .slice a3 x.c.us.length q3, .string x.c.t, .slice ao9 k cap] from rfl)
      obtain ⟨c0, c1, c2, c3, c4, c5, c6, c7, c8, c9, c10, cf⟩ := eleven K1s.out
      obtain ⟨d0, d1, d2, d3, d4, d5, d6, d7, d8, d9, d10, df⟩ := eleven K2s.out
      clear hkp1 hkp2 hkp hsa hsb hsc hia hib hic hja hjb hjc hown hys hlk hlen h' hcells hcd bws
      go_wp2_with fail
      clear c0 c1 c2 c3 c4 c5 c6 c7 c8 c9 c10 cf d0 d1 d2 d3 d4 d5 d6 d7 d8 d9 d10 df
      obtain ⟨u0, u1, u2, u3, u4, u5, u6, u7, u8, u9, u10, uf⟩ := eleven hK.out
      exact bodyPost_ret (v := .agg #[.bool x.p, .int .u8 (x.a.k : Nat), .slice a1 x.a.us.length q1, .string x.a.t, .int .u8 (x.b.k : Nat), .slice a2 x.b.us.length q2, .string x.b.t, .int .u8 (x.c.k : Nat), .slice a3 x.c.us.length q3, .string x.c.t, .slice ao9 k cap]) (by simp [results, Tryz.results16, go_sem, u0, u1, u2, u3, u4, u5, u6, u7, u8, u9, u10]) rfl ⟨⟨_, _, _, ys, _, by rw [hyv.out], hlk2.out, hokf.out⟩, hBf.out⟩
end Go.Proofs.YtihnhinnohnfgaaGreatDoor.Pol
namespace Go.Proofs.YtihnhinnohnfgaaGreatDoor.Pol
open Go.ChangeShapes Go.WideShapes Go.ChangeAt Go.RowKit
open Go.Proofs.YtihnhinnohnfgaaGreatDoor.Mem
open Go.Proofs.YtihnhinnohnfgaaGreatDoor.Ex (T sameT)
set_option linter.unusedVariables false
set_option linter.unusedSimpArgs false
set_option maxRecDepth 100000
set_option maxHeartbeats 16000000 in
theorem psame_any (x : Po) (va vb vc : Value) (l : List Cd) (lv : Value) (w : World) (h : x.ok w) (h2 : Po.ok w ⟨x.p, ⟨x.a.k, x.a.us, va, x.a.t⟩, ⟨x.b.k, x.b.us, vb, x.b.t⟩, ⟨x.c.k, x.c.us, vc, x.c.t⟩, l, lv⟩) (hlk : likeC x.l l) :
    Calls Tryz.prog 17 #[x.val, Po.val ⟨x.p, ⟨x.a.k, x.a.us, va, x.a.t⟩, ⟨x.b.k, x.b.us, vb, x.b.t⟩, ⟨x.c.k, x.c.us, vc, x.c.t⟩, l, lv⟩] w fun e w' => e = .returned (.bool true) ∧ Below w.heap.size w w' := by
  have cA := hid (fun W (b : Below w.heap.size w W) => sscope_any x.a va W (h.below b).1.1 (h2.below b).1.1)
  have cB := hid (fun W (b : Below w.heap.size w W) => sscope_any x.b vb W (h.below b).1.2.1 (h2.below b).1.2.1)
  have cC := hid (fun W (b : Below w.heap.size w W) => sscope_any x.c vc W (h.below b).1.2.2 (h2.below b).1.2.2)
  obtain ⟨ao, ac, e1, _⟩ := h.1.1.form
  obtain ⟨bo, bc, e2, _⟩ := h.1.2.1.form
  obtain ⟨co, cc, e3, _⟩ := h.1.2.2.form
  obtain ⟨lo, lc, e4, hl⟩ := h.form
  obtain ⟨ao2, ac2, f1', _⟩ := h2.1.1.form
  obtain ⟨bo2, bc2, f2', _⟩ := h2.1.2.1.form
  obtain ⟨co2, cc2, f3', _⟩ := h2.1.2.2.form
  obtain ⟨lo2, lc2, f4', _⟩ := h2.form
  have f1 : va = .slice ao2 x.a.us.length ac2 := f1'
  have f2 : vb = .slice bo2 x.b.us.length bc2 := f2'
  have f3 : vc = .slice co2 x.c.us.length cc2 := f3'
  have f4 : lv = .slice lo2 l.length lc2 := f4'
  clear f1' f2' f3' f4'
  subst f1 f2 f3 f4
  rw [show x.a.val = .agg #[.int .u8 (x.a.k : Nat), .slice ao x.a.us.length ac, .string x.a.t] from by unfold Sc.val Sc.enc; rw [e1], show Sc.val ⟨x.a.k, x.a.us, .slice ao2 x.a.us.length ac2, x.a.t⟩ = .agg #[.int .u8 (x.a.k : Nat), .slice ao2 x.a.us.length ac2, .string x.a.t] from rfl] at cA
  rw [show x.b.val = .agg #[.int .u8 (x.b.k : Nat), .slice bo x.b.us.length bc, .string x.b.t] from by unfold Sc.val Sc.enc; rw [e2], show Sc.val ⟨x.b.k, x.b.us, .slice bo2 x.b.us.length bc2, x.b.t⟩ = .agg #[.int .u8 (x.b.k : Nat), .slice bo2 x.b.us.length bc2, .string x.b.t] from rfl] at cB
  rw [show x.c.val = .agg #[.int .u8 (x.c.k : Nat), .slice co x.c.us.length cc, .string x.c.t] from by unfold Sc.val Sc.enc; rw [e3], show Sc.val ⟨x.c.k, x.c.us, .slice co2 x.c.us.length cc2, x.c.t⟩ = .agg #[.int .u8 (x.c.k : Nat), .slice co2 x.c.us.length cc2, .string x.c.t] from rfl] at cC
  have hx := hid (fun W (B : Below w.heap.size w W) k (hk : k < x.l.length) => (h.below B).cond e4 k hk)
  have hy := hid (fun W (B : Below w.heap.size w W) k (hk : k < l.length) => (h2.below B).cond (lo := lo2) (lc := lc2) rfl k hk)
  have hxd := hid (fun (c : Cd) (hc : c ∈ x.l) => h.2.2.1 c hc)
  have hyd := hid (show ∀ c ∈ l, c.e.ok w from h2.2.2.1)
  have hlen := likeC_len hlk
  have hlk' := hid hlk
  obtain ⟨m, hm⟩ : ∃ m, x.l.length = m := ⟨_, rfl⟩
  rw [Po.val_eq e1 e2 e3 e4, hm, show Po.val ⟨x.p, ⟨x.a.k, x.a.us, .slice ao2 x.a.us.length ac2, x.a.t⟩, ⟨x.b.k, x.b.us, .slice bo2 x.b.us.length bc2, x.b.t⟩, ⟨x.c.k, x.c.us, .slice co2 x.c.us.length cc2, x.c.t⟩, l, .slice lo2 l.length lc2⟩ = .agg #[.bool x.p, .int .u8 (x.a.k : Nat), .slice ao2 x.a.us.length ac2, .string x.a.t, .int .u8 (x.b.k : Nat), .slice bo2 x.b.us.length bc2, .string x.b.t, .int .u8 (x.c.k : Nat), .slice co2 x.c.us.length cc2, .string x.c.t, .slice lo2 m lc2] from by rw [show m = l.length by omega]; rfl]
  rw [hm] at hl hlen
  replace hm := hid hm
  replace hlen := hid hlen
  have i2 : (m : Int) ≤ 9223372036854775807 := by omega
  clear h h2 hlk e1 e2 e3 e4
  go_enter Tryz.func17, Tryz.ntmps17
  go_upto_region 1 with fail
  have K1 := hid (Blk.new w [.bool x.p, .int .u8 (x.a.k : Nat), .slice ao x.a.us.length ac, .string x.a.t, .int .u8 (x.b.k : Nat), .slice bo x.b.us.length bc, .string x.b.t, .int .u8 (x.c.k : Nat), .slice co x.c.us.length cc, .string x.c.t, .slice lo m lc] 39)
  have bw := hid ((Below.refl w.heap.size w).alloc (Nat.le_refl _) (.cells #[.bool x.p, .int .u8 (x.a.k : Nat), .slice ao x.a.us.length ac, .string x.a.t, .int .u8 (x.b.k : Nat), .slice bo x.b.us.length bc, .string x.b.t, .int .u8 (x.c.k : Nat), .slice co x.c.us.length cc, .string x.c.t, .slice lo m lc] 39))
  have hs : w.heap.size + 1 = (w.alloc (.cells #[.bool x.p, .int .u8 (x.a.k : Nat), .slice ao x.a.us.length ac, .string x.a.t, .int .u8 (x.b.k : Nat), .slice bo x.b.us.length bc, .string x.b.t, .int .u8 (x.c.k : Nat), .slice co x.c.us.length cc, .string x.c.t, .slice lo m lc] 39)).heap.size := by simp
  generalize w.alloc (.cells #[.bool x.p, .int .u8 (x.a.k : Nat), .slice ao x.a.us.length ac, .string x.a.t, .int .u8 (x.b.k : Nat), .slice bo x.b.us.length bc, .string x.b.t, .int .u8 (x.c.k : Nat), .slice co x.c.us.length cc, .string x.c.t, .slice lo m lc] 39) = X0 at K1 bw hs ⊢
  have K2 := hid (Blk.new' X0 [.bool x.p, .int .u8 (x.a.k : Nat), .slice ao2 x.a.us.length ac2, .string x.a.t, .int .u8 (x.b.k : Nat), .slice bo2 x.b.us.length bc2, .string x.b.t, .int .u8 (x.c.k : Nat), .slice co2 x.c.us.length cc2, .string x.c.t, .slice lo2 m lc2] 39 (w.heap.size + 1) hs)
  replace K1 := hid (K1.out.alloc (.cells #[.bool x.p, .int .u8 (x.a.k : Nat), .slice ao2 x.a.us.length ac2, .string x.a.t, .int .u8 (x.b.k : Nat), .slice bo2 x.b.us.length bc2, .string x.b.t, .int .u8 (x.c.k : Nat), .slice co2 x.c.us.length cc2, .string x.c.t, .slice lo2 m lc2] 39))
  replace bw := hid (bw.out.alloc (by omega) (.cells #[.bool x.p, .int .u8 (x.a.k : Nat), .slice ao2 x.a.us.length ac2, .string x.a.t, .int .u8 (x.b.k : Nat), .slice bo2 x.b.us.length bc2, .string x.b.t, .int .u8 (x.c.k : Nat), .slice co2 x.c.us.length cc2, .string x.c.t, .slice lo2 m lc2] 39))
  clear hs
  generalize X0.alloc (.cells #[.bool x.p, .int .u8 (x.a.k : Nat), .slice ao2 x.a.us.length ac2, .string x.a.t, .int .u8 (x.b.k : Nat), .slice bo2 x.b.us.length bc2, .string x.b.t, .int .u8 (x.c.k : Nat), .slice co2 x.c.us.length cc2, .string x.c.t, .slice lo2 m lc2] 39) = X1 at K1 K2 bw ⊢
  obtain ⟨c0, c1, c2, c3, c4, c5, c6, c7, c8, c9, c10, cf⟩ := eleven K1.out
  obtain ⟨g0, g1, g2, g3, g4, g5, g6, g7, g8, g9, g10, gf⟩ := eleven K2.out
  go_wp2_with fail
  refine (cA.out _ bw.out).mono ?_
  rintro e w1 ⟨rfl, b1⟩
  replace K1 := hid (K1.out.below b1 K1.out.lt)
  replace K2 := hid (K2.out.below b1 K2.out.lt)
  replace bw := hid (bt bw.out b1)
  clear b1 cA c0 c1 c2 c3 c4 c5 c6 c7 c8 c9 c10 cf g0 g1 g2 g3 g4 g5 g6 g7 g8 g9 g10 gf
  obtain ⟨c0, c1, c2, c3, c4, c5, c6, c7, c8, c9, c10, cf⟩ := eleven K1.out
  obtain ⟨g0, g1, g2, g3, g4, g5, g6, g7, g8, g9, g10, gf⟩ := eleven K2.out
  go_wp2_with fail
  refine (cB.out _ bw.out).mono ?_
  rintro e w1 ⟨rfl, b1⟩
  replace K1 := hid (K1.out.below b1 K1.out.lt)
  replace K2 := hid (K2.out.below b1 K2.out.lt)
  replace bw := hid (bt bw.out b1)
  clear b1 cB c0 c1 c2 c3 c4 c5 c6 c7 c8 c9 c10 cf g0 g1 g2 g3 g4 g5 g6 g7 g8 g9 g10 gf
  obtain ⟨c0, c1, c2, c3, c4, c5, c6, c7, c8, c9, c10, cf⟩ := eleven K1.out
  obtain ⟨g0, g1, g2, g3, g4, g5, g6, g7, g8, g9, g10, gf⟩ := eleven K2.out
  go_wp2_with fail
  refine (cC.out _ bw.out).mono ?_
  rintro e w1 ⟨rfl, b1⟩
  replace K1 := hid (K1.out.below b1 K1.out.lt)
  replace K2 := hid (K2.out.below b1 K2.out.lt)
  replace bw := hid (bt bw.out b1)
  clear b1 cC c0 c1 c2 c3 c4 c5 c6 c7 c8 c9 c10 cf g0 g1 g2 g3 g4 g5 g6 g7 g8 g9 g10 gf
  obtain ⟨c0, c1, c2, c3, c4, c5, c6, c7, c8, c9, c10, cf⟩ := eleven K1.out
  obtain ⟨g0, g1, g2, g3, g4, g5, g6, g7, g8, g9, g10, gf⟩ := eleven K2.out
  go_wp2_with fail
  clear c0 c1 c2 c3 c4 c5 c6 c7 c8 c9 c10 cf g0 g1 g2 g3 g4 g5 g6 g7 g8 g9 g10 gf
  go_loopw [47] (fun i wr => ∃ k : Nat, k ≤ m ∧ i = .int .i64 k ∧ Hid (Blk wr w.heap.size [.bool x.p, .int .u8 (x.a.k : Nat), .slice ao x.a.us.length ac, .string x.a.t, .int .u8 (x.b.k : Nat), .slice bo x.b.us.length bc, .string x.b.t, .int .u8 (x.c.k : Nat), .slice co x.c.us.length cc, .string x.c.t, .slice lo m lc] 39) ∧ Hid (Blk wr (w.heap.size + 1) [.bool x.p, .int .u8 (x.a.k : Nat), .slice ao2 x.a.us.length ac2, .string x.a.t, .int .u8 (x.b.k : Nat), .slice bo2 x.b.us.length bc2, .string x.b.t, .int .u8 (x.c.k : Nat), .slice co2 x.c.us.length cc2, .string x.c.t, .slice lo2 m lc2] 39) ∧ Hid (Below w.heap.size w wr)) (fun i _ => m - (intOf i).toNat)
  case atStart => exact ⟨0, by omega, rfl, K1, K2, bw⟩
  case round =>
    clear K1 K2 bw
    obtain ⟨k, hk, rfl, K1, K2, bw⟩ := hrel
    rename_i wr _
    by_cases hkm : k < m
    · have hki : (k : Int) < (m : Int) := by omega
      have hk0 : (0 : Int) ≤ (k : Int) := by omega
      have hkl : k < x.l.length := by have := hm.out; omega
      have hkl2 : k < l.length := by have := hlen.out; omega
      obtain ⟨xb, xo, hxo, xf0, xf1, xf2, xf3, xf4, xf5, xf6⟩ := hx.out wr bw.out k hkl
      obtain ⟨yb, yo, hyo, yf0, yf1, yf2, yf3, yf4, yf5, yf6⟩ := hy.out wr bw.out k hkl2
      subst hxo
      subst hyo
      obtain ⟨hu, he⟩ := likeC_get hlk'.out k hkl hkl2
      obtain ⟨c, hc⟩ : ∃ c, x.l[k] = c := ⟨_, rfl⟩
      obtain ⟨d, hd⟩ : ∃ d, l[k] = d := ⟨_, rfl⟩
      have hcok := hid (hxd.out c (hc ▸ List.getElem_mem hkl))
      have hdok := hid (hyd.out d (hd ▸ List.getElem_mem hkl2))
      rw [hc] at xf0 xf1 xf2 xf3 xf4 xf5 xf6 hu he
      simp only [hd] at yf0 yf1 yf2 yf3 yf4 yf5 yf6 hu he
      obtain ⟨no, nc, l9, lc9, ec1, ec2, cl1, cl2⟩ := hcok.out.forms
      obtain ⟨dno, dnc, dl, dlc, ed1, ed2, dl1, dl2⟩ := hdok.out.forms
      rw [ec1] at xf5
      rw [ec2] at xf6
      rw [ed1] at yf5
      rw [ed2] at yf6
      have hcl := hid (show ∀ W, Below w.heap.size w W → Calls Tryz.prog 15 #[.agg #[.int .u8 (c.e.kind : Nat), .int .i64 c.e.num, .string c.e.str, .string c.e.typ, .slice no c.e.names.length nc, .slice l9 c.e.list.length lc9], .agg #[.int .u8 (d.e.kind : Nat), .int .i64 d.e.num, .string d.e.str, .string d.e.typ, .slice dno d.e.names.length dnc, .slice dl d.e.list.length dlc]] W fun e w' => e = .returned (.bool true) ∧ Below W.heap.size W w' from fun W b => by
        have := Ex.same_any c.e d.e W (hcok.out.below b) (hdok.out.below b)
        rw [Ex.like_same he, Ex.T.val_eq ec1 ec2, Ex.T.val_eq ed1 ed2] at this
        exact this)
      rw [← hu] at yf0
      clear ec1 ec2 ed1 ed2 hc hd hkl hkl2 hu he
      obtain ⟨c0, c1, c2, c3, c4, c5, c6, c7, c8, c9, c10, cf⟩ := eleven K1.out
      obtain ⟨g0, g1, g2, g3, g4, g5, g6, g7, g8, g9, g10, gf⟩ := eleven K2.out
      go_upto_region 6 with fail
      clear c0 c1 c2 c3 c4 c5 c6 c7 c8 c9 cf g0 g1 g2 g3 g4 g5 g6 g7 g8 g9 gf
      go_region_held3 (fun W => W.cell? ⟨w.heap.size, 10, none⟩ = some (.slice (some ⟨xb, xo, none⟩) m lc) ∧ W.cell? ⟨w.heap.size + 1, 10, none⟩ = some (.slice (some ⟨yb, yo, none⟩) m lc2) ∧ W.cell? ⟨xb, xo + k * 7, none⟩ = some (.bool c.u) ∧ W.cell? ⟨xb, xo + k * 7 + 1, none⟩ = some (.int .u8 (c.e.kind : Nat)) ∧ W.cell? ⟨xb, xo + k * 7 + 2, none⟩ = some (.int .i64 c.e.num) ∧ W.cell? ⟨xb, xo + k * 7 + 3, none⟩ = some (.string c.e.str) ∧ W.cell? ⟨xb, xo + k * 7 + 4, none⟩ = some (.string c.e.typ) ∧ W.cell? ⟨xb, xo + k * 7 + 5, none⟩ = some (.slice no c.e.names.length nc) ∧ W.cell? ⟨xb, xo + k * 7 + 6, none⟩ = some (.slice l9 c.e.list.length lc9) ∧ W.cell? ⟨yb, yo + k * 7, none⟩ = some (.bool c.u) ∧ W.cell? ⟨yb, yo + k * 7 + 1, none⟩ = some (.int .u8 (d.e.kind : Nat)) ∧ W.cell? ⟨yb, yo + k * 7 + 2, none⟩ = some (.int .i64 d.e.num) ∧ W.cell? ⟨yb, yo + k * 7 + 3, none⟩ = some (.string d.e.str) ∧ W.cell? ⟨yb, yo + k * 7 + 4, none⟩ = some (.string d.e.typ) ∧ W.cell? ⟨yb, yo + k * 7 + 5, none⟩ = some (.slice dno d.e.names.length dnc) ∧ W.cell? ⟨yb, yo + k * 7 + 6, none⟩ = some (.slice dl d.e.list.length dlc)) (first | with_reducible exact ⟨c10, g10, xf0, xf1, xf2, xf3, xf4, xf5, xf6, yf0, yf1, yf2, yf3, yf4, yf5, yf6⟩ | with_reducible exact ⟨cell_drew c10, cell_drew g10, cell_drew xf0, cell_drew xf1, cell_drew xf2, cell_drew xf3, cell_drew xf4, cell_drew xf5, cell_drew xf6, cell_drew yf0, cell_drew yf1, cell_drew yf2, cell_drew yf3, cell_drew yf4, cell_drew yf5, cell_drew yf6⟩) (first
        | (go_at_call 15
           (with_reducible refine (hcl.out _ bw.out.drew).mono ?_)
           rintro e w1 ⟨rfl, b1⟩
           replace b1 := (Below.refl wr.heap.size wr).drew.trans b1
           have ca : ∀ {a : Addr} {v : Value}, wr.cell? a = some v → w1.cell? a = some v := fun h => (b1.cell (World.block_lt_of_cell? _ _ h)).trans h
           replace c10 := ca c10; replace g10 := ca g10; replace xf0 := ca xf0; replace xf1 := ca xf1; replace xf2 := ca xf2; replace xf3 := ca xf3; replace xf4 := ca xf4; replace xf5 := ca xf5; replace xf6 := ca xf6; replace yf0 := ca yf0; replace yf1 := ca yf1; replace yf2 := ca yf2; replace yf3 := ca yf3; replace yf4 := ca yf4; replace yf5 := ca yf5; replace yf6 := ca yf6
           clear ca hcl))
      clear c10 g10 xf0 xf1 xf2 xf3 xf4 xf5 xf6 yf0 yf1 yf2 yf3 yf4 yf5 yf6
      replace K1 := hid (K1.out.below b1 K1.out.lt)
      replace K2 := hid (K2.out.below b1 K2.out.lt)
      replace bw := hid (bt bw.out b1)
      clear b1
      go_wp2_with fail
      go_roundw
      case rel => exact ⟨k + 1, by omega, by go_num, K1, K2, bw⟩
      case measure => simp [intOf]; omega
    · have hki : ¬ (k : Int) < (m : Int) := by omega
      go_wp2_with fail
      go_ret
      exact ⟨rfl, bw.out⟩
end Go.Proofs.YtihnhinnohnfgaaGreatDoor.Pol
