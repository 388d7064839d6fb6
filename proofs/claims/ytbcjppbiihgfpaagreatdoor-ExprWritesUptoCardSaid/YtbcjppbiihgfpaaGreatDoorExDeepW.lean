/-
  expr.deep, nodes, Check of any expression, however great: numbers of 64 bits as they turn; contracts. Written by wip/exdeepwgen.py.
-/
import Derived.Test.YtbcjppbiihgfpaaGreatDoorExCheck
import Derived.Test.YtbcjppbiihgfpaaGreatDoorExLike
namespace Go.Proofs.YtbcjppbiihgfpaaGreatDoor.Ex
open Go.ChangeShapes Go.WideShapes Go.ChangeAt Go.RowKit
open Go.Proofs.YtbcjppbiihgfpaaGreatDoor.Mem
set_option linter.unusedVariables false
set_option linter.unusedSimpArgs false
set_option maxRecDepth 100000
theorem w64_in (n : Int) (h : -9223372036854775808 ≤ n ∧ n ≤ 9223372036854775807) : wrap64 n = n := by unfold wrap64; omega
theorem w64_range (n : Int) : -9223372036854775808 ≤ wrap64 n ∧ wrap64 n ≤ 9223372036854775807 := by unfold wrap64; omega
theorem w64_add (a b : Int) : wrap64 (wrap64 a + wrap64 b) = wrap64 (a + b) := by unfold wrap64; omega
mutual
def dW : T → Int
  | .mk k n s t na nv l lv => wrap64 (dWL l + 1)
def dWL : List T → Int
  | [] => 0
  | x :: r => max (dW x) (dWL r)
end
theorem dW_eq (x : T) : dW x = wrap64 (dWL x.list + 1) := by
  cases x
  rw [dW]
  rfl
theorem dWL_pos (l : List T) : 0 ≤ dWL l := by
  induction l with
  | nil => simp [dWL]
  | cons y b ih => rw [dWL]; omega
theorem dWL_append (a b : List T) : dWL (a ++ b) = max (dWL a) (dWL b) := by
  induction a with
  | nil =>
    have := dWL_pos b
    simp only [List.nil_append, dWL]
    omega
  | cons x a ih => rw [List.cons_append, dWL, dWL, ih]; omega
theorem dWL_step (l : List T) (k : Nat) (h : k < l.length) : dWL (l.take (k + 1)) = max (dWL (l.take k)) (dW l[k]) := by
  have h0 := dWL_pos (l.take k)
  rw [List.take_succ_eq_append_getElem h, dWL_append, dWL, dWL]
  omega
theorem dW_range (x : T) : -9223372036854775808 ≤ dW x ∧ dW x ≤ 9223372036854775807 := by rw [dW_eq]; exact w64_range _
theorem dWL_range (l : List T) : 0 ≤ dWL l ∧ dWL l ≤ 9223372036854775807 := by
  refine ⟨dWL_pos l, ?_⟩
  induction l with
  | nil => simp [dWL]
  | cons y b ih => rw [dWL]; have := (dW_range y).2; omega
theorem max_runW (a b : Int) (ts : Array TypeId) (t : TypeId) (W : World) : (Builtin.max_ ts t #[.int .i64 a, .int .i64 b]).run Tryz.prog W = .ok (.int .i64 (max a b)) W := by
  rw [run_max_int2]
  have : (if a < b then b else a) = max a b := by split <;> omega
  rw [this]
def nW (x : T) : Int := wrap64 (x.size : Nat)
def nWTo (l : List T) (k : Nat) : Int := wrap64 ((T.sizeL (l.take k) + 1 : Nat) : Int)
theorem nW_list (x : T) : nW x = nWTo x.list x.list.length := by
  unfold nW nWTo
  rw [List.take_length, T.size_list]
theorem nWTo_zero (l : List T) : nWTo l 0 = 1 := by
  unfold nWTo
  rw [List.take_zero, T.sizeL]
  exact w64_in _ (by decide)
theorem nWTo_step (l : List T) (k : Nat) (h : k < l.length) : nWTo l (k + 1) = wrap64 (nWTo l k + nW l[k]) := by
  unfold nWTo nW
  rw [w64_add, sizeL_take_step l k h]
  congr 1
  omega
/-- for expressions of an ordinary size they are what they seem -/
theorem dW_small (x : T) (h : x.size ≤ 8388608) : dW x = (deepN x : Nat) := by
  suffices g : ∀ n (x : T), x.size ≤ n → x.size ≤ 8388608 → dW x = (deepN x : Nat) from g x.size x (Nat.le_refl _) h
  intro n
  induction n with
  | zero => intro x hx; have := x.size_pos; omega
  | succ n ih =>
    intro x hx hs
    have key : ∀ l : List T, (∀ y ∈ l, y.size ≤ n ∧ y.size ≤ 8388608) → dWL l = (deepL l : Nat) := by
      intro l
      induction l with
      | nil => intro _; rfl
      | cons y l ihl =>
        intro hl
        rw [dWL, deepL, ihl (fun z hz => hl z (List.mem_cons_of_mem _ hz)), ih y (hl y (List.mem_cons_self ..)).1 (hl y (List.mem_cons_self ..)).2]
        omega
    have hl := key x.list (fun y hy => by have := T.size_part hy; omega)
    have hd := deep_size x.size x (Nat.le_refl _)
    rw [deepN_eq] at hd
    rw [dW_eq, hl, deepN_eq, w64_in _ (by omega)]
    omega
theorem nW_small (x : T) (h : x.size ≤ 8388608) : nW x = (x.size : Nat) := w64_in _ (by omega)
def chkW (x : T) : Int := if rightB x = false then 5 else if 16 < dW x then 4 else if 128 < nW x then 2 else 0
theorem chkW_small (x : T) (h : x.size ≤ 8388608) : chkW x = chkN x := by
  unfold chkW chkN
  rw [dW_small x h, nW_small x h]
  split
  · rfl
  · by_cases h1 : 16 < deepN x
    · rw [if_pos h1, if_pos (by omega)]
    · rw [if_neg h1, if_neg (by omega)]
      by_cases h2 : 128 < x.size
      · rw [if_pos h2, if_pos (by omega)]
      · rw [if_neg h2, if_neg (by omega)]
theorem dWL_max (l : List T) : dWL l = (l.map dW).foldr max 0 := by
  induction l with
  | nil => rfl
  | cons x l ih => rw [dWL, List.map_cons, List.foldr_cons, ih]
theorem like_dW {x y : T} (h : x.like y) : dW x = dW y := by
  refine like_ind (P := fun x y => dW x = dW y) ?_ h
  intro x y hl ih
  rw [dW_eq, dW_eq, dWL_max, dWL_max, map_pt (T.likeL_length (T.like_iff.1 hl).2.2.2.2.2) ih]
theorem like_chkW {x y : T} (h : x.like y) : chkW x = chkW y := by
  unfold chkW nW
  rw [like_right h, like_dW h, like_size h]
def DeepW (x : T) : Prop := ∀ (w : World), x.ok w → Calls Tryz.prog 29 #[x.val] w fun e w' => e = .returned (.int .i64 (dW x)) ∧ Below w.heap.size w w'
set_option maxHeartbeats 4000000 in
theorem deepw_step (x : T) (ih : ∀ z ∈ x.list, DeepW z) : DeepW x := by
  intro w h
  obtain ⟨no, nc, lo, lc, e1, e2, l1, l2⟩ := h.forms
  rw [T.val_eq e1 e2]
  have hR' := hid (dW_eq x)
  have hb := hid (fun k => dWL_range (x.list.take k))
  generalize dW x = R at hR' ⊢
  have i2 : (x.list.length : Int) ≤ 9223372036854775807 := by omega
  have h' := hid h
  have ih' := hid ih
  have e2' := hid e2
  clear ih h e1 e2
  go_enter Tryz.func29, Tryz.ntmps29
  go_upto_region 1 with fail
  have K1 := hid (Blk.new w [.int .u8 (x.kind : Nat), .int .i64 x.num, .string x.str, .string x.typ, .slice no x.names.length nc, .slice lo x.list.length lc] 26)
  have bw := hid ((Below.refl w.heap.size w).alloc (Nat.le_refl _) (.cells #[.int .u8 (x.kind : Nat), .int .i64 x.num, .string x.str, .string x.typ, .slice no x.names.length nc, .slice lo x.list.length lc] 26))
  generalize w.alloc (.cells #[.int .u8 (x.kind : Nat), .int .i64 x.num, .string x.str, .string x.typ, .slice no x.names.length nc, .slice lo x.list.length lc] 26) = X0 at K1 bw ⊢
  obtain ⟨c0, c1, c2, c3, c4, c5, cf⟩ := six K1.out
  go_wp2_with fail
  go_loopw [3, 9] (fun av i wr => ∃ k : Nat, k ≤ x.list.length ∧ i = .int .i64 k ∧ av = .int .i64 (dWL (x.list.take k)) ∧ Hid (Below w.heap.size w wr)) (fun _ i _ => x.list.length - (intOf i).toNat)
  case atStart => exact ⟨0, by omega, rfl, rfl, bw⟩
  case round =>
    obtain ⟨k, hk, rfl, rfl, bw'⟩ := hrel
    clear c0 c1 c2 c3 c4 c5 cf K1 bw
    rename_i wr _
    by_cases hkl : k < x.list.length
    · have hki : (k : Int) < (x.list.length : Int) := by omega
      have hst := dWL_step x.list k hkl
      have hb1 := hb.out k
      have hb2 := hb.out (k + 1)
      obtain ⟨xb, xo, rfl, xf0, xf1, xf2, xf3, xf4, xf5⟩ := (h'.out.below bw'.out).part6 e2'.out k hkl
      have hrec := hid (fun W (b : Below w.heap.size w W) => ih'.out x.list[k] (List.getElem_mem hkl) W ((h'.out.below b).parts.2.2.2.2.2.2.2 _ (List.getElem_mem hkl)))
      have hzok := (h'.out.below bw'.out).parts.2.2.2.2.2.2.2 _ (List.getElem_mem hkl)
      obtain ⟨A2, hA2⟩ : ∃ A2, dWL (x.list.take (k + 1)) = A2 := ⟨_, rfl⟩
      rw [hA2] at hst hb2
      replace hA2 := hid hA2
      generalize dWL (x.list.take k) = A1 at hst hb1 ⊢
      generalize x.list[k] = z at xf0 xf1 xf2 xf3 xf4 xf5 hrec hst hzok
      obtain ⟨zno, znc, zlo, zlc, ez1, ez2, zl1, zl2⟩ := hzok.forms
      have hzv := T.val_eq ez1 ez2
      rw [ez1] at xf4
      rw [ez2] at xf5
      clear hzok ez1 ez2
      replace hrec := hid (show ∀ W, Below w.heap.size w W → Calls Tryz.prog 29 #[.agg #[.int .u8 (z.kind : Nat), .int .i64 z.num, .string z.str, .string z.typ, .slice zno z.names.length znc, .slice zlo z.list.length zlc]] W fun e w' => e = .returned (.int .i64 (dW z)) ∧ Below W.heap.size W w' from fun W b => by have := hrec.out W b; rw [hzv] at this; exact this)
      clear hzv
      have hdz := dW_range z
      generalize dW z = dz at hst hrec hdz
      go_upto_region 5 with fail
      have K4 := hid (Blk.new wr [.int .u8 (z.kind : Nat), .int .i64 z.num, .string z.str, .string z.typ, .slice zno z.names.length znc, .slice zlo z.list.length zlc] 26)
      replace bw' := hid (bw'.out.alloc bw'.out.size (.cells #[.int .u8 (z.kind : Nat), .int .i64 z.num, .string z.str, .string z.typ, .slice zno z.names.length znc, .slice zlo z.list.length zlc] 26))
      clear xf0 xf1 xf2 xf3 xf4 xf5
      generalize wr.alloc (.cells #[.int .u8 (z.kind : Nat), .int .i64 z.num, .string z.str, .string z.typ, .slice zno z.names.length znc, .slice zlo z.list.length zlc] 26) = X3 at K4 bw' ⊢
      obtain ⟨f0, f1, f2, f3, f4, f5, ff⟩ := six K4.out
      go_wp2_with fail
      refine (hrec.out _ bw'.out).mono ?_
      rintro e w2 ⟨rfl, b1⟩
      replace bw' := hid (bt bw'.out b1)
      clear b1 hrec f0 f1 f2 f3 f4 f5 ff K4
      have hmx := fun ts t W => max_runW A1 dz ts t W
      rw [← hst] at hmx
      go_wp2_with fail
      go_roundw
      case rel => exact ⟨k + 1, by omega, by go_num, by first | (rw [hA2.out, hst]; done) | (rw [hA2.out]; done) | (rw [hA2.out]; congr 1; omega), bw'⟩
      case measure => simp [intOf]; omega
    · have hki : ¬ (k : Int) < (x.list.length : Int) := by omega
      have hke : k = x.list.length := by omega
      have hn := hid (show wrap64 (dWL (x.list.take k) + 1) = R from by rw [hR'.out, hke, List.take_length])
      have hb1 := hb.out k
      generalize dWL (x.list.take k) = A1 at hb1 hn ⊢
      clear hR' hb
      go_wp2_with fail
      go_ret
      exact ⟨by rw [← hn.out]; first | rfl | (congr 2; omega), bw'.out⟩
theorem deepw_any (x : T) : DeepW x := by
  suffices h : ∀ n (x : T), x.size ≤ n → DeepW x from h x.size x (Nat.le_refl _)
  intro n
  induction n with
  | zero => intro x hx; have := x.size_pos; omega
  | succ n ih => intro x hx; exact deepw_step x (fun z hm => ih z (by have := T.size_part hm; omega))
def NodesW (x : T) : Prop := ∀ (w : World), x.ok w → Calls Tryz.prog 30 #[x.val] w fun e w' => e = .returned (.int .i64 (nW x)) ∧ Below w.heap.size w w'
set_option maxHeartbeats 4000000 in
theorem nodesw_step (x : T) (ih : ∀ z ∈ x.list, NodesW z) : NodesW x := by
  intro w h
  obtain ⟨no, nc, lo, lc, e1, e2, l1, l2⟩ := h.forms
  rw [T.val_eq e1 e2]
  have hR' := hid (nW_list x)
  have hb := hid (fun k => w64_range ((T.sizeL (x.list.take k) + 1 : Nat) : Int))
  generalize nW x = R at hR' ⊢
  have i2 : (x.list.length : Int) ≤ 9223372036854775807 := by omega
  have h' := hid h
  have ih' := hid ih
  have e2' := hid e2
  clear ih h e1 e2
  go_enter Tryz.func30, Tryz.ntmps30
  go_upto_region 1 with fail
  have K1 := hid (Blk.new w [.int .u8 (x.kind : Nat), .int .i64 x.num, .string x.str, .string x.typ, .slice no x.names.length nc, .slice lo x.list.length lc] 26)
  have bw := hid ((Below.refl w.heap.size w).alloc (Nat.le_refl _) (.cells #[.int .u8 (x.kind : Nat), .int .i64 x.num, .string x.str, .string x.typ, .slice no x.names.length nc, .slice lo x.list.length lc] 26))
  generalize w.alloc (.cells #[.int .u8 (x.kind : Nat), .int .i64 x.num, .string x.str, .string x.typ, .slice no x.names.length nc, .slice lo x.list.length lc] 26) = X0 at K1 bw ⊢
  obtain ⟨c0, c1, c2, c3, c4, c5, cf⟩ := six K1.out
  go_wp2_with fail
  go_loopw [3, 9] (fun av i wr => ∃ k : Nat, k ≤ x.list.length ∧ i = .int .i64 k ∧ av = .int .i64 (nWTo x.list k) ∧ Hid (Below w.heap.size w wr)) (fun _ i _ => x.list.length - (intOf i).toNat)
  case atStart => exact ⟨0, by omega, rfl, by rw [nWTo_zero], bw⟩
  case round =>
    obtain ⟨k, hk, rfl, rfl, bw'⟩ := hrel
    clear c0 c1 c2 c3 c4 c5 cf K1 bw
    rename_i wr _
    by_cases hkl : k < x.list.length
    · have hki : (k : Int) < (x.list.length : Int) := by omega
      have hst := nWTo_step x.list k hkl
      obtain ⟨xb, xo, rfl, xf0, xf1, xf2, xf3, xf4, xf5⟩ := (h'.out.below bw'.out).part6 e2'.out k hkl
      have hrec := hid (fun W (b : Below w.heap.size w W) => ih'.out x.list[k] (List.getElem_mem hkl) W ((h'.out.below b).parts.2.2.2.2.2.2.2 _ (List.getElem_mem hkl)))
      have hzok := (h'.out.below bw'.out).parts.2.2.2.2.2.2.2 _ (List.getElem_mem hkl)
      obtain ⟨A2, hA2⟩ : ∃ A2, nWTo x.list (k + 1) = A2 := ⟨_, rfl⟩
      rw [hA2] at hst
      replace hA2 := hid hA2
      generalize nWTo x.list k = A1 at hst ⊢
      generalize x.list[k] = z at xf0 xf1 xf2 xf3 xf4 xf5 hrec hst hzok
      obtain ⟨zno, znc, zlo, zlc, ez1, ez2, zl1, zl2⟩ := hzok.forms
      have hzv := T.val_eq ez1 ez2
      rw [ez1] at xf4
      rw [ez2] at xf5
      clear hzok ez1 ez2
      replace hrec := hid (show ∀ W, Below w.heap.size w W → Calls Tryz.prog 30 #[.agg #[.int .u8 (z.kind : Nat), .int .i64 z.num, .string z.str, .string z.typ, .slice zno z.names.length znc, .slice zlo z.list.length zlc]] W fun e w' => e = .returned (.int .i64 (nW z)) ∧ Below W.heap.size W w' from fun W b => by have := hrec.out W b; rw [hzv] at this; exact this)
      clear hzv
      generalize nW z = dz at hst hrec
      go_upto_region 5 with fail
      have K4 := hid (Blk.new wr [.int .u8 (z.kind : Nat), .int .i64 z.num, .string z.str, .string z.typ, .slice zno z.names.length znc, .slice zlo z.list.length zlc] 26)
      replace bw' := hid (bw'.out.alloc bw'.out.size (.cells #[.int .u8 (z.kind : Nat), .int .i64 z.num, .string z.str, .string z.typ, .slice zno z.names.length znc, .slice zlo z.list.length zlc] 26))
      clear xf0 xf1 xf2 xf3 xf4 xf5
      generalize wr.alloc (.cells #[.int .u8 (z.kind : Nat), .int .i64 z.num, .string z.str, .string z.typ, .slice zno z.names.length znc, .slice zlo z.list.length zlc] 26) = X3 at K4 bw' ⊢
      obtain ⟨f0, f1, f2, f3, f4, f5, ff⟩ := six K4.out
      go_wp2_with fail
      refine (hrec.out _ bw'.out).mono ?_
      rintro e w2 ⟨rfl, b1⟩
      replace bw' := hid (bt bw'.out b1)
      clear b1 hrec f0 f1 f2 f3 f4 f5 ff K4
      have hadd : wrap64 (A1 + dz) = A2 := hst.symm
      go_wp2_with fail
      go_roundw
      case rel => exact ⟨k + 1, by omega, by go_num, by first | (rw [hA2.out, hst]; done) | (rw [hA2.out]; done) | (rw [hA2.out]; congr 1; omega), bw'⟩
      case measure => simp [intOf]; omega
    · have hki : ¬ (k : Int) < (x.list.length : Int) := by omega
      have hke : k = x.list.length := by omega
      have hn := hid (show nWTo x.list k = R from by rw [hR'.out, hke])
      generalize nWTo x.list k = A1 at hn ⊢
      clear hR' hb
      go_wp2_with fail
      go_ret
      exact ⟨by rw [← hn.out]; first | rfl | (congr 2; omega), bw'.out⟩
theorem nodesw_any (x : T) : NodesW x := by
  suffices h : ∀ n (x : T), x.size ≤ n → NodesW x from h x.size x (Nat.le_refl _)
  intro n
  induction n with
  | zero => intro x hx; have := x.size_pos; omega
  | succ n ih => intro x hx; exact nodesw_step x (fun z hm => ih z (by have := T.size_part hm; omega))
set_option maxHeartbeats 4000000 in
theorem checkw_any (x : T) (w : World) (h : x.ok w) (hw : Sta w) :
    Calls Tryz.prog 9 #[x.val] w fun e w' => e = .returned (.int .i64 (chkW x)) ∧ Below w.heap.size w w' := by
  have cR := hid (fun W (b : Below w.heap.size w W) => right_any x W (h.below b) (hw.below b))
  have cD := hid (fun W (b : Below w.heap.size w W) => deepw_any x W (h.below b))
  have cS := hid (fun W (b : Below w.heap.size w W) => nodesw_any x W (h.below b))
  obtain ⟨no, nc, lo, lc, e1, e2, l1, l2⟩ := h.forms
  rw [T.val_eq e1 e2] at cR cD cS ⊢
  obtain ⟨R, hR⟩ : ∃ R, chkW x = R := ⟨_, rfl⟩
  rw [hR]
  replace hR := hid (hR.symm.trans (show chkW x = _ by unfold chkW; rfl))
  clear h e1 e2 hw
  generalize rightB x = rb at *
  generalize dW x = dn at *
  generalize nW x = sn at *
  go_enter Tryz.func9, Tryz.ntmps9
  go_upto_region 1 with fail
  have K1 := hid (Blk.new w [.int .u8 (x.kind : Nat), .int .i64 x.num, .string x.str, .string x.typ, .slice no x.names.length nc, .slice lo x.list.length lc] 26)
  have bw := hid ((Below.refl w.heap.size w).alloc (Nat.le_refl _) (.cells #[.int .u8 (x.kind : Nat), .int .i64 x.num, .string x.str, .string x.typ, .slice no x.names.length nc, .slice lo x.list.length lc] 26))
  generalize w.alloc (.cells #[.int .u8 (x.kind : Nat), .int .i64 x.num, .string x.str, .string x.typ, .slice no x.names.length nc, .slice lo x.list.length lc] 26) = X0 at K1 bw ⊢
  obtain ⟨c0, c1, c2, c3, c4, c5, cf⟩ := six K1.out
  go_wp2_with fail
  refine (cR.out _ bw.out).mono ?_
  rintro e w1 ⟨rfl, b1⟩
  replace K1 := hid (K1.out.below b1 K1.out.lt)
  replace bw := hid (bt bw.out b1)
  clear b1 cR c0 c1 c2 c3 c4 c5 cf
  obtain ⟨c0, c1, c2, c3, c4, c5, cf⟩ := six K1.out
  cases rb with
  | false =>
    replace hR := hid (hR.out.trans (if_pos rfl))
    go_wp2_with fail
    go_ret
    exact ⟨by rw [hR.out]; rfl, bw.out⟩
  | true =>
    replace hR := hid (hR.out.trans (if_neg (by simp)))
    go_wp2_with fail
    refine (cD.out _ bw.out).mono ?_
    rintro e w2 ⟨rfl, b1⟩
    replace K1 := hid (K1.out.below b1 K1.out.lt)
    replace bw := hid (bt bw.out b1)
    clear b1 cD c0 c1 c2 c3 c4 c5 cf
    obtain ⟨c0, c1, c2, c3, c4, c5, cf⟩ := six K1.out
    by_cases h1 : 16 < dn
    · have h1i : (16 : Int) < dn := h1
      replace hR := hid (hR.out.trans (if_pos h1))
      go_wp2_with fail
      go_ret
      exact ⟨by rw [hR.out]; rfl, bw.out⟩
    · have h1i : ¬ (16 : Int) < dn := h1
      replace hR := hid (hR.out.trans (if_neg h1))
      go_wp2_with fail
      refine (cS.out _ bw.out).mono ?_
      rintro e w3 ⟨rfl, b1⟩
      replace K1 := hid (K1.out.below b1 K1.out.lt)
      replace bw := hid (bt bw.out b1)
      clear b1 cS c0 c1 c2 c3 c4 c5 cf
      by_cases h2 : 128 < sn
      · have h2i : (128 : Int) < sn := h2
        replace hR := hid (hR.out.trans (if_pos h2))
        go_wp2_with fail
        go_ret
        exact ⟨by rw [hR.out]; rfl, bw.out⟩
      · have h2i : ¬ (128 : Int) < sn := h2
        replace hR := hid (hR.out.trans (if_neg h2))
        go_wp2_with fail
        go_ret
        exact ⟨by rw [hR.out]; rfl, bw.out⟩
end Go.Proofs.YtbcjppbiihgfpaaGreatDoor.Ex
