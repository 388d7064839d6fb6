/-
  expr.deep, expr.nodes: how deep an expression is, how many nodes it has; contracts.
-/
import Derived.Test.YtbcjppbiihgfpaaGreatDoorExTree
import Derived.Test.YtbcjppbiihgfpaaGreatDoorRows
import Derived.WalkKit
import Derived.ProofKit
import Derived.OpenShut
import Derived.Handy
import Derived.Outline
import Derived.Deep.Cut
namespace Go.Proofs.YtbcjppbiihgfpaaGreatDoor.Ex
open Go.ChangeShapes Go.WideShapes Go.ChangeAt Go.RowKit
open Go.Proofs.YtbcjppbiihgfpaaGreatDoor.Mem
set_option linter.unusedVariables false
set_option linter.unusedSimpArgs false
set_option maxRecDepth 100000
mutual
def deepN : T → Nat
  | .mk k n s t na nv l lv => deepL l + 1
def deepL : List T → Nat
  | [] => 0
  | x :: r => max (deepN x) (deepL r)
end
theorem deepN_eq (x : T) : deepN x = deepL x.list + 1 := by
  cases x
  rw [deepN]
  rfl
theorem deep_size : ∀ (n : Nat) (x : T), x.size ≤ n → deepN x ≤ x.size := by
  intro n
  induction n with
  | zero => intro x h; have := x.size_pos; omega
  | succ n ih =>
    intro x h
    rw [deepN_eq, T.size_list]
    have key : ∀ l : List T, T.sizeL l ≤ n → deepL l ≤ T.sizeL l := by
      intro l
      induction l with
      | nil => intro _; simp [deepL]
      | cons y l ihl =>
        intro hl
        rw [T.sizeL] at hl ⊢
        rw [deepL]
        have h1 := ih y (by omega)
        have h2 := ihl (by omega)
        omega
    have := key x.list (by rw [T.size_list] at h; omega)
    omega
/-- the greatest depth of the first k parts -/
def deepTo (l : List T) (k : Nat) : Nat := deepL (l.take k)
theorem deepL_append (a b : List T) : deepL (a ++ b) = max (deepL a) (deepL b) := by
  induction a with
  | nil => simp [deepL]
  | cons x a ih => rw [List.cons_append, deepL, deepL, ih]; omega
theorem deepTo_step (l : List T) (k : Nat) (h : k < l.length) : deepTo l (k + 1) = max (deepTo l k) (deepN l[k]) := by
  unfold deepTo
  rw [List.take_succ_eq_append_getElem h, deepL_append, deepL, deepL]
  omega
theorem deepL_take (l : List T) (k : Nat) : deepL (l.take k) ≤ deepL l := by
  conv => rhs; rw [← List.take_append_drop k l]
  rw [deepL_append]
  omega
theorem sizeL_append (a b : List T) : T.sizeL (a ++ b) = T.sizeL a + T.sizeL b := by
  induction a with
  | nil => simp [T.sizeL]
  | cons x a ih => rw [List.cons_append, T.sizeL, T.sizeL, ih]; omega
theorem sizeL_take_step (l : List T) (k : Nat) (h : k < l.length) : T.sizeL (l.take (k + 1)) = T.sizeL (l.take k) + (l[k]).size := by
  rw [List.take_succ_eq_append_getElem h, sizeL_append, T.sizeL, T.sizeL]
  omega
theorem sizeL_take (l : List T) (k : Nat) : T.sizeL (l.take k) ≤ T.sizeL l := by
  conv => rhs; rw [← List.take_append_drop k l]
  rw [sizeL_append]
  omega
theorem max_run (a b : Nat) (ts : Array TypeId) (t : TypeId) (W : World) : (Builtin.max_ ts t #[.int .i64 (a : Int), .int .i64 (b : Int)]).run Tryz.prog W = .ok (.int .i64 ((max a b : Nat) : Int)) W := by
  rw [run_max_int2]
  have : (if (a : Int) < (b : Int) then (b : Int) else (a : Int)) = ((max a b : Nat) : Int) := by
    split <;> omega
  rw [this]
theorem T.val_eq {x : T} {no lo : Option Addr} {nc lc : Nat} (e1 : x.nv = .slice no x.names.length nc) (e2 : x.lv = .slice lo x.list.length lc) : x.val = .agg #[.int .u8 (x.kind : Nat), .int .i64 x.num, .string x.str, .string x.typ, .slice no x.names.length nc, .slice lo x.list.length lc] := by
  show Value.agg _ = _
  unfold T.enc
  rw [e1, e2]
theorem deepN_to (x : T) (hsz : x.size ≤ 8388608) (k : Nat) : deepTo x.list k + 1 ≤ 8388608 := by
  have h1 := deep_size x.size x (Nat.le_refl _)
  rw [deepN_eq] at h1
  have h2 := deepL_take x.list k
  unfold deepTo
  omega
def sizeTo (l : List T) (k : Nat) : Nat := T.sizeL (l.take k) + 1
theorem size_eq (x : T) : x.size = T.sizeL x.list + 1 := T.size_list x
theorem size_to (x : T) (hsz : x.size ≤ 8388608) (k : Nat) : sizeTo x.list k ≤ 8388608 := by
  have h1 := T.size_list x
  have h2 := sizeL_take x.list k
  unfold sizeTo
  omega
theorem sizeTo_step (l : List T) (k : Nat) (h : k < l.length) : sizeTo l (k + 1) = sizeTo l k + (l[k]).size := by
  unfold sizeTo
  rw [sizeL_take_step l k h]
  omega
def Deep (x : T) : Prop := ∀ (w : World), x.ok w → Calls Tryz.prog 29 #[x.val] w fun e w' => e = .returned (.int .i64 (deepN x : Nat)) ∧ Below w.heap.size w w'
set_option maxHeartbeats 4000000 in
theorem deep_step (x : T) (hsz : x.size ≤ 8388608) (ih : ∀ z ∈ x.list, Deep z) : Deep x := by
  intro w h
  obtain ⟨no, nc, lo, lc, e1, e2, l1, l2⟩ := h.forms
  rw [T.val_eq e1 e2]
  have hR' := hid (deepN_eq x)
  have hb := hid (fun k => deepN_to x hsz k)
  generalize deepN x = R at hR' ⊢
  have i2 : (x.list.length : Int) ≤ 9223372036854775807 := by omega
  have h' := hid h
  have ih' := hid ih
  have e2' := hid e2
  clear ih h e1 e2 hsz
  go_enter Tryz.func29, Tryz.ntmps29
  go_upto_region 1 with fail
  have K1 := hid (Blk.new w [.int .u8 (x.kind : Nat), .int .i64 x.num, .string x.str, .string x.typ, .slice no x.names.length nc, .slice lo x.list.length lc] 26)
  have bw := hid ((Below.refl w.heap.size w).alloc (Nat.le_refl _) (.cells #[.int .u8 (x.kind : Nat), .int .i64 x.num, .string x.str, .string x.typ, .slice no x.names.length nc, .slice lo x.list.length lc] 26))
  generalize w.alloc (.cells #[.int .u8 (x.kind : Nat), .int .i64 x.num, .string x.str, .string x.typ, .slice no x.names.length nc, .slice lo x.list.length lc] 26) = X0 at K1 bw ⊢
  obtain ⟨c0, c1, c2, c3, c4, c5, cf⟩ := six K1.out
  go_wp2_with fail
  go_loopw [3, 9] (fun av i wr => ∃ k : Nat, k ≤ x.list.length ∧ i = .int .i64 k ∧ av = .int .i64 (deepTo x.list k : Nat) ∧ Hid (Below w.heap.size w wr)) (fun _ i _ => x.list.length - (intOf i).toNat)
  case atStart => exact ⟨0, by omega, rfl, rfl, bw⟩
  case round =>
    obtain ⟨k, hk, rfl, rfl, bw'⟩ := hrel
    clear c0 c1 c2 c3 c4 c5 cf K1 bw
    rename_i wr _
    by_cases hkl : k < x.list.length
    · have hki : (k : Int) < (x.list.length : Int) := by omega
      have hst := deepTo_step x.list k hkl
      have hb1 := hb.out k
      have hb2 := hb.out (k + 1)
      obtain ⟨xb, xo, rfl, xf0, xf1, xf2, xf3, xf4, xf5⟩ := (h'.out.below bw'.out).part6 e2'.out k hkl
      have hrec := hid (fun W (b : Below w.heap.size w W) => ih'.out x.list[k] (List.getElem_mem hkl) W ((h'.out.below b).parts.2.2.2.2.2.2.2 _ (List.getElem_mem hkl)))
      have hzok := (h'.out.below bw'.out).parts.2.2.2.2.2.2.2 _ (List.getElem_mem hkl)
      obtain ⟨A2, hA2⟩ : ∃ A2, deepTo x.list (k + 1) = A2 := ⟨_, rfl⟩
      rw [hA2] at hst hb2
      replace hA2 := hid hA2
      generalize deepTo x.list k = A1 at hst hb1 ⊢
      generalize x.list[k] = z at xf0 xf1 xf2 xf3 xf4 xf5 hrec hst hzok
      obtain ⟨zno, znc, zlo, zlc, ez1, ez2, zl1, zl2⟩ := hzok.forms
      have hzv := T.val_eq ez1 ez2
      rw [ez1] at xf4
      rw [ez2] at xf5
      clear hzok ez1 ez2
      replace hrec := hid (show ∀ W, Below w.heap.size w W → Calls Tryz.prog 29 #[.agg #[.int .u8 (z.kind : Nat), .int .i64 z.num, .string z.str, .string z.typ, .slice zno z.names.length znc, .slice zlo z.list.length zlc]] W fun e w' => e = .returned (.int .i64 (deepN z : Nat)) ∧ Below W.heap.size W w' from fun W b => by have := hrec.out W b; rw [hzv] at this; exact this)
      clear hzv
      generalize deepN z = dz at hst hrec
      go_upto_region 5 with fail
      have K4 := hid (Blk.new wr [.int .u8 (z.kind : Nat), .int .i64 z.num, .string z.str, .string z.typ, .slice zno z.names.length znc, .slice zlo z.list.length zlc] 26)
      replace bw' := hid (bw'.out.alloc bw'.out.size (.cells #[.int .u8 (z.kind : Nat), .int .i64 z.num, .string z.str, .string z.typ, .slice zno z.names.length znc, .slice zlo z.list.length zlc] 26))
      clear xf0 xf1 xf2 xf3 xf4 xf5
      generalize wr.alloc (.cells #[.int .u8 (z.kind : Nat), .int .i64 z.num, .string z.str, .string z.typ, .slice zno z.names.length znc, .slice zlo z.list.length zlc] 26) = X3 at K4 bw' ⊢
      obtain ⟨f0, f1, f2, f3, f4, f5, ff⟩ := six K4.out
      go_wp2_with fail
      refine (hrec.out _ bw'.out).mono ?_
      rintro e w2 ⟨rfl, b1⟩
      replace bw' := hid (bt bw'.out b1)
      clear b1 hrec f0 f1 f2 f3 f4 f5 ff K4
      have hmx := fun ts t W => max_run A1 dz ts t W
      rw [← hst] at hmx
      go_wp2_with fail
      go_roundw
      case rel => exact ⟨k + 1, by omega, by go_num, by first | (rw [hA2.out, hst]; done) | (rw [hA2.out]; done) | (rw [hA2.out]; congr 1; omega), bw'⟩
      case measure => simp [intOf]; omega
    · have hki : ¬ (k : Int) < (x.list.length : Int) := by omega
      have hke : k = x.list.length := by omega
      have hn := hid (show (deepTo x.list k + 1) = R from by rw [hR'.out, hke, deepTo, List.take_length])
      have hb1 := hb.out k
      generalize deepTo x.list k = A1 at hb1 hn ⊢
      clear hR' hb
      go_wp2_with fail
      go_ret
      exact ⟨by rw [← hn.out]; first | rfl | (congr 2; omega), bw'.out⟩
theorem deep_any (x : T) (hsz : x.size ≤ 8388608) : Deep x := by
  suffices h : ∀ n (x : T), x.size ≤ n → x.size ≤ 8388608 → Deep x from h x.size x (Nat.le_refl _) hsz
  intro n
  induction n with
  | zero => intro x hx; have := x.size_pos; omega
  | succ n ih => intro x hx hz; exact deep_step x hz (fun z hm => ih z (by have := T.size_part hm; omega) (by have := T.size_part hm; omega))
def Nodes (x : T) : Prop := ∀ (w : World), x.ok w → Calls Tryz.prog 30 #[x.val] w fun e w' => e = .returned (.int .i64 (T.size x : Nat)) ∧ Below w.heap.size w w'
set_option maxHeartbeats 4000000 in
theorem nodes_step (x : T) (hsz : x.size ≤ 8388608) (ih : ∀ z ∈ x.list, Nodes z) : Nodes x := by
  intro w h
  obtain ⟨no, nc, lo, lc, e1, e2, l1, l2⟩ := h.forms
  rw [T.val_eq e1 e2]
  have hR' := hid (size_eq x)
  have hb := hid (fun k => size_to x hsz k)
  generalize T.size x = R at hR' ⊢
  have i2 : (x.list.length : Int) ≤ 9223372036854775807 := by omega
  have h' := hid h
  have ih' := hid ih
  have e2' := hid e2
  clear ih h e1 e2 hsz
  go_enter Tryz.func30, Tryz.ntmps30
  go_upto_region 1 with fail
  have K1 := hid (Blk.new w [.int .u8 (x.kind : Nat), .int .i64 x.num, .string x.str, .string x.typ, .slice no x.names.length nc, .slice lo x.list.length lc] 26)
  have bw := hid ((Below.refl w.heap.size w).alloc (Nat.le_refl _) (.cells #[.int .u8 (x.kind : Nat), .int .i64 x.num, .string x.str, .string x.typ, .slice no x.names.length nc, .slice lo x.list.length lc] 26))
  generalize w.alloc (.cells #[.int .u8 (x.kind : Nat), .int .i64 x.num, .string x.str, .string x.typ, .slice no x.names.length nc, .slice lo x.list.length lc] 26) = X0 at K1 bw ⊢
  obtain ⟨c0, c1, c2, c3, c4, c5, cf⟩ := six K1.out
  go_wp2_with fail
  go_loopw [3, 9] (fun av i wr => ∃ k : Nat, k ≤ x.list.length ∧ i = .int .i64 k ∧ av = .int .i64 (sizeTo x.list k : Nat) ∧ Hid (Below w.heap.size w wr)) (fun _ i _ => x.list.length - (intOf i).toNat)
  case atStart => exact ⟨0, by omega, rfl, rfl, bw⟩
  case round =>
    obtain ⟨k, hk, rfl, rfl, bw'⟩ := hrel
    clear c0 c1 c2 c3 c4 c5 cf K1 bw
    rename_i wr _
    by_cases hkl : k < x.list.length
    · have hki : (k : Int) < (x.list.length : Int) := by omega
      have hst := sizeTo_step x.list k hkl
      have hb1 := hb.out k
      have hb2 := hb.out (k + 1)
      obtain ⟨xb, xo, rfl, xf0, xf1, xf2, xf3, xf4, xf5⟩ := (h'.out.below bw'.out).part6 e2'.out k hkl
      have hrec := hid (fun W (b : Below w.heap.size w W) => ih'.out x.list[k] (List.getElem_mem hkl) W ((h'.out.below b).parts.2.2.2.2.2.2.2 _ (List.getElem_mem hkl)))
      have hzok := (h'.out.below bw'.out).parts.2.2.2.2.2.2.2 _ (List.getElem_mem hkl)
      obtain ⟨A2, hA2⟩ : ∃ A2, sizeTo x.list (k + 1) = A2 := ⟨_, rfl⟩
      rw [hA2] at hst hb2
      replace hA2 := hid hA2
      generalize sizeTo x.list k = A1 at hst hb1 ⊢
      generalize x.list[k] = z at xf0 xf1 xf2 xf3 xf4 xf5 hrec hst hzok
      obtain ⟨zno, znc, zlo, zlc, ez1, ez2, zl1, zl2⟩ := hzok.forms
      have hzv := T.val_eq ez1 ez2
      rw [ez1] at xf4
      rw [ez2] at xf5
      clear hzok ez1 ez2
      replace hrec := hid (show ∀ W, Below w.heap.size w W → Calls Tryz.prog 30 #[.agg #[.int .u8 (z.kind : Nat), .int .i64 z.num, .string z.str, .string z.typ, .slice zno z.names.length znc, .slice zlo z.list.length zlc]] W fun e w' => e = .returned (.int .i64 (T.size z : Nat)) ∧ Below W.heap.size W w' from fun W b => by have := hrec.out W b; rw [hzv] at this; exact this)
      clear hzv
      generalize T.size z = dz at hst hrec
      go_upto_region 5 with fail
      have K4 := hid (Blk.new wr [.int .u8 (z.kind : Nat), .int .i64 z.num, .string z.str, .string z.typ, .slice zno z.names.length znc, .slice zlo z.list.length zlc] 26)
      replace bw' := hid (bw'.out.alloc bw'.out.size (.cells #[.int .u8 (z.kind : Nat), .int .i64 z.num, .string z.str, .string z.typ, .slice zno z.names.length znc, .slice zlo z.list.length zlc] 26))
      clear xf0 xf1 xf2 xf3 xf4 xf5
      generalize wr.alloc (.cells #[.int .u8 (z.kind : Nat), .int .i64 z.num, .string z.str, .string z.typ, .slice zno z.names.length znc, .slice zlo z.list.length zlc] 26) = X3 at K4 bw' ⊢
      obtain ⟨f0, f1, f2, f3, f4, f5, ff⟩ := six K4.out
      go_wp2_with fail
      refine (hrec.out _ bw'.out).mono ?_
      rintro e w2 ⟨rfl, b1⟩
      replace bw' := hid (bt bw'.out b1)
      clear b1 hrec f0 f1 f2 f3 f4 f5 ff K4
      have hadd : IntKind.i64.wrap ((A1 : Int) + (dz : Int)) = (A2 : Int) := by rw [IntWalk.i64_in _ (by omega)]; omega
      go_wp2_with fail
      go_roundw
      case rel => exact ⟨k + 1, by omega, by go_num, by first | (rw [hA2.out, hst]; done) | (rw [hA2.out]; done) | (rw [hA2.out]; congr 1; omega), bw'⟩
      case measure => simp [intOf]; omega
    · have hki : ¬ (k : Int) < (x.list.length : Int) := by omega
      have hke : k = x.list.length := by omega
      have hn := hid (show (sizeTo x.list k) = R from by rw [hR'.out, hke, sizeTo, List.take_length])
      have hb1 := hb.out k
      generalize sizeTo x.list k = A1 at hb1 hn ⊢
      clear hR' hb
      go_wp2_with fail
      go_ret
      exact ⟨by rw [← hn.out]; first | rfl | (congr 2; omega), bw'.out⟩
theorem nodes_any (x : T) (hsz : x.size ≤ 8388608) : Nodes x := by
  suffices h : ∀ n (x : T), x.size ≤ n → x.size ≤ 8388608 → Nodes x from h x.size x (Nat.le_refl _) hsz
  intro n
  induction n with
  | zero => intro x hx; have := x.size_pos; omega
  | succ n ih => intro x hx hz; exact nodes_step x hz (fun z hm => ih z (by have := T.size_part hm; omega) (by have := T.size_part hm; omega))
end Go.Proofs.YtbcjppbiihgfpaaGreatDoor.Ex
