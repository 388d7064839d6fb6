/-
  slices.CompactFunc of a row of the call's own, over value.Set's test: contract.
-/
import Derived.Laws.IdiomCopy
import Derived.Deep.RegionHeld3
import Derived.Test.YtdjgkbpfmonebaaGreatDoorValCopy
namespace Go.Proofs.YtdjgkbpfmonebaaGreatDoor.Val
open Go.ChangeShapes Go.WideShapes Go.ChangeAt Go.RowKit
open Go.Proofs.YtdjgkbpfmonebaaGreatDoor.Mem
set_option linter.unusedVariables false
set_option linter.unusedSimpArgs false
set_option maxRecDepth 100000
/-- behind p, without those that are like the one ahead of them -/
def dd (p : T) : List T → List T
  | [] => []
  | x :: r => if cmpT x p == 0 then dd x r else x :: dd x r
def compactT : List T → List T
  | [] => []
  | x :: r => x :: dd x r
theorem dd_mem {p : T} {l : List T} : ∀ x ∈ dd p l, x ∈ l := by
  induction l generalizing p with
  | nil => intro x hx; simp [dd] at hx
  | cons y l ih =>
    intro x hx
    rw [dd] at hx
    split at hx
    · exact List.mem_cons_of_mem _ (ih x hx)
    · rcases List.mem_cons.1 hx with rfl | hx
      · exact List.mem_cons_self ..
      · exact List.mem_cons_of_mem _ (ih x hx)
theorem compactT_mem {l : List T} : ∀ x ∈ compactT l, x ∈ l := by
  cases l with
  | nil => intro x hx; simp [compactT] at hx
  | cons y l =>
    intro x hx
    rcases List.mem_cons.1 hx with rfl | hx
    · exact List.mem_cons_self ..
    · exact List.mem_cons_of_mem _ (dd_mem x hx)
theorem dd_length {p : T} {l : List T} : (dd p l).length ≤ l.length := by
  induction l generalizing p with
  | nil => simp [dd]
  | cons y l ih =>
    rw [dd]
    split
    · have := ih (p := y); simp; omega
    · have := ih (p := y); simp; omega
theorem compactT_length {l : List T} : (compactT l).length ≤ l.length := by
  cases l with
  | nil => simp [compactT]
  | cons y l => have := dd_length (p := y) (l := l); simp [compactT]; omega
theorem But_trans {B db : Nat} {a b c : World} (h : But B db a b) (g : But B db b c) : But B db a c :=
  ⟨g.os.trans h.os, g.tape.trans h.tape, g.output.trans h.output, Nat.le_trans h.size g.size, fun k hk hn => (g.block k hk hn).trans (h.block k hk hn)⟩
theorem But_below {db : Nat} {a b c : World} (h : But a.heap.size db a b) (g : Below b.heap.size b c) : But a.heap.size db a c :=
  But_trans h (show But a.heap.size db b c from ⟨g.os, g.tape, g.output, g.size, fun k (hk : k < a.heap.size) _ => g.block k (Nat.lt_of_lt_of_le hk h.size)⟩)
theorem But_setCell {B db : Nat} {a W : World} (h : But B db a W) (o : Nat) (v : Value) : But B db a (W.setCell ⟨db, o, none⟩ v) :=
  But_trans h ⟨rfl, rfl, rfl, by simp, fun k _ hn => Below.heap_setCell _ _ _ _ (by simpa using hn)⟩
theorem But_st7 {B db : Nat} {a W : World} (h : But B db a W) (o : Nat) (a0 a1 a2 a3 a4 a5 a6 : Value) : But B db a (Val.st7 W db o a0 a1 a2 a3 a4 a5 a6) := by
  unfold Val.st7
  exact But_setCell (But_setCell (But_setCell (But_setCell (But_setCell (But_setCell (But_setCell h o a0) _ a1) _ a2) _ a3) _ a4) _ a5) _ a6
theorem heap_setCells (g : Nat) : ∀ (vs : List Value) (o : Nat) (W : World) {k : Nat}, k ≠ g → (W.setCells g o vs).heap[k]? = W.heap[k]?
  | [], _, _, _, _ => rfl
  | v :: r, o, W, k, hk => by rw [World.setCells, heap_setCells g r _ _ hk, Below.heap_setCell _ _ _ _ (by simpa using hk)]
theorem but_setCells {B g : Nat} {a : World} : ∀ (vs : List Value) (o : Nat) (W : World), But B g a W → But B g a (W.setCells g o vs)
  | [], _, _, h => h
  | v :: r, o, W, h => by
    rw [World.setCells]
    exact but_setCells r (o + 1) _ (But_trans h ⟨rfl, rfl, rfl, by simp, fun k _ hn => Below.heap_setCell _ _ _ _ (by simpa using hn)⟩)
theorem blk_setCells {g : Nat} {t : TypeId} : ∀ (vs : List Value) (A bs C : List Value) (W : World), Blk W g (A ++ (bs ++ C)) t → vs.length = bs.length → Blk (W.setCells g A.length vs) g (A ++ (vs ++ C)) t
  | [], A, bs, C, W, h, hl => by
    obtain rfl : bs = [] := List.eq_nil_of_length_eq_zero (by simpa using hl.symm)
    exact h
  | v :: r, A, [], C, W, h, hl => by simp at hl
  | v :: r, A, b :: bs, C, W, h, hl => by
    have h1 := h.set A.length v
    rw [set_mid A (bs ++ C) b v _ (by simp) A.length rfl] at h1
    have h2 := blk_setCells r (A ++ [v]) bs C _ (by simpa using h1) (by simpa using hl)
    rw [World.setCells]
    simpa using h2
theorem run_clear7 {P : Program} (w : World) (t e ty : TypeId) (z : Value) (ht : P.underlying t = some (.slice e)) (hv : ∀ w, (zeroValue e).run P w = .ok z w) (b o n c : Nat) (hn : 0 < n)
    (hc : ∀ j, j < (Builtin.zeroCells z.cells n).toList.length → (w.cell? ⟨b, o + j, none⟩).isSome = true) (hf : ∀ j, j < (Builtin.zeroCells z.cells n).toList.length → w.frozen? ⟨b, o + j, none⟩ = false) (h1 : ∀ v ∈ (Builtin.zeroCells z.cells n).toList, v.oneCell' = true) :
    (Builtin.clear_ #[t] ty #[.slice (some ⟨b, o, none⟩) n c]).run P w = .ok (.tuple #[]) (w.setCells b o (Builtin.zeroCells z.cells n).toList) := by
  have hst := run_storeCells_cells (P := P) b o (Builtin.zeroCells z.cells n).toList 0 w (by simpa using hc) (by simpa using hf) h1
  simp only [Nat.add_zero] at hst
  obtain ⟨m, rfl⟩ : ∃ m, n = m + 1 := ⟨n - 1, by omega⟩
  simp [Builtin.clear_, run_underlying ht, hv, hst]
def zeroA : Array Value := #[.int .u8 0, .bool false, .int .i64 0, .string ⟨#[]⟩, .string ⟨#[]⟩, .slice none 0 0, .slice none 0 0]
theorem zero_value : ∀ w, (zeroValue 27).run Tryz.prog w = .ok (.agg zeroA) w := fun _ => by kernel_rfl
theorem zero_cells : (Value.agg zeroA).cells = zeroA := by rfl
theorem zeroCells_len (n : Nat) : (Builtin.zeroCells zeroA n).toList.length = n * 7 := by simp [Builtin.zeroCells, zeroA]
theorem zeroCells_one (n : Nat) : ∀ v ∈ (Builtin.zeroCells zeroA n).toList, v.oneCell' = true := by
  intro v hv
  simp only [Builtin.zeroCells, Array.toList_map, List.mem_map] at hv
  obtain ⟨i, _, rfl⟩ := hv
  have hz : zeroA.size = 7 := rfl
  rw [hz]
  have hlt : i % 7 < 7 := Nat.mod_lt _ (by omega)
  generalize i % 7 = j at hlt
  match j, hlt with
  | 0, _ => rfl
  | 1, _ => rfl
  | 2, _ => rfl
  | 3, _ => rfl
  | 4, _ => rfl
  | 5, _ => rfl
  | 6, _ => rfl
theorem clear_run (W : World) (g kk n cap : Nat) (cs : List Value) (t : TypeId) (ty : TypeId) (h : Blk W g cs t) (hk : kk < n) (hl : n * 7 ≤ cs.length) :
    (Builtin.clear_ #[23] ty #[.slice (some ⟨g, kk * 7, none⟩) (n - kk) (cap - kk)]).run Tryz.prog W = .ok (.tuple #[]) (W.setCells g (kk * 7) (Builtin.zeroCells zeroA (n - kk)).toList) := by
  have e : (n - kk) * 7 = n * 7 - kk * 7 := Nat.sub_mul ..
  have := run_clear7 (P := Tryz.prog) W 23 27 ty (.agg zeroA) Tryz.underlying23 zero_value g (kk * 7) (n - kk) (cap - kk) (by omega)
    (fun j hj => by rw [zero_cells, zeroCells_len] at hj; rw [h.cell (kk * 7 + j) (by omega)]; rfl) (fun j hj => h.free _) (by rw [zero_cells]; exact zeroCells_one _)
  rw [zero_cells] at this
  exact this
/-- what the walk carries behind the first two that are alike -/
structure Cmp2 (l R : List T) (kk q : Nat) (p : T) : Prop where
  len : R.length = l.length
  mem : ∀ x ∈ R, x ∈ l
  le : kk ≤ q
  lt : q < l.length
  at' : l[q]? = some p
  high : R.drop q = l.drop q
  done : R.take kk ++ dd p (l.drop (q + 1)) = compactT l
theorem Cmp2.skip {l R : List T} {kk q : Nat} {p x : T} (h : Cmp2 l R kk q p) (hx : l[q + 1]? = some x) (he : (cmpT x p == 0) = true) : Cmp2 l R kk (q + 1) x := by
  obtain ⟨hlt, hg⟩ := List.getElem?_eq_some_iff.1 hx
  refine ⟨h.len, h.mem, by have := h.le; omega, hlt, hx, ?_, ?_⟩
  · have := congrArg (List.drop 1) h.high
    simpa [List.drop_drop] using this
  · have := h.done
    rw [List.drop_eq_getElem_cons hlt, hg, dd, if_pos he] at this
    exact this
theorem Cmp2.keep {l R : List T} {kk q : Nat} {p x : T} (h : Cmp2 l R kk q p) (hx : l[q + 1]? = some x) (he : (cmpT x p == 0) = false) : Cmp2 l (R.set kk x) (kk + 1) (q + 1) x := by
  obtain ⟨hlt, hg⟩ := List.getElem?_eq_some_iff.1 hx
  have hle := h.le
  have hl := h.len
  refine ⟨by rw [List.length_set, h.len], ?_, by omega, hlt, hx, ?_, ?_⟩
  · intro y hy
    rcases List.mem_or_eq_of_mem_set hy with hy | rfl
    · exact h.mem y hy
    · rw [← hg]; exact List.getElem_mem hlt
  · have := congrArg (List.drop 1) h.high
    rw [List.drop_drop, List.drop_drop] at this
    rw [List.drop_set, if_pos (by omega)]
    exact this
  · have := h.done
    rw [List.drop_eq_getElem_cons hlt, hg, dd, if_neg (by rw [he]; simp)] at this
    have hs : kk < (R.set kk x).length := by rw [List.length_set]; omega
    rw [List.take_succ_eq_append_getElem hs, List.getElem_set_self, List.take_set_of_le (Nat.le_refl _), List.append_assoc]
    exact this
theorem Cmp2.row {l R : List T} {kk q : Nat} {p : T} (h : Cmp2 l R kk q p) {i : Nat} (hi : q ≤ i) (hl : i < l.length) : ∃ h1 : i < R.length, R[i]'h1 = l[i] := by
  have hl2 := h.len
  refine ⟨by omega, ?_⟩
  have := congrArg (·[i - q]?) h.high
  simp only [List.getElem?_drop, show q + (i - q) = i by omega] at this
  rw [List.getElem?_eq_getElem (by omega), List.getElem?_eq_getElem hl] at this
  exact Option.some.inj this
/-- ahead of the first two that are alike -/
theorem dd_step {l : List T} {j : Nat} (h1 : j + 1 < l.length) (hp : compactT l = l.take (j + 1) ++ dd l[j] (l.drop (j + 1))) (he : (cmpT l[j + 1] l[j] == 0) = false) : compactT l = l.take (j + 1 + 1) ++ dd l[j + 1] (l.drop (j + 1 + 1)) := by
  rw [hp, List.drop_eq_getElem_cons h1, dd, if_neg (by rw [he]; simp), List.take_succ_eq_append_getElem h1, List.append_assoc]
  rfl
theorem dd_alike {l : List T} {j : Nat} (h1 : j + 1 < l.length) (hp : compactT l = l.take (j + 1) ++ dd l[j] (l.drop (j + 1))) (he : (cmpT l[j + 1] l[j] == 0) = true) : Cmp2 l l (j + 1) (j + 1) l[j + 1] :=
  ⟨rfl, fun _ h => h, Nat.le_refl _, h1, List.getElem?_eq_getElem h1, rfl, by rw [hp, List.drop_eq_getElem_cons h1, dd, if_pos he]⟩
theorem store_row {W : World} {g kk : Nat} {R : List T} {tail : List Value} {t : TypeId} {y : T} (h : Blk W g (T.encL R ++ tail) t) (hk : kk < R.length) {yno ylo : Option Addr} {ync ylc : Nat} (e1 : y.nv = .slice yno y.names.length ync) (e2 : y.lv = .slice ylo y.list.length ylc) :
    Blk (st7 W g (kk * 7) (.int .u8 (y.kind : Nat)) (.bool y.bool) (.int .i64 y.num) (.string y.str) (.string y.typ) (.slice yno y.names.length ync) (.slice ylo y.list.length ylc)) g (T.encL (R.set kk y) ++ tail) t := by
  have e : R = R.take kk ++ R.drop kk := (List.take_append_drop kk R).symm
  have hl : (R.take kk).length = kk := by rw [List.length_take]; omega
  rw [e] at h
  have := copy_row (l := R) (k := kk) (ys := R.take kk) (y := y) h hl hk e1 e2
  rw [List.set_eq_take_append_cons_drop, if_pos hk]
  simpa using this
theorem one_of {l : List T} (h : 0 < l.length) (h2 : l.length < 2) : ∃ x, l = [x] := by
  match l, h, h2 with
  | [x], _, _ => exact ⟨x, rfl⟩
theorem compact_start {l : List T} (h : 0 < l.length) : compactT l = l.take (0 + 1) ++ dd (l[0]'h) (l.drop (0 + 1)) := by
  match l, h with
  | x :: r, _ => rfl
theorem compact_end {l : List T} {j : Nat} (hl : ¬ j + 1 < l.length) (h : ∃ h : j < l.length, compactT l = l.take (j + 1) ++ dd l[j] (l.drop (j + 1))) : compactT l = l := by
  obtain ⟨h, hp⟩ := h
  rw [hp, List.drop_eq_nil_of_le (by omega), dd, List.append_nil, List.take_of_length_le (by omega)]
set_option maxHeartbeats 4000000 in
theorem compact_any (l : List T) (g cap : Nat) (tail : List Value) (W : World) (hB : Blk W g (T.encL l ++ tail) 27) (hok : ∀ x ∈ l, x.ok W) (hin : ∀ x ∈ l, x.inS (fun k => k ≠ g ∧ k < W.heap.size)) (hc : l.length ≤ cap) (hcm : cap ≤ maxLen) (hpos : 0 < l.length) :
    Calls Tryz.prog 31 #[.slice (some ⟨g, 0, none⟩) l.length cap, .func (Fn.func 32) #[] #[]] W fun e w' =>
      e = .returned (.slice (some ⟨g, 0, none⟩) (compactT l).length cap) ∧ (∃ tail', Blk w' g (T.encL (compactT l) ++ tail') 27) ∧ But W.heap.size g W w' := by
  have hm : maxLen = 9223372036854775807 := rfl
  have hli : (l.length : Int) ≤ 9223372036854775807 := by omega
  have hci : (cap : Int) ≤ 9223372036854775807 := by omega
  have hcli : (l.length : Int) ≤ (cap : Int) := by omega
  clear hm hcm
  have hB' := hid hB
  have hgl := hid hB.lt
  have hall := hid (fun (w : World) (hb : But W.heap.size g W w) (x : T) (hx : x ∈ l) => (hok x hx).keep (S := fun k => k ≠ g ∧ k < W.heap.size) (fun k hk => hb.block k hk.2 hk.1) (hin x hx))
  clear hB hok hin
  by_cases h2 : l.length < 2
  · have h2i : (l.length : Int) < 2 := by omega
    obtain ⟨x, rfl⟩ := one_of hpos h2
    go_enter Tryz.func31, Tryz.ntmps31
    go_wp2_with fail
    go_ret
    exact ⟨rfl, ⟨tail, hB'.out⟩, But.refl _ _ _⟩
  · have h2i : ¬ (l.length : Int) < 2 := by omega
    have hz0 := hid (compact_start hpos)
    go_enter Tryz.func31, Tryz.ntmps31
    go_wp2_with fail
    go_loopw [5] (fun i wr => ∃ j : Nat, i = .int .i64 ((j : Int) + 1) ∧ j < l.length ∧ Hid (∃ h : j < l.length, compactT l = l.take (j + 1) ++ dd l[j] (l.drop (j + 1))) ∧ Hid (Blk wr g (T.encL l ++ tail) 27) ∧ Hid (But W.heap.size g W wr)) (fun i _ => l.length + 1 - (intOf i).toNat)
    case atStart => exact ⟨0, rfl, hpos, hid ⟨hpos, hz0.out⟩, hB', hid (But.refl _ _ _)⟩
    case round =>
      clear hz0 hB'
      obtain ⟨j, rfl, hjl, hpre, hrow, hbut⟩ := hrel
      rename_i wr _
      by_cases hlt : j + 1 < l.length
      · have hji : (j : Int) + 1 < (l.length : Int) := by omega
        have hjc : (j : Int) + 1 < (cap : Int) := by omega
        have hjn : j + 1 < cap := by omega
        obtain ⟨yf0, yf1, yf2, yf3, yf4, yf5, yf6, yff⟩ := row_cells hrow.out j hjl
        obtain ⟨xf0, xf1, xf2, xf3, xf4, xf5, xf6, xff⟩ := row_cells hrow.out (j + 1) hlt
        have hcl := hid (fun w (b : Below wr.heap.size wr w) => samev_any l[j + 1] l[j] w ((hall.out wr hbut.out _ (List.getElem_mem hlt)).below b) ((hall.out wr hbut.out _ (List.getElem_mem hjl)).below b))
        have hno := hid (show (cmpT l[j + 1] l[j] == 0) = false → compactT l = l.take (j + 1 + 1) ++ dd l[j + 1] (l.drop (j + 1 + 1)) from fun he => dd_step hlt hpre.out.2 he)
        have hyes := hid (show (cmpT l[j + 1] l[j] == 0) = true → Cmp2 l l (j + 1) (j + 1) l[j + 1] from fun he => dd_alike hlt hpre.out.2 he)
        clear xff yff hpre
        have hx1 := hid (show ∀ z, l[j + 1] = z → l[j + 1]? = some z from fun z e => by rw [← e]; exact List.getElem?_eq_getElem hlt)
        obtain ⟨zx, hzx⟩ : ∃ z, l[j + 1] = z := ⟨_, rfl⟩
        obtain ⟨zy, hzy⟩ : ∃ z, l[j] = z := ⟨_, rfl⟩
        rw [hzx] at xf0 xf1 xf2 xf3 xf4 xf5 xf6
        rw [hzy] at yf0 yf1 yf2 yf3 yf4 yf5 yf6
        rw [hzx, hzy] at hcl hno hyes
        replace hzx := hid hzx
        replace hzy := hid hzy
        obtain ⟨bz, hbz⟩ : ∃ b, Hid ((cmpT zx zy == 0) = b) := ⟨_, hid rfl⟩
        rw [hbz.out] at hcl hno hyes
        replace hcl := hid (show ∀ w, Below wr.heap.size wr w → Calls Tryz.prog 32 #[.agg #[.int .u8 (zx.kind : Nat), .bool zx.bool, .int .i64 zx.num, .string zx.str, .string zx.typ, zx.nv, zx.lv], .agg #[.int .u8 (zy.kind : Nat), .bool zy.bool, .int .i64 zy.num, .string zy.str, .string zy.typ, zy.nv, zy.lv]] w fun e w' => e = .returned (.bool bz) ∧ Below w.heap.size w w' from hcl.out)
        have e1 : (j : Int) + 1 - 1 = (j : Int) := by omega
        have e2 : IntKind.i64.wrap ((j : Int) + 1 - 1) = (j : Int) := by rw [e1, IntWalk.i64_in _ (by omega)]
        have e7 : IntKind.i64.wrap (j : Int) = (j : Int) := by rw [IntWalk.i64_in _ (by omega)]
        have e3 : ((j : Int) + 1).toNat = j + 1 := by omega
        have e4 : (0 : Int) ≤ (j : Int) + 1 := by omega
        have e5 : (j : Int) < (l.length : Int) := by omega
        have e6 : (0 : Int) ≤ (j : Int) := by omega
        go_wp2_with fail
        go_region_held3 (fun W => W.cell? ⟨g, (j + 1) * 7, none⟩ = some (.int .u8 (zx.kind : Nat)) ∧ W.cell? ⟨g, (j + 1) * 7 + 1, none⟩ = some (.bool zx.bool) ∧ W.cell? ⟨g, (j + 1) * 7 + 2, none⟩ = some (.int .i64 zx.num) ∧ W.cell? ⟨g, (j + 1) * 7 + 3, none⟩ = some (.string zx.str) ∧ W.cell? ⟨g, (j + 1) * 7 + 4, none⟩ = some (.string zx.typ) ∧ W.cell? ⟨g, (j + 1) * 7 + 5, none⟩ = some (zx.nv) ∧ W.cell? ⟨g, (j + 1) * 7 + 6, none⟩ = some (zx.lv) ∧ W.cell? ⟨g, j * 7, none⟩ = some (.int .u8 (zy.kind : Nat)) ∧ W.cell? ⟨g, j * 7 + 1, none⟩ = some (.bool zy.bool) ∧ W.cell? ⟨g, j * 7 + 2, none⟩ = some (.int .i64 zy.num) ∧ W.cell? ⟨g, j * 7 + 3, none⟩ = some (.string zy.str) ∧ W.cell? ⟨g, j * 7 + 4, none⟩ = some (.string zy.typ) ∧ W.cell? ⟨g, j * 7 + 5, none⟩ = some (zy.nv) ∧ W.cell? ⟨g, j * 7 + 6, none⟩ = some (zy.lv)) (exact ⟨xf0, xf1, xf2, xf3, xf4, xf5, xf6, yf0, yf1, yf2, yf3, yf4, yf5, yf6⟩) (first
          | (go_at_call 32; (with_reducible refine (hcl.out _ (Below.refl _ wr).drew).mono ?_); rintro e w1 ⟨rfl, b1⟩; replace b1 := (Below.refl wr.heap.size wr).drew.trans b1
             have ca : ∀ {a : Addr} {v : Value}, wr.cell? a = some v → w1.cell? a = some v := fun h => (b1.cell (World.block_lt_of_cell? _ _ h)).trans h
             replace xf0 := ca xf0; replace xf1 := ca xf1; replace xf2 := ca xf2; replace xf3 := ca xf3; replace xf4 := ca xf4; replace xf5 := ca xf5; replace xf6 := ca xf6; replace yf0 := ca yf0; replace yf1 := ca yf1; replace yf2 := ca yf2; replace yf3 := ca yf3; replace yf4 := ca yf4; replace yf5 := ca yf5; replace yf6 := ca yf6; clear ca))
        clear xf0 xf1 xf2 xf3 xf4 xf5 xf6 yf0 yf1 yf2 yf3 yf4 yf5 yf6 hcl
        clear e1 e2 e3 e4 e5 e6 e7
        replace hrow := hid (hrow.out.below b1 hrow.out.lt)
        replace hbut := hid (But_below hbut.out b1)
        clear b1
        cases bz with
        | false =>
          have hpre2 := hid (show ∃ h : j + 1 < l.length, compactT l = l.take (j + 1 + 1) ++ dd l[j + 1] (l.drop (j + 1 + 1)) from ⟨hlt, by rw [hzx.out]; exact hno.out rfl⟩)
          clear hno hyes hbz hx1 hzx hzy
          go_wp2_with fail
          go_roundw
          case rel => exact ⟨j + 1, by go_num, hlt, hpre2, hrow, hbut⟩
          case measure => simp [intOf]; omega
        | true =>
          have hI0 := hid (hyes.out rfl)
          clear hno hyes hbz hx1 hzx hzy
          go_wp2_with fail
          go_loopw [5, 7] (fun i i2 w2 => ∃ (kk m : Nat) (R : List T) (p : T), i = .int .i64 kk ∧ i2 = .int .i64 ((m : Int) + 1) ∧ kk < l.length ∧ j + 1 + m < l.length ∧ Hid (Cmp2 l R kk (j + 1 + m) p) ∧ Hid (Blk w2 g (T.encL R ++ tail) 27) ∧ Hid (But W.heap.size g W w2)) (fun _ i2 _ => l.length + 1 - (intOf i2).toNat)
          case atStart => exact ⟨j + 1, 0, l, zx, by go_num, rfl, hlt, hlt, hI0, hrow, hbut⟩
          case round =>
            clear hI0 hrow hbut
            obtain ⟨kk, m, R, p, rfl, rfl, hkk, hjm, hI, hrow, hbut⟩ := hrel
            rename_i wr _
            have hki : (kk : Int) < (l.length : Int) := by omega
            have hkc : (kk : Int) < (cap : Int) := by omega
            have hkn : kk < cap := by omega
            by_cases hlt2 : j + 1 + m + 1 < l.length
            · have hmi : (m : Int) + 1 < (l.length : Int) - ((j : Int) + 1) := by omega
              have hmn : m + 1 < l.length - (j + 1) := by omega
              obtain ⟨r1, hr1⟩ := hI.out.row (i := j + 1 + m) (by omega) (by omega)
              obtain ⟨r2, hr2⟩ := hI.out.row (i := j + 1 + m + 1) (by omega) hlt2
              obtain ⟨yf0, yf1, yf2, yf3, yf4, yf5, yf6, yff⟩ := row_cells hrow.out (j + 1 + m) r1
              obtain ⟨xf0, xf1, xf2, xf3, xf4, xf5, xf6, xff⟩ := row_cells hrow.out (j + 1 + m + 1) r2
              rw [hr1] at yf0 yf1 yf2 yf3 yf4 yf5 yf6
              rw [hr2] at xf0 xf1 xf2 xf3 xf4 xf5 xf6
              have hp : l[j + 1 + m] = p := Option.some.inj ((List.getElem?_eq_getElem (by omega)).symm.trans hI.out.at')
              have hxs := List.getElem?_eq_getElem hlt2
              have hcl := hid (fun w (b : Below wr.heap.size wr w) => samev_any l[j + 1 + m + 1] l[j + 1 + m] w ((hall.out wr hbut.out _ (List.getElem_mem hlt2)).below b) ((hall.out wr hbut.out _ (List.getElem_mem (by omega))).below b))
              obtain ⟨zno, znc, zlo, zlc, ez1, ez2, zl1, zl2⟩ := (hall.out wr hbut.out _ (List.getElem_mem hlt2)).forms
              rw [hp] at yf0 yf1 yf2 yf3 yf4 yf5 yf6 hcl
              clear hp hr1 hr2 r1 r2 yff
              generalize l[j + 1 + m + 1] = zx at xf0 xf1 xf2 xf3 xf4 xf5 xf6 hcl hxs ez1 ez2
              replace hxs := hid hxs
              have hskip := hid (fun he => hI.out.skip hxs.out he)
              have hkeep := hid (fun he => hI.out.keep hxs.out he)
              have hRl := hid hI.out.len
              obtain ⟨bz, hbz⟩ : ∃ b, Hid ((cmpT zx p == 0) = b) := ⟨_, hid rfl⟩
              rw [hbz.out] at hcl hskip hkeep
              have hzv : zx.val = .agg #[.int .u8 (zx.kind : Nat), .bool zx.bool, .int .i64 zx.num, .string zx.str, .string zx.typ, .slice zno zx.names.length znc, .slice zlo zx.list.length zlc] := by rw [T.lit, ez1, ez2]
              rw [hzv] at hcl
              rw [ez1] at xf5
              rw [ez2] at xf6
              replace ez1 := hid ez1
              replace ez2 := hid ez2
              clear hzv zl1 zl2 hbz
              rw [show (j + 1 + m) * 7 = (j + 1) * 7 + m * 7 by omega] at yf0 yf1 yf2 yf3 yf4 yf5 yf6
              rw [show (j + 1 + m + 1) * 7 = (j + 1) * 7 + (m + 1) * 7 by omega] at xf0 xf1 xf2 xf3 xf4 xf5 xf6
              obtain ⟨zy, rfl⟩ : ∃ z, z = p := ⟨_, rfl⟩
              replace hcl := hid (show ∀ w, Below wr.heap.size wr w → Calls Tryz.prog 32 #[.agg #[.int .u8 (zx.kind : Nat), .bool zx.bool, .int .i64 zx.num, .string zx.str, .string zx.typ, .slice zno zx.names.length znc, .slice zlo zx.list.length zlc], .agg #[.int .u8 (zy.kind : Nat), .bool zy.bool, .int .i64 zy.num, .string zy.str, .string zy.typ, zy.nv, zy.lv]] w fun e w' => e = .returned (.bool bz) ∧ Below w.heap.size w w' from hcl.out)
              have hzcell := hid (show ∀ (w : World), Below wr.heap.size wr w → ∀ (a : Addr) (v : Value), wr.cell? a = some v → w.cell? a = some v from fun w b a v h => (b.cell (World.block_lt_of_cell? _ _ h)).trans h)
              have xk := hid (And.intro xf0 (And.intro xf1 (And.intro xf2 (And.intro xf3 (And.intro xf4 (And.intro xf5 xf6))))))
              have e8 : m < l.length - (j + 1) := by omega
              have e1 : (m : Int) + 1 - 1 = (m : Int) := by omega
              have e2 : IntKind.i64.wrap ((m : Int) + 1 - 1) = (m : Int) := by rw [e1, IntWalk.i64_in _ (by omega)]
              have e7 : IntKind.i64.wrap (m : Int) = (m : Int) := by rw [IntWalk.i64_in _ (by omega)]
              have e3 : ((m : Int) + 1).toNat = m + 1 := by omega
              have e4 : (0 : Int) ≤ (m : Int) + 1 := by omega
              have e5 : (m : Int) < (l.length : Int) - ((j : Int) + 1) := by omega
              have e6 : (0 : Int) ≤ (m : Int) := by omega
              go_wp2_with fail
              go_region_held3 (fun W => W.cell? ⟨g, (j + 1) * 7 + (m + 1) * 7, none⟩ = some (.int .u8 (zx.kind : Nat)) ∧ W.cell? ⟨g, (j + 1) * 7 + (m + 1) * 7 + 1, none⟩ = some (.bool zx.bool) ∧ W.cell? ⟨g, (j + 1) * 7 + (m + 1) * 7 + 2, none⟩ = some (.int .i64 zx.num) ∧ W.cell? ⟨g, (j + 1) * 7 + (m + 1) * 7 + 3, none⟩ = some (.string zx.str) ∧ W.cell? ⟨g, (j + 1) * 7 + (m + 1) * 7 + 4, none⟩ = some (.string zx.typ) ∧ W.cell? ⟨g, (j + 1) * 7 + (m + 1) * 7 + 5, none⟩ = some (.slice zno zx.names.length znc) ∧ W.cell? ⟨g, (j + 1) * 7 + (m + 1) * 7 + 6, none⟩ = some (.slice zlo zx.list.length zlc) ∧ W.cell? ⟨g, (j + 1) * 7 + m * 7, none⟩ = some (.int .u8 (zy.kind : Nat)) ∧ W.cell? ⟨g, (j + 1) * 7 + m * 7 + 1, none⟩ = some (.bool zy.bool) ∧ W.cell? ⟨g, (j + 1) * 7 + m * 7 + 2, none⟩ = some (.int .i64 zy.num) ∧ W.cell? ⟨g, (j + 1) * 7 + m * 7 + 3, none⟩ = some (.string zy.str) ∧ W.cell? ⟨g, (j + 1) * 7 + m * 7 + 4, none⟩ = some (.string zy.typ) ∧ W.cell? ⟨g, (j + 1) * 7 + m * 7 + 5, none⟩ = some (zy.nv) ∧ W.cell? ⟨g, (j + 1) * 7 + m * 7 + 6, none⟩ = some (zy.lv)) (exact ⟨xf0, xf1, xf2, xf3, xf4, xf5, xf6, yf0, yf1, yf2, yf3, yf4, yf5, yf6⟩) (first
                | (go_at_call 32; (with_reducible refine (hcl.out _ (Below.refl _ wr).drew).mono ?_); rintro e w1 ⟨rfl, b1⟩; replace b1 := (Below.refl wr.heap.size wr).drew.trans b1
                   have ca : ∀ {a : Addr} {v : Value}, wr.cell? a = some v → w1.cell? a = some v := fun h => (b1.cell (World.block_lt_of_cell? _ _ h)).trans h
                   replace xf0 := ca xf0; replace xf1 := ca xf1; replace xf2 := ca xf2; replace xf3 := ca xf3; replace xf4 := ca xf4; replace xf5 := ca xf5; replace xf6 := ca xf6; replace yf0 := ca yf0; replace yf1 := ca yf1; replace yf2 := ca yf2; replace yf3 := ca yf3; replace yf4 := ca yf4; replace yf5 := ca yf5; replace yf6 := ca yf6; clear ca))
              clear xf0 xf1 xf2 xf3 xf4 xf5 xf6 yf0 yf1 yf2 yf3 yf4 yf5 yf6 hcl
              have hca := hid (hzcell.out w1 b1)
              obtain ⟨xf0, xf1, xf2, xf3, xf4, xf5, xf6⟩ := xk.out
              replace xf0 := hca.out _ _ xf0
              replace xf1 := hca.out _ _ xf1
              replace xf2 := hca.out _ _ xf2
              replace xf3 := hca.out _ _ xf3
              replace xf4 := hca.out _ _ xf4
              replace xf5 := hca.out _ _ xf5
              replace xf6 := hca.out _ _ xf6
              replace hrow := hid (hrow.out.below b1 hrow.out.lt)
              replace hbut := hid (But_below hbut.out b1)
              clear b1 hca hzcell xk e1 e2
              cases bz with
              | true =>
                have hI2 := hid (hskip.out rfl)
                clear hskip hkeep xf0 xf1 xf2 xf3 xf4 xf5 xf6 hI hRl hxs ez1 ez2
                go_wp2_with fail
                go_roundw
                case rel => exact ⟨kk, m + 1, R, zx, rfl, by go_num, hkk, by omega, hI2, hrow, hbut⟩
                case measure => simp [intOf]; omega
              | false =>
                have hI2 := hid (hkeep.out rfl)
                have hkr : kk < R.length := by rw [hRl.out]; exact hkk
                obtain ⟨df0, df1, df2, df3, df4, df5, df6, dff⟩ := row_cells hrow.out kk hkr
                generalize R[kk] = zd at df0 df1 df2 df3 df4 df5 df6
                have hrow2 := hid (store_row (y := zx) hrow.out hkr ez1.out ez2.out)
                have hbut2 := hid (But_st7 hbut.out (kk * 7) (.int .u8 (zx.kind : Nat)) (.bool zx.bool) (.int .i64 zx.num) (.string zx.str) (.string zx.typ) (.slice zno zx.names.length znc) (.slice zlo zx.list.length zlc))
                have hlast := hid (show kk + 1 < l.length by have := hI.out.le; omega)
                clear hskip hkeep hI hRl hxs ez1 ez2 hkr hrow hbut
                unfold st7 at hrow2 hbut2
                go_wp2_with fail
                clear xf0 xf1 xf2 xf3 xf4 xf5 xf6 df0 df1 df2 df3 df4 df5 df6 dff
                go_roundw
                case rel => exact ⟨kk + 1, m + 1, R.set kk zx, zx, by go_num, by go_num, hlast.out, by omega, hI2, hrow2, hbut2⟩
                case measure => simp [intOf]; omega
            · have hmi : ¬ (m : Int) + 1 < (l.length : Int) - ((j : Int) + 1) := by omega
              have hmn : ¬ m + 1 < l.length - (j + 1) := by omega
              have hdone := hid (show R.take kk = compactT l by
                have := hI.out.done
                rw [List.drop_eq_nil_of_le (by omega), dd, List.append_nil] at this
                exact this)
              have hRl := hid hI.out.len
              have hclr := fun ty => clear_run wr g kk l.length cap (T.encL R ++ tail) 27 ty hrow.out hkk (by rw [List.length_append, T.encL_len, hRl.out]; omega)
              have hrow2 := hid (show ∃ tail', Blk (wr.setCells g (kk * 7) (Builtin.zeroCells zeroA (l.length - kk)).toList) g (T.encL (compactT l) ++ tail') 27 from by
                have e : R = R.take kk ++ R.drop kk := (List.take_append_drop kk R).symm
                have h1 := hrow.out
                rw [e, encL_append, List.append_assoc] at h1
                have h2 := blk_setCells (Builtin.zeroCells zeroA (l.length - kk)).toList (T.encL (R.take kk)) (T.encL (R.drop kk)) tail wr h1 (by rw [zeroCells_len, T.encL_len, List.length_drop, hRl.out])
                rw [T.encL_len, List.length_take, Nat.min_eq_left (by rw [hRl.out]; omega)] at h2
                rw [hdone.out] at h2
                exact ⟨_, h2⟩)
              have hbut2 := hid (but_setCells (Builtin.zeroCells zeroA (l.length - kk)).toList (kk * 7) wr hbut.out)
              have hlen := hid (show (compactT l).length = kk by rw [← hdone.out, List.length_take, hRl.out]; omega)
              clear hI hrow hbut hdone hRl
              generalize (Builtin.zeroCells zeroA (l.length - kk)).toList = zs at hclr hrow2 hbut2
              go_wp2_with fail
              go_ret
              exact ⟨by rw [hlen.out]; rfl, hrow2.out, hbut2.out⟩
      · have hji : ¬ (j : Int) + 1 < (l.length : Int) := by omega
        have he := hid (compact_end hlt hpre.out)
        clear hpre
        go_wp2_with fail
        go_ret
        exact ⟨by rw [he.out]; rfl, by rw [he.out]; exact ⟨tail, hrow.out⟩, hbut.out⟩
end Go.Proofs.YtdjgkbpfmonebaaGreatDoor.Val
