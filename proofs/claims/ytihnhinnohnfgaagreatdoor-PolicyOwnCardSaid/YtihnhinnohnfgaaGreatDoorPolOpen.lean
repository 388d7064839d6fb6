/-
  A policy, a condition opened: arguments are what stands in the world; the bulk bounds the conditions' sizes.
-/
import Derived.Test.YtihnhinnohnfgaaGreatDoorRowOpen
import Derived.Test.YtihnhinnohnfgaaGreatDoorExOpen
import Derived.Test.YtihnhinnohnfgaaGreatDoorPolTree
namespace Go.Proofs.YtihnhinnohnfgaaGreatDoor.Pol
open Go.ChangeShapes Go.WideShapes Go.ChangeAt Go.RowKit Go.Joins Go.Deep
open Go.Proofs.YtihnhinnohnfgaaGreatDoor.Mem
set_option linter.unusedVariables false
set_option linter.unusedSimpArgs false
set_option maxRecDepth 100000
instance : Inhabited Cd := ⟨⟨false, default⟩⟩
instance : Inhabited Sc := ⟨⟨0, [], .slice none 0 0, ⟨#[]⟩⟩⟩
def encU1 (p : Ud) : List Value := [.string p.1, .string p.2]
def okU (p : Ud) : Prop := p.1.size ≤ 140737488355328 ∧ p.2.size ≤ 140737488355328
theorem open_uid {H : Type} {enc : TypeId × Value → H} {W : World} (n : Nat) : Row.Opens (H := H) enc W 137 encU1 okU (fun _ => 0) n := by
  intro cs x h hw
  have hC : Tryz.prog.cellsOf 137 = 2 := by kernel_rfl
  obtain ⟨xs, k, hn, hxx, hlen, hxl, hf⟩ := DataW.trod_struct Tryz.underlying137 h
  subst hxx
  rw [hC] at hlen
  simp only [DataW.weights, Tryz.underlying137] at hw
  match cs, hlen, xs, hxl with
  | [a0, a1], _, [x0, x1], _ =>
    have k3 : Tryz.prog.cellsOf 9 = 1 := by kernel_rfl
    have f0 : DataW.trod enc Tryz.prog W 0 (fun _ => true) true k 9 [a0] = some x0 := by simpa [k3] using hf 0 _ rfl
    have f1 : DataW.trod enc Tryz.prog W 0 (fun _ => true) true k 9 [a1] = some x1 := by simpa [k3] using hf 1 _ rfl
    simp only [List.map_cons, List.map_nil, DataW.weightsEach, List.mem_append] at hw
    obtain ⟨c0, e0, y0, _⟩ := DataW.trod_string Tryz.underlying9 f0
    obtain ⟨c1, e1, y1, _⟩ := DataW.trod_string Tryz.underlying9 f1
    obtain rfl : a0 = .string c0 := by simpa using e0
    obtain rfl : a1 = .string c1 := by simpa using e1
    have h47 := Row.reach47
    have b0 := hw c0.size (by rw [y0, DataW.weights]; exact .inl (List.mem_singleton.2 (Array.length_toList ..).symm))
    have b1 := hw c1.size (by rw [y1, DataW.weights]; exact .inr (.inl (List.mem_singleton.2 (Array.length_toList ..).symm)))
    exact ⟨(c0, c1), rfl, ⟨by show c0.size ≤ _; omega, by show c1.size ≤ _; omega⟩, Nat.zero_le _⟩
theorem open_scope {H : Type} {enc : TypeId × Value → H} {W : World} (n : Nat) : Row.Opens (H := H) enc W 36 Sc.enc (Sc.ok W) (fun _ => 0) n := by
  intro cs x h hw
  have hC : Tryz.prog.cellsOf 36 = 3 := by kernel_rfl
  obtain ⟨xs, k, hn, hxx, hlen, hxl, hf⟩ := DataW.trod_struct Tryz.underlying36 h
  subst hxx
  rw [hC] at hlen
  simp only [DataW.weights, Tryz.underlying36] at hw
  match cs, hlen, xs, hxl with
  | [a0, a1, a2], _, [x0, x1, x2], _ =>
    have k0 : Tryz.prog.cellsOf 33 = 1 := by kernel_rfl
    have k1 : Tryz.prog.cellsOf 34 = 1 := by kernel_rfl
    have k3 : Tryz.prog.cellsOf 9 = 1 := by kernel_rfl
    have f0 : DataW.trod enc Tryz.prog W 0 (fun _ => true) true k 33 [a0] = some x0 := by simpa [k0] using hf 0 _ rfl
    have f1 : DataW.trod enc Tryz.prog W 0 (fun _ => true) true k 34 [a1] = some x1 := by simpa [k1] using hf 1 _ rfl
    have f2 : DataW.trod enc Tryz.prog W 0 (fun _ => true) true k 9 [a2] = some x2 := by simpa [k3] using hf 2 _ rfl
    simp only [List.map_cons, List.map_nil, DataW.weightsEach, List.mem_append] at hw
    obtain ⟨c0, e0, _, g0⟩ := DataW.trod_int Tryz.underlying33 f0
    obtain ⟨c2, e2, y2, _⟩ := DataW.trod_string Tryz.underlying9 f2
    obtain ⟨l, hl, hs, hr, _⟩ := Row.open_row 34 137 2 32 (by decide) Tryz.underlying34 (by kernel_rfl) (by kernel_rfl) encU1 (fun _ => rfl) okU (fun _ => 0) (fun j _ => open_uid j) f1 (fun m hm => hw m (by simp [hm]))
    obtain rfl : a0 = .int .u8 c0 := by simpa using e0
    obtain rfl : a2 = .string c2 := by simpa using e2
    have b0 := bounds_u8 g0
    have h47 := Row.reach47
    have b2 := hw c2.size (by rw [y2, DataW.weights]; exact .inr (.inr (.inl (List.mem_singleton.2 (Array.length_toList ..).symm))))
    refine ⟨⟨c0.toNat, l, a1, c2⟩, ?_, ⟨⟨show c0.toNat < 256 by omega, hr⟩, show c2.size ≤ _ by omega, hs, hl⟩, Nat.zero_le _⟩
    show [Value.int .u8 ((c0.toNat : Nat) : Int), a1, .string c2] = _
    rw [Int.toNat_of_nonneg b0.1]
theorem open_cond {H : Type} {enc : TypeId × Value → H} {W : World} (n : Nat) : Row.Opens (H := H) enc W 48 Cd.enc (fun c => c.e.ok W) (fun c => c.e.size) n := by
  intro cs x h hw
  have hC : Tryz.prog.cellsOf 48 = 7 := by kernel_rfl
  obtain ⟨xs, k, hn, hxx, hlen, hxl, hf⟩ := DataW.trod_struct Tryz.underlying48 h
  subst hxx
  rw [hC] at hlen
  simp only [DataW.weights, Tryz.underlying48] at hw
  match cs, hlen, xs, hxl with
  | [a0, a1, a2, a3, a4, a5, a6], _, [x0, x1], _ =>
    have k0 : Tryz.prog.cellsOf 4 = 1 := by kernel_rfl
    have k1 : Tryz.prog.cellsOf 26 = 6 := by kernel_rfl
    have f0 : DataW.trod enc Tryz.prog W 0 (fun _ => true) true k 4 [a0] = some x0 := by simpa [k0] using hf 0 _ rfl
    have f1 : DataW.trod enc Tryz.prog W 0 (fun _ => true) true k 26 [a1, a2, a3, a4, a5, a6] = some x1 := by simpa [k1] using hf 1 _ rfl
    simp only [List.map_cons, List.map_nil, DataW.weightsEach, List.mem_append] at hw
    obtain ⟨c0, e0, _⟩ := DataW.trod_bool Tryz.underlying4 f0
    obtain rfl : a0 = .bool c0 := by simpa using e0
    obtain ⟨y, hy, hok, hsz⟩ := Ex.open_expr k _ x1 f1 (fun m hm => hw m (by simp [hm]))
    refine ⟨⟨c0, y⟩, by show Value.bool c0 :: y.enc = _; rw [hy], hok, ?_⟩
    show y.size ≤ _
    simp only [List.map_cons, List.map_nil, Rows.uptoBulk, Rows.uptoBulkAll]
    omega
def bulkP (x : Po) : Nat := (x.l.map fun c => c.e.size).sum
theorem open_policy {H : Type} {enc : TypeId × Value → H} {W : World} (n : Nat) : Row.Opens (H := H) enc W 39 Po.enc (Po.ok W) bulkP n := by
  intro cs x h hw
  have hC : Tryz.prog.cellsOf 39 = 11 := by kernel_rfl
  obtain ⟨xs, k, hn, hxx, hlen, hxl, hf⟩ := DataW.trod_struct Tryz.underlying39 h
  subst hxx
  rw [hC] at hlen
  simp only [DataW.weights, Tryz.underlying39] at hw
  match cs, hlen, xs, hxl with
  | [a0, a1, a2, a3, a4, a5, a6, a7, a8, a9, a10], _, [x0, x1, x2, x3, x4], _ =>
    have k0 : Tryz.prog.cellsOf 4 = 1 := by kernel_rfl
    have k1 : Tryz.prog.cellsOf 36 = 3 := by kernel_rfl
    have k2 : Tryz.prog.cellsOf 37 = 1 := by kernel_rfl
    have f0 : DataW.trod enc Tryz.prog W 0 (fun _ => true) true k 4 [a0] = some x0 := by simpa [k0] using hf 0 _ rfl
    have f1 : DataW.trod enc Tryz.prog W 0 (fun _ => true) true k 36 [a1, a2, a3] = some x1 := by simpa [k1] using hf 1 _ rfl
    have f2 : DataW.trod enc Tryz.prog W 0 (fun _ => true) true k 36 [a4, a5, a6] = some x2 := by simpa [k1] using hf 2 _ rfl
    have f3 : DataW.trod enc Tryz.prog W 0 (fun _ => true) true k 36 [a7, a8, a9] = some x3 := by simpa [k1] using hf 3 _ rfl
    have f4 : DataW.trod enc Tryz.prog W 0 (fun _ => true) true k 37 [a10] = some x4 := by simpa [k2] using hf 4 _ rfl
    simp only [List.map_cons, List.map_nil, DataW.weightsEach, List.mem_append] at hw
    obtain ⟨c0, e0, _⟩ := DataW.trod_bool Tryz.underlying4 f0
    obtain rfl : a0 = .bool c0 := by simpa using e0
    obtain ⟨y1, hy1, ok1, _⟩ := open_scope k _ x1 f1 (fun m hm => hw m (by simp [hm]))
    obtain ⟨y2, hy2, ok2, _⟩ := open_scope k _ x2 f2 (fun m hm => hw m (by simp [hm]))
    obtain ⟨y3, hy3, ok3, _⟩ := open_scope k _ x3 f3 (fun m hm => hw m (by simp [hm]))
    obtain ⟨l, hl, hs, hr, hb⟩ := Row.open_row 37 48 7 104 (by decide) Tryz.underlying37 (by kernel_rfl) (by kernel_rfl) Cd.enc (fun _ => rfl) (fun c => c.e.ok W) (fun c => c.e.size) (fun j _ => open_cond j) f4 (fun m hm => hw m (by simp [hm]))
    refine ⟨⟨c0, y1, y2, y3, l, a10⟩, ?_, ⟨⟨ok1, ok2, ok3⟩, hr, hs, hl⟩, ?_⟩
    · show Value.bool c0 :: (y1.enc ++ (y2.enc ++ (y3.enc ++ [a10]))) = _
      rw [hy1, hy2, hy3]
      rfl
    · show (l.map fun c => c.e.size).sum ≤ _
      simp only [List.map_cons, List.map_nil, Rows.uptoBulk, Rows.uptoBulkAll]
      omega
theorem open_policyv {H : Type} {enc : TypeId × Value → H} {W : World} {r : Reach} {b0 : Nat} {v : Value} {d : DataW H} {p : List MemPlace} (hv : Value.okWide Tryz.prog W r b0 39 v) (h : DataW.Trod enc Tryz.prog W 0 (fun _ => true) true 39 v d p)
    (hw : ∀ m ∈ d.weights Tryz.prog 39, m ≤ reachBytes) : ∃ y : Po, v = y.val ∧ y.ok W ∧ bulkP y ≤ Rows.uptoBulk d := by
  obtain ⟨cs, rfl, _⟩ := okWide_struct Tryz.underlying39 hv
  obtain ⟨n, hf⟩ := h
  obtain ⟨y, hy, hok, hz⟩ := open_policy n _ (d, p) hf hw
  refine ⟨y, ?_, hok, hz⟩
  show Value.agg cs = .agg y.enc.toArray
  rw [hy]
  simp [Value.cells]
theorem open_condv {H : Type} {enc : TypeId × Value → H} {W : World} {r : Reach} {b0 : Nat} {v : Value} {d : DataW H} {p : List MemPlace} (hv : Value.okWide Tryz.prog W r b0 48 v) (h : DataW.Trod enc Tryz.prog W 0 (fun _ => true) true 48 v d p)
    (hw : ∀ m ∈ d.weights Tryz.prog 48, m ≤ reachBytes) : ∃ y : Cd, v = .agg y.enc.toArray ∧ y.e.ok W ∧ y.e.size ≤ Rows.uptoBulk d := by
  obtain ⟨cs, rfl, _⟩ := okWide_struct Tryz.underlying48 hv
  obtain ⟨n, hf⟩ := h
  obtain ⟨y, hy, hok, hz⟩ := open_cond n _ (d, p) hf hw
  refine ⟨y, ?_, hok, hz⟩
  rw [hy]
  simp [Value.cells]
end Go.Proofs.YtihnhinnohnfgaaGreatDoor.Pol
