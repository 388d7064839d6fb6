/-
  policy.body: contract. Written by wip/polbody3gen.py.
-/
import Derived.Test.YtihnhinnohnfgaaGreatDoorPolAll
import Derived.Test.YtihnhinnohnfgaaGreatDoorPolScope
import Derived.Laws.OwnMore
namespace Go.Proofs.YtihnhinnohnfgaaGreatDoor.Pol
open Go.ChangeShapes Go.WideShapes Go.ChangeAt Go.RowKit
open Go.Proofs.YtihnhinnohnfgaaGreatDoor.Mem
open Go.Proofs.YtihnhinnohnfgaaGreatDoor.Ex (T)
set_option linter.unusedVariables false
set_option linter.unusedSimpArgs false
set_option maxRecDepth 100000
/-- what a scope that is right gives its body -/
def Sc.fit (s : Sc) : Prop := s.k = 1 ∨ s.k = 2 → 1 ≤ s.us.length ∧ s.us.length ≤ 16
theorem scope_fit {s : Sc} (h : scopeB s = true) : s.fit := by
  intro hk
  unfold scopeB scopeF at h
  rcases hk with hk | hk
  · rw [if_neg (by omega), if_pos hk] at h
    have := (Bool.and_eq_true_iff.1 h).1
    have := beq_iff_eq.1 this
    omega
  · rw [if_neg (by omega), if_neg (by omega), if_pos hk] at h
    have := (Bool.and_eq_true_iff.1 h).1
    have := beq_iff_eq.1 this
    omega
theorem action_fit {s : Sc} (h : actionB s = true) : s.fit := by
  intro hk
  unfold actionB actionF at h
  by_cases h2 : s.k = 2
  · rw [if_pos h2] at h
    have h3 := of_decide_eq_true (Bool.and_eq_true_iff.1 h).1
    have h4 := of_decide_eq_true (Bool.and_eq_true_iff.1 (Bool.and_eq_true_iff.1 h).2).1
    omega
  · rw [if_neg h2, if_neg (by omega)] at h
    exact scope_fit (s := s) h hk
theorem parts_len (x : Po) : (partsL x).length = 3 + x.l.length := by simp [partsL, headL]; omega
theorem parts_get (x : Po) (k : Nat) (h : k < x.l.length) : (partsL x)[3 + k]? = some (condT x.l[k]) := by
  show (headL x ++ x.l.map condT)[3 + k]? = _
  rw [List.getElem?_append_right (by show 3 ≤ 3 + k; omega), show 3 + k - (headL x).length = k from by show 3 + k - 3 = k; omega, List.getElem?_map, List.getElem?_eq_getElem h]
  rfl
theorem parts_step (x : Po) (k : Nat) (h : k < x.l.length) : (partsL x).take (3 + (k + 1)) = (partsL x).take (3 + k) ++ [condT x.l[k]] := by
  rw [show 3 + (k + 1) = (3 + k) + 1 by omega, List.take_add_one, parts_get x k h]
  rfl
theorem wpList_app2 {P : Program} {ops : Array Oper} {rest : List Oper} {o : Oper} {a : Act} {w : World} {Q : Exit → Act → World → Prop} (hgd : o.guard = none) (s x : Operand) (t t' : TypeId)
    (ho : o.op = .call { callee := .builtin .append, args := #[s, x], argTypes := #[t, t'] }) (v1 v2 v : Value) (w' : World) (hs : a.eval s = v1) (hx : a.eval x = v2)
    (hrun : (Builtin.append_ #[t, t'] o.type #[v1, v2]).run P w = .ok v w') (h : ∀ W, W = w' → wpList P ops Q rest (a.put o.dst v) W) : wpList P ops Q (o :: rest) a w :=
  wpList_plain hgd fun _ hK => by
    unfold Oper.wp
    simp [execOp, ho, resolve, invoke, builtin, hs, hx, hrun, Result.andThen]
    exact hK _ _ (h _ rfl)
theorem like_snoc {a : List T} {b : List T} {p q : T} (h : T.likeL a b) (g : p.like q) : T.likeL (a ++ [p]) (b ++ [q]) := T.likeL_append h ⟨g, trivial⟩
set_option maxHeartbeats 8000000 in
theorem body_any (x : Po) (w : World) (h : x.ok w) (ha : x.a.fit) (hb : x.b.fit) (hc : x.c.fit) (h16 : x.l.length ≤ 16) (S : Nat → Prop) (hS : ∀ c ∈ x.l, c.e.inS S) (hn : ∀ b, w.heap.size ≤ b → S b) :
    Calls Tryz.prog 37 #[x.val] w fun e w' => Built S (bodyT x) e w' ∧ Below w.heap.size w w' := by
  obtain ⟨ao, ac, e1, _⟩ := h.1.1.form
  obtain ⟨bo, bc, e2, _⟩ := h.1.2.1.form
  obtain ⟨co, cc, e3, _⟩ := h.1.2.2.form
  obtain ⟨lo, lc, e4, hl⟩ := h.form
  have hv1 : x.a.val = .agg #[.int .u8 (x.a.k : Nat), .slice ao x.a.us.length ac, .string x.a.t] := by unfold Sc.val Sc.enc; rw [e1]
  have hv2 : x.b.val = .agg #[.int .u8 (x.b.k : Nat), .slice bo x.b.us.length bc, .string x.b.t] := by unfold Sc.val Sc.enc; rw [e2]
  have hv3 : x.c.val = .agg #[.int .u8 (x.c.k : Nat), .slice co x.c.us.length cc, .string x.c.t] := by unfold Sc.val Sc.enc; rw [e3]
  have cA := hid (fun W (b : Below w.heap.size w W) (hs : w.heap.size + 2 ≤ W.heap.size) => hv1 ▸ scope_built prB (by decide) false (by rw [ByteArray.toList_eq]; rfl) x.a W (h.below b).1.1 ha (fun b => S b ∧ b ≠ w.heap.size ∧ b ≠ w.heap.size + 1) (fun k hk => ⟨hn k (by have := b.size; omega), by omega, by omega⟩))
  have cB := hid (fun W (b : Below w.heap.size w W) (hs : w.heap.size + 2 ≤ W.heap.size) => hv2 ▸ scope_built acB (by decide) true (by rw [ByteArray.toList_eq]; rfl) x.b W (h.below b).1.2.1 hb (fun b => S b ∧ b ≠ w.heap.size ∧ b ≠ w.heap.size + 1) (fun k hk => ⟨hn k (by have := b.size; omega), by omega, by omega⟩))
  have cC := hid (fun W (b : Below w.heap.size w W) (hs : w.heap.size + 2 ≤ W.heap.size) => hv3 ▸ scope_built reB (by decide) false (by rw [ByteArray.toList_eq]; rfl) x.c W (h.below b).1.2.2 hc (fun b => S b ∧ b ≠ w.heap.size ∧ b ≠ w.heap.size + 1) (fun k hk => ⟨hn k (by have := b.size; omega), by omega, by omega⟩))
  have hcd := hid (fun (c : Cd) (hc : c ∈ x.l) => (show c.e.ok w ∧ c.e.inS (fun k => S k ∧ k < w.heap.size) from ⟨h.2.2.1 c hc, inS_and (hS c hc) (h.2.2.1 c hc).inS⟩))
  have hcells := hid (fun W (B : Below w.heap.size w W) k (hk : k < x.l.length) => (h.below B).cond e4 k hk)
  have e4' := hid e4
  rw [Po.val_eq e1 e2 e3 e4]
  obtain ⟨m, hm⟩ : ∃ m, x.l.length = m := ⟨_, rfl⟩
  rw [hm] at hl h16 ⊢
  have i2 : (m : Int) ≤ 9223372036854775807 := by omega
  obtain ⟨R, hR⟩ : ∃ R, bodyT x = R := ⟨_, rfl⟩
  rw [hR]
  replace hR := hid (hR.symm.trans (show bodyT x = allT ((partsL x).take (3 + m)) by rw [List.take_of_length_le (by rw [parts_len]; omega)]; rfl))
  replace hm := hid hm
  replace hn := hid hn
  unfold prB at cA
  unfold acB at cB
  unfold reB at cC
  clear h ha hb hc hS e1 e2 e3 e4 hv1 hv2 hv3
  go_enter Tryz.func37, Tryz.ntmps37
  go_upto_region 1 with fail
  have K1 := hid (Blk.new w [.bool x.p, .int .u8 (x.a.k : Nat), .slice ao x.a.us.length ac, .string x.a.t, .int .u8 (x.b.k : Nat), .slice bo x.b.us.length bc, .string x.b.t, .int .u8 (x.c.k : Nat), .slice co x.c.us.length cc, .string x.c.t, .slice lo m lc] 39)
  have bw := hid ((Below.refl w.heap.size w).alloc (Nat.le_refl _) (.cells #[.bool x.p, .int .u8 (x.a.k : Nat), .slice ao x.a.us.length ac, .string x.a.t, .int .u8 (x.b.k : Nat), .slice bo x.b.us.length bc, .string x.b.t, .int .u8 (x.c.k : Nat), .slice co x.c.us.length cc, .string x.c.t, .slice lo m lc] 39))
  have hs : w.heap.size + 1 = (w.alloc (.cells #[.bool x.p, .int .u8 (x.a.k : Nat), .slice ao x.a.us.length ac, .string x.a.t, .int .u8 (x.b.k : Nat), .slice bo x.b.us.length bc, .string x.b.t, .int .u8 (x.c.k : Nat), .slice co x.c.us.length cc, .string x.c.t, .slice lo m lc] 39)).heap.size := by simp
  generalize w.alloc (.cells #[.bool x.p, .int .u8 (x.a.k : Nat), .slice ao x.a.us.length ac, .string x.a.t, .int .u8 (x.b.k : Nat), .slice bo x.b.us.length bc, .string x.b.t, .int .u8 (x.c.k : Nat), .slice co x.c.us.length cc, .string x.c.t, .slice lo m lc] 39) = X0 at K1 bw hs ⊢
  have K2 := hid (Blk.new' X0 [.int .u8 0, .int .i64 0, .string ⟨#[]⟩, .string ⟨#[]⟩, .slice none 0 0, .slice none 0 0] 26 (w.heap.size + 1) hs)
  replace K1 := hid (K1.out.alloc (.cells #[.int .u8 0, .int .i64 0, .string ⟨#[]⟩, .string ⟨#[]⟩, .slice none 0 0, .slice none 0 0] 26))
  replace bw := hid (bw.out.alloc (by omega) (.cells #[.int .u8 0, .int .i64 0, .string ⟨#[]⟩, .string ⟨#[]⟩, .slice none 0 0, .slice none 0 0] 26))
  clear hs
  generalize X0.alloc (.cells #[.int .u8 0, .int .i64 0, .string ⟨#[]⟩, .string ⟨#[]⟩, .slice none 0 0, .slice none 0 0] 26) = X1 at K1 K2 bw ⊢
  have hdr := hid (show w.heap.size + 2 ≤ X1.drew.heap.size from Nat.succ_le_of_lt K2.out.lt)
  obtain ⟨c0, c1, c2, c3, c4, c5, c6, c7, c8, c9, c10, cf⟩ := eleven K1.out
  go_region_held3 (fun W => W.cell? ⟨w.heap.size, 0, none⟩ = some (.bool x.p) ∧ W.cell? ⟨w.heap.size, 1, none⟩ = some (.int .u8 (x.a.k : Nat)) ∧ W.cell? ⟨w.heap.size, 2, none⟩ = some (.slice ao x.a.us.length ac) ∧ W.cell? ⟨w.heap.size, 3, none⟩ = some (.string x.a.t) ∧ W.cell? ⟨w.heap.size, 4, none⟩ = some (.int .u8 (x.b.k : Nat)) ∧ W.cell? ⟨w.heap.size, 5, none⟩ = some (.slice bo x.b.us.length bc) ∧ W.cell? ⟨w.heap.size, 6, none⟩ = some (.string x.b.t) ∧ W.cell? ⟨w.heap.size, 7, none⟩ = some (.int .u8 (x.c.k : Nat)) ∧ W.cell? ⟨w.heap.size, 8, none⟩ = some (.slice co x.c.us.length cc) ∧ W.cell? ⟨w.heap.size, 9, none⟩ = some (.string x.c.t) ∧ W.cell? ⟨w.heap.size, 10, none⟩ = some (.slice lo m lc)) (first | with_reducible exact ⟨c0, c1, c2, c3, c4, c5, c6, c7, c8, c9, c10⟩ | with_reducible exact ⟨cell_drew c0, cell_drew c1, cell_drew c2, cell_drew c3, cell_drew c4, cell_drew c5, cell_drew c6, cell_drew c7, cell_drew c8, cell_drew c9, cell_drew c10⟩ | with_reducible exact ⟨cell_alloc c0, cell_alloc c1, cell_alloc c2, cell_alloc c3, cell_alloc c4, cell_alloc c5, cell_alloc c6, cell_alloc c7, cell_alloc c8, cell_alloc c9, cell_alloc c10⟩) (first
    | (go_at_call 74
       (with_reducible refine (cA.out _ bw.out.drew hdr.out).mono ?_)
       rintro e w1 ⟨⟨y1, rfl, lk1, ok1, in1⟩, b1⟩
       obtain ⟨n1, nc1, l1, lc1, ea1, eb1, yl1, ym1⟩ := ok1.forms
       rw [Ex.T.val_eq ea1 eb1]
       have ye1 := hid (enc_eq ea1 eb1)
       replace K1 := hid (K1.out.drew.below b1 K1.out.drew.lt)
       replace K2 := hid (K2.out.drew.below b1 K2.out.drew.lt)
       replace bw := hid (bt bw.out.drew b1)
       replace lk1 := hid lk1
       replace ok1 := hid ok1
       replace in1 := hid in1
       clear b1 cA c0 c1 c2 c3 c4 c5 c6 c7 c8 c9 c10 cf ea1 eb1
       obtain ⟨c0, c1, c2, c3, c4, c5, c6, c7, c8, c9, c10, cf⟩ := eleven K1.out)
    | (go_at_call 74
       (with_reducible refine (cB.out _ bw.out (Nat.succ_le_of_lt K2.out.lt)).mono ?_)
       rintro e w2 ⟨⟨y2, rfl, lk2, ok2, in2⟩, b2⟩
       obtain ⟨n2, nc2, l2, lc2, ea2, eb2, yl2, ym2⟩ := ok2.forms
       rw [Ex.T.val_eq ea2 eb2]
       have ye2 := hid (enc_eq ea2 eb2)
       replace K1 := hid (K1.out.below b2 K1.out.lt)
       replace K2 := hid (K2.out.below b2 K2.out.lt)
       replace bw := hid (bt bw.out b2)
       replace lk2 := hid lk2
       replace ok2 := hid ok2
       replace in2 := hid in2
       replace ok1 := hid (ok1.out.below b2)
       clear b2 cB c0 c1 c2 c3 c4 c5 c6 c7 c8 c9 c10 cf ea2 eb2
       obtain ⟨c0, c1, c2, c3, c4, c5, c6, c7, c8, c9, c10, cf⟩ := eleven K1.out)
    | (go_at_call 74
       (with_reducible refine (cC.out _ bw.out (Nat.succ_le_of_lt K2.out.lt)).mono ?_)
       rintro e w3 ⟨⟨y3, rfl, lk3, ok3, in3⟩, b3⟩
       obtain ⟨n3, nc3, l3, lc3, ea3, eb3, yl3, ym3⟩ := ok3.forms
       rw [Ex.T.val_eq ea3 eb3]
       have ye3 := hid (enc_eq ea3 eb3)
       replace K1 := hid (K1.out.below b3 K1.out.lt)
       replace K2 := hid (K2.out.below b3 K2.out.lt)
       replace bw := hid (bt bw.out b3)
       replace lk3 := hid lk3
       replace ok3 := hid ok3
       replace in3 := hid in3
       replace ok1 := hid (ok1.out.below b3)
       replace ok2 := hid (ok2.out.below b3)
       clear b3 cC c0 c1 c2 c3 c4 c5 c6 c7 c8 c9 c10 cf ea3 eb3
       obtain ⟨c0, c1, c2, c3, c4, c5, c6, c7, c8, c9, c10, cf⟩ := eleven K1.out))
  have hrow := hid (show (w3.alloc (.cells #[.int .u8 (y1.kind : Nat), .int .i64 y1.num, .string y1.str, .string y1.typ, .slice n1 y1.names.length nc1, .slice l1 y1.list.length lc1, .int .u8 (y2.kind : Nat), .int .i64 y2.num, .string y2.str, .string y2.typ, .slice n2 y2.names.length nc2, .slice l2 y2.list.length lc2, .int .u8 (y3.kind : Nat), .int .i64 y3.num, .string y3.str, .string y3.typ, .slice n3 y3.names.length nc3, .slice l3 y3.list.length lc3] 26)).ownsRow (w.heap.size + 2) 26 6 (.slice (some ⟨w3.heap.size, 0, none⟩) 3 3) 3 (T.encL [y1, y2, y3]) from by
    have := World.ownsRow_lit (base := w.heap.size + 2) (e := 26) (size := 6) w3 #[.int .u8 (y1.kind : Nat), .int .i64 y1.num, .string y1.str, .string y1.typ, .slice n1 y1.names.length nc1, .slice l1 y1.list.length lc1, .int .u8 (y2.kind : Nat), .int .i64 y2.num, .string y2.str, .string y2.typ, .slice n2 y2.names.length nc2, .slice l2 y2.list.length lc2, .int .u8 (y3.kind : Nat), .int .i64 y3.num, .string y3.str, .string y3.typ, .slice n3 y3.names.length nc3, .slice l3 y3.list.length lc3] 3 (Nat.succ_le_of_lt K2.out.lt) (by unfold maxLen; omega) rfl
    rw [show T.encL [y1, y2, y3] = [.int .u8 (y1.kind : Nat), .int .i64 y1.num, .string y1.str, .string y1.typ, .slice n1 y1.names.length nc1, .slice l1 y1.list.length lc1, .int .u8 (y2.kind : Nat), .int .i64 y2.num, .string y2.str, .string y2.typ, .slice n2 y2.names.length nc2, .slice l2 y2.list.length lc2, .int .u8 (y3.kind : Nat), .int .i64 y3.num, .string y3.str, .string y3.typ, .slice n3 y3.names.length nc3, .slice l3 y3.list.length lc3] from by simp [T.encL, ye1.out, ye2.out, ye3.out]]
    exact this)
  have hall := hid (show ∀ y ∈ [y1, y2, y3], y.ok (w3.alloc (.cells #[.int .u8 (y1.kind : Nat), .int .i64 y1.num, .string y1.str, .string y1.typ, .slice n1 y1.names.length nc1, .slice l1 y1.list.length lc1, .int .u8 (y2.kind : Nat), .int .i64 y2.num, .string y2.str, .string y2.typ, .slice n2 y2.names.length nc2, .slice l2 y2.list.length lc2, .int .u8 (y3.kind : Nat), .int .i64 y3.num, .string y3.str, .string y3.typ, .slice n3 y3.names.length nc3, .slice l3 y3.list.length lc3] 26)) ∧ y.inS (fun k => S k ∧ k ≠ w.heap.size ∧ k ≠ w.heap.size + 1 ∧ k ≠ w3.heap.size) by
    have key : ∀ z : T, z.ok w3 → z.inS (fun b => S b ∧ b ≠ w.heap.size ∧ b ≠ w.heap.size + 1) → z.ok (w3.alloc (.cells #[.int .u8 (y1.kind : Nat), .int .i64 y1.num, .string y1.str, .string y1.typ, .slice n1 y1.names.length nc1, .slice l1 y1.list.length lc1, .int .u8 (y2.kind : Nat), .int .i64 y2.num, .string y2.str, .string y2.typ, .slice n2 y2.names.length nc2, .slice l2 y2.list.length lc2, .int .u8 (y3.kind : Nat), .int .i64 y3.num, .string y3.str, .string y3.typ, .slice n3 y3.names.length nc3, .slice l3 y3.list.length lc3] 26)) ∧ z.inS (fun k => S k ∧ k ≠ w.heap.size ∧ k ≠ w.heap.size + 1 ∧ k ≠ w3.heap.size) :=
      fun z hz hi => ⟨hz.below ((Below.refl _ _).alloc (Nat.le_refl _) _), (inS_and hi hz.inS).mono (fun k hk => ⟨hk.1.1, hk.1.2.1, hk.1.2.2, Nat.ne_of_lt hk.2⟩)⟩
    intro y hy
    rcases List.mem_cons.1 hy with rfl | hy
    · exact key _ ok1.out in1.out
    · rcases List.mem_cons.1 hy with rfl | hy
      · exact key _ ok2.out in2.out
      · rw [List.mem_singleton] at hy
        subst hy
        exact key _ ok3.out in3.out)
  have hlk := hid (show T.likeL ((partsL x).take (3 + 0)) [y1, y2, y3] from ⟨lk1.out, lk2.out, lk3.out, trivial⟩)
  replace K1 := hid (K1.out.alloc (.cells #[.int .u8 (y1.kind : Nat), .int .i64 y1.num, .string y1.str, .string y1.typ, .slice n1 y1.names.length nc1, .slice l1 y1.list.length lc1, .int .u8 (y2.kind : Nat), .int .i64 y2.num, .string y2.str, .string y2.typ, .slice n2 y2.names.length nc2, .slice l2 y2.list.length lc2, .int .u8 (y3.kind : Nat), .int .i64 y3.num, .string y3.str, .string y3.typ, .slice n3 y3.names.length nc3, .slice l3 y3.list.length lc3] 26))
  replace K2 := hid (K2.out.alloc (.cells #[.int .u8 (y1.kind : Nat), .int .i64 y1.num, .string y1.str, .string y1.typ, .slice n1 y1.names.length nc1, .slice l1 y1.list.length lc1, .int .u8 (y2.kind : Nat), .int .i64 y2.num, .string y2.str, .string y2.typ, .slice n2 y2.names.length nc2, .slice l2 y2.list.length lc2, .int .u8 (y3.kind : Nat), .int .i64 y3.num, .string y3.str, .string y3.typ, .slice n3 y3.names.length nc3, .slice l3 y3.list.length lc3] 26))
  replace bw := hid (bw.out.alloc bw.out.size (.cells #[.int .u8 (y1.kind : Nat), .int .i64 y1.num, .string y1.str, .string y1.typ, .slice n1 y1.names.length nc1, .slice l1 y1.list.length lc1, .int .u8 (y2.kind : Nat), .int .i64 y2.num, .string y2.str, .string y2.typ, .slice n2 y2.names.length nc2, .slice l2 y2.list.length lc2, .int .u8 (y3.kind : Nat), .int .i64 y3.num, .string y3.str, .string y3.typ, .slice n3 y3.names.length nc3, .slice l3 y3.list.length lc3] 26))
  clear c0 c1 c2 c3 c4 c5 c6 c7 c8 c9 c10 cf ye1 ye2 ye3 ok1 ok2 ok3 in1 in2 in3 lk1 lk2 lk3 yl1 ym1 yl2 ym2 yl3 ym3 hdr
  generalize w3.alloc (.cells #[.int .u8 (y1.kind : Nat), .int .i64 y1.num, .string y1.str, .string y1.typ, .slice n1 y1.names.length nc1, .slice l1 y1.list.length lc1, .int .u8 (y2.kind : Nat), .int .i64 y2.num, .string y2.str, .string y2.typ, .slice n2 y2.names.length nc2, .slice l2 y2.list.length lc2, .int .u8 (y3.kind : Nat), .int .i64 y3.num, .string y3.str, .string y3.typ, .slice n3 y3.names.length nc3, .slice l3 y3.list.length lc3] 26) = X5 at hrow hall K1 K2 bw ⊢
  generalize w3.heap.size = g5 at hrow hall ⊢
  obtain ⟨ie, hi, hz0, hz1, hz2⟩ := Ex.info_parts' Ex.info_expr
  obtain ⟨c0, c1, c2, c3, c4, c5, c6, c7, c8, c9, c10, cf⟩ := eleven K1.out
  go_wp2_with fail
  go_loopw [3, 19] (fun av i wr => ∃ (k : Nat) (ys : List T), k ≤ m ∧ i = .int .i64 k ∧ (∃ g cap, av = .slice (some ⟨g, 0, none⟩) (3 + k) cap ∧ Hid (wr.ownsRow (w.heap.size + 2) 26 6 (.slice (some ⟨g, 0, none⟩) (3 + k) cap) (3 + k) (T.encL ys)) ∧ Hid (∀ y ∈ ys, y.ok wr ∧ y.inS (fun b => S b ∧ b ≠ w.heap.size ∧ b ≠ w.heap.size + 1 ∧ b ≠ g))) ∧ Hid (T.likeL ((partsL x).take (3 + k)) ys) ∧ Hid (Blk wr w.heap.size [.bool x.p, .int .u8 (x.a.k : Nat), .slice ao x.a.us.length ac, .string x.a.t, .int .u8 (x.b.k : Nat), .slice bo x.b.us.length bc, .string x.b.t, .int .u8 (x.c.k : Nat), .slice co x.c.us.length cc, .string x.c.t, .slice lo m lc] 39) ∧ Hid (Blk wr (w.heap.size + 1) [.int .u8 0, .int .i64 0, .string ⟨#[]⟩, .string ⟨#[]⟩, .slice none 0 0, .slice none 0 0] 26) ∧ Hid (Below w.heap.size w wr)) (fun _ i _ => m - (intOf i).toNat)
  case atStart => exact ⟨0, [y1, y2, y3], by omega, rfl, ⟨g5, 3, rfl, hrow, hall⟩, hlk, K1, K2, bw⟩
  case round =>
    clear c0 c1 c2 c3 c4 c5 c6 c7 c8 c9 c10 cf K1 K2 bw hrow hall hlk
    obtain ⟨k, ys, hk, rfl, ⟨g, cap, rfl, hown, hys⟩, hlk, K1, K2, bw⟩ := hrel
    rename_i wr _
    by_cases hkm : k < m
    · have hki : (k : Int) < (m : Int) := by omega
      have hkl : k < x.l.length := by have := hm.out; omega
      have hst := hid (parts_step x k hkl)
      obtain ⟨b, off, hlo, z0, z1, z2, z3, z4, z5, z6⟩ := hcells.out wr bw.out k hkl
      subst hlo
      obtain ⟨c, hc⟩ : ∃ c, x.l[k] = c := ⟨_, rfl⟩
      have hcm := hid (hcd.out c (hc ▸ List.getElem_mem hkl))
      rw [hc] at z0 z1 z2 z3 z4 z5 z6 hst
      obtain ⟨no, nc, l9, lc9, ec1, ec2, cl1, cl2⟩ := hcm.out.1.forms
      rw [ec1] at z5
      rw [ec2] at z6
      have hce := hid (show Value.agg c.enc.toArray = .agg #[.bool c.u, .int .u8 (c.e.kind : Nat), .int .i64 c.e.num, .string c.e.str, .string c.e.typ, .slice no c.e.names.length nc, .slice l9 c.e.list.length lc9] from by unfold Cd.enc; rw [enc_eq ec1 ec2])
      clear ec1 ec2 hc hkl
      go_upto_region 5 with fail
      have K5 := hid (Blk.new wr [.bool c.u, .int .u8 (c.e.kind : Nat), .int .i64 c.e.num, .string c.e.str, .string c.e.typ, .slice no c.e.names.length nc, .slice l9 c.e.list.length lc9] 48)
      have hbX := (Below.refl wr.heap.size wr).alloc (Nat.le_refl _) (.cells #[.bool c.u, .int .u8 (c.e.kind : Nat), .int .i64 c.e.num, .string c.e.str, .string c.e.typ, .slice no c.e.names.length nc, .slice l9 c.e.list.length lc9] 48)
      replace K1 := hid (K1.out.alloc (.cells #[.bool c.u, .int .u8 (c.e.kind : Nat), .int .i64 c.e.num, .string c.e.str, .string c.e.typ, .slice no c.e.names.length nc, .slice l9 c.e.list.length lc9] 48))
      replace K2 := hid (K2.out.alloc (.cells #[.bool c.u, .int .u8 (c.e.kind : Nat), .int .i64 c.e.num, .string c.e.str, .string c.e.typ, .slice no c.e.names.length nc, .slice l9 c.e.list.length lc9] 48))
      have hown3 := hid (ownsRow_below hown.out hbX)
      have hys3 := hid (fun y (hy : y ∈ ys) => (show _ ∧ _ from ⟨(hys.out y hy).1.below hbX, (hys.out y hy).2⟩))
      replace bw := hid (bt bw.out hbX)
      clear z0 z1 z2 z3 z4 z5 z6 hown hys hbX
      generalize wr.alloc (.cells #[.bool c.u, .int .u8 (c.e.kind : Nat), .int .i64 c.e.num, .string c.e.str, .string c.e.typ, .slice no c.e.names.length nc, .slice l9 c.e.list.length lc9] 48) = X3 at K1 K2 K5 hown3 hys3 bw ⊢
      generalize wr.heap.size = b5 at K5 ⊢
      have hgl := hid (hown3.out.lt g rfl)
      have hcl := hid (cond_any c X3 (hcm.out.1.below bw.out) (fun b => S b ∧ b ≠ w.heap.size ∧ b ≠ w.heap.size + 1 ∧ b ≠ g) (hcm.out.2.mono (fun b hb => ⟨hb.1, by have := hb.2; omega, by have := hb.2; omega, by have := hb.2; have := hgl.out.1; omega⟩)) (fun b hb => ⟨hn.out b (by have := bw.out.size; omega), by have := K2.out.lt; omega, by have := K2.out.lt; omega, by have := hgl.out.2; omega⟩))
      rw [hce.out] at hcl
      obtain ⟨f0, f1, f2, f3, f4, f5, f6, ff⟩ := seven K5.out
      go_wp2_with fail
      refine hcl.out.mono ?_
      rintro e w6 ⟨⟨y, rfl, hyl, hyok, hyin⟩, b6⟩
      obtain ⟨yno, ync, ylo, ylc, ey1, ey2, yl1, yl2⟩ := hyok.forms
      have hye := enc_eq ey1 ey2
      rw [Ex.T.val_eq ey1 ey2]
      have hown6 := ownsRow_below hown3.out b6
      have hys6 := hid (fun u (hu : u ∈ ys) => (show _ ∧ _ from ⟨(hys3.out u hu).1.below b6, (hys3.out u hu).2⟩))
      replace K1 := hid (K1.out.below b6 K1.out.lt)
      replace K2 := hid (K2.out.below b6 K2.out.lt)
      replace bw := hid (bt bw.out b6)
      clear b6 f0 f1 f2 f3 f4 f5 f6 ff K5 hcl ey1 ey2 hown3 hys3 hce
      obtain ⟨X7, hX7⟩ : ∃ X, w6.alloc (.cells #[.int .u8 (y.kind : Nat), .int .i64 y.num, .string y.str, .string y.typ, .slice yno y.names.length ync, .slice ylo y.list.length ylc] 26) = X := ⟨_, rfl⟩
      have hb7 := (Below.refl w6.heap.size w6).alloc (Nat.le_refl _) (.cells #[.int .u8 (y.kind : Nat), .int .i64 y.num, .string y.str, .string y.typ, .slice yno y.names.length ync, .slice ylo y.list.length ylc] 26)
      have K9 := Blk.new w6 [.int .u8 (y.kind : Nat), .int .i64 y.num, .string y.str, .string y.typ, .slice yno y.names.length ync, .slice ylo y.list.length ylc] 26
      rw [hX7] at hb7 K9
      have hown7 := ownsRow_below hown6 hb7
      have hys7 := hid (fun u (hu : u ∈ ys ++ [y]) => (show u.ok X7 ∧ u.inS (fun b => (S b ∧ b ≠ w.heap.size ∧ b ≠ w.heap.size + 1 ∧ b ≠ g) ∧ b < X7.heap.size) from by
        have key : ∀ u : T, u.ok w6 → u.inS (fun b => S b ∧ b ≠ w.heap.size ∧ b ≠ w.heap.size + 1 ∧ b ≠ g) → _ := fun u h1 h2 => (show u.ok X7 ∧ u.inS (fun b => (S b ∧ b ≠ w.heap.size ∧ b ≠ w.heap.size + 1 ∧ b ≠ g) ∧ b < X7.heap.size) from ⟨h1.below hb7, inS_and h2 (h1.below hb7).inS⟩)
        rcases List.mem_append.1 hu with hu | hu
        · exact key u (hys6.out u hu).1 (hys6.out u hu).2
        · rw [List.mem_singleton] at hu
          subst hu
          exact key u hyok hyin))
      replace K1 := hid (K1.out.below hb7 K1.out.lt)
      replace K2 := hid (K2.out.below hb7 K2.out.lt)
      replace bw := hid (bt bw.out hb7)
      obtain ⟨v', w8, hrun, ho, hg, hp⟩ := run_append_place (P := Tryz.prog) X7 (w.heap.size + 2) 24 24 26 ie (.agg #[.int .u8 0, .int .i64 0, .string ⟨#[]⟩, .string ⟨#[]⟩, .slice none 0 0, .slice none 0 0]) 6 96 Tryz.underlying24 hi hz0 hz1 hz2 rfl (by decide)
        (.slice (some ⟨g, 0, none⟩) (3 + k) cap) (3 + k) (T.encL ys) hown7 ⟨w6.heap.size, 0, none⟩ 1 1 [.int .u8 (y.kind : Nat), .int .i64 y.num, .string y.str, .string y.typ, .slice yno y.names.length ync, .slice ylo y.list.length ylc] rfl
        (getElem?_cells' (fun j hj => by rw [Mem.add_plain, Nat.zero_add]; exact K9.cell j hj)) (by simp [Value.oneCell']) (by unfold maxLen; omega) (by omega) (by have := K2.out.lt; omega)
      have hgr := hid hg
      have hb8 := hid (bw.out.grown hg (by have := bw.out.size; omega) (fun k hk => by have := (hown7.lt k hk).1; omega))
      have K1f := hid (show Blk w8 w.heap.size [.bool x.p, .int .u8 (x.a.k : Nat), .slice ao x.a.us.length ac, .string x.a.t, .int .u8 (x.b.k : Nat), .slice bo x.b.us.length bc, .string x.b.t, .int .u8 (x.c.k : Nat), .slice co x.c.us.length cc, .string x.c.t, .slice (some ⟨b, off, none⟩) m lc] 39 from ⟨(hg.block w.heap.size (by have := K1.out.lt; omega) (fun e => by have := (hown7.lt _ e.symm).1; omega)).trans K1.out.at'⟩)
      have K2f := hid (show Blk w8 (w.heap.size + 1) [.int .u8 0, .int .i64 0, .string ⟨#[]⟩, .string ⟨#[]⟩, .slice none 0 0, .slice none 0 0] 26 from ⟨(hg.block (w.heap.size + 1) (by have := K2.out.lt; omega) (fun e => by have := (hown7.lt _ e.symm).1; omega)).trans K2.out.at'⟩)
      have hrow8 := hid (show w8.ownsRow (w.heap.size + 2) 26 6 v' (3 + (k + 1)) (T.encL (ys ++ [y])) from by
        rw [Ex.encL_append, show T.encL [y] = y.enc from by simp [T.encL], hye]
        exact ho)
      obtain ⟨g', cap', hv'⟩ : ∃ g' cap', v' = .slice (some ⟨g', 0, none⟩) (3 + (k + 1)) cap' := by
        obtain ⟨so, sc, hso, _, _⟩ := ownsRow_form hrow8.out
        subst hso
        rcases (own_blk hrow8.out).1 with ⟨h1, _⟩ | ⟨g', tail, h1, _, _⟩
        · exfalso
          have := congrArg List.length h1
          rw [T.encL_len, List.length_append] at this
          simp at this
        · exact ⟨g', sc, by rw [h1]⟩
      subst hv'
      have hysf := hid (show ∀ u ∈ ys ++ [y], u.ok w8 ∧ u.inS (fun b => S b ∧ b ≠ w.heap.size ∧ b ≠ w.heap.size + 1 ∧ b ≠ g') from fun u hu => by
        obtain ⟨h1, h2⟩ := hys7.out u hu
        refine ⟨h1.keep (fun b hb => hgr.out.block b hb.2 (fun e => hb.1.2.2.2 (Option.some.inj e))) h2, h2.mono (fun b hb => ⟨hb.1.1, hb.1.2.1, hb.1.2.2.1, fun e => ?_⟩)⟩
        rcases hp with hp | ⟨g2, hp, hge⟩
        · exact hb.1.2.2.2 (e.trans (Option.some.inj hp))
        · have h3 : g' = g2 := Option.some.inj hp
          have := hb.2
          omega)
      have hlkf := hid (show T.likeL ((partsL x).take (3 + (k + 1))) (ys ++ [y]) by rw [hst.out]; exact like_snoc hlk.out hyl)
      replace hrun := hid hrun
      clear hg hp ho hown7 hys7 hown6 hys6 K9 hb7 K1 K2 bw hgr hyok hyin hyl hst hlk hye hcm
      go_wp2_with (at_builtin; refine wpList_app2 rfl (.tmp 23) (.tmp 26) _ _ rfl _ _ _ _ rfl rfl hrun.out ?_)
      go_roundw
      case rel => exact ⟨k + 1, ys ++ [y], by omega, by go_num, ⟨g', cap', rfl, hrow8, hysf⟩, hlkf, K1f, K2f, hb8⟩
      case measure => simp [intOf]; omega
    · have hki : ¬ (k : Int) < (m : Int) := by omega
      obtain rfl : k = m := by omega
      have hlen := hid (show ys.length = 3 + k by
        have := T.likeL_length hlk.out
        rw [List.length_take, parts_len] at this
        have := hm.out
        omega)
      have hcl := hid (all_any ys (.slice (some ⟨g, 0, none⟩) (3 + k) cap) wr (by have := SlV.own hown.out; rwa [← hlen.out] at this ⊢) (fun y hy => (hys.out y hy).1) (by have := hlen.out; omega) (fun b => S b ∧ b ≠ w.heap.size + 1) (fun y hy => (hys.out y hy).2.mono (fun b hb => ⟨hb.1, hb.2.2.1⟩)) (fun b hb => ⟨hn.out b (by have := bw.out.size; omega), by have := K2.out.lt; omega⟩))
      have hlkf := hid (show R.like (allT ys) by rw [hR.out]; exact allT_like hlk.out)
      clear hlk hys hown hlen
      go_wp2_with fail
      refine hcl.out.mono ?_
      rintro e w9 ⟨⟨y, rfl, hyl, hyok, hyin⟩, b9⟩
      obtain ⟨yno, ync, ylo, ylc, ey1, ey2, yl1, yl2⟩ := hyok.forms
      have hyv := hid (Ex.T.val_eq ey1 ey2)
      rw [hyv.out]
      replace K2 := hid (K2.out.below b9 K2.out.lt)
      replace bw := hid (bt bw.out b9)
      clear b9 hcl K1 ey1 ey2
      have hB := hid (Ex.below_st6 bw.out (g := w.heap.size + 1) (Nat.le_succ _) 0 (.int .u8 (y.kind : Nat)) (.int .i64 y.num) (.string y.str) (.string y.typ) (.slice yno y.names.length ync) (.slice ylo y.list.length ylc))
      have hokf := hid (hyok.keep (w' := Ex.st6 w9 (w.heap.size + 1) 0 (.int .u8 (y.kind : Nat)) (.int .i64 y.num) (.string y.str) (.string y.typ) (.slice yno y.names.length ync) (.slice ylo y.list.length ylc)) (fun k hk => Ex.heap_st6 _ _ _ _ _ _ _ _ _ hk.2) hyin)
      have hinf := hid (hyin.mono (R := S) (fun k hk => hk.1))
      have hlkz := hid (Ex.T.like_trans hlkf.out hyl)
      clear hyok hyin hyl hlkf
      obtain ⟨d0, d1, d2, d3, d4, d5, df⟩ := Ex.six K2.out
      have hK := hid (show Blk _ (w.heap.size + 1) [.int .u8 (y.kind : Nat), .int .i64 y.num, .string y.str, .string y.typ, .slice yno y.names.length ync, .slice ylo y.list.length ylc] 26 from Ex.blk_st6 (A := []) (C := []) (o := 0) K2.out rfl (.int .u8 (y.kind : Nat)) (.int .i64 y.num) (.string y.str) (.string y.typ) (.slice yno y.names.length ync) (.slice ylo y.list.length ylc))
      go_wp2_with fail
      obtain ⟨q0, q1, q2, q3, q4, q5, qf⟩ := Ex.six hK.out
      exact bodyPost_ret (v := .agg #[.int .u8 (y.kind : Nat), .int .i64 y.num, .string y.str, .string y.typ, .slice yno y.names.length ync, .slice ylo y.list.length ylc]) (by unfold Ex.st6 at q0 q1 q2 q3 q4 q5; simp [results, Tryz.results37, go_sem, q0, q1, q2, q3, q4, q5]) rfl ⟨⟨y, by rw [hyv.out], hlkz.out, hokf.out, hinf.out⟩, hB.out⟩
end Go.Proofs.YtihnhinnohnfgaaGreatDoor.Pol
