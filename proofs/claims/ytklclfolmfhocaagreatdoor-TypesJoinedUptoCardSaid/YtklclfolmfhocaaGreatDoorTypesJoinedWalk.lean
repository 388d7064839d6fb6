/-
  lictorlaw13.TypesJoined: the walk. Written by wip/tjgen.py.
-/
import Derived.Test.YtklclfolmfhocaaGreatDoorTjFits
import Derived.Test.YtklclfolmfhocaaGreatDoorTjJoin
import Derived.Test.YtklclfolmfhocaaGreatDoorTySame
import Derived.Test.YtklclfolmfhocaaGreatDoorEvLives13
import Derived.Deep.RegionHeld3
import Derived.Deep.RegionWith
namespace Go.Proofs.YtklclfolmfhocaaGreatDoor.Tyt
open Go.ChangeShapes Go.WideShapes Go.ChangeAt Go.RowKit
open Go.Proofs.YtklclfolmfhocaaGreatDoor.Mem
set_option linter.unusedVariables false
set_option linter.unusedSimpArgs false
set_option maxRecDepth 100000
theorem chk_right {x : Ty} (h : chkN x = 0) : rightB x = true := by
  unfold chkN at h
  by_cases hr : rightB x = false
  · rw [if_pos hr] at h; exact absurd h (by decide)
  · simpa using hr
theorem small_size : ∀ (n : Nat) (x : Ty), x.size ≤ n → x.size ≤ 1048576 → PT.small (er x) := by
  intro n
  induction n with
  | zero => intro x h; have := x.size_pos; omega
  | succ n ih =>
    intro x hn hz
    have hlen : ∀ l : List Ty, l.length ≤ Ty.sizeL l := by
      intro l
      induction l with
      | nil => exact Nat.le_refl _
      | cons y l ihl => rw [Ty.sizeL, List.length_cons]; have := y.size_pos; omega
    have h1 := hlen x.att
    have h2 := Ty.size_eq x
    refine PT.small_iff.2 ⟨by rw [er_att, erL_length]; omega, fun p hp => ?_, fun p hp => ?_⟩
    · rw [er_of] at hp
      obtain ⟨y, hy, rfl⟩ := mem_erL hp
      have := Ty.size_of hy
      exact ih y (by omega) (by omega)
    · rw [er_att] at hp
      obtain ⟨y, hy, rfl⟩ := mem_erL hp
      have := Ty.size_att hy
      exact ih y (by omega) (by omega)
set_option maxHeartbeats 16000000 in
theorem joined_walk (a b : Ty) (x : Val.T) (w : World) (ha : a.ok w) (hb : b.ok w) (hx : x.ok w) (hza : a.size ≤ 1048576) (hzb : b.size ≤ 1048576) (hw : Ev.Laid w) :
    Calls Tryz.prog 3 #[a.val, b.val, x.val] w fun e w' => e = .returned (.bool true) ∧ Below w.heap.size w w' := by
  have cL := hid (fun W (b : Below w.heap.size w W) => Ev.lives13_any (hw.below b))
  have sa := hid (small_size a.size a (Nat.le_refl _) hza)
  have sb := hid (small_size b.size b (Nat.le_refl _) hzb)
  obtain ⟨ao1, ac1, ao2, ac2, e1, e2, _, _⟩ := ha.forms
  obtain ⟨bo1, bc1, bo2, bc2, g1, g2, _, _⟩ := hb.forms
  obtain ⟨no, nc, lo, lc, _, _, hv, _, _⟩ := vval hx
  have va := Ty.val_eq e1 e2
  have vb := Ty.val_eq g1 g2
  have cAB := hid (show ∀ W, Below w.heap.size w W → _ from fun W B => join_any a b sa.out sb.out W (fun _ => True) (ha.below B) (hb.below B) (fun _ _ => trivial))
  have cBA := hid (show ∀ W, Below w.heap.size w W → _ from fun W B => join_any b a sb.out sa.out W (fun _ => True) (hb.below B) (ha.below B) (fun _ _ => trivial))
  have cAA := hid (show ∀ W, Below w.heap.size w W → _ from fun W B => join_any a a sa.out sa.out W (fun _ => True) (ha.below B) (ha.below B) (fun _ _ => trivial))
  have cCa := hid (show ∀ W, Below w.heap.size w W → _ from fun W B => check_any a W (ha.below B) (by omega) (hw.below B).toCore)
  have cCb := hid (show ∀ W, Below w.heap.size w W → _ from fun W B => check_any b W (hb.below B) (by omega) (hw.below B).toCore)
  have cFa := hid (show ∀ W, Below w.heap.size w W → _ from fun W B => fits_any a x W (hx.below B) (ha.below B))
  have cFb := hid (show ∀ W, Below w.heap.size w W → _ from fun W B => fits_any b x W (hx.below B) (hb.below B))
  rw [va, vb] at cAB cBA
  rw [va] at cAA cCa
  rw [vb] at cCb
  rw [hv, va] at cFa
  rw [hv, vb] at cFb
  have gA := hid (fun h : chkN a = 0 => good_er (w := w) a.size a (Nat.le_refl _) ha (chk_right h))
  have gB := hid (fun h : chkN b = 0 => good_er (w := w) b.size b (Nat.le_refl _) hb (chk_right h))
  rw [va, vb, hv]
  have ha' := hid ha
  have hx' := hid hx
  have va' := hid va
  have hv' := hid hv
  have bw0 := hid (Below.refl w.heap.size w)
  generalize chkN a = ca at cCa gA
  generalize chkN b = cb at cCb gB
  clear ha hb hx hw va vb hv e1 e2 g1 g2 hza hzb
  go_enter Tryz.func3, Tryz.ntmps3
  go_upto_region 1 with fail
  have KA := hid (Blk.new w [.int .u8 (a.kind : Nat), .string a.name, .slice ao1 a.of.length ac1, .slice ao2 a.att.length ac2] 26)
  have bw1 := hid (bw0.out.alloc (Nat.le_refl _) (.cells #[.int .u8 (a.kind : Nat), .string a.name, .slice ao1 a.of.length ac1, .slice ao2 a.att.length ac2] 26))
  have hs1 : w.heap.size + 1 = (w.alloc (.cells #[.int .u8 (a.kind : Nat), .string a.name, .slice ao1 a.of.length ac1, .slice ao2 a.att.length ac2] 26)).heap.size := by simp
  clear bw0
  generalize w.alloc (.cells #[.int .u8 (a.kind : Nat), .string a.name, .slice ao1 a.of.length ac1, .slice ao2 a.att.length ac2] 26) = X0 at KA bw1 hs1 ⊢
  have KB := hid (Blk.new' X0 [.int .u8 (b.kind : Nat), .string b.name, .slice bo1 b.of.length bc1, .slice bo2 b.att.length bc2] 26 (w.heap.size + 1) hs1)
  replace KA := hid (KA.out.alloc (.cells #[.int .u8 (b.kind : Nat), .string b.name, .slice bo1 b.of.length bc1, .slice bo2 b.att.length bc2] 26))
  have bw2 := hid (bw1.out.alloc (by omega) (.cells #[.int .u8 (b.kind : Nat), .string b.name, .slice bo1 b.of.length bc1, .slice bo2 b.att.length bc2] 26))
  have hs2 : w.heap.size + 1 + 1 = (X0.alloc (.cells #[.int .u8 (b.kind : Nat), .string b.name, .slice bo1 b.of.length bc1, .slice bo2 b.att.length bc2] 26)).heap.size := by simp; omega
  clear bw1 hs1
  generalize X0.alloc (.cells #[.int .u8 (b.kind : Nat), .string b.name, .slice bo1 b.of.length bc1, .slice bo2 b.att.length bc2] 26) = X1 at KA KB bw2 hs2 ⊢
  have KX := hid (Blk.new' X1 [.int .u8 (x.kind : Nat), .bool x.bool, .int .i64 x.num, .string x.str, .string x.typ, .slice no x.names.length nc, .slice lo x.list.length lc] 31 (w.heap.size + 1 + 1) hs2)
  replace KA := hid (KA.out.alloc (.cells #[.int .u8 (x.kind : Nat), .bool x.bool, .int .i64 x.num, .string x.str, .string x.typ, .slice no x.names.length nc, .slice lo x.list.length lc] 31))
  replace KB := hid (KB.out.alloc (.cells #[.int .u8 (x.kind : Nat), .bool x.bool, .int .i64 x.num, .string x.str, .string x.typ, .slice no x.names.length nc, .slice lo x.list.length lc] 31))
  have bw := hid (bw2.out.alloc (by omega) (.cells #[.int .u8 (x.kind : Nat), .bool x.bool, .int .i64 x.num, .string x.str, .string x.typ, .slice no x.names.length nc, .slice lo x.list.length lc] 31))
  clear bw2 hs2
  generalize X1.alloc (.cells #[.int .u8 (x.kind : Nat), .bool x.bool, .int .i64 x.num, .string x.str, .string x.typ, .slice no x.names.length nc, .slice lo x.list.length lc] 31) = Wc at KA KB KX bw ⊢
  go_wp2_with fail
  refine (cL.out _ bw.out).mono ?_
  rintro e Wc ⟨rfl, q9⟩
  replace KA := hid (KA.out.below q9 KA.out.lt)
  replace KB := hid (KB.out.below q9 KB.out.lt)
  replace KX := hid (KX.out.below q9 KX.out.lt)
  replace bw := hid (bt bw.out q9)
  clear q9
  obtain ⟨c0, c1, c2, c3, cf⟩ := four' KA.out
  obtain ⟨d0, d1, d2, d3, df⟩ := four' KB.out
  go_wp2_with fail
  refine (cAB.out _ bw.out).mono ?_
  rintro e Wc ⟨⟨y1, z1, rfl, o1, -, j1⟩, q9⟩
  obtain ⟨p1, q1, r1, s1, ey1, ey2, _, _⟩ := o1.forms
  have v1 := hid (Ty.val_eq ey1 ey2)
  rw [v1.out]
  replace o1 := hid o1
  replace j1 := hid j1
  clear ey1 ey2
  replace KA := hid (KA.out.below q9 KA.out.lt)
  replace KB := hid (KB.out.below q9 KB.out.lt)
  replace KX := hid (KX.out.below q9 KX.out.lt)
  replace bw := hid (bt bw.out q9)
  clear q9
  clear c0 c1 c2 c3 cf d0 d1 d2 d3 df
  go_upto_region 4 with fail
  have q9 := (Below.refl Wc.heap.size Wc).alloc (Nat.le_refl _) (.cells #[.int .u8 (y1.kind : Nat), .string y1.name, .slice p1 y1.of.length q1, .slice r1 y1.att.length s1] 26)
  have K1 := hid (Blk.new Wc [.int .u8 (y1.kind : Nat), .string y1.name, .slice p1 y1.of.length q1, .slice r1 y1.att.length s1] 26)
  change Hid (Blk (Wc.alloc (.cells #[.int .u8 (y1.kind : Nat), .string y1.name, .slice p1 y1.of.length q1, .slice r1 y1.att.length s1] 26)) _ _ _) at K1
  replace KA := hid (KA.out.below q9 KA.out.lt)
  replace KB := hid (KB.out.below q9 KB.out.lt)
  replace KX := hid (KX.out.below q9 KX.out.lt)
  replace o1 := hid (o1.out.below q9)
  replace bw := hid (bt bw.out q9)
  clear q9
  generalize Wc.heap.size = b1 at K1 ⊢
  generalize Wc.alloc (.cells #[.int .u8 (y1.kind : Nat), .string y1.name, .slice p1 y1.of.length q1, .slice r1 y1.att.length s1] 26) = Wc at KA KB KX K1 bw o1 ⊢
  obtain ⟨c0, c1, c2, c3, cf⟩ := four' KA.out
  obtain ⟨d0, d1, d2, d3, df⟩ := four' KB.out
  go_wp2_with fail
  refine (cBA.out _ bw.out).mono ?_
  rintro e Wc ⟨⟨y2, z2, rfl, o2, -, j2⟩, q9⟩
  obtain ⟨p2, q2, r2, s2, ey1, ey2, _, _⟩ := o2.forms
  have v2 := hid (Ty.val_eq ey1 ey2)
  rw [v2.out]
  replace o2 := hid o2
  replace j2 := hid j2
  clear ey1 ey2
  replace KA := hid (KA.out.below q9 KA.out.lt)
  replace KB := hid (KB.out.below q9 KB.out.lt)
  replace KX := hid (KX.out.below q9 KX.out.lt)
  replace K1 := hid (K1.out.below q9 K1.out.lt)
  replace o1 := hid (o1.out.below q9)
  replace bw := hid (bt bw.out q9)
  clear q9
  clear c0 c1 c2 c3 cf d0 d1 d2 d3 df
  go_upto_region 5 with fail
  have q9 := (Below.refl Wc.heap.size Wc).alloc (Nat.le_refl _) (.cells #[.int .u8 (y2.kind : Nat), .string y2.name, .slice p2 y2.of.length q2, .slice r2 y2.att.length s2] 26)
  have K2 := hid (Blk.new Wc [.int .u8 (y2.kind : Nat), .string y2.name, .slice p2 y2.of.length q2, .slice r2 y2.att.length s2] 26)
  change Hid (Blk (Wc.alloc (.cells #[.int .u8 (y2.kind : Nat), .string y2.name, .slice p2 y2.of.length q2, .slice r2 y2.att.length s2] 26)) _ _ _) at K2
  replace KA := hid (KA.out.below q9 KA.out.lt)
  replace KB := hid (KB.out.below q9 KB.out.lt)
  replace KX := hid (KX.out.below q9 KX.out.lt)
  replace K1 := hid (K1.out.below q9 K1.out.lt)
  replace o1 := hid (o1.out.below q9)
  replace o2 := hid (o2.out.below q9)
  replace bw := hid (bt bw.out q9)
  clear q9
  generalize Wc.heap.size = b2 at K2 ⊢
  generalize Wc.alloc (.cells #[.int .u8 (y2.kind : Nat), .string y2.name, .slice p2 y2.of.length q2, .slice r2 y2.att.length s2] 26) = Wc at KA KB KX K2 bw o2 K1 o1 ⊢
  have hcm := hid (PT.J_comm _ (er b) (er a) (Nat.le_refl _))
  have hz : z2 = z1 ∧ er y1 = er y2 := by
    have h2 := j2.out
    rw [hcm.out] at h2
    rcases j1.out with ⟨h, rfl⟩ | ⟨h, rfl, rfl⟩ <;> rcases h2 with ⟨g, rfl⟩ | ⟨g, rfl, rfl⟩
    · rw [h] at g; exact ⟨rfl, Option.some.inj g⟩
    · rw [h] at g; cases g
    · rw [h] at g; cases g
    · exact ⟨rfl, rfl⟩
  obtain ⟨rfl, he12⟩ := hz
  have cS := hid (samety_any (like_of_er he12) Wc o1.out o2.out)
  rw [v1.out, v2.out] at cS
  clear he12 hcm j2
  obtain ⟨u10, u11, u12, u13, u1f⟩ := four' K1.out
  obtain ⟨u20, u21, u22, u23, u2f⟩ := four' K2.out
  go_wp2_with fail
  refine cS.out.mono ?_
  rintro e Wc ⟨rfl, q9⟩
  replace KA := hid (KA.out.below q9 KA.out.lt)
  replace KB := hid (KB.out.below q9 KB.out.lt)
  replace KX := hid (KX.out.below q9 KX.out.lt)
  replace K1 := hid (K1.out.below q9 K1.out.lt)
  replace K2 := hid (K2.out.below q9 K2.out.lt)
  replace o1 := hid (o1.out.below q9)
  replace o2 := hid (o2.out.below q9)
  replace bw := hid (bt bw.out q9)
  clear q9
  clear u10 u11 u12 u13 u1f u20 u21 u22 u23 u2f
  clear cS
  rcases j1.out with ⟨hJ, rfl⟩ | ⟨hJ, rfl, rfl⟩
  case inr =>
    have cS := hid (show ∀ W, Calls Tryz.prog 8 #[(leaf 0 ⟨#[]⟩).val, (leaf 0 ⟨#[]⟩).val] W _ from fun W => samety_any (like_of_er rfl) W (leaf_ok 0 ⟨#[]⟩ W (by decide) (by decide)) (leaf_ok 0 ⟨#[]⟩ W (by decide) (by decide)))
    have hl1 : Hid (Blk Wc b1 [.int .u8 0, .string ⟨#[]⟩, .slice none 0 0, .slice none 0 0] 26) := by
      have h1 := K1.out
      have e1 : (Value.agg #[.int .u8 ((leaf 0 ⟨#[]⟩).kind : Nat), .string (leaf 0 ⟨#[]⟩).name, .slice p1 (leaf 0 ⟨#[]⟩).of.length q1, .slice r1 (leaf 0 ⟨#[]⟩).att.length s1]) = .agg #[.int .u8 0, .string ⟨#[]⟩, .slice none 0 0, .slice none 0 0] := v1.out.symm.trans rfl
      simp only [Value.agg.injEq] at e1
      have e2 := congrArg Array.toList e1
      simp only [] at e2
      rw [e2] at h1
      exact hid h1
    clear K1 K2 j1 hJ v1 v2
    obtain ⟨c0, c1, c2, c3, cf⟩ := four' hl1.out
    go_wp2_with fail
    refine (show Calls Tryz.prog 8 #[.agg #[.int .u8 0, .string ⟨#[]⟩, .slice none 0 0, .slice none 0 0], .agg #[.int .u8 0, .string ⟨#[]⟩, .slice none 0 0, .slice none 0 0]] _ _ from cS.out _).mono ?_
    rintro e Wd ⟨rfl, q9⟩
    replace bw := hid (bt bw.out q9)
    clear q9 c0 c1 c2 c3 cf hl1 KA KB KX cS
    go_wp2_with fail
    go_ret
    exact ⟨rfl, bw.out⟩
  replace hJ := hid hJ
  clear j1 K2 o2 v2
  obtain ⟨c0, c1, c2, c3, cf⟩ := four' KA.out
  go_wp2_with fail
  refine (cCa.out _ bw.out).mono ?_
  rintro e Wc ⟨rfl, q9⟩
  replace KA := hid (KA.out.below q9 KA.out.lt)
  replace KB := hid (KB.out.below q9 KB.out.lt)
  replace KX := hid (KX.out.below q9 KX.out.lt)
  replace K1 := hid (K1.out.below q9 K1.out.lt)
  replace o1 := hid (o1.out.below q9)
  replace bw := hid (bt bw.out q9)
  clear q9
  clear c0 c1 c2 c3 cf
  by_cases hca : ca = 0
  case neg =>
    clear KA KB KX K1 hJ
    go_wp2_with fail
    go_ret
    exact ⟨rfl, bw.out⟩
  subst hca
  have hGa := hid (gA.out rfl)
  clear gA
  obtain ⟨d0, d1, d2, d3, df⟩ := four' KB.out
  go_wp2_with fail
  refine (cCb.out _ bw.out).mono ?_
  rintro e Wc ⟨rfl, q9⟩
  replace KA := hid (KA.out.below q9 KA.out.lt)
  replace KB := hid (KB.out.below q9 KB.out.lt)
  replace KX := hid (KX.out.below q9 KX.out.lt)
  replace K1 := hid (K1.out.below q9 K1.out.lt)
  replace o1 := hid (o1.out.below q9)
  replace bw := hid (bt bw.out q9)
  clear q9
  clear d0 d1 d2 d3 df
  by_cases hcb : cb = 0
  case neg =>
    clear KA KB KX K1 hJ
    go_wp2_with fail
    go_ret
    exact ⟨rfl, bw.out⟩
  subst hcb
  have hGb := hid (gB.out rfl)
  have hsm := hid (PT.J_small _ (er a) (er b) (er y1) (Nat.le_refl _) sa.out sb.out hJ.out)
  have hab := hid (PT.J_abs _ (er a) (er b) (er y1) (Nat.le_refl _) hGa.out hGb.out hJ.out)
  have haa := hid (PT.J_self _ (er a) (Nat.le_refl _) hGa.out)
  have hFj := hid (fun h => PT.F_join _ (er a) (er b) (er y1) x (Nat.le_refl _) hGa.out hGb.out hJ.out h)
  have cCA := hid (join_any y1 a hsm.out sa.out Wc (fun _ => True) o1.out (ha'.out.below bw.out) (fun _ _ => trivial))
  rw [va'.out, v1.out] at cCA
  clear gB cCa cCb hGa hGb hJ
  obtain ⟨c0, c1, c2, c3, cf⟩ := four' KA.out
  obtain ⟨u10, u11, u12, u13, u1f⟩ := four' K1.out
  go_wp2_with fail
  refine (cCA.out).mono ?_
  rintro e Wc ⟨⟨y3, z3, rfl, o3, -, j3⟩, q9⟩
  obtain ⟨p3, q3, r3, s3, ey1, ey2, _, _⟩ := o3.forms
  have v3 := hid (Ty.val_eq ey1 ey2)
  rw [v3.out]
  replace o3 := hid o3
  replace j3 := hid j3
  clear ey1 ey2
  replace KA := hid (KA.out.below q9 KA.out.lt)
  replace KB := hid (KB.out.below q9 KB.out.lt)
  replace KX := hid (KX.out.below q9 KX.out.lt)
  replace K1 := hid (K1.out.below q9 K1.out.lt)
  replace o1 := hid (o1.out.below q9)
  replace bw := hid (bt bw.out q9)
  clear q9
  clear c0 c1 c2 c3 cf u10 u11 u12 u13 u1f
  go_upto_region 10 with fail
  have q9 := (Below.refl Wc.heap.size Wc).alloc (Nat.le_refl _) (.cells #[.int .u8 (y3.kind : Nat), .string y3.name, .slice p3 y3.of.length q3, .slice r3 y3.att.length s3] 26)
  have K3 := hid (Blk.new Wc [.int .u8 (y3.kind : Nat), .string y3.name, .slice p3 y3.of.length q3, .slice r3 y3.att.length s3] 26)
  change Hid (Blk (Wc.alloc (.cells #[.int .u8 (y3.kind : Nat), .string y3.name, .slice p3 y3.of.length q3, .slice r3 y3.att.length s3] 26)) _ _ _) at K3
  replace KA := hid (KA.out.below q9 KA.out.lt)
  replace KB := hid (KB.out.below q9 KB.out.lt)
  replace KX := hid (KX.out.below q9 KX.out.lt)
  replace K1 := hid (K1.out.below q9 K1.out.lt)
  replace o1 := hid (o1.out.below q9)
  replace o3 := hid (o3.out.below q9)
  replace bw := hid (bt bw.out q9)
  clear q9
  generalize Wc.heap.size = b3 at K3 ⊢
  generalize Wc.alloc (.cells #[.int .u8 (y3.kind : Nat), .string y3.name, .slice p3 y3.of.length q3, .slice r3 y3.att.length s3] 26) = Wc at KA KB KX K3 bw o3 K1 o1 ⊢
  clear cCA
  obtain ⟨rfl, he13⟩ : z3 = 0 ∧ er y1 = er y3 := by
    rcases j3.out with ⟨h, rfl⟩ | ⟨h, _⟩
    · rw [hab.out] at h; exact ⟨rfl, Option.some.inj h⟩
    · rw [hab.out] at h; cases h
  replace he13 := hid he13
  clear j3 hab
  obtain ⟨c0, c1, c2, c3, cf⟩ := four' KA.out
  go_wp2_with fail
  refine (cAA.out _ bw.out).mono ?_
  rintro e Wc ⟨⟨y4, z4, rfl, o4, -, j4⟩, q9⟩
  obtain ⟨p4, q4, r4, s4, ey1, ey2, _, _⟩ := o4.forms
  have v4 := hid (Ty.val_eq ey1 ey2)
  rw [v4.out]
  replace o4 := hid o4
  replace j4 := hid j4
  clear ey1 ey2
  replace KA := hid (KA.out.below q9 KA.out.lt)
  replace KB := hid (KB.out.below q9 KB.out.lt)
  replace KX := hid (KX.out.below q9 KX.out.lt)
  replace K1 := hid (K1.out.below q9 K1.out.lt)
  replace K3 := hid (K3.out.below q9 K3.out.lt)
  replace o1 := hid (o1.out.below q9)
  replace o3 := hid (o3.out.below q9)
  replace bw := hid (bt bw.out q9)
  clear q9
  clear c0 c1 c2 c3 cf
  go_upto_region 11 with fail
  have q9 := (Below.refl Wc.heap.size Wc).alloc (Nat.le_refl _) (.cells #[.int .u8 (y4.kind : Nat), .string y4.name, .slice p4 y4.of.length q4, .slice r4 y4.att.length s4] 26)
  have K4 := hid (Blk.new Wc [.int .u8 (y4.kind : Nat), .string y4.name, .slice p4 y4.of.length q4, .slice r4 y4.att.length s4] 26)
  change Hid (Blk (Wc.alloc (.cells #[.int .u8 (y4.kind : Nat), .string y4.name, .slice p4 y4.of.length q4, .slice r4 y4.att.length s4] 26)) _ _ _) at K4
  replace KA := hid (KA.out.below q9 KA.out.lt)
  replace KB := hid (KB.out.below q9 KB.out.lt)
  replace KX := hid (KX.out.below q9 KX.out.lt)
  replace K1 := hid (K1.out.below q9 K1.out.lt)
  replace K3 := hid (K3.out.below q9 K3.out.lt)
  replace o1 := hid (o1.out.below q9)
  replace o3 := hid (o3.out.below q9)
  replace o4 := hid (o4.out.below q9)
  replace bw := hid (bt bw.out q9)
  clear q9
  generalize Wc.heap.size = b4 at K4 ⊢
  generalize Wc.alloc (.cells #[.int .u8 (y4.kind : Nat), .string y4.name, .slice p4 y4.of.length q4, .slice r4 y4.att.length s4] 26) = Wc at KA KB KX K4 bw o4 K1 o1 K3 o3 ⊢
  obtain ⟨rfl, he4⟩ : z4 = 0 ∧ er a = er y4 := by
    rcases j4.out with ⟨h, rfl⟩ | ⟨h, _⟩
    · rw [haa.out] at h; exact ⟨rfl, Option.some.inj h⟩
    · rw [haa.out] at h; cases h
  have cS := hid (samety_any (like_of_er he13.out) Wc o1.out o3.out)
  rw [v1.out, v3.out] at cS
  have cS4 := hid (show ∀ W, Below w.heap.size w W → y4.ok W → _ from fun W B h => samety_any (like_of_er he4) W (ha'.out.below B) h)
  rw [va'.out, v4.out] at cS4
  clear j4 haa he4
  obtain ⟨u10, u11, u12, u13, u1f⟩ := four' K1.out
  obtain ⟨u30, u31, u32, u33, u3f⟩ := four' K3.out
  go_wp2_with fail
  refine cS.out.mono ?_
  rintro e Wc ⟨rfl, q9⟩
  replace KA := hid (KA.out.below q9 KA.out.lt)
  replace KB := hid (KB.out.below q9 KB.out.lt)
  replace KX := hid (KX.out.below q9 KX.out.lt)
  replace K1 := hid (K1.out.below q9 K1.out.lt)
  replace K3 := hid (K3.out.below q9 K3.out.lt)
  replace K4 := hid (K4.out.below q9 K4.out.lt)
  replace o1 := hid (o1.out.below q9)
  replace o4 := hid (o4.out.below q9)
  replace bw := hid (bt bw.out q9)
  clear q9
  clear u10 u11 u12 u13 u1f u30 u31 u32 u33 u3f
  clear cS K3 v3 o3
  obtain ⟨c0, c1, c2, c3, cf⟩ := four' KA.out
  obtain ⟨u40, u41, u42, u43, u4f⟩ := four' K4.out
  go_wp2_with fail
  refine (cS4.out _ bw.out o4.out).mono ?_
  rintro e Wc ⟨rfl, q9⟩
  replace KA := hid (KA.out.below q9 KA.out.lt)
  replace KB := hid (KB.out.below q9 KB.out.lt)
  replace KX := hid (KX.out.below q9 KX.out.lt)
  replace K1 := hid (K1.out.below q9 K1.out.lt)
  replace o1 := hid (o1.out.below q9)
  replace bw := hid (bt bw.out q9)
  clear q9
  clear c0 c1 c2 c3 cf u40 u41 u42 u43 u4f
  clear cS4 K4 v4 o4
  have cFc := hid (show ∀ W, Below w.heap.size w W → y1.ok W → _ from fun W B h => fits_any y1 x W (hx'.out.below B) h)
  rw [hv'.out, v1.out] at cFc
  generalize PT.F (er a) x = fa at cFa hFj
  generalize PT.F (er b) x = fb at cFb hFj
  generalize PT.F (er y1) x = fc at cFc hFj
  obtain ⟨k0, k1, k2, k3, k4, k5, k6, kf⟩ := Val.seven KX.out
  obtain ⟨c0, c1, c2, c3, cf⟩ := four' KA.out
  go_wp2_with fail
  refine (cFa.out _ bw.out).mono ?_
  rintro e Wc ⟨rfl, q9⟩
  replace KA := hid (KA.out.below q9 KA.out.lt)
  replace KB := hid (KB.out.below q9 KB.out.lt)
  replace KX := hid (KX.out.below q9 KX.out.lt)
  replace K1 := hid (K1.out.below q9 K1.out.lt)
  replace o1 := hid (o1.out.below q9)
  replace bw := hid (bt bw.out q9)
  clear q9
  clear k0 k1 k2 k3 k4 k5 k6 kf c0 c1 c2 c3 cf
  clear cFa
  cases fa with
  | true =>
    have hfc := hid (hFj.out rfl)
    obtain ⟨k0, k1, k2, k3, k4, k5, k6, kf⟩ := Val.seven KX.out
    obtain ⟨u10, u11, u12, u13, u1f⟩ := four' K1.out
    go_wp2_with fail
    refine (cFc.out _ bw.out o1.out).mono ?_
    rintro e Wd ⟨rfl, q9⟩
    replace bw := hid (bt bw.out q9)
    clear q9
    clear k0 k1 k2 k3 k4 k5 k6 kf u10 u11 u12 u13 u1f
    clear cFc KA KB KX K1
    go_wp2_with fail
    go_ret
    exact ⟨by rw [hfc.out]; rfl, bw.out⟩
  | false =>
    obtain ⟨k0, k1, k2, k3, k4, k5, k6, kf⟩ := Val.seven KX.out
    obtain ⟨d0, d1, d2, d3, df⟩ := four' KB.out
    go_wp2_with fail
    refine (cFb.out _ bw.out).mono ?_
    rintro e Wc ⟨rfl, q9⟩
    replace KA := hid (KA.out.below q9 KA.out.lt)
    replace KB := hid (KB.out.below q9 KB.out.lt)
    replace KX := hid (KX.out.below q9 KX.out.lt)
    replace K1 := hid (K1.out.below q9 K1.out.lt)
    replace o1 := hid (o1.out.below q9)
    replace bw := hid (bt bw.out q9)
    clear q9
    clear k0 k1 k2 k3 k4 k5 k6 kf d0 d1 d2 d3 df
    clear cFb
    cases fb with
    | true =>
      have hfc := hid (hFj.out rfl)
      obtain ⟨k0, k1, k2, k3, k4, k5, k6, kf⟩ := Val.seven KX.out
      obtain ⟨u10, u11, u12, u13, u1f⟩ := four' K1.out
      go_wp2_with fail
      refine (cFc.out _ bw.out o1.out).mono ?_
      rintro e Wd ⟨rfl, q9⟩
      replace bw := hid (bt bw.out q9)
      clear q9
      clear k0 k1 k2 k3 k4 k5 k6 kf u10 u11 u12 u13 u1f
      clear cFc KA KB KX K1
      go_wp2_with fail
      go_ret
      exact ⟨by rw [hfc.out]; rfl, bw.out⟩
    | false =>
      clear KA KB KX K1
      go_wp2_with fail
      go_ret
      exact ⟨rfl, bw.out⟩
end Go.Proofs.YtklclfolmfhocaaGreatDoor.Tyt
