/-
  lictorref06.Copy, lictorref06.CopyAll: contracts.
-/
import Derived.Test.YtdjgkbpfmonebaaGreatDoorValCopy
import Derived.Test.YtdjgkbpfmonebaaGreatDoorRowOwn
namespace Go.Proofs.YtdjgkbpfmonebaaGreatDoor.Val
open Go.ChangeShapes Go.WideShapes Go.ChangeAt Go.RowKit
open Go.Proofs.YtdjgkbpfmonebaaGreatDoor.Mem Go.Proofs.YtdjgkbpfmonebaaGreatDoor.Nam
set_option linter.unusedVariables false
set_option linter.unusedSimpArgs false
set_option maxRecDepth 100000
theorem T.inS.and {S R : Nat → Prop} : ∀ {x : T}, x.inS S → x.inS R → x.inS (fun k => S k ∧ R k) := by
  suffices h : ∀ n (x : T), x.size ≤ n → x.inS S → x.inS R → x.inS (fun k => S k ∧ R k) from fun {x} => h x.size x (Nat.le_refl _)
  intro n
  induction n with
  | zero => intro x hx; have := x.size_pos; omega
  | succ n ih =>
    intro x hx hS hR
    obtain ⟨s1, s2, s3⟩ := T.inS_iff.1 hS
    obtain ⟨r1, r2, r3⟩ := T.inS_iff.1 hR
    exact T.inS_iff.2 ⟨fun hn ao m cap e a ha => ⟨s1 hn ao m cap e a ha, r1 hn ao m cap e a ha⟩, fun hn ao m cap e a ha => ⟨s2 hn ao m cap e a ha, r2 hn ao m cap e a ha⟩, fun y hy => ih y (by have := T.size_part hy; omega) (s3 y hy) (r3 y hy)⟩
/-- the copies so far: each in memory of the call's own, none in the row -/
def Cps (B : Nat) (W : World) (v : Value) (l ys : List T) : Prop := T.likeL l ys ∧ W.ownsRow B 27 7 v ys.length (T.encL ys) ∧ ∀ y ∈ ys, y.ok W ∧ y.inS (fun b => B ≤ b ∧ b < W.heap.size ∧ v.ownBlock ≠ some b)
theorem Cps.below {B : Nat} {W W' : World} {v : Value} {l ys : List T} (h : Cps B W v l ys) (hb : Below W.heap.size W W') : Cps B W' v l ys :=
  ⟨h.1, ownsRow_below h.2.1 hb, fun y hy => ⟨(h.2.2 y hy).1.below hb, (h.2.2 y hy).2.mono (fun k hk => ⟨hk.1, Nat.lt_of_lt_of_le hk.2.1 hb.size, hk.2.2⟩)⟩⟩
theorem Cps.next {B : Nat} {W W5 : World} {v : Value} {l ys : List T} {z y : T} (h : Cps B W v l ys) (hb : Below W.heap.size W W5) (hB : B ≤ W.heap.size) (hlk : z.like y) (hy : y.ok W5) (hin : y.inS (W.heap.size ≤ ·))
    (hroom : (ys.length + 1) * 96 ≤ 140737488355328) :
    ∃ so sc W7, (Builtin.append_ #[23, 23] 23 #[v, .slice (some ⟨W5.heap.size, 0, none⟩) 1 1]).run Tryz.prog (W5.alloc (.cells y.enc.toArray 27)) = .ok (.slice so (ys.length + 1) sc) W7 ∧ Cps B W7 (.slice so (ys.length + 1) sc) (l ++ [z]) (ys ++ [y]) ∧ Below B W W7 := by
  have b6 : Below W5.heap.size W5 (W5.alloc (.cells y.enc.toArray 27)) := (Below.refl _ W5).alloc (Nat.le_refl _) _
  have h6 := (h.below hb).below b6
  have hy6 := hy.below b6
  obtain ⟨i0, hi, hz0, hz1, hz2⟩ := info_parts' info_value
  have hK := Blk.new W5 y.enc 27
  have hm : maxLen = 9223372036854775807 := rfl
  obtain ⟨v', W7, hrun, ho, hg, hpl⟩ := run_append_place (P := Tryz.prog) (W5.alloc (.cells y.enc.toArray 27)) B 23 23 27 i0 (.agg #[.int .u8 0, .bool false, .int .i64 0, .string ⟨#[]⟩, .string ⟨#[]⟩, .slice none 0 0, .slice none 0 0]) 7 96 Tryz.underlying23 hi hz0 hz1 hz2 rfl (by decide) v ys.length (T.encL ys) h6.2.1
    ⟨W5.heap.size, 0, none⟩ 1 1 y.enc rfl (getElem?_cells' (fun j hj => by rw [Mem.add_plain, Nat.zero_add]; exact hK.cell j hj)) (enc_one hy6) (by omega) hroom (by have := hb.size; have := b6.size; omega)
  obtain ⟨so, sc, rfl, _⟩ := ownsRow_form ho
  have hlt : ∀ k, v.ownBlock = some k → B ≤ k ∧ k < (W5.alloc (.cells y.enc.toArray 27)).heap.size := fun k hk => h6.2.1.lt k hk
  have hlt0 : ∀ k, v.ownBlock = some k → k < W.heap.size := fun k hk => (h.2.1.lt k hk).2
  have hkeep : ∀ k, (B ≤ k ∧ k < (W5.alloc (.cells y.enc.toArray 27)).heap.size ∧ v.ownBlock ≠ some k) → W7.heap[k]? = (W5.alloc (.cells y.enc.toArray 27)).heap[k]? := fun k hk => hg.block k hk.2.1 (fun e => hk.2.2 e.symm)
  have hout : ∀ k, (B ≤ k ∧ k < (W5.alloc (.cells y.enc.toArray 27)).heap.size ∧ v.ownBlock ≠ some k) → (B ≤ k ∧ k < W7.heap.size ∧ (Value.slice so (ys.length + 1) sc).ownBlock ≠ some k) := fun k hk => ⟨hk.1, Nat.lt_of_lt_of_le hk.2.1 hg.size, fun e => by
    rcases hpl with hp | ⟨g, hp, hge⟩
    · rw [hp] at e; exact hk.2.2 e
    · rw [hp] at e; cases e; omega⟩
  refine ⟨so, sc, W7, hrun, ⟨T.likeL_append h.1 ⟨hlk, trivial⟩, ?_, fun u hu => ?_⟩, ?_⟩
  · rw [List.length_append, encL_append, encL_cons]
    simpa [T.encL] using ho
  · rcases List.mem_append.1 hu with hu | hu
    · exact ⟨(h6.2.2 u hu).1.keep hkeep (h6.2.2 u hu).2, (h6.2.2 u hu).2.mono hout⟩
    · rw [List.mem_singleton] at hu
      subst hu
      have hin6 : u.inS (fun k => B ≤ k ∧ k < (W5.alloc (.cells u.enc.toArray 27)).heap.size ∧ v.ownBlock ≠ some k) :=
        (hin.and hy6.inS).mono (fun k hk => ⟨Nat.le_trans hB hk.1, hk.2, fun e => by have := hlt0 k e; have := hk.1; omega⟩)
      exact ⟨hy6.keep hkeep hin6, hin6.mono hout⟩
  · have b1 : Below B W (W5.alloc (.cells y.enc.toArray 27)) := (hb.mono hB).trans (b6.mono (by have := hb.size; omega))
    exact b1.grown hg (by have := b1.size; omega) (fun k hk => (hlt k hk).1)
def CopyP (x : T) : Prop := ∀ (w : World), x.ok w → Calls Tryz.prog 26 #[x.val] w fun e w' => CopyOf w.heap.size x e w' ∧ Below w.heap.size w w'
set_option maxHeartbeats 4000000 in
theorem copyall_step (l : List T) (ih : ∀ z ∈ l, CopyP z) (v : Value) (w : World) (h : LV w v l) :
    Calls Tryz.prog 11 #[v] w fun e w' => (∃ ys v', e = .returned v' ∧ Cps w.heap.size w' v' l ys) ∧ Below w.heap.size w w' := by
  obtain ⟨lo, lc, rfl, hl⟩ := h.form
  have hli : (l.length : Int) ≤ 9223372036854775807 := by omega
  have hroom := hid h.room
  have h' := hid h
  have ih' := hid ih
  clear h ih
  go_enter Tryz.func11, Tryz.ntmps11
  go_wp2_with fail
  go_loopw [3, 8] (fun o i wr => ∃ (k : Nat) (ys : List T) (so : Option Addr) (sc : Nat), k ≤ l.length ∧ i = .int .i64 k ∧ o = .slice so k sc ∧ Hid (ys.length = k) ∧ Hid (Cps w.heap.size wr (.slice so k sc) (l.take k) ys) ∧ Hid (Below w.heap.size w wr)) (fun _ i _ => l.length - (intOf i).toNat)
  case atStart => exact ⟨0, [], none, 0, by omega, rfl, rfl, hid rfl, hid ⟨trivial, World.ownsRow_nil _ _ _ _, by simp⟩, hid (Below.refl _ _)⟩
  case round =>
    obtain ⟨k, ys, so, sc, hk, rfl, rfl, hlen, hcp, bw⟩ := hrel
    rename_i wr _
    by_cases hkl : k < l.length
    · have hki : (k : Int) < (l.length : Int) := by omega
      obtain ⟨xb, xo, rfl, xf0, xf1, xf2, xf3, xf4, xf5, xf6⟩ := (h'.out.below bw.out).cells k hkl
      have hzok := hid ((h'.out.below bw.out).all _ (List.getElem_mem hkl))
      have hrec := hid (fun W (b : Below w.heap.size w W) => ih'.out l[k] (List.getElem_mem hkl) W ((h'.out.below b).all _ (List.getElem_mem hkl)))
      have htk := hid (show l.take (k + 1) = l.take k ++ [l[k]] from List.take_succ_eq_append_getElem hkl)
      generalize l[k] = z at xf0 xf1 xf2 xf3 xf4 xf5 xf6 hzok hrec htk
      obtain ⟨zno, znc, zlo, zlc, ez1, ez2, zl1, zl2⟩ := hzok.out.forms
      have hzv : z.val = .agg #[.int .u8 (z.kind : Nat), .bool z.bool, .int .i64 z.num, .string z.str, .string z.typ, .slice zno z.names.length znc, .slice zlo z.list.length zlc] := by rw [T.lit, ez1, ez2]
      rw [hzv] at hrec
      rw [ez1] at xf5
      rw [ez2] at xf6
      clear hzv ez1 ez2 zl1 zl2 hzok
      go_upto_region 5 with fail
      have K := hid (Blk.new wr [.int .u8 (z.kind : Nat), .bool z.bool, .int .i64 z.num, .string z.str, .string z.typ, .slice zno z.names.length znc, .slice zlo z.list.length zlc] 27)
      have b4 := hid (show Below wr.heap.size wr (wr.alloc (.cells #[.int .u8 (z.kind : Nat), .bool z.bool, .int .i64 z.num, .string z.str, .string z.typ, .slice zno z.names.length znc, .slice zlo z.list.length zlc] 27)) from (Below.refl _ wr).alloc (Nat.le_refl _) _)
      clear xf0 xf1 xf2 xf3 xf4 xf5 xf6
      generalize wr.alloc (.cells #[.int .u8 (z.kind : Nat), .bool z.bool, .int .i64 z.num, .string z.str, .string z.typ, .slice zno z.names.length znc, .slice zlo z.list.length zlc] 27) = w4 at K b4 ⊢
      obtain ⟨c0, c1, c2, c3, c4, c5, c6, cf⟩ := seven K.out
      go_wp2_with fail
      refine (hrec.out _ (bt bw.out b4.out)).mono ?_
      rintro e w5 ⟨⟨y, rfl, hlk, hyok, hyin⟩, b5⟩
      clear c0 c1 c2 c3 c4 c5 c6 cf K hrec
      obtain ⟨so2, sc2, w7, hrun, hcp7, b7⟩ := hcp.out.next (bt b4.out b5) bw.out.size hlk hyok (hyin.mono (fun q hq => Nat.le_trans b4.out.size hq)) (by rw [hlen.out]; have := hroom.out; omega)
      obtain ⟨yno, ync, ylo, ylc, ey1, ey2, yl1, yl2⟩ := hyok.forms
      have hyv : y.val = .agg #[.int .u8 (y.kind : Nat), .bool y.bool, .int .i64 y.num, .string y.str, .string y.typ, .slice yno y.names.length ync, .slice ylo y.list.length ylc] := by rw [T.lit, ey1, ey2]
      have hye : y.enc.toArray = #[.int .u8 (y.kind : Nat), .bool y.bool, .int .i64 y.num, .string y.str, .string y.typ, .slice yno y.names.length ync, .slice ylo y.list.length ylc] := by unfold T.enc; rw [ey1, ey2]
      rw [hye, hlen.out] at hrun
      rw [hyv]
      rw [hlen.out, ← htk.out] at hcp7
      replace hrun := hid hrun
      replace hcp7 := hid hcp7
      have bw7 := hid (bw.out.trans b7)
      have hlen7 := hid (show (ys ++ [y]).length = k + 1 by rw [List.length_append, hlen.out]; rfl)
      clear hyv hye ey1 ey2 yl1 yl2 hlk hyok hyin b7 b5 b4 htk hcp bw
      go_wp2_with (at_builtin; refine wpList_app rfl (.tmp 12) (.tmp 15) _ _ rfl _ _ _ _ rfl rfl hrun.out ?_)
      clear hrun
      go_roundw
      case rel => exact ⟨k + 1, ys ++ [y], so2, sc2, by omega, by go_num, rfl, hlen7, hcp7, bw7⟩
      case measure => simp [intOf]; omega
    · obtain rfl : k = l.length := by omega
      go_wp2_with fail
      go_ret
      exact ⟨⟨ys, _, rfl, by have := hcp.out; rwa [List.take_length] at this⟩, bw.out⟩
theorem app_strs1 (l : List ByteArray) (v : Value) (W : World) (h : StrsV W v l) (hn : l.length * 16 ≤ 140737488355328) :
    ∃ so sc W1, (Builtin.append_ #[22, 22] 22 #[.slice (some ⟨W.heap.size, 0, none⟩) 0 0, v]).run Tryz.prog (W.alloc (.cells #[] 9)) = .ok (.slice so l.length sc) W1 ∧
      W1.ownsRow W.heap.size 9 1 (.slice so l.length sc) l.length (strC l) ∧ Below W.heap.size W W1 := by
  have b0 : Below W.heap.size W (W.alloc (.cells #[] 9)) := (Below.refl _ W).alloc (Nat.le_refl _) _
  have hown : (W.alloc (.cells #[] 9)).ownsRow W.heap.size 9 1 (.slice (some ⟨W.heap.size, 0, none⟩) 0 0) 0 [] := World.ownsRow_made W #[] 0 (Nat.le_refl _) (by decide) rfl
  have hone : ∀ u ∈ strC l, u.oneCell' = true := fun u hu => by simp [strC] at hu; obtain ⟨a, _, rfl⟩ := hu; rfl
  obtain ⟨ao, cap, rfl, h2, h3, h4, h5, h6⟩ := h
  cases ao with
  | none =>
    obtain rfl := h4 rfl
    obtain rfl : l = [] := List.eq_nil_of_length_eq_zero (by omega)
    refine ⟨some ⟨W.heap.size, 0, none⟩, 0, _, ?_, hown, b0⟩
    simp [Builtin.append_, go_sem, Tryz.underlying22]
  | some a =>
    obtain ⟨i0, hi, hz0, hz1, hz2⟩ := info_parts' info_string
    obtain ⟨v', w', hrun, ho, hg, _⟩ := run_append_own (P := Tryz.prog) (W.alloc (.cells #[] 9)) W.heap.size 22 22 9 i0 (.string ⟨#[]⟩) 1 16 Tryz.underlying22 hi hz0 hz1 hz2 rfl (by decide) (.slice (some ⟨W.heap.size, 0, none⟩) 0 0) 0 [] hown a l.length cap (strC l) (by simp [strC_len])
      (getElem?_cells' (fun j hj => cell_below b0 _ _ (h6 a rfl j hj))) hone (by omega) (by omega) (by simp)
    rw [Nat.zero_add] at ho
    obtain ⟨so, sc, rfl, _⟩ := ownsRow_form ho
    exact ⟨so, sc, w', hrun, ho, b0.grown hg (by simp) (fun k hk => (hown.lt k hk).1)⟩
end Go.Proofs.YtdjgkbpfmonebaaGreatDoor.Val
