/-
  The laws' own functions: full, lives.
-/
import Derived.Test.YtgplioocnbjhaaaSectorHolds
import Derived.Test.YtgplioocnbjhaaaSectorNew
import Derived.Test.YtgplioocnbjhaaaSectorPut
import Derived.Test.YtgplioocnbjhaaaSectorCrash
import Derived.Laws.IdiomStrings
import Derived.Deep.RegionWith
import Derived.Deep.Cut
namespace Go.Proofs.Ytgplioocnbjhaaa.Sector
open Go.ChangeShapes Go.WideShapes Go.ChangeAt Go.RowKit
open Go.Proofs.Ytgplioocnbjhaaa.Mem
set_option linter.unusedVariables false

theorem info_byte : (Try.prog.info? 5).map (fun i => (i.zero, i.size, i.bytes)) = some (some (Value.int .u8 0), 1, 1) := by kernel_rfl
theorem made_bytes (n : Nat) : (madeCells #[Value.int .u8 0] n).toList = List.replicate n (Value.int .u8 0) := by
  apply List.ext_getElem
  · simp [madeCells]
  · intro j h1 h2
    simp [madeCells, Nat.mod_one]
def fcells (b k : Nat) : List Value := List.replicate k (.int .u8 b) ++ List.replicate (64 - k) (.int .u8 0)
theorem fcells_len (b k : Nat) (h : k ≤ 64) : (fcells b k).length = 64 := by simp [fcells]; omega
theorem fcells_set (b k : Nat) (h : k < 64) : (fcells b k).set k (.int .u8 b) = fcells b (k + 1) := by
  unfold fcells
  rw [List.set_append_right _ _ (by simp), List.length_replicate, Nat.sub_self, show 64 - k = (64 - (k + 1)) + 1 by omega, List.replicate_succ, List.set_cons_zero, List.replicate_succ', List.append_assoc]
  rfl
def fullS (b : Nat) : ByteArray := ⟨(List.replicate 64 (UInt8.ofNat b)).toArray⟩

set_option maxRecDepth 100000 in
set_option maxHeartbeats 1000000 in
theorem full_any (b : Nat) (w : World) (hb : b < 256) :
    Calls Try.prog 65 #[.int .u8 b] w fun e w' => e = .returned (.string (fullS b)) ∧ Below w.heap.size w w' := by
  obtain ⟨i0, hi, hz0, hz1, hz2⟩ := info_parts info_byte
  go_enter Try.func65, Try.ntmps65
  go_wp2_with (at_make; refine wpList_make_full _ rfl _ _ 105 rfl w.heap.size 5 i0 (.int .u8 0) 1 Try.underlying105 hi hz0 hz1 _ _ _ _ 64 rfl rfl rfl rfl ?m1 ?m2 (Nat.le_refl _) ?_)
  case m1 => rw [hz2]; omega
  case m2 => unfold maxLen; omega
  intro wm hown hgm
  have hbm : Below w.heap.size w wm := (Below.refl _ _).grown hgm (Nat.le_refl _) (by simp)
  have hg0 := made_blk hown
  rw [made_bytes] at hg0
  have B0 : Blk wm w.heap.size (fcells b 0) 5 := ⟨hg0⟩
  have B0' := hid B0
  have hbm' := hid hbm
  clear hown hgm hg0 hbm B0 hi hz0 hz1 hz2
  go_wp2_with fail
  go_loopw [8] (fun i wr => ∃ k : Nat, k ≤ 64 ∧ i = .int .i64 k ∧ Hid (Blk wr w.heap.size (fcells b k) 5) ∧ Hid (Below w.heap.size w wr)) (fun i _ => 64 - (intOf i).toNat)
  case atStart => exact ⟨0, by omega, rfl, B0', hbm'⟩
  case round =>
    obtain ⟨k, hk, rfl, hB, hbr⟩ := hrel
    by_cases hlt : k < 64
    · have hcell := hB.out.cell k (by rw [fcells_len _ _ hk]; exact hlt)
      generalize (fcells b k)[k]'_ = old at hcell
      have hfree := hB.out.free k
      have B2 := hB.out.set k (.int .u8 b)
      rw [fcells_set b k hlt] at B2
      have B2' := hid B2
      have hbn := hid (hbr.out.setCell (p := ⟨w.heap.size, k, none⟩) (by simp) (.int .u8 b))
      clear B2
      go_wp2_with fail
      go_roundw
      case rel => exact ⟨k + 1, by omega, by go_num, B2', hbn⟩
      case measure => simp [intOf]; omega
    · obtain rfl : k = 64 := by omega
      have hback := run_convert_bytes_back (P := Try.prog) wr 105 9 5 ⟨w.heap.size, 0, none⟩ 64 (List.replicate 64 (UInt8.ofNat b)) Try.underlying105 Try.underlying5 Try.underlying9
        (fun j hj => by
          rw [List.length_replicate] at hj
          rw [Mem.add_plain, Nat.zero_add, hB.out.cell j (by rw [fcells_len _ _ hk]; exact hj)]
          have he : (fcells b 64)[j]'(by rw [fcells_len _ _ hk]; exact hj) = .int .u8 b := by simp only [fcells, Nat.sub_self, List.replicate_zero, List.append_nil, List.getElem_replicate]
          rw [he, List.getElem_replicate, UInt8.toNat_ofNat_of_lt' hb])
      rw [List.length_replicate] at hback
      have hback2 := hid hback
      clear hback
      go_wp2_with fail
      rw [hback2.out]
      go_wp2_with fail
      go_ret
      exact ⟨rfl, hbr.out⟩

theorem fullS_size (b : Nat) : (fullS b).size = 64 := rfl
/-- What the answers that lives asks for come to. -/
def l1 : Disk := ⟨List.replicate 2 blank, [], false, -1⟩
def l2 : Disk := ⟨List.replicate 2 blank, [(0, fullS 120)], false, -1⟩
def l3 : Disk := ⟨[fullS 120, blank], [], false, -1⟩
def l4 : Disk := ⟨[fullS 120, blank], [(0, fullS 121)], false, -1⟩
theorem l_new : newE 2 = (l1, 0) := by kernel_rfl
theorem l_put : putE l1 0 (fullS 120) = (l2, 0) := by kernel_rfl
theorem l_sync : syncE l2 = (l3, 0) := by kernel_rfl
theorem l_put2 : putE l3 0 (fullS 121) = (l4, 0) := by kernel_rfl
theorem l_read : readE l4 0 = (fullS 121, 0) := by kernel_rfl
theorem l_crash : crashE l4 [] = (l3, 0) := by kernel_rfl
theorem l_read2 : readE l3 0 = (fullS 120, 0) := by kernel_rfl

theorem Res.open {w : World} {r : Disk × Int} {e : Ending} {w' : World} (h : Res w r e w') : ∃ so sc po pc, e = .returned (.tuple #[.agg #[.slice so r.1.secs.length sc, .slice po r.1.pend.length pc, .bool r.1.off, .int .i64 r.1.fuse], .int .i64 r.2]) ∧
    OwnDisk w.heap.size w' (.slice so r.1.secs.length sc) (.slice po r.1.pend.length pc) r.1 ∧ Below w.heap.size w w' := by
  obtain ⟨sv, pv, rfl, ho, hb⟩ := h
  obtain ⟨so, sc, rfl, _⟩ := ownsRow_form ho.secs
  obtain ⟨po, pc, rfl, _⟩ := ownsRow_form ho.pend
  exact ⟨so, sc, po, pc, rfl, ho, hb⟩

theorem box4 {C B b : Nat} {t : TypeId} {a0 a1 a2 a3 sv pv : Value} {d : Disk} {w0 w : World} (hD : Blk w b [a0, a1, a2, a3] t) (ho : OwnDisk B w sv pv d) (hb : b < B) (hw : Below C w0 w) (hC : C ≤ b) (x0 x1 x2 x3 : Value) :
    Hid (Blk ((((w.setCell ⟨b, 0, none⟩ x0).setCell ⟨b, 1, none⟩ x1).setCell ⟨b, 2, none⟩ x2).setCell ⟨b, 3, none⟩ x3) b [x0, x1, x2, x3] t) ∧
    Hid (OwnDisk B ((((w.setCell ⟨b, 0, none⟩ x0).setCell ⟨b, 1, none⟩ x1).setCell ⟨b, 2, none⟩ x2).setCell ⟨b, 3, none⟩ x3) sv pv d) ∧
    Hid (Below C w0 ((((w.setCell ⟨b, 0, none⟩ x0).setCell ⟨b, 1, none⟩ x1).setCell ⟨b, 2, none⟩ x2).setCell ⟨b, 3, none⟩ x3)) :=
  ⟨(((hD.set 0 x0).set 1 x1).set 2 x2).set 3 x3, own_setCell (own_setCell (own_setCell (own_setCell ho (p := ⟨b, 0, none⟩) hb x0) (p := ⟨b, 1, none⟩) hb x1) (p := ⟨b, 2, none⟩) hb x2) (p := ⟨b, 3, none⟩) hb x3,
    (((hw.setCell (p := ⟨b, 0, none⟩) hC x0).setCell (p := ⟨b, 1, none⟩) hC x1).setCell (p := ⟨b, 2, none⟩) hC x2).setCell (p := ⟨b, 3, none⟩) hC x3⟩

set_option maxHeartbeats 40000000 in
theorem lives_any (w : World) : Calls Try.prog 24 #[] w fun e w' => e = .returned (.bool true) ∧ Below w.heap.size w w' := by
  go_enter Try.func24, Try.ntmps24
  go_wp2_with fail
  refine (new_any 2 _).mono ?_
  rw [l_new]
  rintro e w1 h1
  obtain ⟨so1, sc1, po1, pc1, rfl, o1, b1⟩ := h1.open
  clear h1
  dsimp only at o1
  go_wp2_with fail
  have D1 := hid (Blk.new w1 [.slice so1 l1.secs.length sc1, .slice po1 l1.pend.length pc1, .bool l1.off, .int .i64 l1.fuse] 25)
  have h1 := hid (b1.alloc b1.size (.cells #[.slice so1 l1.secs.length sc1, .slice po1 l1.pend.length pc1, .bool l1.off, .int .i64 l1.fuse] 25))
  have v1 := hid (o1.v.below ((Below.refl _ w1).alloc (Nat.le_refl _) (.cells #[.slice so1 l1.secs.length sc1, .slice po1 l1.pend.length pc1, .bool l1.off, .int .i64 l1.fuse] 25)))
  have hsz : Hid (w1.heap.size < (w1.alloc (.cells #[.slice so1 l1.secs.length sc1, .slice po1 l1.pend.length pc1, .bool l1.off, .int .i64 l1.fuse] 25)).heap.size) := hid (by simp)
  have hCb : Hid (w.heap.size ≤ w1.heap.size) := hid b1.size
  clear b1 o1
  generalize hX : w1.alloc (.cells #[.slice so1 l1.secs.length sc1, .slice po1 l1.pend.length pc1, .bool l1.off, .int .i64 l1.fuse] 25) = X at D1 h1 v1 hsz ⊢
  clear hX
  obtain ⟨d0, d1, d2, d3, df⟩ := D1.out.four
  go_region_with (first
    | (go_at_call 65; refine (full_any 120 _ (by omega)).mono ?_; rintro e w2 ⟨rfl, b2⟩; have D2 := D1.out.drew.below b2 (by exact hsz.out); obtain ⟨d0, d1, d2, d3, df⟩ := D2.four; have D2' := hid D2; clear D2)
    | (go_at_call 20; refine (put_any l1 _ 0 _ _ ((DiskV.below v1.out (Below.refl _ _).drew).below b2) (by decide)).mono ?_; rw [l_put]; rintro e w3 h3; obtain ⟨so3, sc3, po3, pc3, rfl, o3, b3⟩ := h3.open; clear h3; dsimp only at o3; have D3 := D2'.out.below b3 (by have := b2.size; have := hsz.out; simp at *; omega); obtain ⟨d0, d1, d2, d3, df⟩ := D3.four; have D3' := hid D3; clear D3))
  all_goals
    have hw3 : Below w.heap.size w w3 := bt (bt h1.out ((Below.refl _ X).drew.trans b2)) b3
    have hc := hCb.out
    have hlt : w1.heap.size < w2.heap.size := Nat.lt_of_lt_of_le hsz.out b2.size
    obtain ⟨D4, o4, h4⟩ := box4 D3'.out o3 hlt hw3 hc (.slice so3 l2.secs.length sc3) (.slice po3 l2.pend.length pc3) (.bool l2.off) (.int .i64 l2.fuse)
    have hz3 := hid (Nat.lt_of_lt_of_le hlt b3.size)
    clear D1 D2' D3' v1 o3 hw3 hlt hc
    go_wp2_with fail
    clear d0 d1 d2 d3 df
    refine (sync_any l2 _ _ o4.out.v (by decide)).mono ?_
    rw [l_sync]
    rintro e w5 h5
    obtain ⟨so5, sc5, po5, pc5, rfl, o5, b5⟩ := h5.open
    dsimp only at o5
    have D5 := D4.out.below b5 (by simp; exact hz3.out)
    obtain ⟨d0, d1, d2, d3, df⟩ := D5.four
    obtain ⟨D6, o6, h6⟩ := box4 D5 o5 (by simp; exact hz3.out) (bt h4.out b5) hCb.out (.slice so5 l3.secs.length sc5) (.slice po5 l3.pend.length pc5) (.bool l3.off) (.int .i64 l3.fuse)
    have hz5 : Hid (w1.heap.size < w5.heap.size) := hid D5.lt
    clear D4 o4 h4 D5 o5 b5 h5 hz3
    go_wp2_with fail
    have hz6 : Hid (w1.heap.size < ((((w5.setCell ⟨w1.heap.size, 0, none⟩ (.slice so5 l3.secs.length sc5)).setCell ⟨w1.heap.size, 1, none⟩ (.slice po5 l3.pend.length pc5)).setCell ⟨w1.heap.size, 2, none⟩ (.bool l3.off)).setCell ⟨w1.heap.size, 3, none⟩ (.int .i64 l3.fuse)).heap.size) := hid D6.out.lt
    clear d0 d1 d2 d3 df
    generalize ((((w5.setCell ⟨w1.heap.size, 0, none⟩ (.slice so5 l3.secs.length sc5)).setCell ⟨w1.heap.size, 1, none⟩ (.slice po5 l3.pend.length pc5)).setCell ⟨w1.heap.size, 2, none⟩ (.bool l3.off)).setCell ⟨w1.heap.size, 3, none⟩ (.int .i64 l3.fuse)) = Y at D6 o6 h6 hz6 ⊢
    have v6 := hid o6.out.v
    obtain ⟨d0, d1, d2, d3, df⟩ := D6.out.four
    go_region_with (first
      | (go_at_call 65; refine (full_any 121 _ (by omega)).mono ?_; rintro e w7 ⟨rfl, b7⟩; have D7 := D6.out.drew.below b7 (by exact hz6.out); obtain ⟨d0, d1, d2, d3, df⟩ := D7.four; have D7' := hid D7; clear D7)
      | (go_at_call 20; refine (put_any l3 _ 0 _ _ ((DiskV.below v6.out (Below.refl _ _).drew).below b7) (by decide)).mono ?_; rw [l_put2]; rintro e w8 h8; obtain ⟨so8, sc8, po8, pc8, rfl, o8, b8⟩ := h8.open; clear h8; dsimp only at o8; have D8 := D7'.out.below b8 (by have := b7.size; have := hz6.out; simp at *; omega); obtain ⟨d0, d1, d2, d3, df⟩ := D8.four; have D8' := hid D8; clear D8))
    all_goals
      have hlt : w1.heap.size < w7.heap.size := Nat.lt_of_lt_of_le hz6.out b7.size
      obtain ⟨D9, o9, h9⟩ := box4 D8'.out o8 hlt (bt (bt h6.out ((Below.refl _ Y).drew.trans b7)) b8) hCb.out (.slice so8 l4.secs.length sc8) (.slice po8 l4.pend.length pc8) (.bool l4.off) (.int .i64 l4.fuse)
      have hz9 := hid (Nat.lt_of_lt_of_le hlt b8.size)
      clear D6 D7' D8' v6 o8 hlt o6 h6
      go_wp2_with fail
      clear d0 d1 d2 d3 df
      refine (read_any l4 _ 0 _ o9.out.v).mono ?_
      rw [l_read]
      rintro e w10 ⟨rfl, b10⟩
      have D10 := D9.out.below b10 (by simp; exact hz9.out)
      have h10 := hid (bt h9.out b10)
      have v10 := hid (o9.out.v.below b10)
      have hz10 := hid D10.lt
      obtain ⟨d0, d1, d2, d3, df⟩ := D10.four
      clear D9 o9 h9 D10 hz9
      go_wp2_with fail
      clear d0 d1 d2 d3 df
      refine (crash_any l4 _ _ [] _ v10.out (SlV.nil _)).mono ?_
      rw [l_crash]
      rintro e w11 h11
      obtain ⟨so11, sc11, po11, pc11, rfl, o11, b11⟩ := h11.open
      dsimp only at o11
      have h12 := hid (bt h10.out b11)
      have o12 := hid o11
      have hb11 := hid b11
      clear h11 o11 b11 v10 h10 hz10
      go_wp2_with fail
      refine (read_any l3 _ 0 _ (o12.out.v.below ((Below.refl _ w11).alloc (Nat.le_refl _) _))).mono ?_
      rw [l_read2]
      rintro e w13 ⟨rfl, b13⟩
      have h13 := hid (bt (h12.out.alloc h12.out.size _) b13)
      clear o12 h12 b13 hb11
      go_wp2_with fail
      refine (full_any 121 _ (by omega)).mono ?_
      rintro e w14 ⟨rfl, b14⟩
      have h14 := hid (bt h13.out b14)
      clear h13 b14
      go_wp2_with fail
      refine (full_any 120 _ (by omega)).mono ?_
      rintro e w15 ⟨rfl, b15⟩
      have h15 := hid (bt h14.out b15)
      clear h14 b15
      go_wp2_with fail
      go_ret
      exact ⟨by simp, h15.out⟩
end Go.Proofs.Ytgplioocnbjhaaa.Sector
