/-
  lictorlaw06.ValueOwn: walk.
-/
import Derived.Test.YtdjgkbpfmonebaaGreatDoorValPoke
import Derived.Test.YtdjgkbpfmonebaaGreatDoorValRecord
import Derived.Test.YtdjgkbpfmonebaaGreatDoorValLives
import Derived.Test.YtdjgkbpfmonebaaGreatDoorValSame
import Derived.Test.YtdjgkbpfmonebaaGreatDoorValCopy2
import Derived.Test.YtdjgkbpfmonebaaGreatDoorValGet
import Derived.Test.YtdjgkbpfmonebaaGreatDoorLikeMath
namespace Go.Proofs.YtdjgkbpfmonebaaGreatDoor.Val
open Go.ChangeShapes Go.WideShapes Go.ChangeAt Go.RowKit
open Go.Proofs.YtdjgkbpfmonebaaGreatDoor.Mem Go.Proofs.YtdjgkbpfmonebaaGreatDoor.Nam
set_option linter.unusedVariables false
set_option linter.unusedSimpArgs false
set_option maxRecDepth 100000
theorem set_spoil {w : World} {l : List T} {e : Ending} {w' : World} (h : SetP w l e w') : ∃ (cs : Array Value) (c : Int), e = .returned (.tuple #[.agg cs, .int .i64 c]) ∧ Spoil w.heap.size w'.heap.size w' cs := by
  rcases h with ⟨_, rfl⟩ | ⟨_, _, _, _, _, h⟩
  · exact ⟨_, _, rfl, spoil_zero _ _ _⟩
  · exact spoil_made h
theorem rec_spoil {w : World} {L : List ByteArray} {l : List T} {e : Ending} {w' : World} (h : RecP w L l e w') : ∃ (cs : Array Value) (c : Int), e = .returned (.tuple #[.agg cs, .int .i64 c]) ∧ Spoil w.heap.size w'.heap.size w' cs := by
  rcases h with ⟨_, rfl⟩ | ⟨_, _, rfl⟩ | ⟨_, _, _, _, _, _, _, _, _, h⟩
  · exact ⟨_, _, rfl, spoil_zero _ _ _⟩
  · exact ⟨_, _, rfl, spoil_zero _ _ _⟩
  · exact spoil_made h
structure Rows2 (B C : Nat) (S V : Value) (m n : Nat) (W : World) : Prop where
  s : Row2 B C W S m
  v : Row2 B C W V n
theorem Rows2.turn {B C : Nat} {S V : Value} {m n : Nat} {W W' : World} (t : Turn B C W W') (h : Rows2 B C S V m n W) : Rows2 B C S V m n W' := ⟨h.s.turn t, h.v.turn t⟩
/-- the element of a row of two -/
structure Cur (W : World) (g k : Nat) (cs : List Value) (R : World → Prop) (B C : Nat) (L : Value) (m : Nat) : Prop where
  c0 : W.cell? ⟨g, k * 7, none⟩ = cs[0]?
  c1 : W.cell? ⟨g, k * 7 + 1, none⟩ = cs[1]?
  c2 : W.cell? ⟨g, k * 7 + 2, none⟩ = cs[2]?
  c3 : W.cell? ⟨g, k * 7 + 3, none⟩ = cs[3]?
  c4 : W.cell? ⟨g, k * 7 + 4, none⟩ = cs[4]?
  c5 : W.cell? ⟨g, k * 7 + 5, none⟩ = cs[5]?
  c6 : W.cell? ⟨g, k * 7 + 6, none⟩ = cs[6]?
  row : ∀ W, R W → Row2 B C W L m
theorem cur_two {W : World} {g B C : Nat} {t : TypeId} {Sk Vk : Nat} {Sb Vb : Bool} {Sn Vn : Int} {Ss St Vs Vt : ByteArray} {Sno Vno Slo Vlo : Option Addr} {Snn Snc Vnn Vnc Sm Slc Vm Vlc : Nat}
    (h : Blk W g [.int .u8 (Sk : Nat), .bool Sb, .int .i64 Sn, .string Ss, .string St, .slice Sno Snn Snc, .slice Slo Sm Slc, .int .u8 (Vk : Nat), .bool Vb, .int .i64 Vn, .string Vs, .string Vt, .slice Vno Vnn Vnc, .slice Vlo Vm Vlc] t) (k : Nat) (hk : k < 2) :
    ∃ (Xk : Nat) (Xb : Bool) (Xn : Int) (Xs Xt : ByteArray) (Xno : Option Addr) (Xnn Xnc : Nat) (Xlo : Option Addr) (Xm Xlc : Nat), Cur W g k [.int .u8 (Xk : Nat), .bool Xb, .int .i64 Xn, .string Xs, .string Xt, .slice Xno Xnn Xnc, .slice Xlo Xm Xlc] (Rows2 B C (.slice Slo Sm Slc) (.slice Vlo Vm Vlc) Sm Vm) B C (.slice Xlo Xm Xlc) Xm := by
  match k, hk with
  | 0, _ => exact ⟨Sk, Sb, Sn, Ss, St, Sno, Snn, Snc, Slo, Sm, Slc, ⟨h.cell 0 (by simp), h.cell 1 (by simp), h.cell 2 (by simp), h.cell 3 (by simp), h.cell 4 (by simp), h.cell 5 (by simp), h.cell 6 (by simp), fun _ h => h.s⟩⟩
  | 1, _ => exact ⟨Vk, Vb, Vn, Vs, Vt, Vno, Vnn, Vnc, Vlo, Vm, Vlc, ⟨h.cell 7 (by simp), h.cell 8 (by simp), h.cell 9 (by simp), h.cell 10 (by simp), h.cell 11 (by simp), h.cell 12 (by simp), h.cell 13 (by simp), fun _ h => h.v⟩⟩
set_option maxHeartbeats 4000000 in
theorem own_walk (hS : SplitTold) (hV : ValidTold) (L : List ByteArray) (l : List T) (nv lv : Value) (w : World) (hn : StrsV w nv L) (hsz : ∀ y ∈ L, y.size ≤ 140737488355328) (hnr : L.length * 16 ≤ 140737488355328) (h : LV w lv l) (hw : Val.Start w) :
    Calls Tryz.prog 4 #[nv, lv] w fun e w' => e = .returned (.bool true) ∧ Below w.heap.size w w' := by
  have cL := hid (lives_any hS hV w hw)
  have cC := hid (fun W (b : Below w.heap.size w W) => copyall_any l lv W (h.below b))
  have cS := hid (fun W (b : Below w.heap.size w W) => set_any hS hV l lv W (h.below b) (hw.below b))
  have cR := hid (fun W (b : Below w.heap.size w W) => record_any hS hV L l nv lv W (hn.below b) hsz hnr (h.below b) (hw.below b))
  obtain ⟨no, nc, rfl, _, _⟩ := hn.form
  obtain ⟨lo, lc, rfl, _⟩ := h.form
  have h' := hid h
  have hli : (l.length : Int) ≤ 9223372036854775807 := by have := h.room; omega
  clear h hn hsz hnr hw hS hV
  go_enter Tryz.func4, Tryz.ntmps4
  go_wp2_with fail
  refine cL.out.mono ?_
  rintro e w1 ⟨rfl, b1⟩
  have bw := hid b1
  clear b1 cL
  go_wp2_with fail
  refine (cC.out _ bw.out).mono ?_
  rintro e w2 ⟨⟨ys, kv, rfl, hcp⟩, b2⟩
  replace bw := hid (bt bw.out b2)
  obtain ⟨ko, kc, rfl, _⟩ := ownsRow_form hcp.2.1
  have hyl := hid (show ys.length = l.length from (T.likeL_length hcp.1).symm)
  have hlk := hid hcp.1
  have hLy := hid (show LV w2 (.slice ko ys.length kc) ys from LV.mk' (SlV.own hcp.2.1) (fun x hx => (hcp.2.2 x hx).1) (by rw [hyl.out]; exact h'.out.room))
  have hyi : (ys.length : Int) ≤ 9223372036854775807 := by rw [hyl.out]; exact hli
  have bw2 := bw
  clear b2 cC hcp
  go_wp2_with fail
  refine (cS.out _ bw.out).mono ?_
  rintro e w3 ⟨hset, b3⟩
  obtain ⟨cs, c, rfl, hsp⟩ := set_spoil hset
  obtain ⟨Sk, Sb, Sn, Ss, St, nvS, lvS, Sm, rfl, hrS, Sno, Snn, Snc, rfl⟩ := hsp.form
  obtain ⟨⟨Slo, Slc, rfl⟩, _⟩ := id hrS
  replace bw := hid (bt bw.out b3)
  replace hrS := hid hrS
  have b0 := hid b3
  clear hset hsp b3 cS
  go_upto_region 5 with fail
  have K := hid (Blk.new w3 [.int .u8 (Sk : Nat), .bool Sb, .int .i64 Sn, .string Ss, .string St, .slice Sno Snn Snc, .slice Slo Sm Slc] 27)
  have ba := hid ((Below.refl w3.heap.size w3).alloc (Nat.le_refl _) (.cells #[.int .u8 (Sk : Nat), .bool Sb, .int .i64 Sn, .string Ss, .string St, .slice Sno Snn Snc, .slice Slo Sm Slc] 27))
  replace hrS := hid ((hrS.out.turn (Turn.below ba.out)).high ba.out.size)
  replace bw := hid (bt bw.out ba.out)
  replace b0 := hid (bt b0.out ba.out)
  clear ba
  generalize w3.alloc (.cells #[.int .u8 (Sk : Nat), .bool Sb, .int .i64 Sn, .string Ss, .string St, .slice Sno Snn Snc, .slice Slo Sm Slc] 27) = X3 at K bw b0 hrS ⊢
  generalize w3.heap.size = n3 at K ⊢
  go_wp2_with fail
  refine (cR.out _ bw.out).mono ?_
  rintro e w4 ⟨hrec, b4⟩
  obtain ⟨cs, c', rfl, hsp⟩ := rec_spoil hrec
  obtain ⟨Vk, Vb, Vn, Vs, Vt, nvV, lvV, Vm, rfl, hrV, Vno, Vnn, Vnc, rfl⟩ := hsp.form
  obtain ⟨⟨Vlo, Vlc, rfl⟩, _⟩ := id hrV
  have hR := hid (show Rows2 w2.heap.size w4.heap.size (.slice Slo Sm Slc) (.slice Vlo Vm Vlc) Sm Vm w4 from ⟨(hrS.out.turn (Turn.below b4)).high b4.size, hrV.low b0.out.size⟩)
  replace K := hid (K.out.below b4 K.out.lt)
  replace bw := hid (bt bw.out b4)
  replace b0 := hid (bt b0.out b4)
  clear hrec hsp b4 cR hrS hrV
  go_upto_region 6 with fail
  have K2 := hid (Blk.new w4 [.int .u8 (Vk : Nat), .bool Vb, .int .i64 Vn, .string Vs, .string Vt, .slice Vno Vnn Vnc, .slice Vlo Vm Vlc] 27)
  have ba := hid ((Below.refl w4.heap.size w4).alloc (Nat.le_refl _) (.cells #[.int .u8 (Vk : Nat), .bool Vb, .int .i64 Vn, .string Vs, .string Vt, .slice Vno Vnn Vnc, .slice Vlo Vm Vlc] 27))
  replace hR := hid (hR.out.turn (Turn.below ba.out))
  replace K := hid (K.out.below ba.out K.out.lt)
  replace bw := hid (bt bw.out ba.out)
  replace b0 := hid (bt b0.out ba.out)
  have hC := hid ba.out.size
  clear ba
  generalize w4.alloc (.cells #[.int .u8 (Vk : Nat), .bool Vb, .int .i64 Vn, .string Vs, .string Vt, .slice Vno Vnn Vnc, .slice Vlo Vm Vlc] 27) = X4 at K K2 bw b0 hR hC ⊢
  generalize w4.heap.size = C at K2 hR hC ⊢
  obtain ⟨c0, c1, c2, c3, c4, c5, c6, cf⟩ := seven K.out
  obtain ⟨d0, d1, d2, d3, d4, d5, d6, df⟩ := seven K2.out
  go_upto_region 7 with fail
  clear c0 c1 c2 c3 c4 c5 c6 cf d0 d1 d2 d3 d4 d5 d6 df
  replace K := hid (Blk.new X4 [.int .u8 (Sk : Nat), .bool Sb, .int .i64 Sn, .string Ss, .string St, .slice Sno Snn Snc, .slice Slo Sm Slc, .int .u8 (Vk : Nat), .bool Vb, .int .i64 Vn, .string Vs, .string Vt, .slice Vno Vnn Vnc, .slice Vlo Vm Vlc] 27)
  have ba := hid ((Below.refl X4.heap.size X4).alloc (Nat.le_refl _) (.cells #[.int .u8 (Sk : Nat), .bool Sb, .int .i64 Sn, .string Ss, .string St, .slice Sno Snn Snc, .slice Slo Sm Slc, .int .u8 (Vk : Nat), .bool Vb, .int .i64 Vn, .string Vs, .string Vt, .slice Vno Vnn Vnc, .slice Vlo Vm Vlc] 27))
  replace hR := hid (hR.out.turn (Turn.below ba.out))
  replace bw := hid (bt bw.out ba.out)
  replace b0 := hid (bt b0.out ba.out)
  clear ba K2
  generalize X4.alloc (.cells #[.int .u8 (Sk : Nat), .bool Sb, .int .i64 Sn, .string Ss, .string St, .slice Sno Snn Snc, .slice Slo Sm Slc, .int .u8 (Vk : Nat), .bool Vb, .int .i64 Vn, .string Vs, .string Vt, .slice Vno Vnn Vnc, .slice Vlo Vm Vlc] 27) = X5 at K bw b0 hR ⊢
  generalize X4.heap.size = g at K hC ⊢
  clear bw
  go_wp2_with fail
  go_loopw [34] (fun i wr => ∃ k : Nat, k ≤ 2 ∧ i = .int .i64 k ∧ Hid (Blk wr g [.int .u8 (Sk : Nat), .bool Sb, .int .i64 Sn, .string Ss, .string St, .slice Sno Snn Snc, .slice Slo Sm Slc, .int .u8 (Vk : Nat), .bool Vb, .int .i64 Vn, .string Vs, .string Vt, .slice Vno Vnn Vnc, .slice Vlo Vm Vlc] 27) ∧ Hid (Rows2 w2.heap.size C (.slice Slo Sm Slc) (.slice Vlo Vm Vlc) Sm Vm wr) ∧ Hid (Below w2.heap.size w2 wr)) (fun i _ => 2 - (intOf i).toNat)
  case atStart => exact ⟨0, by omega, rfl, K, hR, b0⟩
  case round =>
    clear K hR b0
    obtain ⟨k, hk, rfl, K, hR, b0⟩ := hrel
    by_cases hkl : k < 2
    · have hki : (k : Int) < 2 := by omega
      have hk0 : (0 : Int) ≤ (k : Int) := by omega
      have hCX := hid (show C ≤ wr.heap.size from Nat.le_trans hC.out (Nat.le_of_lt K.out.lt))
      have hgx := hid K.out.lt
      obtain ⟨Xk, Xb, Xn, Xs, Xt, Xno, Xnn, Xnc, Xlo, Xm, Xlc, hcur⟩ := cur_two (B := w2.heap.size) (C := C) K.out k hkl
      have hrow := hid hcur.row
      have e0 := hcur.c0; have e1 := hcur.c1; have e2 := hcur.c2; have e3 := hcur.c3; have e4 := hcur.c4; have e5 := hcur.c5; have e6 := hcur.c6
      simp only [List.getElem?_cons_zero, List.getElem?_cons_succ] at e0 e1 e2 e3 e4 e5 e6
      clear hcur
      go_upto_region 9 with fail
      clear e0 e1 e2 e3 e4 e5 e6
      have KX := hid (Blk.new wr [.int .u8 (Xk : Nat), .bool Xb, .int .i64 Xn, .string Xs, .string Xt, .slice Xno Xnn Xnc, .slice Xlo Xm Xlc] 27)
      have ba := hid ((Below.refl wr.heap.size wr).alloc (Nat.le_refl _) (.cells #[.int .u8 (Xk : Nat), .bool Xb, .int .i64 Xn, .string Xs, .string Xt, .slice Xno Xnn Xnc, .slice Xlo Xm Xlc] 27))
      replace K := hid (K.out.below ba.out K.out.lt)
      replace hR := hid (hR.out.turn (Turn.below ba.out))
      replace b0 := hid (bt b0.out ba.out)
      clear ba
      generalize wr.alloc (.cells #[.int .u8 (Xk : Nat), .bool Xb, .int .i64 Xn, .string Xs, .string Xt, .slice Xno Xnn Xnc, .slice Xlo Xm Xlc] 27) = X6 at KX K hR b0 ⊢
      generalize wr.heap.size = nx at KX hCX hgx ⊢
      obtain ⟨c0, c1, c2, c3, c4, c5, c6, cf⟩ := seven KX.out
      have hXi := (hrow.out _ hR.out).2.1
      go_wp2_with fail
      clear c0 c1 c2 c3 c4 c5 c6 cf
      go_loopw [41] (fun i wq => ∃ k2 : Nat, k2 ≤ Xm ∧ i = .int .i64 k2 ∧ Hid (Blk wq g [.int .u8 (Sk : Nat), .bool Sb, .int .i64 Sn, .string Ss, .string St, .slice Sno Snn Snc, .slice Slo Sm Slc, .int .u8 (Vk : Nat), .bool Vb, .int .i64 Vn, .string Vs, .string Vt, .slice Vno Vnn Vnc, .slice Vlo Vm Vlc] 27) ∧ Hid (Blk wq nx [.int .u8 (Xk : Nat), .bool Xb, .int .i64 Xn, .string Xs, .string Xt, .slice Xno Xnn Xnc, .slice Xlo Xm Xlc] 27) ∧ Hid (Rows2 w2.heap.size C (.slice Slo Sm Slc) (.slice Vlo Vm Vlc) Sm Vm wq) ∧ Hid (Below w2.heap.size w2 wq)) (fun i _ => Xm - (intOf i).toNat)
      case atStart => exact ⟨0, by omega, rfl, K, KX, hR, b0⟩
      case round =>
        clear K KX hR b0
        obtain ⟨k2, hk2, rfl, K, KX, hR, b0⟩ := hrel
        obtain ⟨c0, c1, c2, c3, c4, c5, c6, cf⟩ := seven KX.out
        by_cases hl2 : k2 < Xm
        · have hi2 : (k2 : Int) < (Xm : Int) := by omega
          have hi0 : (0 : Int) ≤ (k2 : Int) := by omega
          obtain ⟨xb, xo, rfl, hI, u, m2, hu, hr1⟩ := (hrow.out _ hR.out).2.2 _ _ rfl k2 hl2
          obtain ⟨⟨xo2, xc2, rfl⟩, hm2, _⟩ := id hr1
          obtain ⟨_, hfz, n2, hn⟩ := id hI
          replace hI := hid hI
          replace hu := hid hu
          replace hr1 := hid hr1
          go_upto_region 13 with fail
          clear c0 c1 c2 c3 c4 c5 c6 cf
          have tu := hid (Turn.poke hI.out (RowKit.wrap64 (n2 + 5)))
          replace K := hid (K.out.other (p := ⟨xb, xo + k2 * 7 + 2, none⟩) (by have := hI.out.1.2; have := hC.out; show _ ≠ g; simp only at *; omega) (.int .i64 (RowKit.wrap64 (n2 + 5))))
          replace KX := hid (KX.out.other (p := ⟨xb, xo + k2 * 7 + 2, none⟩) (by have := hI.out.1.2; have := hCX.out; show _ ≠ nx; simp only at *; omega) (.int .i64 (RowKit.wrap64 (n2 + 5))))
          replace hR := hid (hR.out.turn tu.out)
          replace b0 := hid (b0.out.setCell (p := ⟨xb, xo + k2 * 7 + 2, none⟩) hI.out.1.1 (.int .i64 (RowKit.wrap64 (n2 + 5))))
          replace hu := hid (tu.out.2 _ _ _ _ hu.out)
          replace hr1 := hid (hr1.out.turn tu.out)
          clear tu hI hfz hn
          generalize wr.setCell ⟨xb, xo + k2 * 7 + 2, none⟩ (.int .i64 (RowKit.wrap64 (n2 + 5))) = X7 at K KX hR b0 hu hr1 ⊢
          obtain ⟨c0, c1, c2, c3, c4, c5, c6, cf⟩ := seven KX.out
          have hu' := hu.out
          go_wp2_with fail
          clear c0 c1 c2 c3 c4 c5 c6 cf hu'
          go_loopw [60] (fun i wp => ∃ k3 : Nat, k3 ≤ m2 ∧ i = .int .i64 k3 ∧ Hid (Blk wp g [.int .u8 (Sk : Nat), .bool Sb, .int .i64 Sn, .string Ss, .string St, .slice Sno Snn Snc, .slice Slo Sm Slc, .int .u8 (Vk : Nat), .bool Vb, .int .i64 Vn, .string Vs, .string Vt, .slice Vno Vnn Vnc, .slice Vlo Vm Vlc] 27) ∧ Hid (Blk wp nx [.int .u8 (Xk : Nat), .bool Xb, .int .i64 Xn, .string Xs, .string Xt, .slice Xno Xnn Xnc, .slice (some ⟨xb, xo, none⟩) Xm Xlc] 27) ∧ Hid (Rows2 w2.heap.size C (.slice Slo Sm Slc) (.slice Vlo Vm Vlc) Sm Vm wp) ∧ Hid (wp.cell? ⟨xb, xo + k2 * 7 + 6, none⟩ = some (.slice xo2 m2 xc2)) ∧ Hid (Row1 w2.heap.size C wp (.slice xo2 m2 xc2) m2) ∧ Hid (Below w2.heap.size w2 wp)) (fun i _ => m2 - (intOf i).toNat)
          case atStart => exact ⟨0, by omega, rfl, K, KX, hR, hu, hr1, b0⟩
          case round =>
            clear K KX hR b0 hu hr1
            obtain ⟨k3, hk3, rfl, K, KX, hR, hu, hr1, b0⟩ := hrel
            obtain ⟨c0, c1, c2, c3, c4, c5, c6, cf⟩ := seven KX.out
            by_cases hl3 : k3 < m2
            · have hi3 : (k3 : Int) < (m2 : Int) := by omega
              have hi30 : (0 : Int) ≤ (k3 : Int) := by omega
              obtain ⟨yb, yo, rfl, hI⟩ := hr1.out.2.2 _ _ rfl k3 hl3
              obtain ⟨_, hfz, n3, hn⟩ := id hI
              replace hI := hid hI
              have hu' := hu.out
              go_upto_region 17 with fail
              clear c0 c1 c2 c3 c4 c5 c6 cf hu'
              have tu := hid (Turn.poke hI.out (RowKit.wrap64 (n3 + 5)))
              replace K := hid (K.out.other (p := ⟨yb, yo + k3 * 7 + 2, none⟩) (by have := hI.out.1.2; have := hC.out; show _ ≠ g; simp only at *; omega) (.int .i64 (RowKit.wrap64 (n3 + 5))))
              replace KX := hid (KX.out.other (p := ⟨yb, yo + k3 * 7 + 2, none⟩) (by have := hI.out.1.2; have := hCX.out; show _ ≠ nx; simp only at *; omega) (.int .i64 (RowKit.wrap64 (n3 + 5))))
              replace hR := hid (hR.out.turn tu.out)
              replace b0 := hid (b0.out.setCell (p := ⟨yb, yo + k3 * 7 + 2, none⟩) hI.out.1.1 (.int .i64 (RowKit.wrap64 (n3 + 5))))
              replace hu := hid (tu.out.2 _ _ _ _ hu.out)
              replace hr1 := hid (hr1.out.turn tu.out)
              clear tu hI hfz hn
              generalize wr.setCell ⟨yb, yo + k3 * 7 + 2, none⟩ (.int .i64 (RowKit.wrap64 (n3 + 5))) = X8 at K KX hR b0 hu hr1 ⊢
              go_wp2_with fail
              go_roundw
              case rel => exact ⟨k3 + 1, by omega, by go_num, K, KX, hR, hu, hr1, b0⟩
              case measure => simp [intOf]; omega
            · obtain rfl : k3 = m2 := by omega
              clear c0 c1 c2 c3 c4 c5 c6 cf hu hr1
              go_wp2_with fail
              go_roundw
              case rel => exact ⟨k2 + 1, by omega, by go_num, K, KX, hR, b0⟩
              case measure => simp [intOf]; omega
        · obtain rfl : k2 = Xm := by omega
          clear c0 c1 c2 c3 c4 c5 c6 cf
          go_wp2_with fail
          go_roundw
          case rel => exact ⟨k + 1, by omega, by go_num, K, hR, b0⟩
          case measure => simp [intOf]; omega
    · obtain rfl : k = 2 := by omega
      clear K hR hC
      go_wp2_with fail
      go_loopw [81] (fun i wr => ∃ q : Nat, q ≤ ys.length ∧ i = .int .i64 q ∧ Hid (Below w2.heap.size w2 wr)) (fun i _ => ys.length - (intOf i).toNat)
      case atStart => exact ⟨0, by omega, rfl, b0⟩
      case round =>
        clear b0
        obtain ⟨q, hq, rfl, b0⟩ := hrel
        by_cases hlq : q < ys.length
        · have hqi : (q : Int) < (ys.length : Int) := by omega
          have hq0 : (0 : Int) ≤ (q : Int) := by omega
          have hql : q < l.length := by rw [← hyl.out]; exact hlq
          have hqi2 : (q : Int) < (l.length : Int) := by omega
          obtain ⟨yb, yo, rfl, yf0, yf1, yf2, yf3, yf4, yf5, yf6⟩ := (hLy.out.below b0.out).cells q hlq
          obtain ⟨xb, xo, rfl, xf0, xf1, xf2, xf3, xf4, xf5, xf6⟩ := (h'.out.below (bt bw2.out b0.out)).cells q hql
          have hsm := T.likeL_get hlk.out q hql hlq
          have hcl := fun W (b : Below w2.heap.size w2 W) => same_any ys[q] l[q] W ((hLy.out.below b).all _ (List.getElem_mem hlq)) ((h'.out.below (bt bw2.out b)).all _ (List.getElem_mem hql))
          rw [like_same (T.like_symm hsm)] at hcl
          clear hsm
          generalize ys[q] = zy at yf0 yf1 yf2 yf3 yf4 yf5 yf6 hcl
          generalize l[q] = zx at xf0 xf1 xf2 xf3 xf4 xf5 xf6 hcl
          replace hcl := hid (show ∀ W, Below w2.heap.size w2 W → Calls Tryz.prog 8 #[.agg #[.int .u8 (zy.kind : Nat), .bool zy.bool, .int .i64 zy.num, .string zy.str, .string zy.typ, zy.nv, zy.lv], .agg #[.int .u8 (zx.kind : Nat), .bool zx.bool, .int .i64 zx.num, .string zx.str, .string zx.typ, zx.nv, zx.lv]] W fun e w' => e = .returned (.bool true) ∧ Below W.heap.size W w' from hcl)
          go_upto_region 23 with fail
          go_region_held3 (fun W => W.cell? ⟨yb, yo + q * 7, none⟩ = some (.int .u8 (zy.kind : Nat)) ∧ W.cell? ⟨yb, yo + q * 7 + 1, none⟩ = some (.bool zy.bool) ∧ W.cell? ⟨yb, yo + q * 7 + 2, none⟩ = some (.int .i64 zy.num) ∧ W.cell? ⟨yb, yo + q * 7 + 3, none⟩ = some (.string zy.str) ∧ W.cell? ⟨yb, yo + q * 7 + 4, none⟩ = some (.string zy.typ) ∧ W.cell? ⟨yb, yo + q * 7 + 5, none⟩ = some (zy.nv) ∧ W.cell? ⟨yb, yo + q * 7 + 6, none⟩ = some (zy.lv) ∧ W.cell? ⟨xb, xo + q * 7, none⟩ = some (.int .u8 (zx.kind : Nat)) ∧ W.cell? ⟨xb, xo + q * 7 + 1, none⟩ = some (.bool zx.bool) ∧ W.cell? ⟨xb, xo + q * 7 + 2, none⟩ = some (.int .i64 zx.num) ∧ W.cell? ⟨xb, xo + q * 7 + 3, none⟩ = some (.string zx.str) ∧ W.cell? ⟨xb, xo + q * 7 + 4, none⟩ = some (.string zx.typ) ∧ W.cell? ⟨xb, xo + q * 7 + 5, none⟩ = some (zx.nv) ∧ W.cell? ⟨xb, xo + q * 7 + 6, none⟩ = some (zx.lv)) (exact ⟨yf0, yf1, yf2, yf3, yf4, yf5, yf6, xf0, xf1, xf2, xf3, xf4, xf5, xf6⟩) (first
            | (go_at_call 8; (with_reducible refine (hcl.out _ (bt b0.out ((Below.refl _ wr).drew))).mono ?_); rintro e w5 ⟨rfl, b1⟩; replace b1 := (Below.refl wr.heap.size wr).drew.trans b1
               have ca : ∀ {a : Addr} {v : Value}, wr.cell? a = some v → w5.cell? a = some v := fun h => (b1.cell (World.block_lt_of_cell? _ _ h)).trans h
               replace yf0 := ca yf0; replace yf1 := ca yf1; replace yf2 := ca yf2; replace yf3 := ca yf3; replace yf4 := ca yf4; replace yf5 := ca yf5; replace yf6 := ca yf6; replace xf0 := ca xf0; replace xf1 := ca xf1; replace xf2 := ca xf2; replace xf3 := ca xf3; replace xf4 := ca xf4; replace xf5 := ca xf5; replace xf6 := ca xf6; clear ca))
          clear yf0 yf1 yf2 yf3 yf4 yf5 yf6 xf0 xf1 xf2 xf3 xf4 xf5 xf6 hcl
          replace b0 := hid (bt b0.out b1)
          clear b1
          go_wp2_with fail
          go_roundw
          case rel => exact ⟨_, _, _, _, _, _, _, _, _, _, _, _, _, _, _, _, ⟨q + 1, by omega, by go_num, b0⟩, rfl⟩
          case measure => simp [intOf]; omega
        · obtain rfl : q = ys.length := by omega
          go_wp2_with fail
          go_ret
          exact ⟨rfl, bt bw2.out b0.out⟩
end Go.Proofs.YtdjgkbpfmonebaaGreatDoor.Val
