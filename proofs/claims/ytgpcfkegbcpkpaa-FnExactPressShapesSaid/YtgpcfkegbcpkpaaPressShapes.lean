/-
  Proved: for every list of shapes and every distance, the program's PressShapes answers as the model's, leaves the list alone, and its answer owns its memory. No condition.
-/
import Derived.Test.YtgpcfkegbcpkpaaShpU
import Derived.Test.YtgpcfkegbcpkpaaShpW
import Derived.Test.YtgpcfkegbcpkpaaAreShapes
namespace Go.Proofs.Ytgpcfkegbcpkpaa.fnExactPressShapes
set_option linter.unusedSimpArgs false
set_option linter.unusedVariables false
open Go.ChangeShapes Go.WideShapes Go.ChangeAt Go.RowKit

set_option maxRecDepth 100000 in
set_option maxHeartbeats 3200000 in
theorem walk (A : Option Addr) (ss : List R4) (c : Nat) (t : Int) (w : World) (h : ShpAt w w.heap.size A ss ∧ (∀ q ∈ ss, fitsShp q) ∧ ss.length ≤ c ∧ c ≤ maxLen) (_ : (Lit.int .i64 t).wf = true) :
    Calls Try.prog 13 #[.slice A ss.length c, .int .i64 t] w fun e w' => e = .returned (.bool true) ∧ Below w.heap.size w w' := by
  obtain ⟨hp, _, hl1, hl2⟩ := h
  by_cases hl : ss.length ≤ 1048576
  case neg =>
    go_enter Try.func13, Try.ntmps13
    go_wp2_with fail
    refine (szShapeS_big _ _ _ _ (by omega) (by omega)).mono ?_
    rintro e w1 ⟨rfl, rfl⟩
    go_wp2
    go_ret
    exact ⟨rfl, Below.refl _ _⟩
  have hz : ¬ (1048576 - (ss.length : Int)) < 0 := by omega
  have hLl := prsL_len ss t hl
  obtain ⟨L, hL⟩ : ∃ L, (prsO ss t).getD [] = L := ⟨_, rfl⟩
  obtain ⟨ok, hok⟩ : ∃ ok, (prsO ss t).isSome = ok := ⟨_, rfl⟩
  rw [hL] at hLl
  have hm1 : ¬ (1 + 4 * (L.length : Int)) < 0 := by omega
  have hm2 : ¬ (1 + 4 * (ss.length : Int)) < 0 := by omega
  have hokn : (ok != ok) = false := by simp
  have CS := Lib.hid (fun (wx : World) (B : Option Addr) (h : ShpAt wx wx.heap.size B ss) => by have := PressShapesS_any B ss ss.length t wx h hl; rw [hL, hok] at this; exact this)
  have CI := Lib.hid (fun (wx : World) (B : Option Addr) (h : ShpAt wx wx.heap.size B ss) => by have := PressShapesI_any B ss ss.length t wx h hl (Nat.le_refl _); rw [hL, hok] at this; exact this)
  have CT := Lib.hid (fun (wx : World) (hx : Below w.heap.size w wx) => toShapeS_new A ss c wx (hp.to hx) hl)
  have CE := Lib.hid (fun (wx : World) (B C : Option Addr) (c d : Nat) (h : ShpAt wx wx.heap.size B L) (k : ShpAt wx wx.heap.size C L) => eqShapeS_same B C L c d wx h k hLl)
  have CX := Lib.hid (fun (wx : World) (B C : Option Addr) (h : ShpAt wx wx.heap.size B ss) (k : ShpAt wx wx.heap.size C ss) => eqShapeS_same B C ss ss.length ss.length wx h k hl)
  clear hp hL hok hl1 hl2
  go_enter Try.func13, Try.ntmps13
  go_wp2_with fail
  refine (szShapeS_any _ _ _ _ hl).mono ?_
  rintro e w1 ⟨rfl, rfl⟩
  go_wp2_with fail
  refine (CT.out _ (Below.refl _ _)).mono ?_
  rintro e w2 ⟨g1, rfl, hB, x2, _⟩
  go_wp2_with fail
  refine (CS.out _ _ hB.rec_).mono ?_
  rintro e w3 ⟨A0, c0, rfl, p, hb⟩
  have x3 := bl_trans x2 hb
  have p := p.shp
  have hz2 : w3.heap.size ≤ w3.heap.size := Nat.le_refl _
  clear hb x2 hB
  go_wp2_with fail
  refine (CT.out _ x3).mono ?_
  rintro e w5 ⟨gx, rfl, hX, hb, hgx⟩
  have x5 := bl_trans x3 hb
  replace p := p.keepB (hb.mono hz2)
  replace hz2 := Nat.le_trans hz2 hb.size
  clear hb
  go_wp2_with fail
  refine (CI.out _ _ hX.rec_).mono ?_
  rintro e w7 ⟨A1, c1, rfl, o, hb⟩
  have x7 := bl_trans x5 hb
  have hgO : gx < w5.heap.size := hX.lt
  have hzO := hz2
  replace hX := hX.to hb
  replace p := p.keepB (hb.mono hz2)
  replace hz2 := Nat.le_trans hz2 hb.size
  clear hb x5
  have hA1 : ∀ g, 0 < L.length → A1 = some ⟨g, 0, none⟩ → w5.heap.size ≤ g := fun g h0 e => by
    obtain ⟨g', e', hg', hP⟩ := o h0
    rw [e'] at e
    injection e with e
    injection e with e
    subst e
    exact hg'
  have HA1 := Lib.hid hA1
  clear hA1
  go_wp2_with fail
  refine (CE.out _ _ _ _ _ o.shp (p.mono hz2)).mono ?_
  rintro e w8 ⟨rfl, hb⟩
  have x8 := bl_trans x7 hb
  replace hX := hX.to hb
  replace p := p.keepB (hb.mono hz2)
  replace o := o.to hb
  replace hz2 := Nat.le_trans hz2 hb.size
  clear hb x7
  go_wp2_with fail
  refine (CT.out _ x8).mono ?_
  rintro e w9 ⟨g2, rfl, hY, hb, _⟩
  have x9 := bl_trans x8 hb
  replace hX := hX.to hb
  replace p := p.keepB (hb.mono hz2)
  replace o := o.to hb
  replace hz2 := Nat.le_trans hz2 hb.size
  clear hb x8
  go_wp2_with fail
  refine (CX.out _ _ _ hX.rec_ hY.rec_).mono ?_
  rintro e w10 ⟨rfl, hb⟩
  have x10 := bl_trans x9 hb
  replace hX := hX.to hb
  replace p := p.keepB (hb.mono hz2)
  replace o := o.to hb
  replace hz2 := Nat.le_trans hz2 hb.size
  clear hb x9 hY
  go_wp2_with fail
  refine (markShapes_any gx ss.length ss.length 1 _ hX.pl hl (by omega) (by omega)).mono ?_
  rintro e w11 ⟨rfl, hO⟩
  have x11 := hO.below x10 (by have := x3.size; omega) x10.size
  replace p := hO.shp p (by omega) hz2
  replace o := hO.own6 o hgO
  replace hz2 := Nat.le_trans hz2 hO.size
  clear hO hX x10
  go_wp2_with fail
  refine (CE.out _ _ _ _ _ o.shp (p.mono hz2)).mono ?_
  rintro e w12 ⟨rfl, hb⟩
  have x12 := bl_trans x11 hb
  replace p := p.keepB (hb.mono hz2)
  replace o := o.to hb
  replace hz2 := Nat.le_trans hz2 hb.size
  clear hb x11
  go_wp2_with fail
  refine (markS_opt A1 L c1 _ _ o hLl).mono ?_
  rintro e w13 ⟨rfl, q, G, hG, hO⟩
  have hG9 : w3.heap.size ≤ G ∧ w.heap.size ≤ G := by
    have := x3.size
    rcases hG with rfl | ⟨h0, e⟩
    · exact ⟨by omega, by omega⟩
    · have h1 := HA1.out G h0 e
      exact ⟨by omega, by omega⟩
  obtain ⟨hG2, hG3⟩ := hG9
  have x13 := hO.below x12 hG3 x12.size
  replace p := hO.shp p hG2 hz2
  replace hz2 := Nat.le_trans hz2 hO.size
  clear hO hG o x12 HA1
  go_wp2_with fail
  refine (heldS_any A1 L.length c1 _ _ q hLl).mono ?_
  rintro e w14 ⟨rfl, rfl⟩
  go_wp2_with fail
  refine (CT.out _ x13).mono ?_
  rintro e w15 ⟨g3, rfl, hY, hb, _⟩
  have x15 := bl_trans x13 hb
  replace p := p.keepB (hb.mono hz2)
  replace q := q.to hb
  replace hz2 := Nat.le_trans hz2 hb.size
  clear hb x13
  go_wp2_with fail
  refine (CI.out _ _ hY.rec_).mono ?_
  rintro e w16 ⟨A2, c2, rfl, o, hb⟩
  have x16 := bl_trans x15 hb
  replace p := p.keepB (hb.mono hz2)
  replace q := q.to hb
  replace hz2 := Nat.le_trans hz2 hb.size
  clear hb x15 hY
  go_wp2_with fail
  refine (CE.out _ _ _ _ _ o.shp (p.mono hz2)).mono ?_
  rintro e w18 ⟨rfl, hb⟩
  have x18 := bl_trans x16 hb
  replace q := q.to hb
  clear hb x16 p o
  go_wp2_with fail
  refine (heldS_any A1 L.length c1 _ _ q hLl).mono ?_
  rintro e w19 ⟨rfl, rfl⟩
  clear q
  go_wp2
  go_ret
  exact ⟨rfl, x18⟩
end Go.Proofs.Ytgpcfkegbcpkpaa.fnExactPressShapes
