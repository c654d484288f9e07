/-
  Proved: for every list of shapes and every distance, the program's ShapeRules answers as the model's, leaves the list alone, and its press owns its memory. No condition.
-/
import Derived.Test.YtgpcfkegbcpkpaaShpT
import Derived.Test.YtgpcfkegbcpkpaaAreShapes
namespace Go.Proofs.Ytgpcfkegbcpkpaa.fnExactShapeRules
set_option linter.unusedSimpArgs false
set_option linter.unusedVariables false
open Go.ChangeShapes Go.WideShapes Go.ChangeAt Go.RowKit

set_option maxRecDepth 100000 in
set_option maxHeartbeats 3200000 in
theorem walk (A : Option Addr) (ss : List R4) (c : Nat) (t : Int) (w : World) (h : ShpAt w w.heap.size A ss ∧ (∀ q ∈ ss, fitsShp q) ∧ ss.length ≤ c ∧ c ≤ maxLen) (_ : (Lit.int .i64 t).wf = true) :
    Calls Try.prog 7 #[.slice A ss.length c, .int .i64 t] w fun e w' => e = .returned (.bool true) ∧ Below w.heap.size w w' := by
  obtain ⟨hp, _, hl1, hl2⟩ := h
  by_cases hl : ss.length ≤ 1048576
  case neg =>
    go_enter Try.func7, Try.ntmps7
    go_wp2_with fail
    refine (szShapeS_big _ _ _ _ (by omega) (by omega)).mono ?_
    rintro e w1 ⟨rfl, rfl⟩
    go_wp2
    go_ret
    exact ⟨rfl, Below.refl _ _⟩
  have hz : ¬ (1048576 - (ss.length : Int)) < 0 := by omega
  have hLl := shL_len ss t
  obtain ⟨L, hL⟩ : ∃ L, shL ss t = L := ⟨_, rfl⟩
  obtain ⟨m, hm⟩ : ∃ m, shM ss t = m := ⟨_, rfl⟩
  obtain ⟨ok, hok⟩ : ∃ ok, (shpO ss t).isSome = ok := ⟨_, rfl⟩
  rw [hL] at hLl
  have hm1 : ¬ (1 + 3 * (L.length : Int)) < 0 := by omega
  have hm2 : ¬ (1 + 4 * (ss.length : Int)) < 0 := by omega
  have hokn : (ok != ok) = false := by simp
  have CS := Lib.hid (fun (wx : World) (B : Option Addr) (h : ShpAt wx wx.heap.size B ss) => by have := ShapeRulesS_any B ss ss.length t wx h hl; rw [hL, hm, hok] at this; exact this)
  have CI := Lib.hid (fun (wx : World) (B : Option Addr) (h : ShpAt wx wx.heap.size B ss) => by have := ShapeRulesI_any B ss ss.length t wx h hl (Nat.le_refl _); rw [hL, hm, hok] at this; exact this)
  have CT := Lib.hid (fun (wx : World) (hx : Below w.heap.size w wx) => toShapeS_new A ss c wx (hp.to hx) hl)
  have CE := Lib.hid (fun (wx : World) (B C : Option Addr) (c d : Nat) (h : RulAt wx wx.heap.size B L) (k : RulAt wx wx.heap.size C L) => eqPress_same m B C L c d wx h k hLl)
  have CX := Lib.hid (fun (wx : World) (B C : Option Addr) (h : ShpAt wx wx.heap.size B ss) (k : ShpAt wx wx.heap.size C ss) => eqShapeS_same B C ss ss.length ss.length wx h k hl)
  clear hp hL hm hok hl1 hl2
  go_enter Try.func7, Try.ntmps7
  go_wp2_with fail
  refine (szShapeS_any _ _ _ _ hl).mono ?_
  rintro e w1 ⟨rfl, rfl⟩
  go_wp2_with fail
  refine (CT.out _ (Below.refl _ _)).mono ?_
  rintro e w2 ⟨g1, rfl, hB, x2, _⟩
  go_wp2_with fail
  refine (CS.out _ _ hB.rec_).mono ?_
  rintro e w3 ⟨A0, c0, rfl, p, hb⟩
  have x3 := bl_trans x2 hb
  have p := p.rul
  clear hb x2 hB
  have hb : Below w3.heap.size w3 (w3.alloc (.cells #[.int .i64 m, .slice A0 L.length c0] 29)) := (Below.refl _ _).alloc (Nat.le_refl _) _
  have k6 := Blk.new w3 #[.int .i64 m, .slice A0 L.length c0] 29
  replace p := p.keepB hb
  have hz2 : w3.heap.size ≤ (w3.alloc (.cells #[.int .i64 m, .slice A0 L.length c0] 29)).heap.size := hb.size
  have x4 := bl_trans x3 hb
  clear hb
  go_wp2_with fail
  generalize hw4 : (w3.alloc (.cells #[.int .i64 m, .slice A0 L.length c0] 29)) = w4 at *
  clear hw4
  refine (CT.out _ x4).mono ?_
  rintro e w5 ⟨gx, rfl, hX, hb, hgx⟩
  have x5 := bl_trans x4 hb
  have hgz : w3.heap.size < gx := by have := k6.lt; omega
  replace k6 := k6.to hb
  replace p := p.keepB (hb.mono hz2)
  replace hz2 := Nat.le_trans hz2 hb.size
  clear hb x4 hgx
  go_wp2_with fail
  refine (CI.out _ _ hX.rec_).mono ?_
  rintro e w6 ⟨A1, c1, rfl, o, hb⟩
  have x6 := bl_trans x5 hb
  have hgO : gx < w5.heap.size := hX.lt
  have hzO := hz2
  have hO6 : w5.heap.size ≤ w6.heap.size := hb.size
  replace k6 := k6.to hb
  replace hX := hX.to hb
  replace p := p.keepB (hb.mono hz2)
  replace hz2 := Nat.le_trans hz2 hb.size
  clear hb x5
  have hb : Below w6.heap.size w6 (w6.alloc (.cells #[.int .i64 m, .slice A1 L.length c1] 29)) := (Below.refl _ _).alloc (Nat.le_refl _) _
  have k9 := Blk.new w6 #[.int .i64 m, .slice A1 L.length c1] 29
  have hA1 : ∀ g, 0 < L.length → A1 = some ⟨g, 0, none⟩ → w5.heap.size ≤ g ∧ g < w6.heap.size := fun g h0 e => by
    obtain ⟨g', e', hg', hP⟩ := o h0
    rw [e'] at e
    injection e with e
    injection e with e
    subst e
    exact ⟨hg', hP.lt⟩
  have HA1 := Lib.hid hA1
  clear hA1
  have hz6 : w3.heap.size < w6.heap.size := by have := k6.lt; omega
  have hwz6 : w.heap.size ≤ w6.heap.size := x6.size
  replace k6 := k6.to hb
  replace hX := hX.to hb
  replace p := p.keepB (hb.mono hz2)
  replace o := o.to hb
  replace hz2 := Nat.le_trans hz2 hb.size
  have x7 := bl_trans x6 hb
  have s0 := k6.cell 0 (v := .int .i64 m) rfl
  have s1 := k6.cell 1 (v := .slice A0 L.length c0) rfl
  have t0 := k9.cell 0 (v := .int .i64 m) rfl
  have t1 := k9.cell 1 (v := .slice A1 L.length c1) rfl
  clear hb x6
  go_wp2_with fail
  generalize hw7 : (w6.alloc (.cells #[.int .i64 m, .slice A1 L.length c1] 29)) = w7 at *
  clear hw7
  refine (CE.out _ _ _ _ _ o.rul (p.mono hz2)).mono ?_
  rintro e w8 ⟨rfl, hb⟩
  have x8 := bl_trans x7 hb
  replace k6 := k6.to hb
  replace k9 := k9.to hb
  replace hX := hX.to hb
  replace p := p.keepB (hb.mono hz2)
  replace o := o.to hb
  replace hz2 := Nat.le_trans hz2 hb.size
  clear hb x7 s0 s1 t0 t1
  go_wp2_with fail
  refine (CT.out _ x8).mono ?_
  rintro e w9 ⟨g2, rfl, hY, hb, _⟩
  have x9 := bl_trans x8 hb
  replace k6 := k6.to hb
  replace k9 := k9.to hb
  replace hX := hX.to hb
  replace p := p.keepB (hb.mono hz2)
  replace o := o.to hb
  replace hz2 := Nat.le_trans hz2 hb.size
  clear hb x8
  go_wp2_with fail
  refine (CX.out _ _ _ hX.rec_ hY.rec_).mono ?_
  rintro e w10 ⟨rfl, hb⟩
  have x10 := bl_trans x9 hb
  replace k6 := k6.to hb
  replace k9 := k9.to hb
  replace hX := hX.to hb
  replace p := p.keepB (hb.mono hz2)
  replace o := o.to hb
  replace hz2 := Nat.le_trans hz2 hb.size
  clear hb x9 hY
  go_wp2_with fail
  refine (markShapes_any gx ss.length ss.length 1 _ hX.pl hl (by omega) (by omega)).mono ?_
  rintro e w11 ⟨rfl, hO⟩
  have x11 := hO.below x10 (by have := x3.size; omega) x10.size
  replace k6 := hO.blk k6 (by omega)
  replace k9 := hO.blk k9 (by omega)
  replace p := hO.rul p (by omega) hz2
  replace o := hO.own5 o hgO
  replace hz2 := Nat.le_trans hz2 hO.size
  have s0 := k6.cell 0 (v := .int .i64 m) rfl
  have s1 := k6.cell 1 (v := .slice A0 L.length c0) rfl
  have t0 := k9.cell 0 (v := .int .i64 m) rfl
  have t1 := k9.cell 1 (v := .slice A1 L.length c1) rfl
  clear hO hX x10
  go_wp2_with fail
  refine (CE.out _ _ _ _ _ o.rul (p.mono hz2)).mono ?_
  rintro e w12 ⟨rfl, hb⟩
  have x12 := bl_trans x11 hb
  replace k6 := k6.to hb
  replace k9 := k9.to hb
  replace p := p.keepB (hb.mono hz2)
  replace o := o.to hb
  replace hz2 := Nat.le_trans hz2 hb.size
  clear hb x11 s0 s1 t0 t1
  have t0 := k9.cell 0 (v := .int .i64 m) rfl
  have t1 := k9.cell 1 (v := .slice A1 L.length c1) rfl
  go_wp2_with fail
  refine (markPress_opt m A1 L c1 _ _ o hLl).mono ?_
  rintro e w13 ⟨rfl, q, G, hG, hO⟩
  have hG9 : G ≠ w6.heap.size ∧ w5.heap.size ≤ G ∧ w.heap.size ≤ G := by
    have h9 := k9.lt
    rcases hG with rfl | ⟨h0, e⟩
    · exact ⟨by omega, by omega, by omega⟩
    · obtain ⟨h1, h2⟩ := HA1.out G h0 e
      have := x3.size
      exact ⟨by omega, h1, by omega⟩
  obtain ⟨hG1, hG2, hG3⟩ := hG9
  have x13 := hO.below x12 hG3 x12.size
  replace k6 := hO.blk k6 (by omega)
  replace k9 := hO.blk k9 (Ne.symm hG1)
  replace p := hO.rul p (by omega) hz2
  replace hz2 := Nat.le_trans hz2 hO.size
  clear hO hG o x12 t0 t1 HA1
  have t0 := k9.cell 0 (v := .int .i64 m) rfl
  have t1 := k9.cell 1 (v := .slice A1 L.length c1) rfl
  go_wp2_with fail
  refine (heldPress_opt m A1 L.length c1 _ _ q hLl).mono ?_
  rintro e w14 ⟨rfl, hb⟩
  have x14 := bl_trans x13 hb
  replace k6 := k6.to hb
  replace k9 := k9.to hb
  replace p := p.keepB (hb.mono hz2)
  replace q := q.to hb
  replace hz2 := Nat.le_trans hz2 hb.size
  clear hb x13 t0 t1
  go_wp2_with fail
  refine (CT.out _ x14).mono ?_
  rintro e w15 ⟨g3, rfl, hY, hb, _⟩
  have x15 := bl_trans x14 hb
  replace k6 := k6.to hb
  replace k9 := k9.to hb
  replace p := p.keepB (hb.mono hz2)
  replace q := q.to hb
  replace hz2 := Nat.le_trans hz2 hb.size
  clear hb x14
  go_wp2_with fail
  refine (CI.out _ _ hY.rec_).mono ?_
  rintro e w16 ⟨A2, c2, rfl, o, hb⟩
  have x16 := bl_trans x15 hb
  replace k6 := k6.to hb
  replace k9 := k9.to hb
  replace p := p.keepB (hb.mono hz2)
  replace q := q.to hb
  replace hz2 := Nat.le_trans hz2 hb.size
  clear hb x15 hY
  have hb : Below w16.heap.size w16 (w16.alloc (.cells #[.int .i64 m, .slice A2 L.length c2] 29)) := (Below.refl _ _).alloc (Nat.le_refl _) _
  have k14 := Blk.new w16 #[.int .i64 m, .slice A2 L.length c2] 29
  replace k6 := k6.to hb
  replace k9 := k9.to hb
  replace p := p.keepB (hb.mono hz2)
  replace q := q.to hb
  replace o := o.to hb
  replace hz2 := Nat.le_trans hz2 hb.size
  have x17 := bl_trans x16 hb
  have s0 := k6.cell 0 (v := .int .i64 m) rfl
  have s1 := k6.cell 1 (v := .slice A0 L.length c0) rfl
  have t0 := k14.cell 0 (v := .int .i64 m) rfl
  have t1 := k14.cell 1 (v := .slice A2 L.length c2) rfl
  clear hb x16 k6
  go_wp2_with fail
  generalize hw17 : (w16.alloc (.cells #[.int .i64 m, .slice A2 L.length c2] 29)) = w17 at *
  clear hw17
  refine (CE.out _ _ _ _ _ o.rul (p.mono hz2)).mono ?_
  rintro e w18 ⟨rfl, hb⟩
  have x18 := bl_trans x17 hb
  replace k9 := k9.to hb
  replace q := q.to hb
  clear hb x17 s0 s1 t0 t1 p o
  have t0 := k9.cell 0 (v := .int .i64 m) rfl
  have t1 := k9.cell 1 (v := .slice A1 L.length c1) rfl
  go_wp2_with fail
  refine (heldPress_opt m A1 L.length c1 _ _ q hLl).mono ?_
  rintro e w19 ⟨rfl, hb⟩
  have x19 := bl_trans x18 hb
  clear hb x18 q
  go_wp2
  go_ret
  exact ⟨rfl, x19⟩
end Go.Proofs.Ytgpcfkegbcpkpaa.fnExactShapeRules
