/-
  Proved: for every list of shapes, the program's AreShapes answers as the model's and leaves the list alone. No condition.
-/
import Derived.Test.YtgpcfkegbcpkpaaShpA
import Derived.Test.YtgpcfkegbcpkpaaOpen
namespace Go.Proofs.Ytgpcfkegbcpkpaa
set_option linter.unusedSimpArgs false
set_option linter.unusedVariables false
open Go.ChangeShapes Go.WideShapes Go.ChangeAt Go.RowKit
variable {H : Type} {enc : TypeId × Value → H}
set_option maxRecDepth 100000 in
theorem open_shapes {w : World} {v : Value} {d : DataW H} {p : List MemPlace} {r : Reach} {b0 : Nat} (hv : Value.okWide Try.prog w r b0 38 v) (h : DataW.Trod enc Try.prog w 0 (fun _ => true) true 38 v d p) :
    ∃ (A : Option Addr) (rs : List R4) (c : Nat), v = .slice A rs.length c ∧ ShpAt w w.heap.size A rs ∧ (∀ q ∈ rs, fitsShp q) ∧ rs.length ≤ c ∧ c ≤ maxLen := by
  obtain ⟨a0, len, cap, rfl⟩ := okWide_slice Try.underlying38 hv
  obtain ⟨fuel, hf⟩ := h
  exact open_Shp (by simpa [Value.cells] using hf)
end Go.Proofs.Ytgpcfkegbcpkpaa
namespace Go.Proofs.Ytgpcfkegbcpkpaa.fnExactAreShapes
open Go.ChangeShapes Go.WideShapes Go.ChangeAt Go.RowKit

set_option maxRecDepth 100000 in
set_option maxHeartbeats 1600000 in
theorem walk (A : Option Addr) (ss : List R4) (c : Nat) (w : World) (h : ShpAt w w.heap.size A ss ∧ (∀ q ∈ ss, fitsShp q) ∧ ss.length ≤ c ∧ c ≤ maxLen) :
    Calls Try.prog 5 #[.slice A ss.length c] w fun e w' => e = .returned (.bool true) ∧ Below w.heap.size w w' := by
  obtain ⟨hp, _, hl1, hl2⟩ := h
  by_cases hl : ss.length ≤ 1048576
  case neg =>
    go_enter Try.func5, Try.ntmps5
    go_wp2_with fail
    refine (szShapeS_big _ _ _ _ (by omega) (by omega)).mono ?_
    rintro e w1 ⟨rfl, rfl⟩
    go_wp2
    go_ret
    exact ⟨rfl, Below.refl _ _⟩
  have hz : ¬ (1048576 - (ss.length : Int)) < 0 := by omega
  obtain ⟨v, hv⟩ : ∃ v, arS ss = v := ⟨_, rfl⟩
  have hvv : (v != v) = false := by simp
  have CS := Lib.hid (fun (wx : World) (B : Option Addr) (h : ShpAt wx wx.heap.size B ss) => by have := AreShapesS_any B ss ss.length wx h hl; rw [hv] at this; exact this)
  have CI := Lib.hid (fun (wx : World) (B : Option Addr) (h : ShpAt wx wx.heap.size B ss) => by have := AreShapesI_any B ss ss.length wx h hl (Nat.le_refl _); rw [hv] at this; exact this)
  have CT := Lib.hid (fun (wx : World) (hx : Below w.heap.size w wx) => toShapeS_new A ss c wx (hp.to hx) hl)
  clear hp hv hl1 hl2
  go_enter Try.func5, Try.ntmps5
  go_wp2_with fail
  refine (szShapeS_any _ _ _ _ hl).mono ?_
  rintro e w1 ⟨rfl, rfl⟩
  go_wp2_with fail
  refine (CT.out _ (Below.refl _ _)).mono ?_
  rintro e w2 ⟨g1, rfl, hB, x2, _⟩
  go_wp2_with fail
  refine (CS.out _ _ hB.rec_).mono ?_
  rintro e w3 ⟨rfl, hb3⟩
  have x3 := bl_trans x2 hb3
  clear hb3 hB x2
  go_wp2_with fail
  refine (CT.out _ x3).mono ?_
  rintro e w4 ⟨g2, rfl, hB, hb4, _⟩
  have x4 := bl_trans x3 hb4
  clear hb4 x3
  go_wp2_with fail
  refine (CI.out _ _ hB.rec_).mono ?_
  rintro e w5 ⟨rfl, hb5⟩
  have x5 := bl_trans x4 hb5
  have hB5 := hB.to hb5
  clear hb5 x4 hB
  go_wp2_with fail
  refine (CT.out _ x5).mono ?_
  rintro e w6 ⟨g3, rfl, hC, hb6, _⟩
  have x6 := bl_trans x5 hb6
  go_wp2_with fail
  refine (eqShapeS_same _ _ ss _ _ _ (hB5.to hb6).rec_ hC.rec_ hl).mono ?_
  rintro e w7 ⟨rfl, hb7⟩
  go_wp2
  go_ret
  exact ⟨rfl, bl_trans x6 hb7⟩
end Go.Proofs.Ytgpcfkegbcpkpaa.fnExactAreShapes
