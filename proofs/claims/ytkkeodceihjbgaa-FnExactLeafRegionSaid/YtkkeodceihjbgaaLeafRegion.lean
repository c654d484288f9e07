/-
  Proved: for every point, the program's LeafRegion answers as the model's. No condition.
-/
import Derived.Test.YtkkeodceihjbgaaRegI
namespace Go.Proofs.Ytkkeodceihjbgaa.fnExactLeafRegion
set_option linter.unusedSimpArgs false
set_option linter.unusedVariables false
open Go.ChangeShapes Go.WideShapes Go.ChangeAt Go.RowKit

set_option maxRecDepth 100000 in
set_option maxHeartbeats 800000 in
theorem walk (x y : Int) (w : World) (_ : Fits x ∧ Fits y) :
    Calls Try.prog 4 #[.agg #[.int .i64 x, .int .i64 y]] w fun e w' => e = .returned (.bool true) ∧ Below w.heap.size w w' := by
  obtain ⟨a, b, c, d, t, hv⟩ : ∃ a b c d t, lfV x y = .tuple #[.agg #[.int .i64 a, .int .i64 b, .int .i64 c, .int .i64 d], .bool t] := by
    cases h : isPt x y
    · exact ⟨_, _, _, _, _, rgRes_f h⟩
    · exact ⟨_, _, _, _, _, rgRes_t h⟩
  have H := Lib.hid hv
  clear hv
  go_enter Try.func4, Try.ntmps4
  go_wp2_with fail
  refine (toPoint_any _ _ _).mono ?_
  rintro e w1 ⟨rfl, hb1⟩
  obtain ⟨hc1, hf1, hz1⟩ := bcell hb1
  have hz1' : w.heap.size < w1.heap.size := by (first | (simp at hz1; omega) | omega)
  go_wp2_with fail
  refine (LeafRegionS_any _ _ _).mono ?_
  rintro e w2 ⟨rfl, hb2⟩
  obtain ⟨hc2, hf2, hz2⟩ := bcell hb2
  have hz2' : w.heap.size < w2.heap.size := by omega
  rw [H.out]
  go_wp2_with fail
  refine (toPoint_any _ _ _).mono ?_
  rintro e w3 ⟨rfl, hb3⟩
  obtain ⟨hc3, hf3, hz3⟩ := bcell hb3
  have hz3' : w2.heap.size < w3.heap.size := by (first | (simp at hz3; omega) | omega)
  go_wp2_with fail
  refine (LeafRegionI_any _ _ _).mono ?_
  rintro e w4 ⟨rfl, hb4⟩
  obtain ⟨hc4, hf4, hz4⟩ := bcell hb4
  have hz4' : w2.heap.size < w4.heap.size := by omega
  rw [H.out]
  go_wp2_with fail
  refine (eqRegion_same _ _ _ _ _).mono ?_
  rintro e w5 ⟨rfl, hb5⟩
  go_wp2
  go_ret
  exact ⟨rfl, by (repeat (first | assumption | exact Below.refl _ _ | (refine bl_alloc ?_ _) | (refine Below.drew ?_) | (refine bl_drewN ?_ _) | (refine bl_set ?_ (by first | (simp; done) | omega | (simp; omega)) _) | (refine bl_trans ?_ (by assumption)) | (refine bl_step ?_ (by assumption) (by first | omega | exact Below.size (by assumption) | (simp; omega) | (simp; exact Below.size (by assumption))))))⟩
end Go.Proofs.Ytkkeodceihjbgaa.fnExactLeafRegion
