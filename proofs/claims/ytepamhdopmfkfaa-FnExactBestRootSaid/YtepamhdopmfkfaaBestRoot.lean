/-
  Proved: for every list of points, the program's BestRoot answers as the model's and leaves the list alone. No condition.
-/
import Derived.Test.YtepamhdopmfkfaaRootI
namespace Go.Proofs.Ytepamhdopmfkfaa.fnExactBestRoot
set_option linter.unusedSimpArgs false
set_option linter.unusedVariables false
open Go.ChangeShapes Go.WideShapes Go.ChangeAt Go.RowKit
open Go.Proofs.Ytepamhdopmfkfaa.fnExactBoxOf

theorem brV_parts (ps : List Pt) : ∃ x y n b, brV ps = .tuple #[.agg #[.int .i64 x, .int .i64 y], .int .i64 n, .bool b] := ⟨_, _, _, _, rfl⟩
set_option maxRecDepth 100000 in
set_option maxHeartbeats 400000 in
theorem walk (A : Option Addr) (ps : List (Int × Int)) (c : Nat) (w : World) (h : PtsAt w w.heap.size A ps ∧ (∀ q ∈ ps, Fits q.1 ∧ Fits q.2) ∧ ps.length ≤ c ∧ c ≤ maxLen) :
    Calls Try.prog 8 #[.slice A ps.length c] w fun e w' => e = .returned (.bool true) ∧ Below w.heap.size w w' := by
  obtain ⟨hp, _, hlc, hc⟩ := h
  by_cases hl : ps.length ≤ 1048576
  · obtain ⟨x, y, n, b, hv⟩ := brV_parts ps
    have H := Lib.hid hv
    clear hv
    have hl' : ¬ (1048576 - (ps.length : Int)) < 0 := by omega
    go_enter Try.func8, Try.ntmps8
    go_wp2_with fail
    refine (szPointS_any _ _ _ _ hl).mono ?_
    rintro e w1 ⟨rfl, rfl⟩
    go_wp2_with fail
    refine (toPointS_new _ _ _ _ hp hl).mono ?_
    rintro e w1 ⟨g1, rfl, hB1, hb1, _⟩
    go_wp2_with fail
    refine (BestRootS_any _ _ _ _ hB1.pts hl (Nat.le_refl _)).mono ?_
    rintro e w2 ⟨rfl, hb2⟩
    rw [H.out]
    have hb2' := bl_trans hb1 hb2
    have bx : Below w2.heap.size w2 (w2.alloc (.cells #[.int .i64 x, .int .i64 y] 33)) := by (repeat (first | assumption | exact Below.refl _ _ | (refine bl_alloc ?_ _) | (refine Below.drew ?_) | (refine bl_drewN ?_ _) | (refine bl_set ?_ (by first | (simp; done) | omega | (simp; omega)) _) | (refine bl_trans ?_ (by assumption)) | (refine bl_step ?_ (by assumption) (by first | omega | exact Below.size (by assumption) | (simp; omega) | (simp; exact Below.size (by assumption))))))
    have hX : One (w2.alloc (.cells #[.int .i64 x, .int .i64 y] 33)) w2.heap.size x y := heap_alloc_at _ _ rfl
    have hbx := bl_trans hb2' bx
    have hzx := hb2'.size
    go_wp2_with fail
    refine (toPointS_new _ _ _ _ (hp.to hbx) hl).mono ?_
    rintro e w3 ⟨g3, rfl, hB3, hb3, _⟩
    have hb3' := bl_trans hbx hb3
    have hX3 := hX.to hb3
    go_wp2_with fail
    refine (BestRootI_any _ _ _ _ hB3.pts hl (Nat.le_refl _)).mono ?_
    rintro e w4 ⟨rfl, hb4⟩
    rw [H.out]
    have hb4' := bl_trans hb3' hb4
    have hB4 := hB3.to hb4
    have hX4 := hX3.to hb4
    have bx4 : Below w4.heap.size w4 (w4.alloc (.cells #[.int .i64 x, .int .i64 y] 33)) := by (repeat (first | assumption | exact Below.refl _ _ | (refine bl_alloc ?_ _) | (refine Below.drew ?_) | (refine bl_drewN ?_ _) | (refine bl_set ?_ (by first | (simp; done) | omega | (simp; omega)) _) | (refine bl_trans ?_ (by assumption)) | (refine bl_step ?_ (by assumption) (by first | omega | exact Below.size (by assumption) | (simp; omega) | (simp; exact Below.size (by assumption))))))
    have hY : One (w4.alloc (.cells #[.int .i64 x, .int .i64 y] 33)) w4.heap.size x y := heap_alloc_at _ _ rfl
    have hX5 := hX4.to bx4
    have hB5 := hB4.to bx4
    have hb5' := bl_trans hb4' bx4
    obtain ⟨x0, x1, _, _⟩ := hX5.cells
    obtain ⟨y0, y1, _, _⟩ := hY.cells
    clear hX hX3 hX4 hB3 hB4 hbx hb3 hb4 bx bx4 hb1 hb2 hb2'
    go_wp2_with fail
    refine (eqPoint_any _ _ _ _ _).mono ?_
    rintro e w6 ⟨rfl, hb6⟩
    have hb6' := bl_trans hb5' hb6
    have hB6 := hB5.to hb6
    go_wp2_with fail
    refine (toPointS_new _ _ _ _ (hp.to hb6') hl).mono ?_
    rintro e w7 ⟨g7, rfl, hB7, hb7, _⟩
    have hb7' := bl_trans hb6' hb7
    go_wp2_with fail
    refine (eqPointS_same _ _ _ _ _ _ (hB6.to hb7).pts hB7.pts hl).mono ?_
    rintro e w8 ⟨rfl, hb8⟩
    have hb8' := bl_trans hb7' hb8
    go_wp2
    go_ret
    exact ⟨rfl, hb8'⟩
  · have hs : ((-1 : Int) < 0) := by omega
    go_enter Try.func8, Try.ntmps8
    go_wp2_with fail
    refine (szPointS_big _ _ _ _ (by omega) (Nat.le_trans hlc hc)).mono ?_
    rintro e w1 ⟨rfl, rfl⟩
    go_wp2
    go_ret
    exact ⟨rfl, Below.refl _ _⟩
end Go.Proofs.Ytepamhdopmfkfaa.fnExactBestRoot
