/-
  Proved: for every list of points and every point, the program's StarLength answers as the model's and leaves the list alone. No condition.
-/
import Derived.Test.YtepamhdopmfkfaaStarLen
import Derived.Test.YtepamhdopmfkfaaNear
namespace Go.Proofs.Ytepamhdopmfkfaa.fnExactStarLength
set_option linter.unusedSimpArgs false
set_option linter.unusedVariables false
open Go.ChangeShapes Go.WideShapes Go.ChangeAt Go.RowKit
open Go.Proofs.Ytepamhdopmfkfaa.fnExactNearestPoint

set_option maxRecDepth 100000 in
set_option maxHeartbeats 400000 in
theorem walk (A : Option Addr) (ps : List (Int × Int)) (c : Nat) (x y : Int) (w : World) (h : PtsAt w w.heap.size A ps ∧ (∀ q ∈ ps, Fits q.1 ∧ Fits q.2) ∧ ps.length ≤ c ∧ c ≤ maxLen) (_ : Fits x ∧ Fits y) :
    Calls Try.prog 7 #[.slice A ps.length c, .agg #[.int .i64 x, .int .i64 y]] w fun e w' => e = .returned (.bool true) ∧ Below w.heap.size w w' := by
  obtain ⟨hp, _, hlc, hc⟩ := h
  by_cases hl : ps.length ≤ 1048576
  · obtain ⟨n, b, hv⟩ : ∃ n b, starV ps x y = .tuple #[.int .i64 n, .bool b] := ⟨_, _, rfl⟩
    have H := Lib.hid hv
    clear hv
    have hl' : ¬ (1048576 - (ps.length : Int)) < 0 := by omega
    go_enter Try.func7, Try.ntmps7
    go_wp2_with fail
    refine (szPointS_any _ _ _ _ hl).mono ?_
    rintro e w1 ⟨rfl, rfl⟩
    go_wp2_with fail
    go_region_held3 (fun wx => wx.cell? ⟨w.heap.size, 0, none⟩ = some (.int .i64 x) ∧ wx.cell? ⟨w.heap.size, 0 + 1, none⟩ = some (.int .i64 y) ∧ Below w.heap.size w wx ∧ w.heap.size < wx.heap.size)
      (first | exact keep2 (by assumption) (by assumption) | (refine ⟨by simp, by simp, ?_, by simp⟩; (repeat (first | assumption | exact Below.refl _ _ | (refine bl_alloc ?_ _) | (refine Below.drew ?_) | (refine bl_drewN ?_ _) | (refine bl_set ?_ (by first | (simp; done) | omega | (simp; omega)) _) | (refine bl_trans ?_ (by assumption)) | (refine bl_step ?_ (by assumption) (by first | omega | exact Below.size (by assumption) | (simp; omega) | (simp; exact Below.size (by assumption))))))))
      (first
        | (go_at_call 12; refine (toPointS_new _ _ _ _ (hp.to (third (by assumption))) hl).mono ?_; rintro e w1 ⟨g1, rfl, hB1, hb1, _⟩)
        | (go_at_call 18; refine (toPoint_any _ _ _).mono ?_; rintro e w2 ⟨rfl, hb2⟩)
        | (go_at_call 25; refine (StarLengthS_any _ _ _ _ _ _ (hB1.to hb2).pts hl (Nat.le_refl _)).mono ?_; rintro e w3 ⟨rfl, hb3⟩; rw [H.out]))
    obtain ⟨q0, q1, hb3', hz3⟩ := have2 (x := x) (y := y) (w := w) (wr := w3) (by assumption)
    go_wp2_with fail
    refine (toPointS_new _ _ _ _ (hp.to hb3') hl).mono ?_
    rintro e w4 ⟨g4, rfl, hB4, hb4, _⟩
    obtain ⟨q0, q1, hb4', hz4⟩ := keep2 ⟨q0, q1, hb3', hz3⟩ hb4
    go_wp2_with fail
    refine (toPoint_any _ _ _).mono ?_
    rintro e w5 ⟨rfl, hb5⟩
    obtain ⟨q0, q1, hb5', hz5⟩ := keep2 ⟨q0, q1, hb4', hz4⟩ hb5
    have hB5 := hB4.to hb5
    go_wp2_with fail
    refine (StarLengthI_any _ _ _ _ _ _ hB5.pts hl (Nat.le_refl _)).mono ?_
    rintro e w6 ⟨rfl, hb6⟩
    rw [H.out]
    have hb6' := bl_trans hb5' hb6
    have hB6 := hB5.to hb6
    go_wp2_with fail
    refine (toPointS_new _ _ _ _ (hp.to hb6') hl).mono ?_
    rintro e w7 ⟨g7, rfl, hB7, hb7, _⟩
    have hb7' := bl_trans hb6' hb7
    go_wp2_with fail
    refine (eqPointS_same _ _ _ _ _ _ (hB6.to hb7).pts hB7.pts hl).mono ?_
    rintro e w8 ⟨rfl, hb8⟩
    have hb8' := bl_trans hb7' hb8
    go_wp2
    go_ret
    exact ⟨rfl, hb8'⟩
  · have hs : ((-1 : Int) < 0) := by omega
    go_enter Try.func7, Try.ntmps7
    go_wp2_with fail
    refine (szPointS_big _ _ _ _ (by omega) (Nat.le_trans hlc hc)).mono ?_
    rintro e w1 ⟨rfl, rfl⟩
    go_wp2
    go_ret
    exact ⟨rfl, by (repeat (first | assumption | exact Below.refl _ _ | (refine bl_alloc ?_ _) | (refine Below.drew ?_) | (refine bl_drewN ?_ _) | (refine bl_set ?_ (by first | (simp; done) | omega | (simp; omega)) _) | (refine bl_trans ?_ (by assumption)) | (refine bl_step ?_ (by assumption) (by first | omega | exact Below.size (by assumption) | (simp; omega) | (simp; exact Below.size (by assumption))))))⟩
end Go.Proofs.Ytepamhdopmfkfaa.fnExactStarLength
