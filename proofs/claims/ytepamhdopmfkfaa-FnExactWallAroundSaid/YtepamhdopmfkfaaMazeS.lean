/-
  Contracts: steps and their letters.
-/
import Derived.Test.YtepamhdopmfkfaaMazeW
import Derived.Test.YtepamhdopmfkfaaOwnP
namespace Go.Proofs.Ytepamhdopmfkfaa
set_option linter.unusedSimpArgs false
set_option linter.unusedVariables false
open Go.ChangeShapes Go.WideShapes Go.ChangeAt Go.RowKit

/-- The direction of a letter. -/
def wayI (c : Int) : Int := if c = 100 then 0 else if c = 108 then 1 else if c = 114 then 2 else if c = 117 then 3 else -1
/-- A step into a direction. -/
def stepW (x y k : Int) : Int × Int := if k = 0 then (x, y - 1) else if k = 1 then (x - 1, y) else if k = 2 then (x + 1, y) else (x, y + 1)
theorem wayI_lo (c : Int) : -1 ≤ wayI c ∧ wayI c ≤ 3 := by unfold wayI; split <;> (try split) <;> (try split) <;> (try split) <;> omega

abbrev ptA (p : Int × Int) : Value := .agg #[.int .i64 p.1, .int .i64 p.2]
theorem retP {a b : Int × Int} (h : a = b) : Ending.returned (ptA a) = .returned (ptA b) := by rw [h]
set_option maxHeartbeats 800000 in
theorem l04Step_any (x y k : Int) (w : World) (hx : -1000 ≤ x ∧ x ≤ 1000) (hy : -1000 ≤ y ∧ y ≤ 1000) (hk : 0 ≤ k ∧ k ≤ 3) :
    Calls Try.prog 66 #[.agg #[.int .i64 x, .int .i64 y], .int .i64 k] w fun e w' => e = .returned (ptA (stepW x y k)) ∧ Below w.heap.size w w' := by
  obtain ⟨hx0, hx1⟩ := hx
  obtain ⟨hy0, hy1⟩ := hy
  rcases (show k = 0 ∨ k = 1 ∨ k = 2 ∨ k = 3 by omega) with rfl | rfl | rfl | rfl
  · go_enter Try.func66, Try.ntmps66
    go_wp2
    refine bodyPost_ret_by (v := ptA (x, y - 1)) ?_ rfl ⟨rfl, by (repeat (first | assumption | exact Below.refl _ _ | (refine bl_alloc ?_ _) | (refine Below.drew ?_) | (refine bl_drewN ?_ _) | (refine bl_set ?_ (by first | (simp; done) | omega | (simp; omega)) _) | (refine bl_trans ?_ (by assumption)) | (refine bl_step ?_ (by assumption) (by first | omega | exact Below.size (by assumption) | (simp; omega) | (simp; exact Below.size (by assumption))))))⟩
    simp [results, Try.results66, go_sem]
  · go_enter Try.func66, Try.ntmps66
    go_wp2
    refine bodyPost_ret_by (v := ptA (x - 1, y)) ?_ rfl ⟨rfl, by (repeat (first | assumption | exact Below.refl _ _ | (refine bl_alloc ?_ _) | (refine Below.drew ?_) | (refine bl_drewN ?_ _) | (refine bl_set ?_ (by first | (simp; done) | omega | (simp; omega)) _) | (refine bl_trans ?_ (by assumption)) | (refine bl_step ?_ (by assumption) (by first | omega | exact Below.size (by assumption) | (simp; omega) | (simp; exact Below.size (by assumption))))))⟩
    simp [results, Try.results66, go_sem]
  · go_enter Try.func66, Try.ntmps66
    go_wp2
    refine bodyPost_ret_by (v := ptA (x + 1, y)) ?_ rfl ⟨rfl, by (repeat (first | assumption | exact Below.refl _ _ | (refine bl_alloc ?_ _) | (refine Below.drew ?_) | (refine bl_drewN ?_ _) | (refine bl_set ?_ (by first | (simp; done) | omega | (simp; omega)) _) | (refine bl_trans ?_ (by assumption)) | (refine bl_step ?_ (by assumption) (by first | omega | exact Below.size (by assumption) | (simp; omega) | (simp; exact Below.size (by assumption))))))⟩
    simp [results, Try.results66, go_sem]
  · go_enter Try.func66, Try.ntmps66
    go_wp2
    refine bodyPost_ret_by (v := ptA (x, y + 1)) ?_ rfl ⟨rfl, by (repeat (first | assumption | exact Below.refl _ _ | (refine bl_alloc ?_ _) | (refine Below.drew ?_) | (refine bl_drewN ?_ _) | (refine bl_set ?_ (by first | (simp; done) | omega | (simp; omega)) _) | (refine bl_trans ?_ (by assumption)) | (refine bl_step ?_ (by assumption) (by first | omega | exact Below.size (by assumption) | (simp; omega) | (simp; exact Below.size (by assumption))))))⟩
    simp [results, Try.results66, go_sem]

/-- A step by a letter: the point itself where it is none. -/
def stepL (x y c : Int) : Int × Int := if wayI c < 0 then (x, y) else stepW x y (wayI c)
set_option maxHeartbeats 800000 in
theorem stepFrom_any (x y c : Int) (w : World) (hx : -1000 ≤ x ∧ x ≤ 1000) (hy : -1000 ≤ y ∧ y ≤ 1000) :
    Calls Try.prog 102 #[.agg #[.int .i64 x, .int .i64 y], .int .u8 c] w fun e w' => e = .returned (ptA (stepL x y c)) ∧ Below w.heap.size w w' := by
  obtain ⟨hx0, hx1⟩ := hx
  obtain ⟨hy0, hy1⟩ := hy
  by_cases h0 : c = 100
  · subst h0
    go_enter Try.func102, Try.ntmps102
    go_wp2
    refine bodyPost_ret_by (v := ptA (x, y - 1)) ?_ rfl ⟨rfl, by (repeat (first | assumption | exact Below.refl _ _ | (refine bl_alloc ?_ _) | (refine Below.drew ?_) | (refine bl_drewN ?_ _) | (refine bl_set ?_ (by first | (simp; done) | omega | (simp; omega)) _) | (refine bl_trans ?_ (by assumption)) | (refine bl_step ?_ (by assumption) (by first | omega | exact Below.size (by assumption) | (simp; omega) | (simp; exact Below.size (by assumption))))))⟩
    simp [results, Try.results102, go_sem]
  · have b0 : (c == 100) = false := by simpa using h0
    by_cases h1 : c = 108
    · subst h1
      go_enter Try.func102, Try.ntmps102
      go_wp2
      refine bodyPost_ret_by (v := ptA (x - 1, y)) ?_ rfl ⟨rfl, by (repeat (first | assumption | exact Below.refl _ _ | (refine bl_alloc ?_ _) | (refine Below.drew ?_) | (refine bl_drewN ?_ _) | (refine bl_set ?_ (by first | (simp; done) | omega | (simp; omega)) _) | (refine bl_trans ?_ (by assumption)) | (refine bl_step ?_ (by assumption) (by first | omega | exact Below.size (by assumption) | (simp; omega) | (simp; exact Below.size (by assumption))))))⟩
      simp [results, Try.results102, go_sem]
    · have b1 : (c == 108) = false := by simpa using h1
      by_cases h2 : c = 114
      · subst h2
        go_enter Try.func102, Try.ntmps102
        go_wp2
        refine bodyPost_ret_by (v := ptA (x + 1, y)) ?_ rfl ⟨rfl, by (repeat (first | assumption | exact Below.refl _ _ | (refine bl_alloc ?_ _) | (refine Below.drew ?_) | (refine bl_drewN ?_ _) | (refine bl_set ?_ (by first | (simp; done) | omega | (simp; omega)) _) | (refine bl_trans ?_ (by assumption)) | (refine bl_step ?_ (by assumption) (by first | omega | exact Below.size (by assumption) | (simp; omega) | (simp; exact Below.size (by assumption))))))⟩
        simp [results, Try.results102, go_sem]
      · have b2 : (c == 114) = false := by simpa using h2
        by_cases h3 : c = 117
        · subst h3
          go_enter Try.func102, Try.ntmps102
          go_wp2
          refine bodyPost_ret_by (v := ptA (x, y + 1)) ?_ rfl ⟨rfl, by (repeat (first | assumption | exact Below.refl _ _ | (refine bl_alloc ?_ _) | (refine Below.drew ?_) | (refine bl_drewN ?_ _) | (refine bl_set ?_ (by first | (simp; done) | omega | (simp; omega)) _) | (refine bl_trans ?_ (by assumption)) | (refine bl_step ?_ (by assumption) (by first | omega | exact Below.size (by assumption) | (simp; omega) | (simp; exact Below.size (by assumption))))))⟩
          simp [results, Try.results102, go_sem]
        · have b3 : (c == 117) = false := by simpa using h3
          have HF : Hid (stepL x y c = (x, y)) := by show _ = _; simp [stepL, wayI, h0, h1, h2, h3]
          clear h0 h1 h2 h3
          go_enter Try.func102, Try.ntmps102
          go_wp2
          refine bodyPost_ret_by (v := ptA (x, y)) ?_ rfl ⟨by rw [HF.out], by (repeat (first | assumption | exact Below.refl _ _ | (refine bl_alloc ?_ _) | (refine Below.drew ?_) | (refine bl_drewN ?_ _) | (refine bl_set ?_ (by first | (simp; done) | omega | (simp; omega)) _) | (refine bl_trans ?_ (by assumption)) | (refine bl_step ?_ (by assumption) (by first | omega | exact Below.size (by assumption) | (simp; omega) | (simp; exact Below.size (by assumption))))))⟩
          simp [results, Try.results102, go_sem]
end Go.Proofs.Ytepamhdopmfkfaa
