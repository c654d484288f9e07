/-
  Proved: for every point, the program's IsPoint answers as the model's. No condition.
-/
import Derived.Test.YtmdfiggchiefkaaOpen
namespace Go.Proofs.Ytmdfiggchiefkaa.fnExactIsPoint
open Go.ChangeShapes Go.WideShapes Go.ChangeAt Go.RowKit

theorem walk (x y : Int) (w : World) (_ : Fits x ∧ Fits y) :
    Calls Try.prog 5 #[.agg #[.int .i64 x, .int .i64 y]] w fun e w' => e = .returned (.bool true) ∧ Below w.heap.size w w' := by
  cases hb : isPt x y
  all_goals
    have H := Lib.hid hb
    clear hb
    go_enter Try.func5, Try.ntmps5
    go_wp2_with (first
      | (go_at_call 29; refine (toPoint_any _ _ _).mono ?_; rintro e w' ⟨rfl, hb⟩; obtain ⟨hc, hf, hz⟩ := bcell hb; have hz : w.heap.size < w'.heap.size := by (first | (simp at hz; omega) | omega))
      | (go_at_call 28; refine (IsPointS_any _ _ _).mono ?_; rintro e w' ⟨rfl, hb⟩; rw [H.out]; obtain ⟨hc, hf, hz⟩ := bcell hb; have hz : w.heap.size < w'.heap.size := by (first | (simp at hz; omega) | omega))
      | (go_at_call 30; refine (IsPointI_any _ _ _).mono ?_; rintro e w' ⟨rfl, hb⟩; rw [H.out]; obtain ⟨hc, hf, hz⟩ := bcell hb; have hz : w.heap.size < w'.heap.size := by (first | (simp at hz; omega) | omega)))
    go_ret
    exact ⟨rfl, by (repeat (first | assumption | exact Below.refl _ _ | (refine bl_alloc ?_ _) | (refine Below.drew ?_) | (refine bl_drewN ?_ _) | (refine bl_set ?_ (by simp) _) | (refine bl_step ?_ (by assumption) (by (try simp); try omega))))⟩

end Go.Proofs.Ytmdfiggchiefkaa.fnExactIsPoint
