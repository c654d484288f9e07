/-
  Proved: for every text, the program's ReadDecimal answers as the model's (strconv's table and errors and package errors' type laid). No condition beyond the row's laid variables.
-/
import Derived.Test.YtfmkedmhbmcbiaaDoorReadI
namespace Go.Proofs.YtfmkedmhbmcbiaaDoor.fnExactReadDecimal
set_option linter.unusedSimpArgs false
set_option linter.unusedVariables false
open Go.ChangeShapes Go.WideShapes Go.ChangeAt Go.RowKit

theorem readS_num (s : ByteArray) (m : Int) (w : World) (h : IsNum s m) :
    Calls Tryd.prog 11 #[.string s] w fun e w' => e = .returned (.tuple #[.int .i64 m, .bool true]) ∧ Below w.heap.size w w' := by
  go_enter Tryd.func11, Tryd.ntmps11
  go_wp2_with (go_at_call 32; refine (l01Value_num s m _ h).mono ?_; rintro e w' ⟨rfl, hb⟩)
  go_ret2
  exact ⟨rfl, hb⟩
theorem readS_bad (s : ByteArray) (w : World) (hs : s.size ≤ 1048576) (h : ∀ m, ¬ IsNum s m) :
    Calls Tryd.prog 11 #[.string s] w fun e w' => e = .returned (.tuple #[.int .i64 0, .bool false]) ∧ Below w.heap.size w w' := by
  go_enter Tryd.func11, Tryd.ntmps11
  go_wp2_with (go_at_call 32; refine (l01Value_bad s _ hs (bad_of_none h _)).mono ?_; rintro e w' ⟨rfl, hb⟩)
  go_ret2
  exact ⟨rfl, hb⟩

theorem both (s : ByteArray) (w : World) (hs : s.size ≤ 1048576) (hl : ParseLaid w) : ∃ (n : Int) (b : Bool),
    (Calls Tryd.prog 11 #[.string s] w fun e w' => e = .returned (.tuple #[.int .i64 n, .bool b]) ∧ Below w.heap.size w w') ∧
    (∀ w1, Below w.heap.size w w1 → Calls Tryd.prog 12 #[.string s] w1 fun e w' => e = .returned (.tuple #[.int .i64 n, .bool b]) ∧ Below w1.heap.size w1 w') := by
  by_cases h : ∃ m, IsNum s m
  · obtain ⟨m, h⟩ := h
    exact ⟨m, true, readS_num s m w h, fun w1 hb => readI_num s m w1 hs h (hl.stays hb (Nat.le_refl _))⟩
  · have h : ∀ m, ¬ IsNum s m := fun m hm => h ⟨m, hm⟩
    exact ⟨0, false, readS_bad s w hs h, fun w1 hb => readI_bad s w1 hs h (hl.stays hb (Nat.le_refl _))⟩

set_option maxHeartbeats 800000 in
theorem walk (s : ByteArray) (w : World) (hs : s.size ≤ maxLen) (hl : ParseLaid w) :
    Calls Tryd.prog 4 #[.string s] w fun e w' => e = .returned (.bool true) ∧ Below w.heap.size w w' := by
  unfold maxLen at hs
  by_cases h : s.size ≤ 1048576
  · obtain ⟨n, b, cS, cI⟩ := both s w h hl
    have hI : ¬ 1048576 < (s.size : Int) := by omega
    cases b
    all_goals
      go_enter Tryd.func4, Tryd.ntmps4
      go_wp2_with (first
        | (go_at_call 11; refine cS.mono ?_; rintro e w' ⟨rfl, hb⟩)
        | (go_at_call 12; refine (cI _ hb).mono ?_; rintro e w'' ⟨rfl, hb2⟩))
      go_ret
      exact ⟨rfl, by (repeat (first | assumption | exact Below.refl _ _ | (refine bl_alloc ?_ _) | (refine Below.drew ?_) | (refine bl_drewN ?_ _) | (refine bl_set ?_ (by simp) _) | (refine bl_trans ?_ (by assumption)) | (refine bl_step ?_ (by assumption) (by first | omega | exact Below.size (by assumption) | (simp; omega) | (simp; exact Below.size (by assumption))))))⟩
  · have hI : 1048576 < (s.size : Int) := by omega
    go_enter Tryd.func4, Tryd.ntmps4
    go_wp2
    go_ret
    exact ⟨rfl, Below.refl _ _⟩
end Go.Proofs.YtfmkedmhbmcbiaaDoor.fnExactReadDecimal
