/-
  Contracts: absolute values, the two distances.
-/
import Derived.Test.YtefcfpagbjflbaaDoorOpen
namespace Go.Proofs.YtefcfpagbjflbaaDoor
set_option linter.unusedSimpArgs false
set_option linter.unusedVariables false
open Go.ChangeShapes Go.WideShapes Go.ChangeAt Go.RowKit

def absI (n : Int) : Int := if n < 0 then -n else n
def farI (x y x' y' : Int) : Int := absI (x - x') + absI (y - y')
theorem absI_le {n b : Int} (h1 : -b ≤ n) (h2 : n ≤ b) : 0 ≤ absI n ∧ absI n ≤ b := by unfold absI; split <;> omega

theorem l00Max_any (a b : Int) (w : World) :
    Calls Tryd.prog 69 #[.int .i64 a, .int .i64 b] w fun e w' => e = .returned (.int .i64 (max a b)) ∧ w = w' := by
  by_cases h : b < a
  all_goals
    go_enter Tryd.func69, Tryd.ntmps69
    go_wp2
    go_ret
    exact ⟨retI (by omega), rfl⟩

theorem l00Min_any (a b : Int) (w : World) :
    Calls Tryd.prog 70 #[.int .i64 a, .int .i64 b] w fun e w' => e = .returned (.int .i64 (min a b)) ∧ w = w' := by
  by_cases h : a < b
  all_goals
    go_enter Tryd.func70, Tryd.ntmps70
    go_wp2
    go_ret
    exact ⟨retI (by omega), rfl⟩

theorem max_abs {n : Int} : max n (-n) = absI n := by unfold absI; split <;> omega
theorem l01Abs_any (n : Int) (h1 : -1000000 ≤ n) (h2 : n ≤ 1000000) (w : World) :
    Calls Tryd.prog 122 #[.int .i64 n] w fun e w' => e = .returned (.int .i64 (absI n)) ∧ w = w' := by
  go_enter Tryd.func122, Tryd.ntmps122
  go_wp2_with (go_at_call 69; refine (l00Max_any _ _ _).mono ?_; rintro e w' ⟨rfl, rfl⟩)
  go_ret
  exact ⟨retI max_abs, rfl⟩

theorem absolute_any (n : Int) (h1 : -1000000 ≤ n) (h2 : n ≤ 1000000) (w : World) :
    Calls Tryd.prog 131 #[.int .i64 n] w fun e w' => e = .returned (.int .i64 (absI n)) ∧ w = w' := by
  go_enter Tryd.func131, Tryd.ntmps131
  go_wp2
  all_goals go_ret
  all_goals exact ⟨retI (by unfold absI; split <;> omega), rfl⟩

theorem quiet_l {f : FuncId} {args : Array Value} {w : World} {v : Value} (h : Calls Tryd.prog f args w fun e w' => e = .returned v ∧ w = w') :
    Calls Tryd.prog f args w fun e w' => e = .returned v ∧ w' = w := h.mono fun _ _ ⟨he, hw⟩ => ⟨he, hw.symm⟩

set_option maxHeartbeats 400000 in
theorem l01Far_any (x y x' y' : Int) (w : World) (h1 : -1000 ≤ x ∧ x ≤ 1000) (h2 : -1000 ≤ y ∧ y ≤ 1000) (h3 : -1000 ≤ x' ∧ x' ≤ 1000) (h4 : -1000 ≤ y' ∧ y' ≤ 1000) :
    Calls Tryd.prog 102 #[.agg #[.int .i64 x, .int .i64 y], .agg #[.int .i64 x', .int .i64 y']] w fun e w' => e = .returned (.int .i64 (farI x y x' y')) ∧ Below w.heap.size w w' := by
  obtain ⟨h1, h1'⟩ := h1
  obtain ⟨h2, h2'⟩ := h2
  obtain ⟨h3, h3'⟩ := h3
  obtain ⟨h4, h4'⟩ := h4
  have b1 := absI_le (n := x - x') (b := 2000) (by omega) (by omega)
  have b2 := absI_le (n := y - y') (b := 2000) (by omega) (by omega)
  obtain ⟨b1, b1'⟩ := b1
  obtain ⟨b2, b2'⟩ := b2
  have e1 : IntKind.i64.wrap (x - x') = x - x' := IntWalk.i64_in _ (by omega)
  have e2 : IntKind.i64.wrap (y - y') = y - y' := IntWalk.i64_in _ (by omega)
  have e3 : IntKind.i64.wrap (absI (x - x') + absI (y - y')) = absI (x - x') + absI (y - y') := IntWalk.i64_in _ (by omega)
  go_enter Tryd.func102, Tryd.ntmps102
  go_wp2
  go_quiet ((first
    | (go_at_call_of 122 (Value.int IntKind.i64 (x - x')); exact Calls.quiet_of_same (quiet_l (l01Abs_any _ (by omega) (by omega) _)))
    | (go_at_call_of 122 (Value.int IntKind.i64 (y - y')); exact Calls.quiet_of_same (quiet_l (l01Abs_any _ (by omega) (by omega) _)))))
  go_wp2
  go_ret
  exact ⟨rfl, by (repeat (first | assumption | exact Below.refl _ _ | (refine bl_alloc ?_ _) | (refine Below.drew ?_) | (refine bl_drewN ?_ _) | (refine bl_set ?_ (by first | (simp; done) | omega | (simp; omega)) _) | (refine bl_trans ?_ (by assumption)) | (refine bl_step ?_ (by assumption) (by first | omega | exact Below.size (by assumption) | (simp; omega) | (simp; exact Below.size (by assumption))))))⟩
set_option maxHeartbeats 400000 in
theorem distance_any (x y x' y' : Int) (w : World) (h1 : -1000 ≤ x ∧ x ≤ 1000) (h2 : -1000 ≤ y ∧ y ≤ 1000) (h3 : -1000 ≤ x' ∧ x' ≤ 1000) (h4 : -1000 ≤ y' ∧ y' ≤ 1000) :
    Calls Tryd.prog 124 #[.agg #[.int .i64 x, .int .i64 y], .agg #[.int .i64 x', .int .i64 y']] w fun e w' => e = .returned (.int .i64 (farI x y x' y')) ∧ Below w.heap.size w w' := by
  obtain ⟨h1, h1'⟩ := h1
  obtain ⟨h2, h2'⟩ := h2
  obtain ⟨h3, h3'⟩ := h3
  obtain ⟨h4, h4'⟩ := h4
  have b1 := absI_le (n := x - x') (b := 2000) (by omega) (by omega)
  have b2 := absI_le (n := y - y') (b := 2000) (by omega) (by omega)
  obtain ⟨b1, b1'⟩ := b1
  obtain ⟨b2, b2'⟩ := b2
  have e1 : IntKind.i64.wrap (x - x') = x - x' := IntWalk.i64_in _ (by omega)
  have e2 : IntKind.i64.wrap (y - y') = y - y' := IntWalk.i64_in _ (by omega)
  have e3 : IntKind.i64.wrap (absI (x - x') + absI (y - y')) = absI (x - x') + absI (y - y') := IntWalk.i64_in _ (by omega)
  go_enter Tryd.func124, Tryd.ntmps124
  go_wp2
  go_quiet ((first
    | (go_at_call_of 131 (Value.int IntKind.i64 (x - x')); exact Calls.quiet_of_same (quiet_l (absolute_any _ (by omega) (by omega) _)))
    | (go_at_call_of 131 (Value.int IntKind.i64 (y - y')); exact Calls.quiet_of_same (quiet_l (absolute_any _ (by omega) (by omega) _)))))
  go_wp2
  go_ret
  exact ⟨rfl, by (repeat (first | assumption | exact Below.refl _ _ | (refine bl_alloc ?_ _) | (refine Below.drew ?_) | (refine bl_drewN ?_ _) | (refine bl_set ?_ (by first | (simp; done) | omega | (simp; omega)) _) | (refine bl_trans ?_ (by assumption)) | (refine bl_step ?_ (by assumption) (by first | omega | exact Below.size (by assumption) | (simp; omega) | (simp; exact Below.size (by assumption))))))⟩

theorem isPt_lo {x y : Int} (h : isPt x y = true) : (-1000 ≤ x ∧ x ≤ 1000) ∧ (-1000 ≤ y ∧ y ≤ 1000) := by
  have := isPt_iff.1 h; omega

def okPair (x y x' y' : Int) : Bool := isPt x y && isPt x' y'
/-- What both distances come to, as a value that the walk does not open. -/
def distV (x y x' y' : Int) : Value := .tuple #[.int .i64 (if okPair x y x' y' = true then farI x y x' y' else 0), .bool (okPair x y x' y')]
theorem distV_f {x y x' y' : Int} (h : okPair x y x' y' = false) : distV x y x' y' = .tuple #[.int .i64 0, .bool false] := by simp [distV, h]
theorem distV_t {x y x' y' : Int} (h : okPair x y x' y' = true) : distV x y x' y' = .tuple #[.int .i64 (farI x y x' y'), .bool true] := by simp [distV, h]

end Go.Proofs.YtefcfpagbjflbaaDoor
