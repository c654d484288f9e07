/-
  Contracts: which of two points comes first.
-/
import Derived.Test.YtepamhdopmfkfaaSortMath
namespace Go.Proofs.Ytepamhdopmfkfaa
set_option linter.unusedSimpArgs false
set_option linter.unusedVariables false
open Go.ChangeShapes Go.WideShapes Go.ChangeAt Go.RowKit

set_option maxHeartbeats 800000 in
theorem l01Before_any (p q : Pt) (w : World) :
    Calls Try.prog 107 #[.agg #[.int .i64 p.1, .int .i64 p.2], .agg #[.int .i64 q.1, .int .i64 q.2]] w fun e w' => e = .returned (.bool (ltB p q)) ∧ Below w.heap.size w w' := by
  obtain ⟨a, b⟩ := p
  obtain ⟨c, d⟩ := q
  by_cases h1 : a < c
  · have F : Hid (ltB (a, b) (c, d) = true) := by show _ = _; unfold ltB; simp [h1]
    simp only
    go_enter Try.func107, Try.ntmps107
    go_wp2
    go_ret
    exact ⟨retB (by rw [F.out]), by (repeat (first | assumption | exact Below.refl _ _ | (refine bl_alloc ?_ _) | (refine Below.drew ?_) | (refine bl_drewN ?_ _) | (refine bl_set ?_ (by first | (simp; done) | omega | (simp; omega)) _) | (refine bl_trans ?_ (by assumption)) | (refine bl_step ?_ (by assumption) (by first | omega | exact Below.size (by assumption) | (simp; omega) | (simp; exact Below.size (by assumption))))))⟩
  by_cases h2 : a = c
  · subst h2
    have h3 : (a == a) = true := by simp
    by_cases h4 : b < d
    · have F : Hid (ltB (a, b) (a, d) = true) := by show _ = _; unfold ltB; simp [h4]
      simp only
      go_enter Try.func107, Try.ntmps107
      go_wp2
      go_ret
      exact ⟨retB (by rw [F.out]), by (repeat (first | assumption | exact Below.refl _ _ | (refine bl_alloc ?_ _) | (refine Below.drew ?_) | (refine bl_drewN ?_ _) | (refine bl_set ?_ (by first | (simp; done) | omega | (simp; omega)) _) | (refine bl_trans ?_ (by assumption)) | (refine bl_step ?_ (by assumption) (by first | omega | exact Below.size (by assumption) | (simp; omega) | (simp; exact Below.size (by assumption))))))⟩
    · have F : Hid (ltB (a, b) (a, d) = false) := by show _ = _; unfold ltB; simp [h4]
      simp only
      go_enter Try.func107, Try.ntmps107
      go_wp2
      go_ret
      exact ⟨retB (by rw [F.out]), by (repeat (first | assumption | exact Below.refl _ _ | (refine bl_alloc ?_ _) | (refine Below.drew ?_) | (refine bl_drewN ?_ _) | (refine bl_set ?_ (by first | (simp; done) | omega | (simp; omega)) _) | (refine bl_trans ?_ (by assumption)) | (refine bl_step ?_ (by assumption) (by first | omega | exact Below.size (by assumption) | (simp; omega) | (simp; exact Below.size (by assumption))))))⟩
  · have h3 : (a == c) = false := by simp [h2]
    have F : Hid (ltB (a, b) (c, d) = false) := by show _ = _; unfold ltB; simp [h1, h2]
    simp only
    go_enter Try.func107, Try.ntmps107
    go_wp2
    go_ret
    exact ⟨retB (by rw [F.out]), by (repeat (first | assumption | exact Below.refl _ _ | (refine bl_alloc ?_ _) | (refine Below.drew ?_) | (refine bl_drewN ?_ _) | (refine bl_set ?_ (by first | (simp; done) | omega | (simp; omega)) _) | (refine bl_trans ?_ (by assumption)) | (refine bl_step ?_ (by assumption) (by first | omega | exact Below.size (by assumption) | (simp; omega) | (simp; exact Below.size (by assumption))))))⟩

/-- What comparePoints says. -/
def orV (x y : Int) : Int := if x ≠ 0 then x else y
def cfP (p q : Pt) : Int := orV (sg q.1 p.1) (sg q.2 p.2)
theorem cfP_lt (p q : Pt) : decide (cfP p q < 0) = ltB p q := by
  unfold cfP orV ltB
  rcases sg_cases q.1 p.1 with ⟨h, f⟩ | ⟨h, f⟩ | ⟨h, f⟩ <;> rcases sg_cases q.2 p.2 with ⟨h', f'⟩ | ⟨h', f'⟩ | ⟨h', f'⟩ <;> simp only [f, f'] <;> simp <;> omega
theorem or_any (g : Nat) (x y : Int) (w : World) (h0 : w.cell? ⟨g, 0, none⟩ = some (.int .i64 x)) (h1 : w.cell? ⟨g, 0 + 1, none⟩ = some (.int .i64 y)) :
    Calls Try.prog 109 #[.slice (some ⟨g, 0, none⟩) 2 2] w fun e w' => e = .returned (.int .i64 (orV x y)) ∧ w = w' := by
  by_cases hx : x = 0
  · subst hx
    have F : Hid (orV 0 y = y) := by show _ = _; simp [orV]
    by_cases hy : y = 0
    · subst hy
      go_enter Try.func109, Try.ntmps109
      go_wp2
      go_loop [5, 8] (fun _ i => i = .int .i64 0 ∨ i = .int .i64 1 ∨ i = .int .i64 2) (fun _ i => 2 - (intOf i).toNat)
      case atStart => exact .inl rfl
      case round =>
        rcases hrel with rfl | rfl | rfl
        · go_wp2
          go_round
          case rel => exact .inr (.inl (by go_num))
          case measure => simp [intOf]
        · go_wp2
          go_round
          case rel => exact .inr (.inr (by go_num))
          case measure => simp [intOf]
        · go_wp2
          go_ret
          exact ⟨retI (by first | rfl | exact F.out.symm | simp), rfl⟩
    · have hyb : (y != 0) = true := by simp [hy]
      go_enter Try.func109, Try.ntmps109
      go_wp2
      go_loop [5, 8] (fun _ i => i = .int .i64 0 ∨ i = .int .i64 1) (fun _ i => 2 - (intOf i).toNat)
      case atStart => exact .inl rfl
      case round =>
        rcases hrel with rfl | rfl
        · go_wp2
          go_round
          case rel => exact .inr (by go_num)
          case measure => simp [intOf]
        · go_wp2
          go_ret
          exact ⟨retI (by first | rfl | exact F.out.symm | simp), rfl⟩
  · have hxb : (x != 0) = true := by simp [hx]
    have F : Hid (orV x y = x) := by show _ = _; simp [orV, hx]
    go_enter Try.func109, Try.ntmps109
    go_wp2
    go_loop [5, 8] (fun _ i => i = .int .i64 0) (fun _ i => 2 - (intOf i).toNat)
    case atStart => rfl
    case round =>
      subst hrel
      go_wp2
      go_ret
      exact ⟨retI (by first | rfl | exact F.out.symm | simp), rfl⟩
end Go.Proofs.Ytepamhdopmfkfaa
