/-
  Contracts: shapes, whether they are valid and whether they overlap.
-/
import Derived.Test.YtgpcfkegbcpkpaaShp
import Derived.Test.YtgpcfkegbcpkpaaPresV
namespace Go.Proofs.Ytgpcfkegbcpkpaa
set_option linter.unusedSimpArgs false
set_option linter.unusedVariables false
open Go.ChangeShapes Go.WideShapes Go.ChangeAt Go.RowKit Go.BigFrame

/-- A shape has few enough steps. -/
def shB (s : R4) : Bool := inB s.1 0 1000 && (inB s.2.1 0 1000 && (inB s.2.2.1 1 1000 && inB s.2.2.2 1 1000))
/-- Two pieces of a line have more than a point in common. -/
def meetB (a l b o : Int) : Bool := decide (a < b + o) && decide (b < a + l)
/-- Shapes overlap. -/
def ovS (s o : R4) : Bool := meetB s.1 s.2.2.1 o.1 o.2.2.1 && meetB s.2.1 s.2.2.2 o.2.1 o.2.2.2
theorem shB_iff {s : R4} : shB s = true ↔ (0 ≤ s.1 ∧ s.1 ≤ 1000) ∧ (0 ≤ s.2.1 ∧ s.2.1 ≤ 1000) ∧ (1 ≤ s.2.2.1 ∧ s.2.2.1 ≤ 1000) ∧ (1 ≤ s.2.2.2 ∧ s.2.2.2 ≤ 1000) := by
  simp [shB, inB]
set_option maxHeartbeats 1600000 in
theorem l09Shape_any (b o : Nat) (x y u v : Int) (w : World) (c0 : w.cell? ⟨b, o, none⟩ = some (.int .i64 x)) (c1 : w.cell? ⟨b, o + 1, none⟩ = some (.int .i64 y)) (c2 : w.cell? ⟨b, o + 2, none⟩ = some (.int .i64 u)) (c3 : w.cell? ⟨b, o + 3, none⟩ = some (.int .i64 v)) :
    Calls Try.prog 103 #[.pointer (some ⟨b, o, none⟩)] w fun e w' => e = .returned (.bool (shB (x, y, u, v))) ∧ w = w' := by
  go_enter Try.func103, Try.ntmps103
  go_wp2_with (go_at_call 72; refine (l00In_any _ _ _ _).mono ?_; rintro e w' ⟨rfl, rfl⟩)
  all_goals go_ret
  all_goals exact ⟨retB (by simp [shB, *]), rfl⟩
theorem l09Meet_any (a l b o : Int) (w : World) (ha : 0 ≤ a ∧ a ≤ 1000) (hl : 0 ≤ l ∧ l ≤ 1000) (hb : 0 ≤ b ∧ b ≤ 1000) (ho : 0 ≤ o ∧ o ≤ 1000) :
    Calls Try.prog 104 #[.int .i64 a, .int .i64 l, .int .i64 b, .int .i64 o] w fun e w' => e = .returned (.bool (meetB a l b o)) ∧ w = w' := by
  obtain ⟨a0, a1⟩ := ha
  obtain ⟨l0, l1⟩ := hl
  obtain ⟨b0, b1⟩ := hb
  obtain ⟨o0, o1⟩ := ho
  go_enter Try.func104, Try.ntmps104
  go_wp2
  all_goals go_ret
  all_goals exact ⟨retB (by first | (simp [meetB, *]; done) | (simp [meetB, *]; intros; omega)), rfl⟩
theorem run_max_int4 {P : Program} (w : World) (ts : Array TypeId) (t : TypeId) (k k1 k2 k3 : IntKind) (x y z u : Int) : (Builtin.max_ ts t #[.int k x, .int k1 y, .int k2 z, .int k3 u]).run P w = .ok (.int k (max (max (max x y) z) u)) w := by
  have e : ∀ a b : Int, (if b > a then b else a) = max a b := fun a b => by omega
  simp [Builtin.max_, Builtin.max2, e]
attribute [local go_sem] run_max_int4
set_option maxHeartbeats 1600000 in
theorem shValid_any (x y u v : Int) (w : World) :
    Calls Try.prog 62 #[.agg #[.int .i64 x, .int .i64 y, .int .i64 u, .int .i64 v]] w fun e w' => e = .returned (.bool (shB (x, y, u, v))) ∧ Below w.heap.size w w' := by
  have hmin : ∀ x y : Int, (if y < x then y else x) = min x y := fun x y => by omega
  have hmax : ∀ x y : Int, (if x < y then y else x) = max x y := fun x y => by omega
  have key : Hid (shB (x, y, u, v) = (decide (0 ≤ min x y) && decide (1 ≤ min u v) && decide (max (max (max x y) u) v ≤ 1000))) := by
    show _ = _
    rw [Bool.eq_iff_iff, shB_iff]
    simp only [Bool.and_eq_true, decide_eq_true_eq]
    omega
  rw [key.out]
  clear key
  go_enter Try.func62, Try.ntmps62
  go_wp2
  all_goals go_ret
  all_goals exact ⟨retB (by first | (simp [*]; done) | (simp [*]; intros; omega)), by (repeat (first | assumption | exact Below.refl _ _ | (refine bl_alloc ?_ _) | (refine Below.drew ?_) | (refine bl_drewN ?_ _) | (refine bl_set ?_ (by first | (simp; done) | omega | (simp; omega)) _) | (refine bl_trans ?_ (by assumption)) | (refine bl_step ?_ (by assumption) (by first | omega | exact Below.size (by assumption) | (simp; omega) | (simp; exact Below.size (by assumption))))))⟩
theorem across_any (x y u v : Int) (w : World) (hx : 0 ≤ x ∧ x ≤ 1000) (hu : 0 ≤ u ∧ u ≤ 1000) :
    Calls Try.prog 107 #[.agg #[.int .i64 x, .int .i64 y, .int .i64 u, .int .i64 v]] w fun e w' => e = .returned (.agg #[.int .i64 x, .int .i64 (x + u)]) ∧ Below w.heap.size w w' := by
  obtain ⟨x0, x1⟩ := hx
  obtain ⟨u0, u1⟩ := hu
  go_enter Try.func107, Try.ntmps107
  go_wp2
  refine bodyPost_ret_by (v := .agg #[.int .i64 x, .int .i64 (x + u)]) ?_ rfl ⟨rfl, by (repeat (first | assumption | exact Below.refl _ _ | (refine bl_alloc ?_ _) | (refine Below.drew ?_) | (refine bl_drewN ?_ _) | (refine bl_set ?_ (by first | (simp; done) | omega | (simp; omega)) _) | (refine bl_trans ?_ (by assumption)) | (refine bl_step ?_ (by assumption) (by first | omega | exact Below.size (by assumption) | (simp; omega) | (simp; exact Below.size (by assumption))))))⟩
  simp [results, Try.results107, go_sem]
theorem up_any (x y u v : Int) (w : World) (hy : 0 ≤ y ∧ y ≤ 1000) (hv : 0 ≤ v ∧ v ≤ 1000) :
    Calls Try.prog 120 #[.agg #[.int .i64 x, .int .i64 y, .int .i64 u, .int .i64 v]] w fun e w' => e = .returned (.agg #[.int .i64 y, .int .i64 (y + v)]) ∧ Below w.heap.size w w' := by
  obtain ⟨x0, x1⟩ := hy
  obtain ⟨u0, u1⟩ := hv
  go_enter Try.func120, Try.ntmps120
  go_wp2
  refine bodyPost_ret_by (v := .agg #[.int .i64 y, .int .i64 (y + v)]) ?_ rfl ⟨rfl, by (repeat (first | assumption | exact Below.refl _ _ | (refine bl_alloc ?_ _) | (refine Below.drew ?_) | (refine bl_drewN ?_ _) | (refine bl_set ?_ (by first | (simp; done) | omega | (simp; omega)) _) | (refine bl_trans ?_ (by assumption)) | (refine bl_step ?_ (by assumption) (by first | omega | exact Below.size (by assumption) | (simp; omega) | (simp; exact Below.size (by assumption))))))⟩
  simp [results, Try.results120, go_sem]
theorem ivMeetS_any (a b c d : Int) (w : World) :
    Calls Try.prog 121 #[.agg #[.int .i64 a, .int .i64 b], .agg #[.int .i64 c, .int .i64 d]] w fun e w' => e = .returned (.agg #[.int .i64 (max a c), .int .i64 (min b d)]) ∧ Below w.heap.size w w' := by
  have hmin : ∀ x y : Int, (if y < x then y else x) = min x y := fun x y => by omega
  have hmax : ∀ x y : Int, (if x < y then y else x) = max x y := fun x y => by omega
  go_enter Try.func121, Try.ntmps121
  go_wp2
  refine bodyPost_ret_by (v := .agg #[.int .i64 (max a c), .int .i64 (min b d)]) ?_ rfl ⟨rfl, by (repeat (first | assumption | exact Below.refl _ _ | (refine bl_alloc ?_ _) | (refine Below.drew ?_) | (refine bl_drewN ?_ _) | (refine bl_set ?_ (by first | (simp; done) | omega | (simp; omega)) _) | (refine bl_trans ?_ (by assumption)) | (refine bl_step ?_ (by assumption) (by first | omega | exact Below.size (by assumption) | (simp; omega) | (simp; exact Below.size (by assumption))))))⟩
  simp [results, Try.results121, go_sem, hmin, hmax]
theorem ivOver_any (a b c d : Int) (w : World) :
    Calls Try.prog 108 #[.agg #[.int .i64 a, .int .i64 b], .agg #[.int .i64 c, .int .i64 d]] w fun e w' => e = .returned (.bool (decide (max a c < min b d))) ∧ Below w.heap.size w w' := by
  have hx : Below w.heap.size w ((w.alloc (.cells #[.int .i64 a, .int .i64 b] 118)).alloc (.cells #[.int .i64 c, .int .i64 d] 118)) := by (repeat (first | assumption | exact Below.refl _ _ | (refine bl_alloc ?_ _) | (refine Below.drew ?_) | (refine bl_drewN ?_ _) | (refine bl_set ?_ (by first | (simp; done) | omega | (simp; omega)) _) | (refine bl_trans ?_ (by assumption)) | (refine bl_step ?_ (by assumption) (by first | omega | exact Below.size (by assumption) | (simp; omega) | (simp; exact Below.size (by assumption))))))
  go_enter Try.func108, Try.ntmps108
  go_wp2_with fail
  refine (ivMeetS_any _ _ _ _ _).mono ?_
  rintro e w1 ⟨rfl, hb1⟩
  have x1 := bl_step hx hb1 hx.size
  go_wp2
  go_ret
  exact ⟨rfl, x1.alloc x1.size _⟩
end Go.Proofs.Ytgpcfkegbcpkpaa
