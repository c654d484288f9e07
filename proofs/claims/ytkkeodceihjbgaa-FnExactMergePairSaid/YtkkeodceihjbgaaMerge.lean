/-
  Contracts: merges: their wires and what they make, of the model and of the program.
-/
import Derived.Test.YtkkeodceihjbgaaRegS
import Derived.Test.YtkkeodceihjbgaaQuietA
namespace Go.Proofs.Ytkkeodceihjbgaa
set_option linter.unusedSimpArgs false
set_option linter.unusedVariables false
open Go.ChangeShapes Go.WideShapes Go.ChangeAt Go.RowKit

structure Mg where
  a : Int
  b : Int
  c : Int
  d : Int
  e : Int
def Mg.rg (M : Mg) : Bool := isRg M.a M.b M.c M.d
def Mg.ok (M : Mg) : Bool := M.rg && inB M.e 0 1000000000
def farM (M N : Mg) : Int := farRg M.a M.b M.c M.d N.a N.b N.c N.d
def wA (M N : Mg) : Int := if farM M N < N.e - M.e then N.e - M.e else if farM M N < M.e - N.e then 0 else (farM M N + (N.e - M.e)) / 2
def wB (M N : Mg) : Int := if farM M N < N.e - M.e then 0 else if farM M N < M.e - N.e then M.e - N.e else farM M N - (farM M N + (N.e - M.e)) / 2
def okW (M N : Mg) : Bool := decide (M.e + wA M N = N.e + wB M N)
def outM (M N : Mg) : Mg := ⟨max (M.a - wA M N) (N.a - wB M N), min (M.b + wA M N) (N.b + wB M N), max (M.c - wA M N) (N.c - wB M N), min (M.d + wA M N) (N.d + wB M N), M.e + wA M N⟩
theorem Mg.rg_iff {M : Mg} : M.rg = true ↔ (M.a ≤ M.b ∧ (-1000000000 ≤ M.a ∧ M.a ≤ 1000000000) ∧ (-1000000000 ≤ M.b ∧ M.b ≤ 1000000000)) ∧ (M.c ≤ M.d ∧ (-1000000000 ≤ M.c ∧ M.c ≤ 1000000000) ∧ (-1000000000 ≤ M.d ∧ M.d ≤ 1000000000)) := isRg_iff
theorem Mg.ok_iff {M : Mg} : M.ok = true ↔ M.rg = true ∧ 0 ≤ M.e ∧ M.e ≤ 1000000000 := by simp [Mg.ok, inB]
theorem farM_in {M N : Mg} (hM : M.rg = true) (hN : N.rg = true) : 0 ≤ farM M N ∧ farM M N ≤ 2000000000 := by
  have := Mg.rg_iff.1 hM
  have := Mg.rg_iff.1 hN
  unfold farM farRg farIv
  omega
theorem Mg.mid {M : Mg} (h : M.rg = true) : Mid M.a ∧ Mid M.b ∧ Mid M.c ∧ Mid M.d := by
  have := Mg.rg_iff.1 h
  unfold Mid
  omega
theorem w_in {M N : Mg} (hM : M.ok = true) (hN : N.ok = true) : (0 ≤ wA M N ∧ wA M N ≤ 2000000000) ∧ (0 ≤ wB M N ∧ wB M N ≤ 2000000000) := by
  obtain ⟨h1, h2, h3⟩ := Mg.ok_iff.1 hM
  obtain ⟨k1, k2, k3⟩ := Mg.ok_iff.1 hN
  have := farM_in h1 k1
  unfold wA wB
  split
  · omega
  · split <;> omega
/-- Whether the half is an integer, where it is asked. -/
theorem okW_mid {M N : Mg} (h1 : ¬ farM M N < N.e - M.e) (h2 : ¬ farM M N < M.e - N.e) : okW M N = decide ((farM M N + (N.e - M.e)) % 2 = 0) := by
  unfold okW wA wB
  rw [if_neg h1, if_neg h2, if_neg h1, if_neg h2]
  exact decide_eq_decide.2 (by omega)
theorem okW_later {M N : Mg} (h1 : farM M N < N.e - M.e) : okW M N = true := by
  unfold okW wA wB
  rw [if_pos h1, if_pos h1]
  exact decide_eq_true (by omega)
theorem okW_sooner {M N : Mg} (h1 : ¬ farM M N < N.e - M.e) (h2 : farM M N < M.e - N.e) : okW M N = true := by
  unfold okW wA wB
  rw [if_neg h1, if_pos h2, if_neg h1, if_pos h2]
  exact decide_eq_true (by omega)

set_option maxRecDepth 100000 in
set_option maxHeartbeats 1600000 in
theorem requireMerge_yes (M : Mg) (w : World) (h : M.ok = true) :
    Calls Try.prog 58 #[.agg #[.int .i64 M.a, .int .i64 M.b, .int .i64 M.c, .int .i64 M.d, .int .i64 M.e]] w fun e w' => e = .returned (.agg #[.int .i64 M.a, .int .i64 M.b, .int .i64 M.c, .int .i64 M.d, .int .i64 M.e]) ∧ Below w.heap.size w w' := by
  obtain ⟨h1, h2, h3⟩ := Mg.ok_iff.1 h
  have H1 : Hid (isRg M.a M.b M.c M.d = true) := h1
  have H2 := Lib.hid (inB_t h2 h3)
  clear h h1 h2 h3
  go_enter Try.func58, Try.ntmps58
  go_wp2_with (first
    | (go_at_call 33; refine (rgValid_any _ _ _ _ _).mono ?_; rintro e w' ⟨rfl, hb⟩; rw [H1.out]; obtain ⟨hc, hf, hz⟩ := bcell hb; have hz1 : w.heap.size + 1 < w'.heap.size := (by (first | (simp at hz; omega) | omega)); have hz : w.heap.size < w'.heap.size := by omega)
    | (go_at_call 44; refine (isAmount_any _ _).mono ?_; rintro e w' ⟨rfl, rfl⟩; rw [H2.out])
    | (go_at_call 38; refine (require_yes _).mono ?_; rintro e w' ⟨rfl, rfl⟩))
  exact bodyPost_ret (v := .agg #[.int .i64 M.a, .int .i64 M.b, .int .i64 M.c, .int .i64 M.d, .int .i64 M.e]) (by simp [results, Try.results58, hc, hz, hz1, go_sem]) rfl ⟨rfl, by (repeat (first | assumption | exact Below.refl _ _ | (refine bl_alloc ?_ _) | (refine Below.drew ?_) | (refine bl_drewN ?_ _) | (refine bl_set ?_ (by first | (simp; done) | omega | (simp; omega)) _) | (refine bl_trans ?_ (by assumption)) | (refine bl_step ?_ (by assumption) (by first | omega | exact Below.size (by assumption) | (simp; omega) | (simp; exact Below.size (by assumption))))))⟩
set_option maxRecDepth 100000 in
set_option maxHeartbeats 1600000 in
theorem requireMerge_no (M : Mg) (w : World) (h : M.ok = false) :
    Calls Try.prog 58 #[.agg #[.int .i64 M.a, .int .i64 M.b, .int .i64 M.c, .int .i64 M.d, .int .i64 M.e]] w fun e w' => Pan e ∧ Below w.heap.size w w' := by
  cases h1 : isRg M.a M.b M.c M.d
  · have H1 := Lib.hid h1
    clear h h1
    go_enter Try.func58, Try.ntmps58
    go_wp2_with (first
      | (go_at_call 33; refine (rgValid_any _ _ _ _ _).mono ?_; rintro e w' ⟨rfl, hb⟩; rw [H1.out]; obtain ⟨hc, hf, hz⟩ := bcell hb; have hz1 : w.heap.size + 1 < w'.heap.size := (by (first | (simp at hz; omega) | omega)); have hz : w.heap.size < w'.heap.size := by omega)
      | (go_at_call 38; refine (require_no _).mono ?_; rintro e w' ⟨⟨u, pv, rfl⟩, rfl⟩))
    exact ⟨rfl, ⟨_, _, rfl⟩, by (repeat (first | assumption | exact Below.refl _ _ | (refine bl_alloc ?_ _) | (refine Below.drew ?_) | (refine bl_drewN ?_ _) | (refine bl_set ?_ (by first | (simp; done) | omega | (simp; omega)) _) | (refine bl_trans ?_ (by assumption)) | (refine bl_step ?_ (by assumption) (by first | omega | exact Below.size (by assumption) | (simp; omega) | (simp; exact Below.size (by assumption))))))⟩
  · have H1 := Lib.hid h1
    have H2 : Hid (inB M.e 0 1000000000 = false) := by
      show inB M.e 0 1000000000 = false
      unfold Mg.ok Mg.rg at h
      rw [h1] at h
      simpa using h
    clear h h1
    go_enter Try.func58, Try.ntmps58
    go_wp2_with (first
      | (go_at_call 33; refine (rgValid_any _ _ _ _ _).mono ?_; rintro e w' ⟨rfl, hb⟩; rw [H1.out]; obtain ⟨hc, hf, hz⟩ := bcell hb; have hz1 : w.heap.size + 1 < w'.heap.size := (by (first | (simp at hz; omega) | omega)); have hz : w.heap.size < w'.heap.size := by omega)
      | (go_at_call 44; refine (isAmount_any _ _).mono ?_; rintro e w' ⟨rfl, rfl⟩; rw [H2.out])
      | (go_at_call 38; refine (require_no _).mono ?_; rintro e w' ⟨⟨u, pv, rfl⟩, rfl⟩))
    exact ⟨rfl, ⟨_, _, rfl⟩, by (repeat (first | assumption | exact Below.refl _ _ | (refine bl_alloc ?_ _) | (refine Below.drew ?_) | (refine bl_drewN ?_ _) | (refine bl_set ?_ (by first | (simp; done) | omega | (simp; omega)) _) | (refine bl_trans ?_ (by assumption)) | (refine bl_step ?_ (by assumption) (by first | omega | exact Below.size (by assumption) | (simp; omega) | (simp; exact Below.size (by assumption))))))⟩
end Go.Proofs.Ytkkeodceihjbgaa
