/-
  Contract: must one piece be above another one?
-/
import Derived.Test.YtefcfpagbjflbaaDoorStackA
namespace Go.Proofs.YtefcfpagbjflbaaDoor
set_option linter.unusedSimpArgs false
set_option linter.unusedVariables false
open Go.ChangeShapes Go.WideShapes Go.ChangeAt Go.RowKit

set_option maxRecDepth 100000 in
set_option maxHeartbeats 800000 in
theorem mustBeAbove_any (g : Nat) (T B : List Int) (n na la ha nb lb hb : Nat) (w : World) (hG : ColBlk w g T B n n) (hn : n ≤ 24) (ha1 : la ≤ ha) (ha2 : ha < n) (hb1 : lb ≤ hb) (hb2 : hb < n) (hm1 : la ≤ hb) (hm2 : lb ≤ ha) :
    Calls Tryd.prog 118 #[.slice (some ⟨g, 0, none⟩) n n, .agg #[.int .i64 na, .int .i64 la, .int .i64 ha], .agg #[.int .i64 nb, .int .i64 lb, .int .i64 hb]] w
      fun e w' => e = .returned (.bool (colIn T B na nb (comF la lb) (comM la ha lb hb))) ∧ Below w.heap.size w w' := by
  obtain ⟨F, hF⟩ : ∃ F, comF la lb = F := ⟨_, rfl⟩
  obtain ⟨m, hM⟩ : ∃ m, comM la ha lb hb = m + 1 := ⟨comM la ha lb hb - 1, by unfold comM; omega⟩
  unfold comF at hF
  unfold comM at hM
  have hL : min ha hb = F + m := by omega
  have hmax : max (la : Int) (lb : Int) = F := by omega
  have hmin : min (ha : Int) (hb : Int) = (F : Int) + m := by omega
  have hFm : F + m < n := by omega
  have hFmI : (F : Int) + m < n := by omega
  have hFmI1 : (F : Int) + m + 1 ≤ n := by omega
  have hc := fun w1 (h : Below w.heap.size w w1) => colContains_any g T B n F (m + 1) (n - F) na nb w1 (hG.to h) (by omega) hn
  have hR : colIn T B na nb (comF la lb) (comM la ha lb hb) = colIn T B na nb F (m + 1) := by unfold comF comM; rw [hM, hF]
  have HR := Lib.hid hR
  have hne : ¬ n = F := by omega
  have hne2 : ¬ F = n := by omega
  have e1 : ((F : Int) + (m : Int) + 1).toNat = F + m + 1 := by omega
  have e3 : F + m + 1 - F = m + 1 := by omega
  have hwr : IntKind.i64.wrap ((F : Int) + (m : Int) + 1) = (F : Int) + (m : Int) + 1 := IntWalk.i64_in _ (by omega)
  have hp0 : (0 : Int) ≤ (F : Int) + (m : Int) + 1 := by omega
  have hp1 : F ≤ F + m + 1 := by omega
  clear hF hM hL hR
  go_enter Tryd.func118, Tryd.ntmps118
  go_wp2
  go_region_with (go_at_call 127; refine (hc _ (by (repeat (first | assumption | exact Below.refl _ _ | (refine bl_alloc ?_ _) | (refine Below.drew ?_) | (refine bl_drewN ?_ _) | (refine bl_set ?_ (by first | (simp; done) | omega | (simp; omega)) _) | (refine bl_trans ?_ (by assumption)) | (refine bl_step ?_ (by assumption) (by first | omega | exact Below.size (by assumption) | (simp; omega) | (simp; exact Below.size (by assumption)))))))).mono ?_; rintro e w1 ⟨rfl, hb1⟩)
  all_goals
    go_wp2
    go_ret
    exact ⟨retB (by rw [HR.out]), by (repeat (first | assumption | exact Below.refl _ _ | (refine bl_alloc ?_ _) | (refine Below.drew ?_) | (refine bl_drewN ?_ _) | (refine bl_set ?_ (by first | (simp; done) | omega | (simp; omega)) _) | (refine bl_trans ?_ (by assumption)) | (refine bl_step ?_ (by assumption) (by first | omega | exact Below.size (by assumption) | (simp; omega) | (simp; exact Below.size (by assumption))))))⟩
end Go.Proofs.YtefcfpagbjflbaaDoor
