/-
  Proved: for every two regions, the program's MeetRegions answers as the model's. No condition.
-/
import Derived.Test.YtkkeodceihjbgaaRegJ
namespace Go.Proofs.Ytkkeodceihjbgaa.fnExactMeetRegions
set_option linter.unusedSimpArgs false
set_option linter.unusedVariables false
open Go.ChangeShapes Go.WideShapes Go.ChangeAt Go.RowKit

set_option maxRecDepth 100000 in
set_option maxHeartbeats 1600000 in
theorem walk (a b c d a' b' c' d' : Int) (w : World) (_ : Fits a ∧ Fits b ∧ Fits c ∧ Fits d) (_ : Fits a' ∧ Fits b' ∧ Fits c' ∧ Fits d') :
    Calls Try.prog 6 #[.agg #[.int .i64 a, .int .i64 b, .int .i64 c, .int .i64 d], .agg #[.int .i64 a', .int .i64 b', .int .i64 c', .int .i64 d']] w fun e w' => e = .returned (.bool true) ∧ Below w.heap.size w w' := by
  obtain ⟨p, q, r, s, t, hv⟩ : ∃ p q r s t, meV a b c d a' b' c' d' = .tuple #[.agg #[.int .i64 p, .int .i64 q, .int .i64 r, .int .i64 s], .bool t] := by
    cases h : okMeet a b c d a' b' c' d'
    · exact ⟨_, _, _, _, _, rgRes_f h⟩
    · exact ⟨_, _, _, _, _, rgRes_t h⟩
  have cs := fun w1 => MeetRegionsS_any a b c d a' b' c' d' w1
  have ci := fun w1 => MeetRegionsI_any a b c d a' b' c' d' w1
  rw [hv] at cs ci
  have CS := Lib.hid cs
  have CI := Lib.hid ci
  clear hv cs ci
  go_enter Try.func6, Try.ntmps6
  go_wp2
  refine wp_region_alloc (i0 := 8) (m := 9) (ks := [(0, false), (1, false), (2, false), (3, false), (4, false), (5, true), (6, true), (7, true)]) (.alone 9 (.take 10 .done)) (by kernel_rfl) (by kernel_rfl) (by kernel_rfl) (fun _ d _ _ _ h => by cases d <;> exact h) rfl rfl (fun a w => by go_simp <;> rfl) ?_
  refine g_w (v := ?_) (by rfl) ?_ ?_
  rotate_left
  · intro wx hSx
    obtain ⟨hcx, hfx, hzx⟩ := bcell hSx
    go_simp
    try (with_reducible rfl)
  try simp only [Act.put, List.setIfInBounds_toArray, List.set_cons_zero, List.set_cons_succ]
  refine g_c (by rfl) (fun wx hSx => toRegion_any _ _ _ _ _) (fun wx hSx => by go_simp <;> (repeat' (first | rfl | apply And.intro))) ?_
  try simp only [Act.put, List.setIfInBounds_toArray, List.set_cons_zero, List.set_cons_succ]
  refine g_w (v := ?_) (by rfl) ?_ ?_
  rotate_left
  · intro wx hSx
    obtain ⟨hcx, hfx, hzx⟩ := bcell hSx
    go_simp
    try (with_reducible rfl)
  try simp only [Act.put, List.setIfInBounds_toArray, List.set_cons_zero, List.set_cons_succ]
  refine g_c (by rfl) (fun wx hSx => toRegion_any _ _ _ _ _) (fun wx hSx => by go_simp <;> (repeat' (first | rfl | apply And.intro))) ?_
  try simp only [Act.put, List.setIfInBounds_toArray, List.set_cons_zero, List.set_cons_succ]
  refine g_c (by rfl) (fun wx hSx => CS.out _) (fun wx hSx => by go_simp <;> (repeat' (first | rfl | apply And.intro))) ?_
  try simp only [Act.put, List.setIfInBounds_toArray, List.set_cons_zero, List.set_cons_succ]
  refine g_p (v := ?_) (by rfl) ?_ ?_
  rotate_left
  · intro wx
    go_simp
    try (with_reducible rfl)
  try simp only [Act.put, List.setIfInBounds_toArray, List.set_cons_zero, List.set_cons_succ]
  refine g_p (v := ?_) (by rfl) ?_ ?_
  rotate_left
  · intro wx
    go_simp
    try (with_reducible rfl)
  try simp only [Act.put, List.setIfInBounds_toArray, List.set_cons_zero, List.set_cons_succ]
  refine g_p (v := ?_) (by rfl) ?_ ?_
  rotate_left
  · intro wx
    go_simp
    try (with_reducible rfl)
  try simp only [Act.put, List.setIfInBounds_toArray, List.set_cons_zero, List.set_cons_succ]
  refine g_nil (fun G w1 hb1 hG hNG => ?_)
  obtain ⟨hc1, hf1, hz1⟩ := bcell hb1
  try simp only [Act.put, List.setIfInBounds_toArray, List.set_cons_zero, List.set_cons_succ]
  have g0 := hG.cell 0 rfl
  have g1 := hG.cell 1 rfl
  have g2 := hG.cell 2 rfl
  have g3 := hG.cell 3 rfl
  have gf := hG.frozen
  refine tplan_b rfl (fun K hK => ?_)
  go_simp
  refine hK _ _ ⟨trivial, ?_⟩
  clear hK K
  try simp only [Act.put, List.setIfInBounds_toArray, List.set_cons_zero, List.set_cons_succ]
  refine tplan_w (v := ?_) rfl (by rfl) ?_ ?_
  rotate_left
  · intro wx hSx
    try dsimp only at hSx
    go_simp
    try (with_reducible rfl)
  try simp only [Act.put, List.setIfInBounds_toArray, List.set_cons_zero, List.set_cons_succ]
  refine tplan_endQ ?_
  have hGv : Blk ((((w1.setCell ⟨G, 0, none⟩ (.int .i64 p)).setCell ⟨G, 1, none⟩ (.int .i64 q)).setCell ⟨G, 2, none⟩ (.int .i64 r)).setCell ⟨G, 3, none⟩ (.int .i64 s)) G #[.int .i64 p, .int .i64 q, .int .i64 r, .int .i64 s] 25 := (((hG.set 0 (.int .i64 p)).set 1 (.int .i64 q)).set 2 (.int .i64 r)).set 3 (.int .i64 s)
  have hbv := (((hb1.setCell (p := ⟨G, 0, none⟩) hNG (.int .i64 p)).setCell (p := ⟨G, 1, none⟩) hNG (.int .i64 q)).setCell (p := ⟨G, 2, none⟩) hNG (.int .i64 r)).setCell (p := ⟨G, 3, none⟩) hNG (.int .i64 s)
  generalize (((w1.setCell ⟨G, 0, none⟩ (.int .i64 p)).setCell ⟨G, 1, none⟩ (.int .i64 q)).setCell ⟨G, 2, none⟩ (.int .i64 r)).setCell ⟨G, 3, none⟩ (.int .i64 s) = wv at *
  clear hG g0 g1 g2 g3 gf hc1 hf1 hz1 hb1
  obtain ⟨hcv, hfv, hzv⟩ := bcell hbv
  have hzv' : w.heap.size + 1 < wv.heap.size := by (first | (simp at hzv; omega) | omega)
  have hzv'' : w.heap.size < wv.heap.size := by omega
  go_wp2
  refine wp_region_alloc (i0 := 8) (m := 9) (ks := [(0, false), (1, false), (2, false), (3, false), (4, false), (5, true), (6, true), (7, true)]) (.alone 9 (.take 10 .done)) (by kernel_rfl) (by kernel_rfl) (by kernel_rfl) (fun _ d _ _ _ h => by cases d <;> exact h) rfl rfl (fun a w => by go_simp <;> rfl) ?_
  refine g_w (v := ?_) (by rfl) ?_ ?_
  rotate_left
  · intro wx hSx
    obtain ⟨hcx, hfx, hzx⟩ := bcell hSx
    go_simp
    try (with_reducible rfl)
  try simp only [Act.put, List.setIfInBounds_toArray, List.set_cons_zero, List.set_cons_succ]
  refine g_c (by rfl) (fun wx hSx => toRegion_any _ _ _ _ _) (fun wx hSx => by go_simp <;> (repeat' (first | rfl | apply And.intro))) ?_
  try simp only [Act.put, List.setIfInBounds_toArray, List.set_cons_zero, List.set_cons_succ]
  refine g_w (v := ?_) (by rfl) ?_ ?_
  rotate_left
  · intro wx hSx
    obtain ⟨hcx, hfx, hzx⟩ := bcell hSx
    go_simp
    try (with_reducible rfl)
  try simp only [Act.put, List.setIfInBounds_toArray, List.set_cons_zero, List.set_cons_succ]
  refine g_c (by rfl) (fun wx hSx => toRegion_any _ _ _ _ _) (fun wx hSx => by go_simp <;> (repeat' (first | rfl | apply And.intro))) ?_
  try simp only [Act.put, List.setIfInBounds_toArray, List.set_cons_zero, List.set_cons_succ]
  refine g_c (by rfl) (fun wx hSx => CI.out _) (fun wx hSx => by go_simp <;> (repeat' (first | rfl | apply And.intro))) ?_
  try simp only [Act.put, List.setIfInBounds_toArray, List.set_cons_zero, List.set_cons_succ]
  refine g_p (v := ?_) (by rfl) ?_ ?_
  rotate_left
  · intro wx
    go_simp
    try (with_reducible rfl)
  try simp only [Act.put, List.setIfInBounds_toArray, List.set_cons_zero, List.set_cons_succ]
  refine g_p (v := ?_) (by rfl) ?_ ?_
  rotate_left
  · intro wx
    go_simp
    try (with_reducible rfl)
  try simp only [Act.put, List.setIfInBounds_toArray, List.set_cons_zero, List.set_cons_succ]
  refine g_p (v := ?_) (by rfl) ?_ ?_
  rotate_left
  · intro wx
    go_simp
    try (with_reducible rfl)
  try simp only [Act.put, List.setIfInBounds_toArray, List.set_cons_zero, List.set_cons_succ]
  refine g_nil (fun G2 w2 hb2 hG2 hNG2 => ?_)
  obtain ⟨hc2, hf2, hz2⟩ := bcell hb2
  try simp only [Act.put, List.setIfInBounds_toArray, List.set_cons_zero, List.set_cons_succ]
  have g0 := hG2.cell 0 rfl
  have g1 := hG2.cell 1 rfl
  have g2 := hG2.cell 2 rfl
  have g3 := hG2.cell 3 rfl
  have gf := hG2.frozen
  refine tplan_b rfl (fun K hK => ?_)
  go_simp
  refine hK _ _ ⟨trivial, ?_⟩
  clear hK K
  try simp only [Act.put, List.setIfInBounds_toArray, List.set_cons_zero, List.set_cons_succ]
  refine tplan_w (v := ?_) rfl (by rfl) ?_ ?_
  rotate_left
  · intro wx hSx
    try dsimp only at hSx
    go_simp
    try (with_reducible rfl)
  try simp only [Act.put, List.setIfInBounds_toArray, List.set_cons_zero, List.set_cons_succ]
  refine tplan_endQ ?_
  have hGu : Blk ((((w2.setCell ⟨G2, 0, none⟩ (.int .i64 p)).setCell ⟨G2, 1, none⟩ (.int .i64 q)).setCell ⟨G2, 2, none⟩ (.int .i64 r)).setCell ⟨G2, 3, none⟩ (.int .i64 s)) G2 #[.int .i64 p, .int .i64 q, .int .i64 r, .int .i64 s] 25 := (((hG2.set 0 (.int .i64 p)).set 1 (.int .i64 q)).set 2 (.int .i64 r)).set 3 (.int .i64 s)
  have hbu := (((hb2.setCell (p := ⟨G2, 0, none⟩) hNG2 (.int .i64 p)).setCell (p := ⟨G2, 1, none⟩) hNG2 (.int .i64 q)).setCell (p := ⟨G2, 2, none⟩) hNG2 (.int .i64 r)).setCell (p := ⟨G2, 3, none⟩) hNG2 (.int .i64 s)
  generalize (((w2.setCell ⟨G2, 0, none⟩ (.int .i64 p)).setCell ⟨G2, 1, none⟩ (.int .i64 q)).setCell ⟨G2, 2, none⟩ (.int .i64 r)).setCell ⟨G2, 3, none⟩ (.int .i64 s) = wu at *
  clear hG2 g0 g1 g2 g3 gf hc2 hf2 hz2 hb2 hcv hfv
  have hGw := hGv.to hbu
  have k0 := hGw.cell 0 rfl
  have k1 := hGw.cell 1 rfl
  have k2 := hGw.cell 2 rfl
  have k3 := hGw.cell 3 rfl
  have l0 := hGu.cell 0 rfl
  have l1 := hGu.cell 1 rfl
  have l2 := hGu.cell 2 rfl
  have l3 := hGu.cell 3 rfl
  go_wp2_with fail
  refine (eqRegion_same _ _ _ _ _).mono ?_
  rintro e w5 ⟨rfl, hb5⟩
  go_wp2
  go_ret
  exact ⟨rfl, by (repeat (first | assumption | exact Below.refl _ _ | (refine bl_alloc ?_ _) | (refine Below.drew ?_) | (refine bl_drewN ?_ _) | (refine bl_set ?_ (by first | (simp; done) | omega | (simp; omega)) _) | (refine bl_trans ?_ (by assumption)) | (refine bl_step ?_ (by assumption) (by first | omega | exact Below.size (by assumption) | (simp; omega) | (simp; exact Below.size (by assumption))))))⟩
end Go.Proofs.Ytkkeodceihjbgaa.fnExactMeetRegions
