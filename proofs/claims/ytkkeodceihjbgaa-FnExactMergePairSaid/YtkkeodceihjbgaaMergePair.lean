/-
  Proved: for every two merges, the program's MergePair answers as the model's. No condition.
-/
import Derived.Test.YtkkeodceihjbgaaMergeQ
import Derived.Test.YtkkeodceihjbgaaMergeR
namespace Go.Proofs.Ytkkeodceihjbgaa.fnExactMergePair
set_option linter.unusedSimpArgs false
set_option linter.unusedVariables false
open Go.ChangeShapes Go.WideShapes Go.ChangeAt Go.RowKit

theorem mp_any (M N : Mg) : ∃ (P : Mg) (x y : Int) (t : Bool), mpV M N = .tuple #[.agg #[.int .i64 P.a, .int .i64 P.b, .int .i64 P.c, .int .i64 P.d, .int .i64 P.e], .int .i64 x, .int .i64 y, .bool t] := by
  cases h : okPair2 M N
  · exact ⟨⟨0, 0, 0, 0, 0⟩, _, _, _, mpV_f h⟩
  · exact ⟨outM M N, _, _, _, mpV_t h⟩
set_option maxRecDepth 100000 in
set_option maxHeartbeats 3200000 in
theorem walkM (M N : Mg) (w : World) :
    Calls Try.prog 8 #[.agg #[.int .i64 M.a, .int .i64 M.b, .int .i64 M.c, .int .i64 M.d, .int .i64 M.e], .agg #[.int .i64 N.a, .int .i64 N.b, .int .i64 N.c, .int .i64 N.d, .int .i64 N.e]] w fun e w' => e = .returned (.bool true) ∧ Below w.heap.size w w' := by
  obtain ⟨P, x, y, t, hv⟩ := mp_any M N
  have cs := fun w1 => MergePairS_any M N w1
  have ci := fun w1 => MergePairI_any M N w1
  rw [hv] at cs ci
  have CS := Lib.hid cs
  have CI := Lib.hid ci
  clear hv cs ci
  go_enter Try.func8, Try.ntmps8
  go_wp2
  refine wp_region_alloc (i0 := 10) (m := 11) (ks := [(0, false), (1, false), (2, false), (3, false), (4, false), (5, true), (6, true), (7, true), (8, true), (9, true)]) (.alone 11 (Pl.takes [12, 13, 14] .done)) (by kernel_rfl) (by kernel_rfl) (by kernel_rfl) (fun _ d _ _ _ h => by cases d <;> exact h) rfl rfl (fun a w => by go_simp <;> rfl) ?_
  refine g_w (v := ?_) (by rfl) ?_ ?_
  rotate_left
  · intro wx hSx
    obtain ⟨hcx, hfx, hzx⟩ := bcell hSx
    go_simp
    try (with_reducible rfl)
  try simp only [Act.put, List.setIfInBounds_toArray, List.set_cons_zero, List.set_cons_succ]
  refine g_c (by rfl) (fun wx hSx => toMerge_any M _) (fun wx hSx => by go_simp <;> (repeat' (first | rfl | apply And.intro))) ?_
  try simp only [Act.put, List.setIfInBounds_toArray, List.set_cons_zero, List.set_cons_succ]
  refine g_w (v := ?_) (by rfl) ?_ ?_
  rotate_left
  · intro wx hSx
    obtain ⟨hcx, hfx, hzx⟩ := bcell hSx
    go_simp
    try (with_reducible rfl)
  try simp only [Act.put, List.setIfInBounds_toArray, List.set_cons_zero, List.set_cons_succ]
  refine g_c (by rfl) (fun wx hSx => toMerge_any N _) (fun wx hSx => by go_simp <;> (repeat' (first | rfl | apply And.intro))) ?_
  try simp only [Act.put, List.setIfInBounds_toArray, List.set_cons_zero, List.set_cons_succ]
  refine g_c (by rfl) (fun wx hSx => CS.out _) (fun wx hSx => by go_simp <;> (repeat' (first | rfl | apply And.intro))) ?_
  try simp only [Act.put, List.setIfInBounds_toArray, List.set_cons_zero, List.set_cons_succ]
  refine g_p (v := ?_) (by rfl) ?_ ?_
  rotate_left
  · intro wx
    go_simp
    try (with_reducible rfl)
  try simp only [Act.put, List.setIfInBounds_toArray, List.set_cons_zero, List.set_cons_succ]
  refine g_p (v := ?_) (by rfl) ?_ ?_
  rotate_left
  · intro wx
    go_simp
    try (with_reducible rfl)
  try simp only [Act.put, List.setIfInBounds_toArray, List.set_cons_zero, List.set_cons_succ]
  refine g_p (v := ?_) (by rfl) ?_ ?_
  rotate_left
  · intro wx
    go_simp
    try (with_reducible rfl)
  try simp only [Act.put, List.setIfInBounds_toArray, List.set_cons_zero, List.set_cons_succ]
  refine g_p (v := ?_) (by rfl) ?_ ?_
  rotate_left
  · intro wx
    go_simp
    try (with_reducible rfl)
  try simp only [Act.put, List.setIfInBounds_toArray, List.set_cons_zero, List.set_cons_succ]
  refine g_p (v := ?_) (by rfl) ?_ ?_
  rotate_left
  · intro wx
    go_simp
    try (with_reducible rfl)
  try simp only [Act.put, List.setIfInBounds_toArray, List.set_cons_zero, List.set_cons_succ]
  refine g_nil (fun G w1 hb1 hG hNG => ?_)
  try simp only [Act.put, List.setIfInBounds_toArray, List.set_cons_zero, List.set_cons_succ]
  have g0 := hG.cell 0 rfl
  have g1 := hG.cell 1 rfl
  have g2 := hG.cell 2 rfl
  have g3 := hG.cell 3 rfl
  have g4 := hG.cell 4 rfl
  have gf := hG.frozen
  refine tplan_b rfl (fun K hK => ?_)
  go_simp
  refine hK _ _ ⟨trivial, ?_⟩
  clear hK K
  try simp only [Act.put, List.setIfInBounds_toArray, List.set_cons_zero, List.set_cons_succ]
  refine tplan_w (v := ?_) rfl (by rfl) ?_ ?_
  rotate_left
  · intro wx hSx
    try dsimp only at hSx
    go_simp
    try (with_reducible rfl)
  try simp only [Act.put, List.setIfInBounds_toArray, List.set_cons_zero, List.set_cons_succ]
  refine tplan_w (v := ?_) rfl (by rfl) ?_ ?_
  rotate_left
  · intro wx hSx
    try dsimp only at hSx
    go_simp
    try (with_reducible rfl)
  try simp only [Act.put, List.setIfInBounds_toArray, List.set_cons_zero, List.set_cons_succ]
  refine tplan_w (v := ?_) rfl (by rfl) ?_ ?_
  rotate_left
  · intro wx hSx
    try dsimp only at hSx
    go_simp
    try (with_reducible rfl)
  try simp only [Act.put, List.setIfInBounds_toArray, List.set_cons_zero, List.set_cons_succ]
  refine tplan_endQ ?_
  have hGv : Blk (((((w1.setCell ⟨G, 0, none⟩ (.int .i64 P.a)).setCell ⟨G, 1, none⟩ (.int .i64 P.b)).setCell ⟨G, 2, none⟩ (.int .i64 P.c)).setCell ⟨G, 3, none⟩ (.int .i64 P.d)).setCell ⟨G, 4, none⟩ (.int .i64 P.e)) G #[.int .i64 P.a, .int .i64 P.b, .int .i64 P.c, .int .i64 P.d, .int .i64 P.e] 45 := (((((hG.set 0 (.int .i64 P.a)).set 1 (.int .i64 P.b)).set 2 (.int .i64 P.c)).set 3 (.int .i64 P.d)).set 4 (.int .i64 P.e))
  have hbv := (((((hb1.setCell (p := ⟨G, 0, none⟩) hNG (.int .i64 P.a)).setCell (p := ⟨G, 1, none⟩) hNG (.int .i64 P.b)).setCell (p := ⟨G, 2, none⟩) hNG (.int .i64 P.c)).setCell (p := ⟨G, 3, none⟩) hNG (.int .i64 P.d)).setCell (p := ⟨G, 4, none⟩) hNG (.int .i64 P.e))
  generalize (((((w1.setCell ⟨G, 0, none⟩ (.int .i64 P.a)).setCell ⟨G, 1, none⟩ (.int .i64 P.b)).setCell ⟨G, 2, none⟩ (.int .i64 P.c)).setCell ⟨G, 3, none⟩ (.int .i64 P.d)).setCell ⟨G, 4, none⟩ (.int .i64 P.e)) = wv at *
  clear hG g0 g1 g2 g3 g4 gf hb1
  obtain ⟨hcv, hfv, hzv⟩ := bcell hbv
  have hzv' : w.heap.size + 1 < wv.heap.size := by (first | (simp at hzv; omega) | omega)
  have hzv'' : w.heap.size < wv.heap.size := by omega
  go_wp2
  refine wp_region_alloc (i0 := 10) (m := 11) (ks := [(0, false), (1, false), (2, false), (3, false), (4, false), (5, true), (6, true), (7, true), (8, true), (9, true)]) (.alone 11 (Pl.takes [12, 13, 14] .done)) (by kernel_rfl) (by kernel_rfl) (by kernel_rfl) (fun _ d _ _ _ h => by cases d <;> exact h) rfl rfl (fun a w => by go_simp <;> rfl) ?_
  refine g_w (v := ?_) (by rfl) ?_ ?_
  rotate_left
  · intro wx hSx
    obtain ⟨hcx, hfx, hzx⟩ := bcell hSx
    go_simp
    try (with_reducible rfl)
  try simp only [Act.put, List.setIfInBounds_toArray, List.set_cons_zero, List.set_cons_succ]
  refine g_c (by rfl) (fun wx hSx => toMerge_any M _) (fun wx hSx => by go_simp <;> (repeat' (first | rfl | apply And.intro))) ?_
  try simp only [Act.put, List.setIfInBounds_toArray, List.set_cons_zero, List.set_cons_succ]
  refine g_w (v := ?_) (by rfl) ?_ ?_
  rotate_left
  · intro wx hSx
    obtain ⟨hcx, hfx, hzx⟩ := bcell hSx
    go_simp
    try (with_reducible rfl)
  try simp only [Act.put, List.setIfInBounds_toArray, List.set_cons_zero, List.set_cons_succ]
  refine g_c (by rfl) (fun wx hSx => toMerge_any N _) (fun wx hSx => by go_simp <;> (repeat' (first | rfl | apply And.intro))) ?_
  try simp only [Act.put, List.setIfInBounds_toArray, List.set_cons_zero, List.set_cons_succ]
  refine g_c (by rfl) (fun wx hSx => CI.out _) (fun wx hSx => by go_simp <;> (repeat' (first | rfl | apply And.intro))) ?_
  try simp only [Act.put, List.setIfInBounds_toArray, List.set_cons_zero, List.set_cons_succ]
  refine g_p (v := ?_) (by rfl) ?_ ?_
  rotate_left
  · intro wx
    go_simp
    try (with_reducible rfl)
  try simp only [Act.put, List.setIfInBounds_toArray, List.set_cons_zero, List.set_cons_succ]
  refine g_p (v := ?_) (by rfl) ?_ ?_
  rotate_left
  · intro wx
    go_simp
    try (with_reducible rfl)
  try simp only [Act.put, List.setIfInBounds_toArray, List.set_cons_zero, List.set_cons_succ]
  refine g_p (v := ?_) (by rfl) ?_ ?_
  rotate_left
  · intro wx
    go_simp
    try (with_reducible rfl)
  try simp only [Act.put, List.setIfInBounds_toArray, List.set_cons_zero, List.set_cons_succ]
  refine g_p (v := ?_) (by rfl) ?_ ?_
  rotate_left
  · intro wx
    go_simp
    try (with_reducible rfl)
  try simp only [Act.put, List.setIfInBounds_toArray, List.set_cons_zero, List.set_cons_succ]
  refine g_p (v := ?_) (by rfl) ?_ ?_
  rotate_left
  · intro wx
    go_simp
    try (with_reducible rfl)
  try simp only [Act.put, List.setIfInBounds_toArray, List.set_cons_zero, List.set_cons_succ]
  refine g_nil (fun G2 w2 hb2 hG2 hNG2 => ?_)
  try simp only [Act.put, List.setIfInBounds_toArray, List.set_cons_zero, List.set_cons_succ]
  have g0 := hG2.cell 0 rfl
  have g1 := hG2.cell 1 rfl
  have g2 := hG2.cell 2 rfl
  have g3 := hG2.cell 3 rfl
  have g4 := hG2.cell 4 rfl
  have gf := hG2.frozen
  refine tplan_b rfl (fun K hK => ?_)
  go_simp
  refine hK _ _ ⟨trivial, ?_⟩
  clear hK K
  try simp only [Act.put, List.setIfInBounds_toArray, List.set_cons_zero, List.set_cons_succ]
  refine tplan_w (v := ?_) rfl (by rfl) ?_ ?_
  rotate_left
  · intro wx hSx
    try dsimp only at hSx
    go_simp
    try (with_reducible rfl)
  try simp only [Act.put, List.setIfInBounds_toArray, List.set_cons_zero, List.set_cons_succ]
  refine tplan_w (v := ?_) rfl (by rfl) ?_ ?_
  rotate_left
  · intro wx hSx
    try dsimp only at hSx
    go_simp
    try (with_reducible rfl)
  try simp only [Act.put, List.setIfInBounds_toArray, List.set_cons_zero, List.set_cons_succ]
  refine tplan_w (v := ?_) rfl (by rfl) ?_ ?_
  rotate_left
  · intro wx hSx
    try dsimp only at hSx
    go_simp
    try (with_reducible rfl)
  try simp only [Act.put, List.setIfInBounds_toArray, List.set_cons_zero, List.set_cons_succ]
  refine tplan_endQ ?_
  have hGu : Blk (((((w2.setCell ⟨G2, 0, none⟩ (.int .i64 P.a)).setCell ⟨G2, 1, none⟩ (.int .i64 P.b)).setCell ⟨G2, 2, none⟩ (.int .i64 P.c)).setCell ⟨G2, 3, none⟩ (.int .i64 P.d)).setCell ⟨G2, 4, none⟩ (.int .i64 P.e)) G2 #[.int .i64 P.a, .int .i64 P.b, .int .i64 P.c, .int .i64 P.d, .int .i64 P.e] 45 := (((((hG2.set 0 (.int .i64 P.a)).set 1 (.int .i64 P.b)).set 2 (.int .i64 P.c)).set 3 (.int .i64 P.d)).set 4 (.int .i64 P.e))
  have hbu := (((((hb2.setCell (p := ⟨G2, 0, none⟩) hNG2 (.int .i64 P.a)).setCell (p := ⟨G2, 1, none⟩) hNG2 (.int .i64 P.b)).setCell (p := ⟨G2, 2, none⟩) hNG2 (.int .i64 P.c)).setCell (p := ⟨G2, 3, none⟩) hNG2 (.int .i64 P.d)).setCell (p := ⟨G2, 4, none⟩) hNG2 (.int .i64 P.e))
  generalize (((((w2.setCell ⟨G2, 0, none⟩ (.int .i64 P.a)).setCell ⟨G2, 1, none⟩ (.int .i64 P.b)).setCell ⟨G2, 2, none⟩ (.int .i64 P.c)).setCell ⟨G2, 3, none⟩ (.int .i64 P.d)).setCell ⟨G2, 4, none⟩ (.int .i64 P.e)) = wu at *
  clear hG2 g0 g1 g2 g3 g4 gf hb2
  clear hcv hfv
  have hGw := hGv.to hbu
  have k0 := hGw.cell 0 rfl
  have k1 := hGw.cell 1 rfl
  have k2 := hGw.cell 2 rfl
  have k3 := hGw.cell 3 rfl
  have k4 := hGw.cell 4 rfl
  have l0 := hGu.cell 0 rfl
  have l1 := hGu.cell 1 rfl
  have l2 := hGu.cell 2 rfl
  have l3 := hGu.cell 3 rfl
  have l4 := hGu.cell 4 rfl
  go_wp2_with fail
  refine (eqMerge_same P _).mono ?_
  rintro e w5 ⟨rfl, hb5⟩
  go_wp2
  go_ret
  exact ⟨rfl, bl_trans (bl_trans (bl_trans (by (repeat (first | assumption | exact Below.refl _ _ | (refine bl_alloc ?_ _) | (refine Below.drew ?_) | (refine bl_drewN ?_ _) | (refine bl_set ?_ (by first | (simp; done) | omega | (simp; omega)) _) | (refine bl_trans ?_ (by assumption)) | (refine bl_step ?_ (by assumption) (by first | omega | exact Below.size (by assumption) | (simp; omega) | (simp; exact Below.size (by assumption))))))) hbv) hbu) hb5⟩
theorem walk (a b c d f a' b' c' d' f' : Int) (w : World) (_ : Fits a ∧ Fits b ∧ Fits c ∧ Fits d ∧ Fits f) (_ : Fits a' ∧ Fits b' ∧ Fits c' ∧ Fits d' ∧ Fits f') :
    Calls Try.prog 8 #[.agg #[.int .i64 a, .int .i64 b, .int .i64 c, .int .i64 d, .int .i64 f], .agg #[.int .i64 a', .int .i64 b', .int .i64 c', .int .i64 d', .int .i64 f']] w fun e w' => e = .returned (.bool true) ∧ Below w.heap.size w w' :=
  walkM ⟨a, b, c, d, f⟩ ⟨a', b', c', d', f'⟩ w
end Go.Proofs.Ytkkeodceihjbgaa.fnExactMergePair
