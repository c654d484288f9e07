/-
  Contracts: merges as the model has them, and as the laws hand them on.
-/
import Derived.Test.YtkkeodceihjbgaaMergeI
namespace Go.Proofs.Ytkkeodceihjbgaa
set_option linter.unusedSimpArgs false
set_option linter.unusedVariables false
open Go.ChangeShapes Go.WideShapes Go.ChangeAt Go.RowKit

set_option maxRecDepth 100000 in
set_option maxHeartbeats 1600000 in
theorem l06Valid_any (M : Mg) (w : World) :
    Calls Try.prog 54 #[.agg #[.int .i64 M.a, .int .i64 M.b, .int .i64 M.c, .int .i64 M.d, .int .i64 M.e]] w fun e w' => e = .returned (.bool M.ok) ∧ Below w.heap.size w w' := by
  cases h1 : isRg M.a M.b M.c M.d
  · have H1 := Lib.hid h1
    have K : Hid (M.ok = false) := Lib.hid (show M.ok = false by simp [Mg.ok, Mg.rg, h1])
    clear h1
    go_enter Try.func54, Try.ntmps54
    go_wp2_with fail
    refine (l06Is_any _ _ _ _ _).mono ?_
    rintro e w1 ⟨rfl, hb1⟩
    rw [H1.out]
    go_wp2
    go_ret
    exact ⟨retB K.out.symm, bl_trans (by (repeat (first | assumption | exact Below.refl _ _ | (refine bl_alloc ?_ _) | (refine Below.drew ?_) | (refine bl_drewN ?_ _) | (refine bl_set ?_ (by first | (simp; done) | omega | (simp; omega)) _) | (refine bl_trans ?_ (by assumption)) | (refine bl_step ?_ (by assumption) (by first | omega | exact Below.size (by assumption) | (simp; omega) | (simp; exact Below.size (by assumption))))))) hb1⟩
  · have H1 := Lib.hid h1
    have K : Hid (M.ok = inB M.e 0 1000000000) := Lib.hid (show M.ok = inB M.e 0 1000000000 by simp [Mg.ok, Mg.rg, h1])
    clear h1
    go_enter Try.func54, Try.ntmps54
    go_wp2_with fail
    refine (l06Is_any _ _ _ _ _).mono ?_
    rintro e w1 ⟨rfl, hb1⟩
    rw [H1.out]
    obtain ⟨hc1, hf1, hz1⟩ := bcell hb1
    have hz1' : w.heap.size < w1.heap.size := by (first | (simp at hz1; omega) | omega)
    go_wp2_with fail
    refine (l00In_any _ _ _ _).mono ?_
    rintro e w2 ⟨rfl, rfl⟩
    go_wp2
    go_ret
    exact ⟨retB K.out.symm, bl_trans (by (repeat (first | assumption | exact Below.refl _ _ | (refine bl_alloc ?_ _) | (refine Below.drew ?_) | (refine bl_drewN ?_ _) | (refine bl_set ?_ (by first | (simp; done) | omega | (simp; omega)) _) | (refine bl_trans ?_ (by assumption)) | (refine bl_step ?_ (by assumption) (by first | omega | exact Below.size (by assumption) | (simp; omega) | (simp; exact Below.size (by assumption))))))) hb1⟩
set_option maxRecDepth 100000 in
set_option maxHeartbeats 1600000 in
theorem toMerge_any (M : Mg) (w : World) :
    Calls Try.prog 24 #[.agg #[.int .i64 M.a, .int .i64 M.b, .int .i64 M.c, .int .i64 M.d, .int .i64 M.e]] w fun e w' => e = .returned (.agg #[.int .i64 M.a, .int .i64 M.b, .int .i64 M.c, .int .i64 M.d, .int .i64 M.e]) ∧ Below w.heap.size w w' := by
  go_enter Try.func24, Try.ntmps24
  go_wp2_with fail
  refine (toRegion_any _ _ _ _ _).mono ?_
  rintro e w1 ⟨rfl, hb1⟩
  obtain ⟨hc1, hf1, hz1⟩ := bcell hb1
  have hz1' : w.heap.size + 2 < w1.heap.size := by (first | (simp at hz1; omega) | omega)
  have hz1'' : w.heap.size + 1 < w1.heap.size := by omega
  have hz1w : w.heap.size < w1.heap.size := by omega
  go_wp2
  have bZ : Below w.heap.size w w1 := bl_trans (by (repeat (first | assumption | exact Below.refl _ _ | (refine bl_alloc ?_ _) | (refine Below.drew ?_) | (refine bl_drewN ?_ _) | (refine bl_set ?_ (by first | (simp; done) | omega | (simp; omega)) _) | (refine bl_trans ?_ (by assumption)) | (refine bl_step ?_ (by assumption) (by first | omega | exact Below.size (by assumption) | (simp; omega) | (simp; exact Below.size (by assumption))))))) hb1
  have bY := ((((((((((bZ.setCell (p := ⟨w.heap.size + 1 + 1, 0, none⟩) (by show w.heap.size ≤ w.heap.size + 1 + 1; omega) (.int .i64 M.a)).setCell (p := ⟨w.heap.size + 1 + 1, 1, none⟩) (by show w.heap.size ≤ w.heap.size + 1 + 1; omega) (.int .i64 M.b)).setCell (p := ⟨w.heap.size + 1 + 1, 2, none⟩) (by show w.heap.size ≤ w.heap.size + 1 + 1; omega) (.int .i64 M.c)).setCell (p := ⟨w.heap.size + 1 + 1, 3, none⟩) (by show w.heap.size ≤ w.heap.size + 1 + 1; omega) (.int .i64 M.d)).setCell (p := ⟨w.heap.size + 1 + 1, 4, none⟩) (by show w.heap.size ≤ w.heap.size + 1 + 1; omega) (.int .i64 M.e)).setCell (p := ⟨w.heap.size + 1, 0, none⟩) (by show w.heap.size ≤ w.heap.size + 1; omega) (.int .i64 M.a)).setCell (p := ⟨w.heap.size + 1, 1, none⟩) (by show w.heap.size ≤ w.heap.size + 1; omega) (.int .i64 M.b)).setCell (p := ⟨w.heap.size + 1, 2, none⟩) (by show w.heap.size ≤ w.heap.size + 1; omega) (.int .i64 M.c)).setCell (p := ⟨w.heap.size + 1, 3, none⟩) (by show w.heap.size ≤ w.heap.size + 1; omega) (.int .i64 M.d)).setCell (p := ⟨w.heap.size + 1, 4, none⟩) (by show w.heap.size ≤ w.heap.size + 1; omega) (.int .i64 M.e))
  exact bodyPost_ret (v := .agg #[.int .i64 M.a, .int .i64 M.b, .int .i64 M.c, .int .i64 M.d, .int .i64 M.e]) (by simp [results, Try.results24, hc1, hz1, hz1', hz1'', hz1w, go_sem]) rfl ⟨rfl, bY⟩
set_option maxRecDepth 100000 in
set_option maxHeartbeats 1600000 in
theorem eqMerge_same (M : Mg) (w : World) :
    Calls Try.prog 26 #[.agg #[.int .i64 M.a, .int .i64 M.b, .int .i64 M.c, .int .i64 M.d, .int .i64 M.e], .agg #[.int .i64 M.a, .int .i64 M.b, .int .i64 M.c, .int .i64 M.d, .int .i64 M.e]] w fun e w' => e = .returned (.bool true) ∧ Below w.heap.size w w' := by
  go_enter Try.func26, Try.ntmps26
  go_wp2_with fail
  refine (eqRegion_same _ _ _ _ _).mono ?_
  rintro e w1 ⟨rfl, hb1⟩
  obtain ⟨hc1, hf1, hz1⟩ := bcell hb1
  have hz1' : w.heap.size + 1 < w1.heap.size := by (first | (simp at hz1; omega) | omega)
  have hz1'' : w.heap.size < w1.heap.size := by omega
  go_wp2
  go_ret
  exact ⟨rfl, bl_trans (by (repeat (first | assumption | exact Below.refl _ _ | (refine bl_alloc ?_ _) | (refine Below.drew ?_) | (refine bl_drewN ?_ _) | (refine bl_set ?_ (by first | (simp; done) | omega | (simp; omega)) _) | (refine bl_trans ?_ (by assumption)) | (refine bl_step ?_ (by assumption) (by first | omega | exact Below.size (by assumption) | (simp; omega) | (simp; exact Below.size (by assumption))))))) hb1⟩
set_option maxRecDepth 100000 in
set_option maxHeartbeats 3200000 in
theorem l06Pair_any (M N : Mg) (w : World) (hM : M.ok = true) (hN : N.ok = true) :
    Calls Try.prog 55 #[.agg #[.int .i64 M.a, .int .i64 M.b, .int .i64 M.c, .int .i64 M.d, .int .i64 M.e], .agg #[.int .i64 N.a, .int .i64 N.b, .int .i64 N.c, .int .i64 N.d, .int .i64 N.e]] w fun e w' => e = .returned (.tuple #[.agg #[.int .i64 (outM M N).a, .int .i64 (outM M N).b, .int .i64 (outM M N).c, .int .i64 (outM M N).d, .int .i64 (outM M N).e], .int .i64 (wA M N), .int .i64 (wB M N)]) ∧ Below w.heap.size w w' := by
  obtain ⟨k1, k2, k3⟩ := Mg.ok_iff.1 hM
  obtain ⟨l1, l2, l3⟩ := Mg.ok_iff.1 hN
  obtain ⟨f0, f1⟩ := farM_in k1 l1
  obtain ⟨ma, mb, mc, md⟩ := Mg.mid k1
  obtain ⟨na, nb, nc, nd⟩ := Mg.mid l1
  obtain ⟨hx, hy⟩ := w_in hM hN
  have mx := mid_w hx
  have my := mid_w hy
  have cf : ∀ w, Calls Try.prog 50 #[.agg #[.int .i64 M.a, .int .i64 M.b, .int .i64 M.c, .int .i64 M.d], .agg #[.int .i64 N.a, .int .i64 N.b, .int .i64 N.c, .int .i64 N.d]] w fun e w' => e = .returned (.int .i64 (farM M N)) ∧ Below w.heap.size w w' :=
    fun w => l06Far_any _ _ _ _ _ _ _ _ w ma mb mc md na nb nc nd
  have CM : ∀ w, Calls Try.prog 47 #[.agg #[.int .i64 (M.a - wA M N), .int .i64 (M.b + wA M N), .int .i64 (M.c - wA M N), .int .i64 (M.d + wA M N)], .agg #[.int .i64 (N.a - wB M N), .int .i64 (N.b + wB M N), .int .i64 (N.c - wB M N), .int .i64 (N.d + wB M N)]] w fun e w' => e = .returned (.agg #[.int .i64 (outM M N).a, .int .i64 (outM M N).b, .int .i64 (outM M N).c, .int .i64 (outM M N).d]) ∧ Below w.heap.size w w' := fun w => l06Meet_any _ _ _ _ _ _ _ _ w
  have CM := Lib.hid CM
  have CX : Hid (M.e + wA M N = (outM M N).e) := rfl
  have hE : IntKind.i64.wrap (M.e + wA M N) = (outM M N).e := by rw [← CX.out]; exact IntWalk.i64_in _ (by omega)
  have HE := Lib.hid hE
  clear hE hM hN k1 l1
  by_cases h1 : farM M N < N.e - M.e
  · have R := Lib.hid (wA_later h1)
    have GA : Hid (∀ w, Calls Try.prog 42 #[.agg #[.int .i64 M.a, .int .i64 M.b, .int .i64 M.c, .int .i64 M.d], .int .i64 (wA M N)] w fun e w' => e = .returned (.agg #[.int .i64 (M.a - wA M N), .int .i64 (M.b + wA M N), .int .i64 (M.c - wA M N), .int .i64 (M.d + wA M N)]) ∧ Below w.heap.size w w') := fun w => l06Grow_any _ _ _ _ _ w ma mb mc md mx
    have GB : Hid (∀ w, Calls Try.prog 42 #[.agg #[.int .i64 N.a, .int .i64 N.b, .int .i64 N.c, .int .i64 N.d], .int .i64 (0)] w fun e w' => e = .returned (.agg #[.int .i64 N.a, .int .i64 N.b, .int .i64 N.c, .int .i64 N.d]) ∧ Below w.heap.size w w') := fun w => by have := l06Grow_any N.a N.b N.c N.d 0 w na nb nc nd (by unfold Mid; omega); simpa using this
    have CMM : Hid (∀ w, Calls Try.prog 47 #[.agg #[.int .i64 (M.a - wA M N), .int .i64 (M.b + wA M N), .int .i64 (M.c - wA M N), .int .i64 (M.d + wA M N)], .agg #[.int .i64 N.a, .int .i64 N.b, .int .i64 N.c, .int .i64 N.d]] w fun e w' => e = .returned (.agg #[.int .i64 (outM M N).a, .int .i64 (outM M N).b, .int .i64 (outM M N).c, .int .i64 (outM M N).d]) ∧ Below w.heap.size w w') := fun w => by have := CM.out w; rw [R.out.2] at this; simpa using this
    have hX : N.e - M.e = wA M N := R.out.1.symm
    have h1' : farM M N < wA M N := by omega
    obtain ⟨x0, x1⟩ := hx
    generalize farM M N = F at *
    have CF := Lib.hid cf
    clear cf h1 mx my ma mb mc md na nb nc nd hy
    go_enter Try.func55, Try.ntmps55
    go_wp2_with fail
    refine (CF.out _).mono ?_
    rintro e w1 ⟨rfl, hb1⟩
    obtain ⟨hc1, hf1, hz1⟩ := bcell hb1
    have hz1' : w.heap.size < w1.heap.size := by (first | (simp at hz1; omega) | omega)
    have hz1'' : w.heap.size + 1 < w1.heap.size := by (first | (simp at hz1; omega) | omega)
    have hz1''' : w.heap.size + 2 < w1.heap.size := by (first | (simp at hz1; omega) | omega)
    have hz1w : w.heap.size + 2 < w1.heap.size := by omega
    go_wp2
    refine wp_region_alloc (i0 := 9) (m := 10) (ks := [(0, true), (1, false), (2, true), (3, false), (4, true), (5, false), (6, true), (7, false), (8, false)]) (.alone 10 .done) (by kernel_rfl) (by kernel_rfl) (by kernel_rfl) (fun _ d _ _ _ h => by cases d <;> exact h) rfl rfl (fun a w => by go_simp <;> rfl) ?_
    refine g_p (v := ?_) (by rfl) ?_ ?_
    rotate_left
    · intro wx
      go_simp
      try (with_reducible rfl)
    try simp only [Act.put, List.setIfInBounds_toArray, List.set_cons_zero, List.set_cons_succ]
    refine g_w (v := ?_) (by rfl) ?_ ?_
    rotate_left
    · intro wx hSx
      obtain ⟨hcx, hfx, hzx⟩ := bcell hSx
      go_simp
      try (with_reducible rfl)
    try simp only [Act.put, List.setIfInBounds_toArray, List.set_cons_zero, List.set_cons_succ]
    refine g_p (v := ?_) (by rfl) ?_ ?_
    rotate_left
    · intro wx
      go_simp
      try (with_reducible rfl)
    try simp only [Act.put, List.setIfInBounds_toArray, List.set_cons_zero, List.set_cons_succ]
    refine g_c (by rfl) (fun wx hSx => GA.out _) (fun wx hSx => by go_simp <;> (repeat' (first | rfl | apply And.intro))) ?_
    try simp only [Act.put, List.setIfInBounds_toArray, List.set_cons_zero, List.set_cons_succ]
    refine g_p (v := ?_) (by rfl) ?_ ?_
    rotate_left
    · intro wx
      go_simp
      try (with_reducible rfl)
    try simp only [Act.put, List.setIfInBounds_toArray, List.set_cons_zero, List.set_cons_succ]
    refine g_w (v := ?_) (by rfl) ?_ ?_
    rotate_left
    · intro wx hSx
      obtain ⟨hcx, hfx, hzx⟩ := bcell hSx
      go_simp
      try (with_reducible rfl)
    try simp only [Act.put, List.setIfInBounds_toArray, List.set_cons_zero, List.set_cons_succ]
    refine g_p (v := ?_) (by rfl) ?_ ?_
    rotate_left
    · intro wx
      go_simp
      try (with_reducible rfl)
    try simp only [Act.put, List.setIfInBounds_toArray, List.set_cons_zero, List.set_cons_succ]
    refine g_c (by rfl) (fun wx hSx => GB.out _) (fun wx hSx => by go_simp <;> (repeat' (first | rfl | apply And.intro))) ?_
    try simp only [Act.put, List.setIfInBounds_toArray, List.set_cons_zero, List.set_cons_succ]
    refine g_c (by rfl) (fun wx hSx => CMM.out _) (fun wx hSx => by go_simp <;> (repeat' (first | rfl | apply And.intro))) ?_
    try simp only [Act.put, List.setIfInBounds_toArray, List.set_cons_zero, List.set_cons_succ]
    refine g_nil (fun G w2 hb2 hG hNG => ?_)
    try simp only [Act.put, List.setIfInBounds_toArray, List.set_cons_zero, List.set_cons_succ]
    obtain ⟨hc2, hf2, hz2⟩ := bcell hb2
    have g0 := hG.cell 0 rfl
    have g1 := hG.cell 1 rfl
    have g2 := hG.cell 2 rfl
    have g3 := hG.cell 3 rfl
    have gf := hG.frozen
    refine tplan_b rfl (fun K hK => ?_)
    go_simp
    refine hK _ _ ⟨trivial, ?_⟩
    clear hK K
    try simp only [Act.put, List.setIfInBounds_toArray, List.set_cons_zero, List.set_cons_succ]
    refine tplan_endQ ?_
    have hGv : Blk ((((w2.setCell ⟨G, 0, none⟩ (.int .i64 (outM M N).a)).setCell ⟨G, 1, none⟩ (.int .i64 (outM M N).b)).setCell ⟨G, 2, none⟩ (.int .i64 (outM M N).c)).setCell ⟨G, 3, none⟩ (.int .i64 (outM M N).d)) G #[.int .i64 (outM M N).a, .int .i64 (outM M N).b, .int .i64 (outM M N).c, .int .i64 (outM M N).d] 25 := ((((hG.set 0 (.int .i64 (outM M N).a)).set 1 (.int .i64 (outM M N).b)).set 2 (.int .i64 (outM M N).c)).set 3 (.int .i64 (outM M N).d))
    have hbv := ((((hb2.setCell (p := ⟨G, 0, none⟩) hNG (.int .i64 (outM M N).a)).setCell (p := ⟨G, 1, none⟩) hNG (.int .i64 (outM M N).b)).setCell (p := ⟨G, 2, none⟩) hNG (.int .i64 (outM M N).c)).setCell (p := ⟨G, 3, none⟩) hNG (.int .i64 (outM M N).d))
    generalize ((((w2.setCell ⟨G, 0, none⟩ (.int .i64 (outM M N).a)).setCell ⟨G, 1, none⟩ (.int .i64 (outM M N).b)).setCell ⟨G, 2, none⟩ (.int .i64 (outM M N).c)).setCell ⟨G, 3, none⟩ (.int .i64 (outM M N).d)) = wv at *
    clear hG g0 g1 g2 g3 gf hc2 hf2 hz2 hb2
    obtain ⟨hcv, hfv, hzv⟩ := bcell hbv
    have hzv' : w.heap.size + 2 < wv.heap.size := by omega
    have hzv'' : w.heap.size + 1 < wv.heap.size := by omega
    have hzw : w.heap.size < wv.heap.size := by omega
    have k0 := hGv.cell 0 rfl
    have k1 := hGv.cell 1 rfl
    have k2' := hGv.cell 2 rfl
    have k3' := hGv.cell 3 rfl
    have hF := HE.out
    go_wp2
    have bZ : Below w.heap.size w wv := bl_trans (bl_trans (by (repeat (first | assumption | exact Below.refl _ _ | (refine bl_alloc ?_ _) | (refine Below.drew ?_) | (refine bl_drewN ?_ _) | (refine bl_set ?_ (by first | (simp; done) | omega | (simp; omega)) _) | (refine bl_trans ?_ (by assumption)) | (refine bl_step ?_ (by assumption) (by first | omega | exact Below.size (by assumption) | (simp; omega) | (simp; exact Below.size (by assumption))))))) hb1) hbv
    have bY := (((((bZ.setCell (p := ⟨w.heap.size + 1 + 1, 0, none⟩) (by show w.heap.size ≤ w.heap.size + 1 + 1; omega) (.int .i64 (outM M N).a)).setCell (p := ⟨w.heap.size + 1 + 1, 1, none⟩) (by show w.heap.size ≤ w.heap.size + 1 + 1; omega) (.int .i64 (outM M N).b)).setCell (p := ⟨w.heap.size + 1 + 1, 2, none⟩) (by show w.heap.size ≤ w.heap.size + 1 + 1; omega) (.int .i64 (outM M N).c)).setCell (p := ⟨w.heap.size + 1 + 1, 3, none⟩) (by show w.heap.size ≤ w.heap.size + 1 + 1; omega) (.int .i64 (outM M N).d)).setCell (p := ⟨w.heap.size + 1 + 1, 4, none⟩) (by show w.heap.size ≤ w.heap.size + 1 + 1; omega) (.int .i64 (outM M N).e))
    exact bodyPost_ret (v := .tuple #[.agg #[.int .i64 (outM M N).a, .int .i64 (outM M N).b, .int .i64 (outM M N).c, .int .i64 (outM M N).d, .int .i64 (outM M N).e], .int .i64 (wA M N), .int .i64 (0)]) (by simp [results, Try.results55, hc1, hz1, hz1', hz1w, hcv, hzv, hzv', go_sem]) rfl ⟨by rw [R.out.2], bY⟩
  · by_cases h2 : farM M N < M.e - N.e
    · have R := Lib.hid (wA_sooner h1 h2)
      have GA : Hid (∀ w, Calls Try.prog 42 #[.agg #[.int .i64 M.a, .int .i64 M.b, .int .i64 M.c, .int .i64 M.d], .int .i64 (0)] w fun e w' => e = .returned (.agg #[.int .i64 M.a, .int .i64 M.b, .int .i64 M.c, .int .i64 M.d]) ∧ Below w.heap.size w w') := fun w => by have := l06Grow_any M.a M.b M.c M.d 0 w ma mb mc md (by unfold Mid; omega); simpa using this
      have GB : Hid (∀ w, Calls Try.prog 42 #[.agg #[.int .i64 N.a, .int .i64 N.b, .int .i64 N.c, .int .i64 N.d], .int .i64 (wB M N)] w fun e w' => e = .returned (.agg #[.int .i64 (N.a - wB M N), .int .i64 (N.b + wB M N), .int .i64 (N.c - wB M N), .int .i64 (N.d + wB M N)]) ∧ Below w.heap.size w w') := fun w => l06Grow_any _ _ _ _ _ w na nb nc nd my
      have CMM : Hid (∀ w, Calls Try.prog 47 #[.agg #[.int .i64 M.a, .int .i64 M.b, .int .i64 M.c, .int .i64 M.d], .agg #[.int .i64 (N.a - wB M N), .int .i64 (N.b + wB M N), .int .i64 (N.c - wB M N), .int .i64 (N.d + wB M N)]] w fun e w' => e = .returned (.agg #[.int .i64 (outM M N).a, .int .i64 (outM M N).b, .int .i64 (outM M N).c, .int .i64 (outM M N).d]) ∧ Below w.heap.size w w') := fun w => by have := CM.out w; rw [R.out.1] at this; simpa using this
      have hY : -(N.e - M.e) = wB M N := by have q := R.out.2; omega
      have h2' : N.e - M.e < -farM M N := by omega
      obtain ⟨y0, y1⟩ := hy
      generalize farM M N = F at *
      have CF := Lib.hid cf
      clear cf h2 mx my ma mb mc md na nb nc nd hx
      go_enter Try.func55, Try.ntmps55
      go_wp2_with fail
      refine (CF.out _).mono ?_
      rintro e w1 ⟨rfl, hb1⟩
      obtain ⟨hc1, hf1, hz1⟩ := bcell hb1
      have hz1' : w.heap.size < w1.heap.size := by (first | (simp at hz1; omega) | omega)
      have hz1'' : w.heap.size + 1 < w1.heap.size := by (first | (simp at hz1; omega) | omega)
      have hz1''' : w.heap.size + 2 < w1.heap.size := by (first | (simp at hz1; omega) | omega)
      have hz1w : w.heap.size + 2 < w1.heap.size := by omega
      go_wp2
      refine wp_region_alloc (i0 := 9) (m := 10) (ks := [(0, true), (1, false), (2, true), (3, false), (4, true), (5, false), (6, true), (7, false), (8, false)]) (.alone 10 .done) (by kernel_rfl) (by kernel_rfl) (by kernel_rfl) (fun _ d _ _ _ h => by cases d <;> exact h) rfl rfl (fun a w => by go_simp <;> rfl) ?_
      refine g_p (v := ?_) (by rfl) ?_ ?_
      rotate_left
      · intro wx
        go_simp
        try (with_reducible rfl)
      try simp only [Act.put, List.setIfInBounds_toArray, List.set_cons_zero, List.set_cons_succ]
      refine g_w (v := ?_) (by rfl) ?_ ?_
      rotate_left
      · intro wx hSx
        obtain ⟨hcx, hfx, hzx⟩ := bcell hSx
        go_simp
        try (with_reducible rfl)
      try simp only [Act.put, List.setIfInBounds_toArray, List.set_cons_zero, List.set_cons_succ]
      refine g_p (v := ?_) (by rfl) ?_ ?_
      rotate_left
      · intro wx
        go_simp
        try (with_reducible rfl)
      try simp only [Act.put, List.setIfInBounds_toArray, List.set_cons_zero, List.set_cons_succ]
      refine g_c (by rfl) (fun wx hSx => GA.out _) (fun wx hSx => by go_simp <;> (repeat' (first | rfl | apply And.intro))) ?_
      try simp only [Act.put, List.setIfInBounds_toArray, List.set_cons_zero, List.set_cons_succ]
      refine g_p (v := ?_) (by rfl) ?_ ?_
      rotate_left
      · intro wx
        go_simp
        try (with_reducible rfl)
      try simp only [Act.put, List.setIfInBounds_toArray, List.set_cons_zero, List.set_cons_succ]
      refine g_w (v := ?_) (by rfl) ?_ ?_
      rotate_left
      · intro wx hSx
        obtain ⟨hcx, hfx, hzx⟩ := bcell hSx
        go_simp
        try (with_reducible rfl)
      try simp only [Act.put, List.setIfInBounds_toArray, List.set_cons_zero, List.set_cons_succ]
      refine g_p (v := ?_) (by rfl) ?_ ?_
      rotate_left
      · intro wx
        go_simp
        try (with_reducible rfl)
      try simp only [Act.put, List.setIfInBounds_toArray, List.set_cons_zero, List.set_cons_succ]
      refine g_c (by rfl) (fun wx hSx => GB.out _) (fun wx hSx => by go_simp <;> (repeat' (first | rfl | apply And.intro))) ?_
      try simp only [Act.put, List.setIfInBounds_toArray, List.set_cons_zero, List.set_cons_succ]
      refine g_c (by rfl) (fun wx hSx => CMM.out _) (fun wx hSx => by go_simp <;> (repeat' (first | rfl | apply And.intro))) ?_
      try simp only [Act.put, List.setIfInBounds_toArray, List.set_cons_zero, List.set_cons_succ]
      refine g_nil (fun G w2 hb2 hG hNG => ?_)
      try simp only [Act.put, List.setIfInBounds_toArray, List.set_cons_zero, List.set_cons_succ]
      obtain ⟨hc2, hf2, hz2⟩ := bcell hb2
      have g0 := hG.cell 0 rfl
      have g1 := hG.cell 1 rfl
      have g2 := hG.cell 2 rfl
      have g3 := hG.cell 3 rfl
      have gf := hG.frozen
      refine tplan_b rfl (fun K hK => ?_)
      go_simp
      refine hK _ _ ⟨trivial, ?_⟩
      clear hK K
      try simp only [Act.put, List.setIfInBounds_toArray, List.set_cons_zero, List.set_cons_succ]
      refine tplan_endQ ?_
      have hGv : Blk ((((w2.setCell ⟨G, 0, none⟩ (.int .i64 (outM M N).a)).setCell ⟨G, 1, none⟩ (.int .i64 (outM M N).b)).setCell ⟨G, 2, none⟩ (.int .i64 (outM M N).c)).setCell ⟨G, 3, none⟩ (.int .i64 (outM M N).d)) G #[.int .i64 (outM M N).a, .int .i64 (outM M N).b, .int .i64 (outM M N).c, .int .i64 (outM M N).d] 25 := ((((hG.set 0 (.int .i64 (outM M N).a)).set 1 (.int .i64 (outM M N).b)).set 2 (.int .i64 (outM M N).c)).set 3 (.int .i64 (outM M N).d))
      have hbv := ((((hb2.setCell (p := ⟨G, 0, none⟩) hNG (.int .i64 (outM M N).a)).setCell (p := ⟨G, 1, none⟩) hNG (.int .i64 (outM M N).b)).setCell (p := ⟨G, 2, none⟩) hNG (.int .i64 (outM M N).c)).setCell (p := ⟨G, 3, none⟩) hNG (.int .i64 (outM M N).d))
      generalize ((((w2.setCell ⟨G, 0, none⟩ (.int .i64 (outM M N).a)).setCell ⟨G, 1, none⟩ (.int .i64 (outM M N).b)).setCell ⟨G, 2, none⟩ (.int .i64 (outM M N).c)).setCell ⟨G, 3, none⟩ (.int .i64 (outM M N).d)) = wv at *
      clear hG g0 g1 g2 g3 gf hc2 hf2 hz2 hb2
      obtain ⟨hcv, hfv, hzv⟩ := bcell hbv
      have hzv' : w.heap.size + 2 < wv.heap.size := by omega
      have hzv'' : w.heap.size + 1 < wv.heap.size := by omega
      have hzw : w.heap.size < wv.heap.size := by omega
      have k0 := hGv.cell 0 rfl
      have k1 := hGv.cell 1 rfl
      have k2' := hGv.cell 2 rfl
      have k3' := hGv.cell 3 rfl
      have hF := HE.out
      have hF0 : M.e = (outM M N).e := by have q1 := CX.out; have q2 := R.out.1; rw [q2] at q1; omega
      go_wp2
      have bZ : Below w.heap.size w wv := bl_trans (bl_trans (by (repeat (first | assumption | exact Below.refl _ _ | (refine bl_alloc ?_ _) | (refine Below.drew ?_) | (refine bl_drewN ?_ _) | (refine bl_set ?_ (by first | (simp; done) | omega | (simp; omega)) _) | (refine bl_trans ?_ (by assumption)) | (refine bl_step ?_ (by assumption) (by first | omega | exact Below.size (by assumption) | (simp; omega) | (simp; exact Below.size (by assumption))))))) hb1) hbv
      have bY := (((((bZ.setCell (p := ⟨w.heap.size + 1 + 1, 0, none⟩) (by show w.heap.size ≤ w.heap.size + 1 + 1; omega) (.int .i64 (outM M N).a)).setCell (p := ⟨w.heap.size + 1 + 1, 1, none⟩) (by show w.heap.size ≤ w.heap.size + 1 + 1; omega) (.int .i64 (outM M N).b)).setCell (p := ⟨w.heap.size + 1 + 1, 2, none⟩) (by show w.heap.size ≤ w.heap.size + 1 + 1; omega) (.int .i64 (outM M N).c)).setCell (p := ⟨w.heap.size + 1 + 1, 3, none⟩) (by show w.heap.size ≤ w.heap.size + 1 + 1; omega) (.int .i64 (outM M N).d)).setCell (p := ⟨w.heap.size + 1 + 1, 4, none⟩) (by show w.heap.size ≤ w.heap.size + 1 + 1; omega) (.int .i64 (outM M N).e))
      exact bodyPost_ret (v := .tuple #[.agg #[.int .i64 (outM M N).a, .int .i64 (outM M N).b, .int .i64 (outM M N).c, .int .i64 (outM M N).d, .int .i64 (outM M N).e], .int .i64 (0), .int .i64 (wB M N)]) (by simp [results, Try.results55, hc1, hz1, hz1', hz1w, hcv, hzv, hzv', go_sem]) rfl ⟨by rw [R.out.1], bY⟩
    · have R := Lib.hid (wA_mid h1 h2)
      have GA : Hid (∀ w, Calls Try.prog 42 #[.agg #[.int .i64 M.a, .int .i64 M.b, .int .i64 M.c, .int .i64 M.d], .int .i64 (wA M N)] w fun e w' => e = .returned (.agg #[.int .i64 (M.a - wA M N), .int .i64 (M.b + wA M N), .int .i64 (M.c - wA M N), .int .i64 (M.d + wA M N)]) ∧ Below w.heap.size w w') := fun w => l06Grow_any _ _ _ _ _ w ma mb mc md mx
      have GB : Hid (∀ w, Calls Try.prog 42 #[.agg #[.int .i64 N.a, .int .i64 N.b, .int .i64 N.c, .int .i64 N.d], .int .i64 (wB M N)] w fun e w' => e = .returned (.agg #[.int .i64 (N.a - wB M N), .int .i64 (N.b + wB M N), .int .i64 (N.c - wB M N), .int .i64 (N.d + wB M N)]) ∧ Below w.heap.size w w') := fun w => l06Grow_any _ _ _ _ _ w na nb nc nd my
      have CMM : Hid (∀ w, Calls Try.prog 47 #[.agg #[.int .i64 (M.a - wA M N), .int .i64 (M.b + wA M N), .int .i64 (M.c - wA M N), .int .i64 (M.d + wA M N)], .agg #[.int .i64 (N.a - wB M N), .int .i64 (N.b + wB M N), .int .i64 (N.c - wB M N), .int .i64 (N.d + wB M N)]] w fun e w' => e = .returned (.agg #[.int .i64 (outM M N).a, .int .i64 (outM M N).b, .int .i64 (outM M N).c, .int .i64 (outM M N).d]) ∧ Below w.heap.size w w') := fun w => by have := CM.out w; exact this
      have hX : (farM M N + (N.e - M.e)) / 2 = wA M N := R.out.1.symm
      have hY : farM M N - wA M N = wB M N := by rw [R.out.1]; exact R.out.2.symm
      have h2' : ¬ N.e - M.e < -farM M N := by omega
      have h3 : 0 ≤ farM M N + (N.e - M.e) := by omega
      obtain ⟨x0, x1⟩ := hx
      obtain ⟨y0, y1⟩ := hy
      generalize farM M N = F at *
      have CF := Lib.hid cf
      clear cf h2 mx my ma mb mc md na nb nc nd
      go_enter Try.func55, Try.ntmps55
      go_wp2_with fail
      refine (CF.out _).mono ?_
      rintro e w1 ⟨rfl, hb1⟩
      obtain ⟨hc1, hf1, hz1⟩ := bcell hb1
      have hz1' : w.heap.size < w1.heap.size := by (first | (simp at hz1; omega) | omega)
      have hz1'' : w.heap.size + 1 < w1.heap.size := by (first | (simp at hz1; omega) | omega)
      have hz1''' : w.heap.size + 2 < w1.heap.size := by (first | (simp at hz1; omega) | omega)
      have hz1w : w.heap.size + 2 < w1.heap.size := by omega
      go_wp2
      refine wp_region_alloc (i0 := 9) (m := 10) (ks := [(0, true), (1, false), (2, true), (3, false), (4, true), (5, false), (6, true), (7, false), (8, false)]) (.alone 10 .done) (by kernel_rfl) (by kernel_rfl) (by kernel_rfl) (fun _ d _ _ _ h => by cases d <;> exact h) rfl rfl (fun a w => by go_simp <;> rfl) ?_
      refine g_p (v := ?_) (by rfl) ?_ ?_
      rotate_left
      · intro wx
        go_simp
        try (with_reducible rfl)
      try simp only [Act.put, List.setIfInBounds_toArray, List.set_cons_zero, List.set_cons_succ]
      refine g_w (v := ?_) (by rfl) ?_ ?_
      rotate_left
      · intro wx hSx
        obtain ⟨hcx, hfx, hzx⟩ := bcell hSx
        go_simp
        try (with_reducible rfl)
      try simp only [Act.put, List.setIfInBounds_toArray, List.set_cons_zero, List.set_cons_succ]
      refine g_p (v := ?_) (by rfl) ?_ ?_
      rotate_left
      · intro wx
        go_simp
        try (with_reducible rfl)
      try simp only [Act.put, List.setIfInBounds_toArray, List.set_cons_zero, List.set_cons_succ]
      refine g_c (by rfl) (fun wx hSx => GA.out _) (fun wx hSx => by go_simp <;> (repeat' (first | rfl | apply And.intro))) ?_
      try simp only [Act.put, List.setIfInBounds_toArray, List.set_cons_zero, List.set_cons_succ]
      refine g_p (v := ?_) (by rfl) ?_ ?_
      rotate_left
      · intro wx
        go_simp
        try (with_reducible rfl)
      try simp only [Act.put, List.setIfInBounds_toArray, List.set_cons_zero, List.set_cons_succ]
      refine g_w (v := ?_) (by rfl) ?_ ?_
      rotate_left
      · intro wx hSx
        obtain ⟨hcx, hfx, hzx⟩ := bcell hSx
        go_simp
        try (with_reducible rfl)
      try simp only [Act.put, List.setIfInBounds_toArray, List.set_cons_zero, List.set_cons_succ]
      refine g_p (v := ?_) (by rfl) ?_ ?_
      rotate_left
      · intro wx
        go_simp
        try (with_reducible rfl)
      try simp only [Act.put, List.setIfInBounds_toArray, List.set_cons_zero, List.set_cons_succ]
      refine g_c (by rfl) (fun wx hSx => GB.out _) (fun wx hSx => by go_simp <;> (repeat' (first | rfl | apply And.intro))) ?_
      try simp only [Act.put, List.setIfInBounds_toArray, List.set_cons_zero, List.set_cons_succ]
      refine g_c (by rfl) (fun wx hSx => CMM.out _) (fun wx hSx => by go_simp <;> (repeat' (first | rfl | apply And.intro))) ?_
      try simp only [Act.put, List.setIfInBounds_toArray, List.set_cons_zero, List.set_cons_succ]
      refine g_nil (fun G w2 hb2 hG hNG => ?_)
      try simp only [Act.put, List.setIfInBounds_toArray, List.set_cons_zero, List.set_cons_succ]
      obtain ⟨hc2, hf2, hz2⟩ := bcell hb2
      have g0 := hG.cell 0 rfl
      have g1 := hG.cell 1 rfl
      have g2 := hG.cell 2 rfl
      have g3 := hG.cell 3 rfl
      have gf := hG.frozen
      refine tplan_b rfl (fun K hK => ?_)
      go_simp
      refine hK _ _ ⟨trivial, ?_⟩
      clear hK K
      try simp only [Act.put, List.setIfInBounds_toArray, List.set_cons_zero, List.set_cons_succ]
      refine tplan_endQ ?_
      have hGv : Blk ((((w2.setCell ⟨G, 0, none⟩ (.int .i64 (outM M N).a)).setCell ⟨G, 1, none⟩ (.int .i64 (outM M N).b)).setCell ⟨G, 2, none⟩ (.int .i64 (outM M N).c)).setCell ⟨G, 3, none⟩ (.int .i64 (outM M N).d)) G #[.int .i64 (outM M N).a, .int .i64 (outM M N).b, .int .i64 (outM M N).c, .int .i64 (outM M N).d] 25 := ((((hG.set 0 (.int .i64 (outM M N).a)).set 1 (.int .i64 (outM M N).b)).set 2 (.int .i64 (outM M N).c)).set 3 (.int .i64 (outM M N).d))
      have hbv := ((((hb2.setCell (p := ⟨G, 0, none⟩) hNG (.int .i64 (outM M N).a)).setCell (p := ⟨G, 1, none⟩) hNG (.int .i64 (outM M N).b)).setCell (p := ⟨G, 2, none⟩) hNG (.int .i64 (outM M N).c)).setCell (p := ⟨G, 3, none⟩) hNG (.int .i64 (outM M N).d))
      generalize ((((w2.setCell ⟨G, 0, none⟩ (.int .i64 (outM M N).a)).setCell ⟨G, 1, none⟩ (.int .i64 (outM M N).b)).setCell ⟨G, 2, none⟩ (.int .i64 (outM M N).c)).setCell ⟨G, 3, none⟩ (.int .i64 (outM M N).d)) = wv at *
      clear hG g0 g1 g2 g3 gf hc2 hf2 hz2 hb2
      obtain ⟨hcv, hfv, hzv⟩ := bcell hbv
      have hzv' : w.heap.size + 2 < wv.heap.size := by omega
      have hzv'' : w.heap.size + 1 < wv.heap.size := by omega
      have hzw : w.heap.size < wv.heap.size := by omega
      have k0 := hGv.cell 0 rfl
      have k1 := hGv.cell 1 rfl
      have k2' := hGv.cell 2 rfl
      have k3' := hGv.cell 3 rfl
      have hF := HE.out
      go_wp2
      have bZ : Below w.heap.size w wv := bl_trans (bl_trans (by (repeat (first | assumption | exact Below.refl _ _ | (refine bl_alloc ?_ _) | (refine Below.drew ?_) | (refine bl_drewN ?_ _) | (refine bl_set ?_ (by first | (simp; done) | omega | (simp; omega)) _) | (refine bl_trans ?_ (by assumption)) | (refine bl_step ?_ (by assumption) (by first | omega | exact Below.size (by assumption) | (simp; omega) | (simp; exact Below.size (by assumption))))))) hb1) hbv
      have bY := (((((bZ.setCell (p := ⟨w.heap.size + 1 + 1, 0, none⟩) (by show w.heap.size ≤ w.heap.size + 1 + 1; omega) (.int .i64 (outM M N).a)).setCell (p := ⟨w.heap.size + 1 + 1, 1, none⟩) (by show w.heap.size ≤ w.heap.size + 1 + 1; omega) (.int .i64 (outM M N).b)).setCell (p := ⟨w.heap.size + 1 + 1, 2, none⟩) (by show w.heap.size ≤ w.heap.size + 1 + 1; omega) (.int .i64 (outM M N).c)).setCell (p := ⟨w.heap.size + 1 + 1, 3, none⟩) (by show w.heap.size ≤ w.heap.size + 1 + 1; omega) (.int .i64 (outM M N).d)).setCell (p := ⟨w.heap.size + 1 + 1, 4, none⟩) (by show w.heap.size ≤ w.heap.size + 1 + 1; omega) (.int .i64 (outM M N).e))
      exact bodyPost_ret (v := .tuple #[.agg #[.int .i64 (outM M N).a, .int .i64 (outM M N).b, .int .i64 (outM M N).c, .int .i64 (outM M N).d, .int .i64 (outM M N).e], .int .i64 (wA M N), .int .i64 (wB M N)]) (by simp [results, Try.results55, hc1, hz1, hz1', hz1w, hcv, hzv, hzv', go_sem]) rfl ⟨rfl, bY⟩
end Go.Proofs.Ytkkeodceihjbgaa
