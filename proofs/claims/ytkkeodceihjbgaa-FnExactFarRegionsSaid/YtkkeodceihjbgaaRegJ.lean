/-
  Contracts: what regions have in common, and how far they are apart: of the model and of the program.
-/
import Derived.Test.YtkkeodceihjbgaaRegI
import Derived.Test.YtkkeodceihjbgaaAttemptI
namespace Go.Proofs.Ytkkeodceihjbgaa
set_option linter.unusedSimpArgs false
set_option linter.unusedVariables false
open Go.ChangeShapes Go.WideShapes Go.ChangeAt Go.RowKit Go.Shelf

def okMeet (a b c d a' b' c' d' : Int) : Bool := isRg a b c d && (isRg a' b' c' d' && isRg (max a a') (min b b') (max c c') (min d d'))
def meV (a b c d a' b' c' d' : Int) : Value := rgRes (okMeet a b c d a' b' c' d') (max a a') (min b b') (max c c') (min d d')
def faV (a b c d a' b' c' d' : Int) : Value := inRes (isRg a b c d && isRg a' b' c' d') (farRg a b c d a' b' c' d')
set_option maxRecDepth 100000 in
set_option maxHeartbeats 1600000 in
theorem MeetRegionsS_any (a b c d a' b' c' d' : Int) (w : World) :
    Calls Try.prog 19 #[.agg #[.int .i64 a, .int .i64 b, .int .i64 c, .int .i64 d], .agg #[.int .i64 a', .int .i64 b', .int .i64 c', .int .i64 d']] w fun e w' => e = .returned (meV a b c d a' b' c' d') ∧ Below w.heap.size w w' := by
  cases h1 : isRg a b c d
  · have H1 := Lib.hid h1
    have R := Lib.hid (show meV a b c d a' b' c' d' = _ from rgRes_f (by simp [okMeet, h1]))
    clear h1
    go_enter Try.func19, Try.ntmps19
    go_wp2_with fail
    refine (l06Is_any _ _ _ _ _).mono ?_
    rintro e w1 ⟨rfl, hb1⟩
    rw [H1.out]
    obtain ⟨hc1, hf1, hz1⟩ := bcell hb1
    have hz1' : w.heap.size < w1.heap.size := by (first | (simp at hz1; omega) | omega)
    have hz1'' : w.heap.size + 1 < w1.heap.size := by (first | (simp at hz1; omega) | omega)
    have hz1''' : w.heap.size + 2 < w1.heap.size := by (first | (simp at hz1; omega) | omega)
    go_wp2
    exact bodyPost_ret (v := .tuple #[.agg #[.int .i64 0, .int .i64 0, .int .i64 0, .int .i64 0], .bool false]) (by simp [results, Try.results19, hc1, hz1, hz1', hz1'', hz1''', go_sem]) rfl ⟨by rw [R.out], by (repeat (first | assumption | exact Below.refl _ _ | (refine bl_alloc ?_ _) | (refine Below.drew ?_) | (refine bl_drewN ?_ _) | (refine bl_set ?_ (by first | (simp; done) | omega | (simp; omega)) _) | (refine bl_trans ?_ (by assumption)) | (refine bl_step ?_ (by assumption) (by first | omega | exact Below.size (by assumption) | (simp; omega) | (simp; exact Below.size (by assumption))))))⟩
  · cases h2 : isRg a' b' c' d'
    · have H1 := Lib.hid h1
      have H2 := Lib.hid h2
      have R := Lib.hid (show meV a b c d a' b' c' d' = _ from rgRes_f (by simp [okMeet, h2]))
      clear h1 h2
      go_enter Try.func19, Try.ntmps19
      go_wp2_with fail
      refine (l06Is_any _ _ _ _ _).mono ?_
      rintro e w1 ⟨rfl, hb1⟩
      rw [H1.out]
      obtain ⟨hc1, hf1, hz1⟩ := bcell hb1
      have hz1' : w.heap.size < w1.heap.size := by (first | (simp at hz1; omega) | omega)
      have hz1'' : w.heap.size + 1 < w1.heap.size := by (first | (simp at hz1; omega) | omega)
      have hz1''' : w.heap.size + 2 < w1.heap.size := by (first | (simp at hz1; omega) | omega)
      go_wp2_with fail
      refine (l06Is_any _ _ _ _ _).mono ?_
      rintro e w2 ⟨rfl, hb2⟩
      rw [H2.out]
      obtain ⟨hc2, hf2, hz2⟩ := bcell hb2
      have hz2' : w.heap.size < w2.heap.size := by (first | (simp at hz2; omega) | omega)
      have hz2'' : w.heap.size + 1 < w2.heap.size := by (first | (simp at hz2; omega) | omega)
      have hz2''' : w.heap.size + 2 < w2.heap.size := by (first | (simp at hz2; omega) | omega)
      go_wp2
      exact bodyPost_ret (v := .tuple #[.agg #[.int .i64 0, .int .i64 0, .int .i64 0, .int .i64 0], .bool false]) (by simp [results, Try.results19, hc1, hz1, hz1', hz1'', hz1''', hc2, hz2, hz2', hz2'', hz2''', go_sem]) rfl ⟨by rw [R.out], by (repeat (first | assumption | exact Below.refl _ _ | (refine bl_alloc ?_ _) | (refine Below.drew ?_) | (refine bl_drewN ?_ _) | (refine bl_set ?_ (by first | (simp; done) | omega | (simp; omega)) _) | (refine bl_trans ?_ (by assumption)) | (refine bl_step ?_ (by assumption) (by first | omega | exact Below.size (by assumption) | (simp; omega) | (simp; exact Below.size (by assumption))))))⟩
    · cases h3 : isRg (max a a') (min b b') (max c c') (min d d')
      · have H1 := Lib.hid h1
        have H2 := Lib.hid h2
        have H3 := Lib.hid h3
        have R := Lib.hid (show meV a b c d a' b' c' d' = _ from rgRes_f (by simp [okMeet, h3]))
        clear h1 h2 h3
        go_enter Try.func19, Try.ntmps19
        go_wp2_with fail
        refine (l06Is_any _ _ _ _ _).mono ?_
        rintro e w1 ⟨rfl, hb1⟩
        rw [H1.out]
        obtain ⟨hc1, hf1, hz1⟩ := bcell hb1
        have hz1' : w.heap.size < w1.heap.size := by (first | (simp at hz1; omega) | omega)
        have hz1'' : w.heap.size + 1 < w1.heap.size := by (first | (simp at hz1; omega) | omega)
        have hz1''' : w.heap.size + 2 < w1.heap.size := by (first | (simp at hz1; omega) | omega)
        go_wp2_with fail
        refine (l06Is_any _ _ _ _ _).mono ?_
        rintro e w2 ⟨rfl, hb2⟩
        rw [H2.out]
        obtain ⟨hc2, hf2, hz2⟩ := bcell hb2
        have hz2' : w.heap.size < w2.heap.size := by (first | (simp at hz2; omega) | omega)
        have hz2'' : w.heap.size + 1 < w2.heap.size := by (first | (simp at hz2; omega) | omega)
        have hz2''' : w.heap.size + 2 < w2.heap.size := by (first | (simp at hz2; omega) | omega)
        go_wp2_with fail
        refine (l06Meet_any _ _ _ _ _ _ _ _ _).mono ?_
        rintro e w3 ⟨rfl, hb3⟩
        obtain ⟨hc3, hf3, hz3⟩ := bcell hb3
        have hz3' : w.heap.size < w3.heap.size := by (first | (simp at hz3; omega) | omega)
        have hz3'' : w.heap.size + 1 < w3.heap.size := by (first | (simp at hz3; omega) | omega)
        have hz3''' : w.heap.size + 2 < w3.heap.size := by (first | (simp at hz3; omega) | omega)
        go_wp2_with fail
        refine (l06Is_any _ _ _ _ _).mono ?_
        rintro e w4 ⟨rfl, hb4⟩
        rw [H3.out]
        obtain ⟨hc4, hf4, hz4⟩ := bcell hb4
        have hz4' : w.heap.size < w4.heap.size := by (first | (simp at hz4; omega) | omega)
        have hz4'' : w.heap.size + 1 < w4.heap.size := by (first | (simp at hz4; omega) | omega)
        have hz4''' : w.heap.size + 2 < w4.heap.size := by (first | (simp at hz4; omega) | omega)
        go_wp2
        exact bodyPost_ret (v := .tuple #[.agg #[.int .i64 0, .int .i64 0, .int .i64 0, .int .i64 0], .bool false]) (by simp [results, Try.results19, hc1, hz1, hz1', hz1'', hz1''', hc2, hz2, hz2', hz2'', hz2''', hc3, hz3, hz3', hz3'', hz3''', hc4, hz4, hz4', hz4'', hz4''', go_sem]) rfl ⟨by rw [R.out], by (repeat (first | assumption | exact Below.refl _ _ | (refine bl_alloc ?_ _) | (refine Below.drew ?_) | (refine bl_drewN ?_ _) | (refine bl_set ?_ (by first | (simp; done) | omega | (simp; omega)) _) | (refine bl_trans ?_ (by assumption)) | (refine bl_step ?_ (by assumption) (by first | omega | exact Below.size (by assumption) | (simp; omega) | (simp; exact Below.size (by assumption))))))⟩
      · have H1 := Lib.hid h1
        have H2 := Lib.hid h2
        have H3 := Lib.hid h3
        have R := Lib.hid (show meV a b c d a' b' c' d' = _ from rgRes_t (by simp [okMeet, h1, h2, h3]))
        clear h1 h2 h3
        go_enter Try.func19, Try.ntmps19
        go_wp2_with fail
        refine (l06Is_any _ _ _ _ _).mono ?_
        rintro e w1 ⟨rfl, hb1⟩
        rw [H1.out]
        obtain ⟨hc1, hf1, hz1⟩ := bcell hb1
        have hz1' : w.heap.size < w1.heap.size := by (first | (simp at hz1; omega) | omega)
        have hz1'' : w.heap.size + 1 < w1.heap.size := by (first | (simp at hz1; omega) | omega)
        have hz1''' : w.heap.size + 2 < w1.heap.size := by (first | (simp at hz1; omega) | omega)
        go_wp2_with fail
        refine (l06Is_any _ _ _ _ _).mono ?_
        rintro e w2 ⟨rfl, hb2⟩
        rw [H2.out]
        obtain ⟨hc2, hf2, hz2⟩ := bcell hb2
        have hz2' : w.heap.size < w2.heap.size := by (first | (simp at hz2; omega) | omega)
        have hz2'' : w.heap.size + 1 < w2.heap.size := by (first | (simp at hz2; omega) | omega)
        have hz2''' : w.heap.size + 2 < w2.heap.size := by (first | (simp at hz2; omega) | omega)
        go_wp2_with fail
        refine (l06Meet_any _ _ _ _ _ _ _ _ _).mono ?_
        rintro e w3 ⟨rfl, hb3⟩
        obtain ⟨hc3, hf3, hz3⟩ := bcell hb3
        have hz3' : w.heap.size < w3.heap.size := by (first | (simp at hz3; omega) | omega)
        have hz3'' : w.heap.size + 1 < w3.heap.size := by (first | (simp at hz3; omega) | omega)
        have hz3''' : w.heap.size + 2 < w3.heap.size := by (first | (simp at hz3; omega) | omega)
        go_wp2_with fail
        refine (l06Is_any _ _ _ _ _).mono ?_
        rintro e w4 ⟨rfl, hb4⟩
        rw [H3.out]
        obtain ⟨hc4, hf4, hz4⟩ := bcell hb4
        have hz4' : w.heap.size < w4.heap.size := by (first | (simp at hz4; omega) | omega)
        have hz4'' : w.heap.size + 1 < w4.heap.size := by (first | (simp at hz4; omega) | omega)
        have hz4''' : w.heap.size + 2 < w4.heap.size := by (first | (simp at hz4; omega) | omega)
        go_wp2
        exact bodyPost_ret (v := .tuple #[.agg #[.int .i64 (max a a'), .int .i64 (min b b'), .int .i64 (max c c'), .int .i64 (min d d')], .bool true]) (by simp [results, Try.results19, hc1, hz1, hz1', hz1'', hz1''', hc2, hz2, hz2', hz2'', hz2''', hc3, hz3, hz3', hz3'', hz3''', hc4, hz4, hz4', hz4'', hz4''', go_sem]) rfl ⟨by rw [R.out], by (repeat (first | assumption | exact Below.refl _ _ | (refine bl_alloc ?_ _) | (refine Below.drew ?_) | (refine bl_drewN ?_ _) | (refine bl_set ?_ (by first | (simp; done) | omega | (simp; omega)) _) | (refine bl_trans ?_ (by assumption)) | (refine bl_step ?_ (by assumption) (by first | omega | exact Below.size (by assumption) | (simp; omega) | (simp; exact Below.size (by assumption))))))⟩
set_option maxRecDepth 100000 in
set_option maxHeartbeats 1600000 in
theorem meetFn_any (g g' : Nat) (a b c d a' b' c' d' : Int) (w : World) (h : CellsR w g a b c d) (h' : CellsR w g' a' b' c' d') :
    Calls Try.prog 48 #[.pointer (some ⟨g, 0, none⟩), .pointer (some ⟨g', 0, none⟩)] w (FnR (okMeet a b c d a' b' c' d') (.agg #[.int .i64 (max a a'), .int .i64 (min b b'), .int .i64 (max c c'), .int .i64 (min d d')]) w) := by
  obtain ⟨g0, g1, g2, g3, hg⟩ := h
  obtain ⟨g0', g1', g2', g3', hg'⟩ := h'
  have hg1 : g < w.heap.size + 1 := by omega
  have hg1' : g' < w.heap.size + 1 := by omega
  cases h1 : isRg a b c d
  · have H1 := Lib.hid h1
    have R : Hid (okMeet a b c d a' b' c' d' = false) := Lib.hid (show okMeet a b c d a' b' c' d' = false by simp [okMeet, h1])
    clear h1
    go_enter Try.func48, Try.ntmps48
    go_wp2
    refine wp_region_treeB (Pl.takes [0, 2] (.alone 1 (.alone 3 (.alone 4 (.alone 5 (.alone 6 .done)))))) (by kernel_rfl) (by kernel_rfl) (by kernel_rfl) (fun _ d _ _ _ h => by cases d <;> exact h) (fun hS0 => ?_)
    refine tplan_w (v := ?_) rfl (by rfl) ?_ ?_
    rotate_left
    · intro wx hSx
      obtain ⟨hcx, hfx, hzx⟩ := bcell hSx
      go_simp
      try (with_reducible rfl)
    try simp only [Act.put, List.setIfInBounds_toArray, List.set_cons_zero, List.set_cons_succ]
    refine tplan_w (v := ?_) rfl (by rfl) ?_ ?_
    rotate_left
    · intro wx hSx
      obtain ⟨hcx, hfx, hzx⟩ := bcell hSx
      go_simp
      try (with_reducible rfl)
    try simp only [Act.put, List.setIfInBounds_toArray, List.set_cons_zero, List.set_cons_succ]
    refine tplan_b rfl (fun K hK => ?_)
    go_simp
    refine (requireRegion_no _ _ _ _ _ H1.out).mono ?_
    rintro e w1 ⟨⟨u, pv, rfl⟩, hb1⟩
    have hS1 := belowS hS0 hb1
    exact ⟨rfl, FnR.no R.out ⟨_, _, rfl⟩ (by (repeat (first | assumption | exact Below.refl _ _ | (refine bl_alloc ?_ _) | (refine Below.drew ?_) | (refine bl_drewN ?_ _) | (refine bl_set ?_ (by first | (simp; done) | omega | (simp; omega)) _) | (refine bl_trans ?_ (by assumption)) | (refine bl_step ?_ (by assumption) (by first | omega | exact Below.size (by assumption) | (simp; omega) | (simp; exact Below.size (by assumption)))))))⟩
  · cases h2 : isRg a' b' c' d'
    · have H1 := Lib.hid h1
      have H2 := Lib.hid h2
      have R : Hid (okMeet a b c d a' b' c' d' = false) := Lib.hid (show okMeet a b c d a' b' c' d' = false by simp [okMeet, h2])
      clear h1 h2
      go_enter Try.func48, Try.ntmps48
      go_wp2
      refine wp_region_treeB (Pl.takes [0, 2] (.alone 1 (.alone 3 (.alone 4 (.alone 5 (.alone 6 .done)))))) (by kernel_rfl) (by kernel_rfl) (by kernel_rfl) (fun _ d _ _ _ h => by cases d <;> exact h) (fun hS0 => ?_)
      refine tplan_w (v := ?_) rfl (by rfl) ?_ ?_
      rotate_left
      · intro wx hSx
        obtain ⟨hcx, hfx, hzx⟩ := bcell hSx
        go_simp
        try (with_reducible rfl)
      try simp only [Act.put, List.setIfInBounds_toArray, List.set_cons_zero, List.set_cons_succ]
      refine tplan_w (v := ?_) rfl (by rfl) ?_ ?_
      rotate_left
      · intro wx hSx
        obtain ⟨hcx, hfx, hzx⟩ := bcell hSx
        go_simp
        try (with_reducible rfl)
      try simp only [Act.put, List.setIfInBounds_toArray, List.set_cons_zero, List.set_cons_succ]
      refine tplan_b rfl (fun K hK => ?_)
      go_simp
      refine (requireRegion_yes _ _ _ _ _ H1.out).mono ?_
      rintro e w1 ⟨rfl, hb1⟩
      have hS1 := belowS hS0 hb1
      refine hK _ _ ⟨hS1, ?_⟩
      clear hK K
      try simp only [Act.put, List.setIfInBounds_toArray, List.set_cons_zero, List.set_cons_succ]
      refine tplan_b rfl (fun K hK => ?_)
      go_simp
      refine (requireRegion_no _ _ _ _ _ H2.out).mono ?_
      rintro e w2 ⟨⟨u, pv, rfl⟩, hb2⟩
      have hS2 := belowS hS1 hb2
      exact ⟨rfl, FnR.no R.out ⟨_, _, rfl⟩ (by (repeat (first | assumption | exact Below.refl _ _ | (refine bl_alloc ?_ _) | (refine Below.drew ?_) | (refine bl_drewN ?_ _) | (refine bl_set ?_ (by first | (simp; done) | omega | (simp; omega)) _) | (refine bl_trans ?_ (by assumption)) | (refine bl_step ?_ (by assumption) (by first | omega | exact Below.size (by assumption) | (simp; omega) | (simp; exact Below.size (by assumption)))))))⟩
    · cases h3 : isRg (max a a') (min b b') (max c c') (min d d')
      · have H1 := Lib.hid h1
        have H2 := Lib.hid h2
        have H3 := Lib.hid h3
        have R : Hid (okMeet a b c d a' b' c' d' = false) := Lib.hid (show okMeet a b c d a' b' c' d' = false by simp [okMeet, h3])
        clear h1 h2 h3
        go_enter Try.func48, Try.ntmps48
        go_wp2
        refine wp_region_treeB (Pl.takes [0, 2] (.alone 1 (.alone 3 (.alone 4 (.alone 5 (.alone 6 .done)))))) (by kernel_rfl) (by kernel_rfl) (by kernel_rfl) (fun _ d _ _ _ h => by cases d <;> exact h) (fun hS0 => ?_)
        refine tplan_w (v := ?_) rfl (by rfl) ?_ ?_
        rotate_left
        · intro wx hSx
          obtain ⟨hcx, hfx, hzx⟩ := bcell hSx
          go_simp
          try (with_reducible rfl)
        try simp only [Act.put, List.setIfInBounds_toArray, List.set_cons_zero, List.set_cons_succ]
        refine tplan_w (v := ?_) rfl (by rfl) ?_ ?_
        rotate_left
        · intro wx hSx
          obtain ⟨hcx, hfx, hzx⟩ := bcell hSx
          go_simp
          try (with_reducible rfl)
        try simp only [Act.put, List.setIfInBounds_toArray, List.set_cons_zero, List.set_cons_succ]
        refine tplan_b rfl (fun K hK => ?_)
        go_simp
        refine (requireRegion_yes _ _ _ _ _ H1.out).mono ?_
        rintro e w1 ⟨rfl, hb1⟩
        have hS1 := belowS hS0 hb1
        refine hK _ _ ⟨hS1, ?_⟩
        clear hK K
        try simp only [Act.put, List.setIfInBounds_toArray, List.set_cons_zero, List.set_cons_succ]
        refine tplan_b rfl (fun K hK => ?_)
        go_simp
        refine (requireRegion_yes _ _ _ _ _ H2.out).mono ?_
        rintro e w2 ⟨rfl, hb2⟩
        have hS2 := belowS hS1 hb2
        refine hK _ _ ⟨hS2, ?_⟩
        clear hK K
        try simp only [Act.put, List.setIfInBounds_toArray, List.set_cons_zero, List.set_cons_succ]
        refine tplan_b rfl (fun K hK => ?_)
        go_simp
        refine (rgMeet_any _ _ _ _ _ _ _ _ _).mono ?_
        rintro e w3 ⟨rfl, hb3⟩
        have hS3 := belowS hS2 hb3
        refine hK _ _ ⟨hS3, ?_⟩
        clear hK K
        try simp only [Act.put, List.setIfInBounds_toArray, List.set_cons_zero, List.set_cons_succ]
        refine tplan_b rfl (fun K hK => ?_)
        go_simp
        refine (requireRegion_no _ _ _ _ _ H3.out).mono ?_
        rintro e w4 ⟨⟨u, pv, rfl⟩, hb4⟩
        have hS4 := belowS hS3 hb4
        exact ⟨rfl, FnR.no R.out ⟨_, _, rfl⟩ (by (repeat (first | assumption | exact Below.refl _ _ | (refine bl_alloc ?_ _) | (refine Below.drew ?_) | (refine bl_drewN ?_ _) | (refine bl_set ?_ (by first | (simp; done) | omega | (simp; omega)) _) | (refine bl_trans ?_ (by assumption)) | (refine bl_step ?_ (by assumption) (by first | omega | exact Below.size (by assumption) | (simp; omega) | (simp; exact Below.size (by assumption)))))))⟩
      · have H1 := Lib.hid h1
        have H2 := Lib.hid h2
        have H3 := Lib.hid h3
        have R : Hid (okMeet a b c d a' b' c' d' = true) := Lib.hid (show okMeet a b c d a' b' c' d' = true by simp [okMeet, h1, h2, h3])
        clear h1 h2 h3
        go_enter Try.func48, Try.ntmps48
        go_wp2
        refine wp_region_quietB (m := 6) (.alone 6 .done) (by kernel_rfl) (by kernel_rfl) (by kernel_rfl) ?_
        refine q_w (v := ?_) (by rfl) ?_ ?_
        rotate_left
        · intro wx hSx
          obtain ⟨hcx, hfx, hzx⟩ := bcell hSx
          go_simp
          try (with_reducible rfl)
        try simp only [Act.put, List.setIfInBounds_toArray, List.set_cons_zero, List.set_cons_succ]
        refine q_c (by rfl) (fun wx hSx => keepB hSx (Nat.le_refl _) (requireRegion_yes _ _ _ _ _ H1.out)) (fun wx hSx => by go_simp <;> (repeat' (first | rfl | apply And.intro))) ?_
        try simp only [Act.put, List.setIfInBounds_toArray, List.set_cons_zero, List.set_cons_succ]
        refine q_w (v := ?_) (by rfl) ?_ ?_
        rotate_left
        · intro wx hSx
          obtain ⟨hcx, hfx, hzx⟩ := bcell hSx
          go_simp
          try (with_reducible rfl)
        try simp only [Act.put, List.setIfInBounds_toArray, List.set_cons_zero, List.set_cons_succ]
        refine q_c (by rfl) (fun wx hSx => keepB hSx (Nat.le_refl _) (requireRegion_yes _ _ _ _ _ H2.out)) (fun wx hSx => by go_simp <;> (repeat' (first | rfl | apply And.intro))) ?_
        try simp only [Act.put, List.setIfInBounds_toArray, List.set_cons_zero, List.set_cons_succ]
        refine q_c (by rfl) (fun wx hSx => keepB hSx (Nat.le_refl _) (rgMeet_any _ _ _ _ _ _ _ _ _)) (fun wx hSx => by go_simp <;> (repeat' (first | rfl | apply And.intro))) ?_
        try simp only [Act.put, List.setIfInBounds_toArray, List.set_cons_zero, List.set_cons_succ]
        refine q_c (by rfl) (fun wx hSx => keepB hSx (Nat.le_refl _) (requireRegion_yes _ _ _ _ _ H3.out)) (fun wx hSx => by go_simp <;> (repeat' (first | rfl | apply And.intro))) ?_
        try simp only [Act.put, List.setIfInBounds_toArray, List.set_cons_zero, List.set_cons_succ]
        refine q_nil (fun w1 hb1 => ?_)
        obtain ⟨hc1, hf1, hz1⟩ := bcell hb1
        refine tplan_b rfl (fun K hK => ?_)
        go_simp
        refine hK _ _ ⟨trivial, ?_⟩
        clear hK K
        try simp only [Act.put, List.setIfInBounds_toArray, List.set_cons_zero, List.set_cons_succ]
        refine tplan_end ?_
        go_wp2
        exact bodyPost_ret (v := .agg #[.int .i64 (max a a'), .int .i64 (min b b'), .int .i64 (max c c'), .int .i64 (min d d')]) (by simp [results, Try.results48, hc1, hz1, go_sem]) rfl (FnR.yes R.out (by (repeat (first | assumption | exact Below.refl _ _ | (refine bl_alloc ?_ _) | (refine Below.drew ?_) | (refine bl_drewN ?_ _) | (refine bl_set ?_ (by first | (simp; done) | omega | (simp; omega)) _) | (refine bl_trans ?_ (by assumption)) | (refine bl_step ?_ (by assumption) (by first | omega | exact Below.size (by assumption) | (simp; omega) | (simp; exact Below.size (by assumption))))))))
set_option maxHeartbeats 1600000 in
theorem MeetRegionsI_any (a b c d a' b' c' d' : Int) (w : World) :
    Calls Try.prog 20 #[.agg #[.int .i64 a, .int .i64 b, .int .i64 c, .int .i64 d], .agg #[.int .i64 a', .int .i64 b', .int .i64 c', .int .i64 d']] w fun e w' => e = .returned (meV a b c d a' b' c' d') ∧ Below w.heap.size w w' := by
  have hmf : ∀ (fn : Fn) (first cap : Array Value) (w : World), (Instr.makeFunc fn first cap).run Try.prog w = .ok (.func fn first cap) w := fun _ _ _ _ => rfl
  have eg : ∀ args w, (callFunc 48 args).run Try.prog w = .ok (.enter 48 args) w := enters_of Try.func48 (by kernel_rfl) rfl
  have hB := ((((Blk.new w #[.int .i64 a, .int .i64 b, .int .i64 c, .int .i64 d] 25).alloc (.cells #[.int .i64 a', .int .i64 b', .int .i64 c', .int .i64 d'] 25)).alloc (.cells #[.int .i64 0, .int .i64 0, .int .i64 0, .int .i64 0] 25)).alloc (.cells #[.int .i64 0, .int .i64 0, .int .i64 0, .int .i64 0] 25)).alloc (.cells #[.bool false] 4)
  have hN := (((Blk.new (w.alloc (.cells #[.int .i64 a, .int .i64 b, .int .i64 c, .int .i64 d] 25)) #[.int .i64 a', .int .i64 b', .int .i64 c', .int .i64 d'] 25).alloc (.cells #[.int .i64 0, .int .i64 0, .int .i64 0, .int .i64 0] 25)).alloc (.cells #[.int .i64 0, .int .i64 0, .int .i64 0, .int .i64 0] 25)).alloc (.cells #[.bool false] 4)
  rw [World.size_alloc] at hN
  have hx := attemptR_any 48 #[.pointer (some ⟨w.heap.size, 0, none⟩), .pointer (some ⟨w.heap.size + 1, 0, none⟩)] (((w.alloc (.cells #[.int .i64 a, .int .i64 b, .int .i64 c, .int .i64 d] 25)).alloc (.cells #[.int .i64 a', .int .i64 b', .int .i64 c', .int .i64 d'] 25)).alloc (.cells #[.int .i64 0, .int .i64 0, .int .i64 0, .int .i64 0] 25)) (fun v _ => okMeet a b c d a' b' c' d' = true ∧ v = .agg #[.int .i64 (max a a'), .int .i64 (min b b'), .int .i64 (max c c'), .int .i64 (min d d')]) (okMeet a b c d a' b' c' d' = false) eg
    (meetFn_any w.heap.size (w.heap.size + 1) a b c d a' b' c' d' _ (CellsR.of hB) (CellsR.of hN))
  have h0 : Below w.heap.size w (((w.alloc (.cells #[.int .i64 a, .int .i64 b, .int .i64 c, .int .i64 d] 25)).alloc (.cells #[.int .i64 a', .int .i64 b', .int .i64 c', .int .i64 d'] 25)).alloc (.cells #[.int .i64 0, .int .i64 0, .int .i64 0, .int .i64 0] 25)) := by (repeat (first | assumption | exact Below.refl _ _ | (refine bl_alloc ?_ _) | (refine Below.drew ?_) | (refine bl_drewN ?_ _) | (refine bl_set ?_ (by first | (simp; done) | omega | (simp; omega)) _) | (refine bl_trans ?_ (by assumption)) | (refine bl_step ?_ (by assumption) (by first | omega | exact Below.size (by assumption) | (simp; omega) | (simp; exact Below.size (by assumption))))))
  clear hB hN
  go_enter Try.func20, Try.ntmps20
  go_wp2_with fail
  refine hx.mono ?_
  rintro e w1 ⟨⟨x0, x1, x2, x3, w2, rfl, ⟨hi, hv⟩, -⟩ | ⟨rfl, hi⟩, hb1⟩
  · injection hv with hv
    injection hv with hv
    simp only [List.cons.injEq, Value.int.injEq, true_and, and_true] at hv
    obtain ⟨rfl, rfl, rfl, rfl⟩ := hv
    obtain ⟨hc1, hf1, hz1⟩ := bcell hb1
    have hz1' : w.heap.size + 2 < w1.heap.size := by (first | (simp at hz1; omega) | omega)
    have hz1'' : w.heap.size + 1 < w1.heap.size := by omega
    go_wp2
    exact bodyPost_ret (v := .tuple #[.agg #[.int .i64 (max a a'), .int .i64 (min b b'), .int .i64 (max c c'), .int .i64 (min d d')], .bool true]) (by simp [results, Try.results20, hc1, hz1, hz1', hz1'', go_sem]) rfl ⟨by rw [meV, rgRes_t hi], by (repeat (first | assumption | exact Below.refl _ _ | (refine bl_alloc ?_ _) | (refine Below.drew ?_) | (refine bl_drewN ?_ _) | (refine bl_set ?_ (by first | (simp; done) | omega | (simp; omega)) _) | (refine bl_trans ?_ (by assumption)) | (refine bl_step ?_ (by assumption) (by first | omega | exact Below.size (by assumption) | (simp; omega) | (simp; exact Below.size (by assumption))))))⟩
  · obtain ⟨hc1, hf1, hz1⟩ := bcell hb1
    have hz1' : w.heap.size + 2 < w1.heap.size := by (first | (simp at hz1; omega) | omega)
    have hz1'' : w.heap.size + 1 < w1.heap.size := by omega
    go_wp2
    exact bodyPost_ret (v := .tuple #[.agg #[.int .i64 0, .int .i64 0, .int .i64 0, .int .i64 0], .bool false]) (by simp [results, Try.results20, hc1, hz1, hz1', hz1'', go_sem]) rfl ⟨by rw [meV, rgRes_f hi], by (repeat (first | assumption | exact Below.refl _ _ | (refine bl_alloc ?_ _) | (refine Below.drew ?_) | (refine bl_drewN ?_ _) | (refine bl_set ?_ (by first | (simp; done) | omega | (simp; omega)) _) | (refine bl_trans ?_ (by assumption)) | (refine bl_step ?_ (by assumption) (by first | omega | exact Below.size (by assumption) | (simp; omega) | (simp; exact Below.size (by assumption))))))⟩

/-! ### FarRegions -/
set_option maxRecDepth 100000 in
set_option maxHeartbeats 1600000 in
theorem FarRegionsS_any (a b c d a' b' c' d' : Int) (w : World) :
    Calls Try.prog 21 #[.agg #[.int .i64 a, .int .i64 b, .int .i64 c, .int .i64 d], .agg #[.int .i64 a', .int .i64 b', .int .i64 c', .int .i64 d']] w fun e w' => e = .returned (faV a b c d a' b' c' d') ∧ Below w.heap.size w w' := by
  cases h1 : isRg a b c d
  · have H1 := Lib.hid h1
    have R := Lib.hid (show faV a b c d a' b' c' d' = _ from inRes_f (by simp [h1]))
    clear h1
    go_enter Try.func21, Try.ntmps21
    go_wp2_with fail
    refine (l06Is_any _ _ _ _ _).mono ?_
    rintro e w1 ⟨rfl, hb1⟩
    rw [H1.out]
    obtain ⟨hc1, hf1, hz1⟩ := bcell hb1
    have hz1' : w.heap.size < w1.heap.size := by (first | (simp at hz1; omega) | omega)
    have hz1'' : w.heap.size + 1 < w1.heap.size := by (first | (simp at hz1; omega) | omega)
    go_wp2
    go_ret2
    exact ⟨by rw [R.out]; rfl, by (repeat (first | assumption | exact Below.refl _ _ | (refine bl_alloc ?_ _) | (refine Below.drew ?_) | (refine bl_drewN ?_ _) | (refine bl_set ?_ (by first | (simp; done) | omega | (simp; omega)) _) | (refine bl_trans ?_ (by assumption)) | (refine bl_step ?_ (by assumption) (by first | omega | exact Below.size (by assumption) | (simp; omega) | (simp; exact Below.size (by assumption))))))⟩
  · cases h2 : isRg a' b' c' d'
    · have H1 := Lib.hid h1
      have H2 := Lib.hid h2
      have R := Lib.hid (show faV a b c d a' b' c' d' = _ from inRes_f (by simp [h2]))
      clear h1 h2
      go_enter Try.func21, Try.ntmps21
      go_wp2_with fail
      refine (l06Is_any _ _ _ _ _).mono ?_
      rintro e w1 ⟨rfl, hb1⟩
      rw [H1.out]
      obtain ⟨hc1, hf1, hz1⟩ := bcell hb1
      have hz1' : w.heap.size < w1.heap.size := by (first | (simp at hz1; omega) | omega)
      have hz1'' : w.heap.size + 1 < w1.heap.size := by (first | (simp at hz1; omega) | omega)
      go_wp2_with fail
      refine (l06Is_any _ _ _ _ _).mono ?_
      rintro e w2 ⟨rfl, hb2⟩
      rw [H2.out]
      obtain ⟨hc2, hf2, hz2⟩ := bcell hb2
      have hz2' : w.heap.size < w2.heap.size := by (first | (simp at hz2; omega) | omega)
      have hz2'' : w.heap.size + 1 < w2.heap.size := by (first | (simp at hz2; omega) | omega)
      go_wp2
      go_ret2
      exact ⟨by rw [R.out]; rfl, by (repeat (first | assumption | exact Below.refl _ _ | (refine bl_alloc ?_ _) | (refine Below.drew ?_) | (refine bl_drewN ?_ _) | (refine bl_set ?_ (by first | (simp; done) | omega | (simp; omega)) _) | (refine bl_trans ?_ (by assumption)) | (refine bl_step ?_ (by assumption) (by first | omega | exact Below.size (by assumption) | (simp; omega) | (simp; exact Below.size (by assumption))))))⟩
    · obtain ⟨ma, mb, mc, md⟩ := mid_rg h1
      obtain ⟨ma', mb', mc', md'⟩ := mid_rg h2
      have H1 := Lib.hid h1
      have H2 := Lib.hid h2
      have R := Lib.hid (show faV a b c d a' b' c' d' = _ from inRes_t (by simp [h1, h2]))
      clear h1 h2
      go_enter Try.func21, Try.ntmps21
      go_wp2_with fail
      refine (l06Is_any _ _ _ _ _).mono ?_
      rintro e w1 ⟨rfl, hb1⟩
      rw [H1.out]
      obtain ⟨hc1, hf1, hz1⟩ := bcell hb1
      have hz1' : w.heap.size < w1.heap.size := by (first | (simp at hz1; omega) | omega)
      have hz1'' : w.heap.size + 1 < w1.heap.size := by (first | (simp at hz1; omega) | omega)
      go_wp2_with fail
      refine (l06Is_any _ _ _ _ _).mono ?_
      rintro e w2 ⟨rfl, hb2⟩
      rw [H2.out]
      obtain ⟨hc2, hf2, hz2⟩ := bcell hb2
      have hz2' : w.heap.size < w2.heap.size := by (first | (simp at hz2; omega) | omega)
      have hz2'' : w.heap.size + 1 < w2.heap.size := by (first | (simp at hz2; omega) | omega)
      go_wp2_with fail
      refine (l06Far_any _ _ _ _ _ _ _ _ _ ma mb mc md ma' mb' mc' md').mono ?_
      rintro e w3 ⟨rfl, hb3⟩
      go_wp2
      go_ret2
      exact ⟨by rw [R.out]; rfl, by (repeat (first | assumption | exact Below.refl _ _ | (refine bl_alloc ?_ _) | (refine Below.drew ?_) | (refine bl_drewN ?_ _) | (refine bl_set ?_ (by first | (simp; done) | omega | (simp; omega)) _) | (refine bl_trans ?_ (by assumption)) | (refine bl_step ?_ (by assumption) (by first | omega | exact Below.size (by assumption) | (simp; omega) | (simp; exact Below.size (by assumption))))))⟩
set_option maxRecDepth 100000 in
set_option maxHeartbeats 1600000 in
theorem farFn_any (g g' : Nat) (a b c d a' b' c' d' : Int) (w : World) (h : CellsR w g a b c d) (h' : CellsR w g' a' b' c' d') :
    Calls Try.prog 52 #[.pointer (some ⟨g, 0, none⟩), .pointer (some ⟨g', 0, none⟩)] w fun e w' => ((∃ v, e = .returned v ∧ ((isRg a b c d && isRg a' b' c' d') = true ∧ v = .int .i64 (farRg a b c d a' b' c' d'))) ∨ (Pan e ∧ (isRg a b c d && isRg a' b' c' d') = false)) ∧ Below w.heap.size w w' := by
  obtain ⟨g0, g1, g2, g3, hg⟩ := h
  obtain ⟨g0', g1', g2', g3', hg'⟩ := h'
  cases h1 : isRg a b c d
  · have H1 := Lib.hid h1
    clear h1
    go_enter Try.func52, Try.ntmps52
    go_wp2
    refine wp_region_treeB (Pl.takes [0, 2] (.alone 1 (.alone 3 (.alone 4 (.takes [5] .done))))) (by kernel_rfl) (by kernel_rfl) (by kernel_rfl) (fun _ d _ _ _ h => by cases d <;> exact h) (fun hS0 => ?_)
    refine tplan_w (v := ?_) rfl (by rfl) ?_ ?_
    rotate_left
    · intro wx hSx
      obtain ⟨hcx, hfx, hzx⟩ := bcell hSx
      go_simp
      try (with_reducible rfl)
    try simp only [Act.put, List.setIfInBounds_toArray, List.set_cons_zero, List.set_cons_succ]
    refine tplan_w (v := ?_) rfl (by rfl) ?_ ?_
    rotate_left
    · intro wx hSx
      obtain ⟨hcx, hfx, hzx⟩ := bcell hSx
      go_simp
      try (with_reducible rfl)
    try simp only [Act.put, List.setIfInBounds_toArray, List.set_cons_zero, List.set_cons_succ]
    refine tplan_b rfl (fun K hK => ?_)
    go_simp
    refine (requireRegion_no _ _ _ _ _ H1.out).mono ?_
    rintro e w1 ⟨⟨u, pv, rfl⟩, hb1⟩
    have hS1 := belowS hS0 hb1
    exact ⟨rfl, .inr ⟨⟨_, _, rfl⟩, by simp [H1.out]⟩, by (repeat (first | assumption | exact Below.refl _ _ | (refine bl_alloc ?_ _) | (refine Below.drew ?_) | (refine bl_drewN ?_ _) | (refine bl_set ?_ (by first | (simp; done) | omega | (simp; omega)) _) | (refine bl_trans ?_ (by assumption)) | (refine bl_step ?_ (by assumption) (by first | omega | exact Below.size (by assumption) | (simp; omega) | (simp; exact Below.size (by assumption))))))⟩
  · cases h2 : isRg a' b' c' d'
    · have H1 := Lib.hid h1
      have H2 := Lib.hid h2
      clear h1 h2
      go_enter Try.func52, Try.ntmps52
      go_wp2
      refine wp_region_treeB (Pl.takes [0, 2] (.alone 1 (.alone 3 (.alone 4 (.takes [5] .done))))) (by kernel_rfl) (by kernel_rfl) (by kernel_rfl) (fun _ d _ _ _ h => by cases d <;> exact h) (fun hS0 => ?_)
      refine tplan_w (v := ?_) rfl (by rfl) ?_ ?_
      rotate_left
      · intro wx hSx
        obtain ⟨hcx, hfx, hzx⟩ := bcell hSx
        go_simp
        try (with_reducible rfl)
      try simp only [Act.put, List.setIfInBounds_toArray, List.set_cons_zero, List.set_cons_succ]
      refine tplan_w (v := ?_) rfl (by rfl) ?_ ?_
      rotate_left
      · intro wx hSx
        obtain ⟨hcx, hfx, hzx⟩ := bcell hSx
        go_simp
        try (with_reducible rfl)
      try simp only [Act.put, List.setIfInBounds_toArray, List.set_cons_zero, List.set_cons_succ]
      refine tplan_b rfl (fun K hK => ?_)
      go_simp
      refine (requireRegion_yes _ _ _ _ _ H1.out).mono ?_
      rintro e w1 ⟨rfl, hb1⟩
      have hS1 := belowS hS0 hb1
      refine hK _ _ ⟨hS1, ?_⟩
      clear hK K
      try simp only [Act.put, List.setIfInBounds_toArray, List.set_cons_zero, List.set_cons_succ]
      refine tplan_b rfl (fun K hK => ?_)
      go_simp
      refine (requireRegion_no _ _ _ _ _ H2.out).mono ?_
      rintro e w2 ⟨⟨u, pv, rfl⟩, hb2⟩
      have hS2 := belowS hS1 hb2
      exact ⟨rfl, .inr ⟨⟨_, _, rfl⟩, by simp [H1.out, H2.out]⟩, by (repeat (first | assumption | exact Below.refl _ _ | (refine bl_alloc ?_ _) | (refine Below.drew ?_) | (refine bl_drewN ?_ _) | (refine bl_set ?_ (by first | (simp; done) | omega | (simp; omega)) _) | (refine bl_trans ?_ (by assumption)) | (refine bl_step ?_ (by assumption) (by first | omega | exact Below.size (by assumption) | (simp; omega) | (simp; exact Below.size (by assumption))))))⟩
    · obtain ⟨ma, mb, mc, md⟩ := mid_rg h1
      obtain ⟨ma', mb', mc', md'⟩ := mid_rg h2
      have H1 := Lib.hid h1
      have H2 := Lib.hid h2
      clear h1 h2
      go_enter Try.func52, Try.ntmps52
      go_wp2
      refine wp_region_treeB (Pl.takes [0, 2] (.alone 1 (.alone 3 (.alone 4 (.takes [5] .done))))) (by kernel_rfl) (by kernel_rfl) (by kernel_rfl) (fun _ d _ _ _ h => by cases d <;> exact h) (fun hS0 => ?_)
      refine tplan_w (v := ?_) rfl (by rfl) ?_ ?_
      rotate_left
      · intro wx hSx
        obtain ⟨hcx, hfx, hzx⟩ := bcell hSx
        go_simp
        try (with_reducible rfl)
      try simp only [Act.put, List.setIfInBounds_toArray, List.set_cons_zero, List.set_cons_succ]
      refine tplan_w (v := ?_) rfl (by rfl) ?_ ?_
      rotate_left
      · intro wx hSx
        obtain ⟨hcx, hfx, hzx⟩ := bcell hSx
        go_simp
        try (with_reducible rfl)
      try simp only [Act.put, List.setIfInBounds_toArray, List.set_cons_zero, List.set_cons_succ]
      refine tplan_b rfl (fun K hK => ?_)
      go_simp
      refine (requireRegion_yes _ _ _ _ _ H1.out).mono ?_
      rintro e w1 ⟨rfl, hb1⟩
      have hS1 := belowS hS0 hb1
      refine hK _ _ ⟨hS1, ?_⟩
      clear hK K
      try simp only [Act.put, List.setIfInBounds_toArray, List.set_cons_zero, List.set_cons_succ]
      refine tplan_b rfl (fun K hK => ?_)
      go_simp
      refine (requireRegion_yes _ _ _ _ _ H2.out).mono ?_
      rintro e w2 ⟨rfl, hb2⟩
      have hS2 := belowS hS1 hb2
      refine hK _ _ ⟨hS2, ?_⟩
      clear hK K
      try simp only [Act.put, List.setIfInBounds_toArray, List.set_cons_zero, List.set_cons_succ]
      refine tplan_b rfl (fun K hK => ?_)
      go_simp
      refine (rgFar_any _ _ _ _ _ _ _ _ _ ma mb mc md ma' mb' mc' md').mono ?_
      rintro e w3 ⟨rfl, hb3⟩
      have hS3 := belowS hS2 hb3
      refine hK _ _ ⟨hS3, ?_⟩
      clear hK K
      try simp only [Act.put, List.setIfInBounds_toArray, List.set_cons_zero, List.set_cons_succ]
      refine tplan_w (v := ?_) rfl (by rfl) ?_ ?_
      rotate_left
      · intro wx hSx
        obtain ⟨hcx, hfx, hzx⟩ := bcell hSx
        go_simp
        try (with_reducible rfl)
      try simp only [Act.put, List.setIfInBounds_toArray, List.set_cons_zero, List.set_cons_succ]
      refine tplan_endQ ?_
      go_wp2
      go_ret
      exact ⟨.inl ⟨_, rfl, by simp [H1.out, H2.out], rfl⟩, by (repeat (first | assumption | exact Below.refl _ _ | (refine bl_alloc ?_ _) | (refine Below.drew ?_) | (refine bl_drewN ?_ _) | (refine bl_set ?_ (by first | (simp; done) | omega | (simp; omega)) _) | (refine bl_trans ?_ (by assumption)) | (refine bl_step ?_ (by assumption) (by first | omega | exact Below.size (by assumption) | (simp; omega) | (simp; exact Below.size (by assumption))))))⟩
set_option maxRecDepth 100000 in
theorem FarRegionsI_any (a b c d a' b' c' d' : Int) (w : World) :
    Calls Try.prog 22 #[.agg #[.int .i64 a, .int .i64 b, .int .i64 c, .int .i64 d], .agg #[.int .i64 a', .int .i64 b', .int .i64 c', .int .i64 d']] w fun e w' => e = .returned (faV a b c d a' b' c' d') ∧ Below w.heap.size w w' := by
  have hmf : ∀ (fn : Fn) (first cap : Array Value) (w : World), (Instr.makeFunc fn first cap).run Try.prog w = .ok (.func fn first cap) w := fun _ _ _ _ => rfl
  have eg : ∀ args w, (callFunc 52 args).run Try.prog w = .ok (.enter 52 args) w := enters_of Try.func52 (by kernel_rfl) rfl
  have hB := ((Blk.new w #[.int .i64 a, .int .i64 b, .int .i64 c, .int .i64 d] 25).alloc (.cells #[.int .i64 a', .int .i64 b', .int .i64 c', .int .i64 d'] 25)).alloc (.cells #[.bool false] 4)
  have hN := (Blk.new (w.alloc (.cells #[.int .i64 a, .int .i64 b, .int .i64 c, .int .i64 d] 25)) #[.int .i64 a', .int .i64 b', .int .i64 c', .int .i64 d'] 25).alloc (.cells #[.bool false] 4)
  rw [World.size_alloc] at hN
  have hx := attemptInt_any 52 #[.pointer (some ⟨w.heap.size, 0, none⟩), .pointer (some ⟨w.heap.size + 1, 0, none⟩)] ((w.alloc (.cells #[.int .i64 a, .int .i64 b, .int .i64 c, .int .i64 d] 25)).alloc (.cells #[.int .i64 a', .int .i64 b', .int .i64 c', .int .i64 d'] 25)) (fun v _ => (isRg a b c d && isRg a' b' c' d') = true ∧ v = .int .i64 (farRg a b c d a' b' c' d')) ((isRg a b c d && isRg a' b' c' d') = false) eg
    (farFn_any w.heap.size (w.heap.size + 1) a b c d a' b' c' d' _ (CellsR.of hB) (CellsR.of hN))
  have h0 : Below w.heap.size w ((w.alloc (.cells #[.int .i64 a, .int .i64 b, .int .i64 c, .int .i64 d] 25)).alloc (.cells #[.int .i64 a', .int .i64 b', .int .i64 c', .int .i64 d'] 25)) := by (repeat (first | assumption | exact Below.refl _ _ | (refine bl_alloc ?_ _) | (refine Below.drew ?_) | (refine bl_drewN ?_ _) | (refine bl_set ?_ (by first | (simp; done) | omega | (simp; omega)) _) | (refine bl_trans ?_ (by assumption)) | (refine bl_step ?_ (by assumption) (by first | omega | exact Below.size (by assumption) | (simp; omega) | (simp; exact Below.size (by assumption))))))
  clear hB hN
  go_enter Try.func22, Try.ntmps22
  go_wp2_with fail
  refine hx.mono ?_
  rintro e w1 ⟨⟨v, w2, rfl, ⟨hi, rfl⟩, rfl⟩ | ⟨rfl, hi⟩, hb1⟩
  · have b1 := bl_trans h0 hb1
    go_wp2
    go_ret2
    exact ⟨by rw [faV, inRes_t hi]; rfl, by simpa using b1⟩
  · have b1 := bl_trans h0 hb1
    go_wp2
    go_ret2
    exact ⟨by rw [faV, inRes_f hi]; rfl, b1⟩
end Go.Proofs.Ytkkeodceihjbgaa
