/-
  Contracts: MergePair, as the model has it.
-/
import Derived.Test.YtkkeodceihjbgaaMergeS
import Derived.Test.YtkkeodceihjbgaaMergeP
namespace Go.Proofs.Ytkkeodceihjbgaa
set_option linter.unusedSimpArgs false
set_option linter.unusedVariables false
open Go.ChangeShapes Go.WideShapes Go.ChangeAt Go.RowKit Go.Shelf

set_option maxRecDepth 100000 in
set_option maxHeartbeats 3200000 in
theorem MergePairS_any (M N : Mg) (w : World) :
    Calls Try.prog 23 #[.agg #[.int .i64 M.a, .int .i64 M.b, .int .i64 M.c, .int .i64 M.d, .int .i64 M.e], .agg #[.int .i64 N.a, .int .i64 N.b, .int .i64 N.c, .int .i64 N.d, .int .i64 N.e]] w fun e w' => e = .returned (mpV M N) ∧ Below w.heap.size w w' := by
  cases h1 : M.ok
  · have H1 := Lib.hid h1
    have R := Lib.hid (mpV_f (M := M) (N := N) (by simp [okPair2, h1]))
    clear h1
    go_enter Try.func23, Try.ntmps23
    go_wp2_with fail
    refine (l06Valid_any M _).mono ?_
    rintro e w1 ⟨rfl, hb1⟩
    rw [H1.out]
    obtain ⟨hc1, hf1, hz1⟩ := bcell hb1
    have hz1' : w.heap.size < w1.heap.size := by (first | (simp at hz1; omega) | omega)
    have hz1'' : w.heap.size + 1 < w1.heap.size := by (first | (simp at hz1; omega) | omega)
    have hz1w : w.heap.size + 2 < w1.heap.size := by (first | (simp at hz1; omega) | omega)
    go_wp2
    have bZ : Below w.heap.size w w1 := bl_trans (by (repeat (first | assumption | exact Below.refl _ _ | (refine bl_alloc ?_ _) | (refine Below.drew ?_) | (refine bl_drewN ?_ _) | (refine bl_set ?_ (by first | (simp; done) | omega | (simp; omega)) _) | (refine bl_trans ?_ (by assumption)) | (refine bl_step ?_ (by assumption) (by first | omega | exact Below.size (by assumption) | (simp; omega) | (simp; exact Below.size (by assumption))))))) hb1
    have bY := (((((bZ.setCell (p := ⟨w.heap.size + 1 + 1, 0, none⟩) (by show w.heap.size ≤ w.heap.size + 1 + 1; omega) (.int .i64 0)).setCell (p := ⟨w.heap.size + 1 + 1, 1, none⟩) (by show w.heap.size ≤ w.heap.size + 1 + 1; omega) (.int .i64 0)).setCell (p := ⟨w.heap.size + 1 + 1, 2, none⟩) (by show w.heap.size ≤ w.heap.size + 1 + 1; omega) (.int .i64 0)).setCell (p := ⟨w.heap.size + 1 + 1, 3, none⟩) (by show w.heap.size ≤ w.heap.size + 1 + 1; omega) (.int .i64 0)).setCell (p := ⟨w.heap.size + 1 + 1, 4, none⟩) (by show w.heap.size ≤ w.heap.size + 1 + 1; omega) (.int .i64 0))
    exact bodyPost_ret (v := .tuple #[.agg #[.int .i64 0, .int .i64 0, .int .i64 0, .int .i64 0, .int .i64 0], .int .i64 0, .int .i64 0, .bool false]) (by simp [results, Try.results23, hc1, hz1, hz1', hz1'', hz1w, go_sem]) rfl ⟨by rw [R.out], bY⟩
  · cases h2 : N.ok
    · have H1 := Lib.hid h1
      have H2 := Lib.hid h2
      have R := Lib.hid (mpV_f (M := M) (N := N) (by simp [okPair2, h2]))
      clear h1 h2
      go_enter Try.func23, Try.ntmps23
      go_wp2_with fail
      refine (l06Valid_any M _).mono ?_
      rintro e w1 ⟨rfl, hb1⟩
      rw [H1.out]
      obtain ⟨hc1, hf1, hz1⟩ := bcell hb1
      have hz1' : w.heap.size < w1.heap.size := by (first | (simp at hz1; omega) | omega)
      have hz1'' : w.heap.size + 1 < w1.heap.size := by (first | (simp at hz1; omega) | omega)
      have hz1w : w.heap.size + 2 < w1.heap.size := by (first | (simp at hz1; omega) | omega)
      go_wp2_with fail
      refine (l06Valid_any N _).mono ?_
      rintro e w2 ⟨rfl, hb2⟩
      rw [H2.out]
      obtain ⟨hc2, hf2, hz2⟩ := bcell hb2
      have hz2' : w.heap.size < w2.heap.size := by (first | (simp at hz2; omega) | omega)
      have hz2'' : w.heap.size + 1 < w2.heap.size := by (first | (simp at hz2; omega) | omega)
      have hz2w : w.heap.size + 2 < w2.heap.size := by (first | (simp at hz2; omega) | omega)
      go_wp2
      have bZ : Below w.heap.size w w2 := bl_trans (bl_trans (by (repeat (first | assumption | exact Below.refl _ _ | (refine bl_alloc ?_ _) | (refine Below.drew ?_) | (refine bl_drewN ?_ _) | (refine bl_set ?_ (by first | (simp; done) | omega | (simp; omega)) _) | (refine bl_trans ?_ (by assumption)) | (refine bl_step ?_ (by assumption) (by first | omega | exact Below.size (by assumption) | (simp; omega) | (simp; exact Below.size (by assumption))))))) hb1) hb2
      have bY := (((((bZ.setCell (p := ⟨w.heap.size + 1 + 1, 0, none⟩) (by show w.heap.size ≤ w.heap.size + 1 + 1; omega) (.int .i64 0)).setCell (p := ⟨w.heap.size + 1 + 1, 1, none⟩) (by show w.heap.size ≤ w.heap.size + 1 + 1; omega) (.int .i64 0)).setCell (p := ⟨w.heap.size + 1 + 1, 2, none⟩) (by show w.heap.size ≤ w.heap.size + 1 + 1; omega) (.int .i64 0)).setCell (p := ⟨w.heap.size + 1 + 1, 3, none⟩) (by show w.heap.size ≤ w.heap.size + 1 + 1; omega) (.int .i64 0)).setCell (p := ⟨w.heap.size + 1 + 1, 4, none⟩) (by show w.heap.size ≤ w.heap.size + 1 + 1; omega) (.int .i64 0))
      exact bodyPost_ret (v := .tuple #[.agg #[.int .i64 0, .int .i64 0, .int .i64 0, .int .i64 0, .int .i64 0], .int .i64 0, .int .i64 0, .bool false]) (by simp [results, Try.results23, hc1, hz1, hz1', hz1'', hz1w, hc2, hz2, hz2', hz2'', hz2w, go_sem]) rfl ⟨by rw [R.out], bY⟩
    · have CP := Lib.hid (fun w => l06Pair_any M N w h1 h2)
      obtain ⟨k1, k2, k3⟩ := Mg.ok_iff.1 h1
      obtain ⟨l1, l2, l3⟩ := Mg.ok_iff.1 h2
      obtain ⟨⟨x0, x1⟩, y0, y1⟩ := w_in h1 h2
      clear k1 l1
      cases h3 : (outM M N).ok
      · have H1 := Lib.hid h1
        have H2 := Lib.hid h2
        have H3 := Lib.hid h3
        have R := Lib.hid (mpV_f (M := M) (N := N) (by simp [okPair2, okM, h3]))
        clear h1 h2 h3
        go_enter Try.func23, Try.ntmps23
        go_wp2_with fail
        refine (l06Valid_any M _).mono ?_
        rintro e w1 ⟨rfl, hb1⟩
        rw [H1.out]
        obtain ⟨hc1, hf1, hz1⟩ := bcell hb1
        have hz1' : w.heap.size < w1.heap.size := by (first | (simp at hz1; omega) | omega)
        have hz1'' : w.heap.size + 1 < w1.heap.size := by (first | (simp at hz1; omega) | omega)
        have hz1w : w.heap.size + 2 < w1.heap.size := by (first | (simp at hz1; omega) | omega)
        go_wp2_with fail
        refine (l06Valid_any N _).mono ?_
        rintro e w2 ⟨rfl, hb2⟩
        rw [H2.out]
        obtain ⟨hc2, hf2, hz2⟩ := bcell hb2
        have hz2' : w.heap.size < w2.heap.size := by (first | (simp at hz2; omega) | omega)
        have hz2'' : w.heap.size + 1 < w2.heap.size := by (first | (simp at hz2; omega) | omega)
        have hz2w : w.heap.size + 2 < w2.heap.size := by (first | (simp at hz2; omega) | omega)
        go_wp2_with fail
        refine (CP.out _).mono ?_
        rintro e w3 ⟨rfl, hb3⟩
        obtain ⟨hc3, hf3, hz3⟩ := bcell hb3
        have hz3' : w.heap.size < w3.heap.size := by (first | (simp at hz3; omega) | omega)
        have hz3'' : w.heap.size + 1 < w3.heap.size := by (first | (simp at hz3; omega) | omega)
        have hz3w : w.heap.size + 2 < w3.heap.size := by omega
        go_wp2_with fail
        refine (l06Valid_any (outM M N) _).mono ?_
        rintro e w4 ⟨rfl, hb4⟩
        rw [H3.out]
        obtain ⟨hc4, hf4, hz4⟩ := bcell hb4
        have hz4v : w3.heap.size < w4.heap.size := by (first | (simp at hz4; omega) | omega)
        have hz4' : w.heap.size < w4.heap.size := by omega
        have hz4'' : w.heap.size + 1 < w4.heap.size := by omega
        have hz4w : w.heap.size + 2 < w4.heap.size := by omega
        have hz3v : w.heap.size + 1 < w3.heap.size + 1 := by omega
        have hz3u : w.heap.size < w3.heap.size + 1 := by omega
        have hq : Below w.heap.size w w3 := bl_trans (bl_trans (bl_trans (by (repeat (first | assumption | exact Below.refl _ _ | (refine bl_alloc ?_ _) | (refine Below.drew ?_) | (refine bl_drewN ?_ _) | (refine bl_set ?_ (by first | (simp; done) | omega | (simp; omega)) _) | (refine bl_trans ?_ (by assumption)) | (refine bl_step ?_ (by assumption) (by first | omega | exact Below.size (by assumption) | (simp; omega) | (simp; exact Below.size (by assumption))))))) hb1) hb2) hb3
        have hq2 := (hq.alloc (by omega) (.cells #[.int .i64 (outM M N).a, .int .i64 (outM M N).b, .int .i64 (outM M N).c, .int .i64 (outM M N).d, .int .i64 (outM M N).e] 45))
        have hq4 : Below w.heap.size w w4 := bl_trans hq2 hb4
        go_wp2
        have bZ : Below w.heap.size w w4 := hq4
        have bY := (((((bZ.setCell (p := ⟨w.heap.size + 1 + 1, 0, none⟩) (by show w.heap.size ≤ w.heap.size + 1 + 1; omega) (.int .i64 0)).setCell (p := ⟨w.heap.size + 1 + 1, 1, none⟩) (by show w.heap.size ≤ w.heap.size + 1 + 1; omega) (.int .i64 0)).setCell (p := ⟨w.heap.size + 1 + 1, 2, none⟩) (by show w.heap.size ≤ w.heap.size + 1 + 1; omega) (.int .i64 0)).setCell (p := ⟨w.heap.size + 1 + 1, 3, none⟩) (by show w.heap.size ≤ w.heap.size + 1 + 1; omega) (.int .i64 0)).setCell (p := ⟨w.heap.size + 1 + 1, 4, none⟩) (by show w.heap.size ≤ w.heap.size + 1 + 1; omega) (.int .i64 0))
        exact bodyPost_ret (v := .tuple #[.agg #[.int .i64 0, .int .i64 0, .int .i64 0, .int .i64 0, .int .i64 0], .int .i64 0, .int .i64 0, .bool false]) (by simp [results, Try.results23, hc1, hz1, hz1', hz1'', hz1w, hc2, hz2, hz2', hz2'', hz2w, hc3, hz3, hz3', hz3'', hz3w, hc4, hz4, hz4', hz4'', hz4w, hz4v, hz3v, hz3u, go_sem]) rfl ⟨by rw [R.out], bY⟩
      · cases h4 : okW M N
        · have hne : ((M.e + wA M N) == (N.e + wB M N)) = false := by have := of_decide_eq_false h4; simpa using this
          have HNE := Lib.hid hne
          clear hne
          have H1 := Lib.hid h1
          have H2 := Lib.hid h2
          have H3 := Lib.hid h3
          have H4 := Lib.hid h4
          have R := Lib.hid (mpV_f (M := M) (N := N) (by simp [okPair2, okM, h4]))
          clear h1 h2 h3 h4
          go_enter Try.func23, Try.ntmps23
          go_wp2_with fail
          refine (l06Valid_any M _).mono ?_
          rintro e w1 ⟨rfl, hb1⟩
          rw [H1.out]
          obtain ⟨hc1, hf1, hz1⟩ := bcell hb1
          have hz1' : w.heap.size < w1.heap.size := by (first | (simp at hz1; omega) | omega)
          have hz1'' : w.heap.size + 1 < w1.heap.size := by (first | (simp at hz1; omega) | omega)
          have hz1w : w.heap.size + 2 < w1.heap.size := by (first | (simp at hz1; omega) | omega)
          go_wp2_with fail
          refine (l06Valid_any N _).mono ?_
          rintro e w2 ⟨rfl, hb2⟩
          rw [H2.out]
          obtain ⟨hc2, hf2, hz2⟩ := bcell hb2
          have hz2' : w.heap.size < w2.heap.size := by (first | (simp at hz2; omega) | omega)
          have hz2'' : w.heap.size + 1 < w2.heap.size := by (first | (simp at hz2; omega) | omega)
          have hz2w : w.heap.size + 2 < w2.heap.size := by (first | (simp at hz2; omega) | omega)
          go_wp2_with fail
          refine (CP.out _).mono ?_
          rintro e w3 ⟨rfl, hb3⟩
          obtain ⟨hc3, hf3, hz3⟩ := bcell hb3
          have hz3' : w.heap.size < w3.heap.size := by (first | (simp at hz3; omega) | omega)
          have hz3'' : w.heap.size + 1 < w3.heap.size := by (first | (simp at hz3; omega) | omega)
          have hz3w : w.heap.size + 2 < w3.heap.size := by omega
          go_wp2_with fail
          refine (l06Valid_any (outM M N) _).mono ?_
          rintro e w4 ⟨rfl, hb4⟩
          rw [H3.out]
          obtain ⟨hc4, hf4, hz4⟩ := bcell hb4
          have hz4v : w3.heap.size < w4.heap.size := by (first | (simp at hz4; omega) | omega)
          have hz4' : w.heap.size < w4.heap.size := by omega
          have hz4'' : w.heap.size + 1 < w4.heap.size := by omega
          have hz4w : w.heap.size + 2 < w4.heap.size := by omega
          have hz3v : w.heap.size + 1 < w3.heap.size + 1 := by omega
          have hz3u : w.heap.size < w3.heap.size + 1 := by omega
          have hq : Below w.heap.size w w3 := bl_trans (bl_trans (bl_trans (by (repeat (first | assumption | exact Below.refl _ _ | (refine bl_alloc ?_ _) | (refine Below.drew ?_) | (refine bl_drewN ?_ _) | (refine bl_set ?_ (by first | (simp; done) | omega | (simp; omega)) _) | (refine bl_trans ?_ (by assumption)) | (refine bl_step ?_ (by assumption) (by first | omega | exact Below.size (by assumption) | (simp; omega) | (simp; exact Below.size (by assumption))))))) hb1) hb2) hb3
          have hq2 := (hq.alloc (by omega) (.cells #[.int .i64 (outM M N).a, .int .i64 (outM M N).b, .int .i64 (outM M N).c, .int .i64 (outM M N).d, .int .i64 (outM M N).e] 45))
          have hq4 : Below w.heap.size w w4 := bl_trans hq2 hb4
          have hne := HNE.out
          have hne2 : ¬ M.e + wA M N = N.e + wB M N := by simpa using hne
          clear hq hq2
          go_wp2
          have bZ : Below w.heap.size w w4 := hq4
          have bY := (((((bZ.setCell (p := ⟨w.heap.size + 1 + 1, 0, none⟩) (by show w.heap.size ≤ w.heap.size + 1 + 1; omega) (.int .i64 0)).setCell (p := ⟨w.heap.size + 1 + 1, 1, none⟩) (by show w.heap.size ≤ w.heap.size + 1 + 1; omega) (.int .i64 0)).setCell (p := ⟨w.heap.size + 1 + 1, 2, none⟩) (by show w.heap.size ≤ w.heap.size + 1 + 1; omega) (.int .i64 0)).setCell (p := ⟨w.heap.size + 1 + 1, 3, none⟩) (by show w.heap.size ≤ w.heap.size + 1 + 1; omega) (.int .i64 0)).setCell (p := ⟨w.heap.size + 1 + 1, 4, none⟩) (by show w.heap.size ≤ w.heap.size + 1 + 1; omega) (.int .i64 0))
          exact bodyPost_ret (v := .tuple #[.agg #[.int .i64 0, .int .i64 0, .int .i64 0, .int .i64 0, .int .i64 0], .int .i64 0, .int .i64 0, .bool false]) (by simp [results, Try.results23, hc1, hz1, hz1', hz1'', hz1w, hc2, hz2, hz2', hz2'', hz2w, hc3, hz3, hz3', hz3'', hz3w, hc4, hz4, hz4', hz4'', hz4w, hz4v, hz3v, hz3u, go_sem]) rfl ⟨by rw [R.out], bY⟩
        · have hne : M.e + wA M N = N.e + wB M N := of_decide_eq_true h4
          have HNE := Lib.hid hne
          clear hne
          have H1 := Lib.hid h1
          have H2 := Lib.hid h2
          have H3 := Lib.hid h3
          have H4 := Lib.hid h4
          have R := Lib.hid (mpV_t (M := M) (N := N) (by simp [okPair2, okM, h1, h2, h3, h4]))
          clear h1 h2 h3 h4
          go_enter Try.func23, Try.ntmps23
          go_wp2_with fail
          refine (l06Valid_any M _).mono ?_
          rintro e w1 ⟨rfl, hb1⟩
          rw [H1.out]
          obtain ⟨hc1, hf1, hz1⟩ := bcell hb1
          have hz1' : w.heap.size < w1.heap.size := by (first | (simp at hz1; omega) | omega)
          have hz1'' : w.heap.size + 1 < w1.heap.size := by (first | (simp at hz1; omega) | omega)
          have hz1w : w.heap.size + 2 < w1.heap.size := by (first | (simp at hz1; omega) | omega)
          go_wp2_with fail
          refine (l06Valid_any N _).mono ?_
          rintro e w2 ⟨rfl, hb2⟩
          rw [H2.out]
          obtain ⟨hc2, hf2, hz2⟩ := bcell hb2
          have hz2' : w.heap.size < w2.heap.size := by (first | (simp at hz2; omega) | omega)
          have hz2'' : w.heap.size + 1 < w2.heap.size := by (first | (simp at hz2; omega) | omega)
          have hz2w : w.heap.size + 2 < w2.heap.size := by (first | (simp at hz2; omega) | omega)
          go_wp2_with fail
          refine (CP.out _).mono ?_
          rintro e w3 ⟨rfl, hb3⟩
          obtain ⟨hc3, hf3, hz3⟩ := bcell hb3
          have hz3' : w.heap.size < w3.heap.size := by (first | (simp at hz3; omega) | omega)
          have hz3'' : w.heap.size + 1 < w3.heap.size := by (first | (simp at hz3; omega) | omega)
          have hz3w : w.heap.size + 2 < w3.heap.size := by omega
          go_wp2_with fail
          refine (l06Valid_any (outM M N) _).mono ?_
          rintro e w4 ⟨rfl, hb4⟩
          rw [H3.out]
          obtain ⟨hc4, hf4, hz4⟩ := bcell hb4
          have hz4v : w3.heap.size < w4.heap.size := by (first | (simp at hz4; omega) | omega)
          have hz4' : w.heap.size < w4.heap.size := by omega
          have hz4'' : w.heap.size + 1 < w4.heap.size := by omega
          have hz4w : w.heap.size + 2 < w4.heap.size := by omega
          have hz3v : w.heap.size + 1 < w3.heap.size + 1 := by omega
          have hz3u : w.heap.size < w3.heap.size + 1 := by omega
          have hq : Below w.heap.size w w3 := bl_trans (bl_trans (bl_trans (by (repeat (first | assumption | exact Below.refl _ _ | (refine bl_alloc ?_ _) | (refine Below.drew ?_) | (refine bl_drewN ?_ _) | (refine bl_set ?_ (by first | (simp; done) | omega | (simp; omega)) _) | (refine bl_trans ?_ (by assumption)) | (refine bl_step ?_ (by assumption) (by first | omega | exact Below.size (by assumption) | (simp; omega) | (simp; exact Below.size (by assumption))))))) hb1) hb2) hb3
          have hq2 := (hq.alloc (by omega) (.cells #[.int .i64 (outM M N).a, .int .i64 (outM M N).b, .int .i64 (outM M N).c, .int .i64 (outM M N).d, .int .i64 (outM M N).e] 45))
          have hq4 : Below w.heap.size w w4 := bl_trans hq2 hb4
          have hne := HNE.out
          clear hq hq2
          go_wp2
          have bY := (((((hq4.setCell (p := ⟨w.heap.size + 1 + 1, 0, none⟩) (by show w.heap.size ≤ w.heap.size + 1 + 1; omega) (.int .i64 (outM M N).a)).setCell (p := ⟨w.heap.size + 1 + 1, 1, none⟩) (by show w.heap.size ≤ w.heap.size + 1 + 1; omega) (.int .i64 (outM M N).b)).setCell (p := ⟨w.heap.size + 1 + 1, 2, none⟩) (by show w.heap.size ≤ w.heap.size + 1 + 1; omega) (.int .i64 (outM M N).c)).setCell (p := ⟨w.heap.size + 1 + 1, 3, none⟩) (by show w.heap.size ≤ w.heap.size + 1 + 1; omega) (.int .i64 (outM M N).d)).setCell (p := ⟨w.heap.size + 1 + 1, 4, none⟩) (by show w.heap.size ≤ w.heap.size + 1 + 1; omega) (.int .i64 (outM M N).e))
          exact bodyPost_ret (v := .tuple #[.agg #[.int .i64 (outM M N).a, .int .i64 (outM M N).b, .int .i64 (outM M N).c, .int .i64 (outM M N).d, .int .i64 (outM M N).e], .int .i64 (wA M N), .int .i64 (wB M N), .bool true]) (by simp [results, Try.results23, hc1, hz1, hz1', hz1'', hz1w, hc2, hz2, hz2', hz2'', hz2w, hc3, hz3, hz3', hz3'', hz3w, hc4, hz4, hz4', hz4'', hz4w, hz4v, hz3v, hz3u, go_sem]) rfl ⟨by rw [R.out], bY⟩

end Go.Proofs.Ytkkeodceihjbgaa
