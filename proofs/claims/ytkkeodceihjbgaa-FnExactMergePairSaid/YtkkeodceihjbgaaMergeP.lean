/-
  Contracts: MergePair, as the program has it.
-/
import Derived.Test.YtkkeodceihjbgaaMergeI
import Derived.Test.YtkkeodceihjbgaaAttemptM
import Derived.Shelf.Abstract
namespace Go.Proofs.Ytkkeodceihjbgaa
set_option linter.unusedSimpArgs false
set_option linter.unusedVariables false
open Go.ChangeShapes Go.WideShapes Go.ChangeAt Go.RowKit Go.Shelf

def okPair2 (M N : Mg) : Bool := M.ok && (N.ok && okM M N)
/-- A merge, its wires and true, or none and false. -/
def mpV (M N : Mg) : Value := bif okPair2 M N then .tuple #[.agg #[.int .i64 (outM M N).a, .int .i64 (outM M N).b, .int .i64 (outM M N).c, .int .i64 (outM M N).d, .int .i64 (outM M N).e], .int .i64 (wA M N), .int .i64 (wB M N), .bool true] else .tuple #[.agg #[.int .i64 0, .int .i64 0, .int .i64 0, .int .i64 0, .int .i64 0], .int .i64 0, .int .i64 0, .bool false]
theorem mpV_t {M N : Mg} (h : okPair2 M N = true) : mpV M N = .tuple #[.agg #[.int .i64 (outM M N).a, .int .i64 (outM M N).b, .int .i64 (outM M N).c, .int .i64 (outM M N).d, .int .i64 (outM M N).e], .int .i64 (wA M N), .int .i64 (wB M N), .bool true] := by unfold mpV; rw [h]; rfl
theorem mpV_f {M N : Mg} (h : okPair2 M N = false) : mpV M N = .tuple #[.agg #[.int .i64 0, .int .i64 0, .int .i64 0, .int .i64 0, .int .i64 0], .int .i64 0, .int .i64 0, .bool false] := by unfold mpV; rw [h]; rfl
def CellsM (w : World) (g : Nat) (M : Mg) : Prop := (w.cell? ⟨g, 0, none⟩ = some (.int .i64 M.a) ∧ w.cell? ⟨g, 1, none⟩ = some (.int .i64 M.b) ∧ w.cell? ⟨g, 2, none⟩ = some (.int .i64 M.c) ∧ w.cell? ⟨g, 3, none⟩ = some (.int .i64 M.d) ∧ w.cell? ⟨g, 4, none⟩ = some (.int .i64 M.e)) ∧ g < w.heap.size
theorem CellsM.of {w : World} {g : Nat} {M : Mg} {t : TypeId} (h : Blk w g #[.int .i64 M.a, .int .i64 M.b, .int .i64 M.c, .int .i64 M.d, .int .i64 M.e] t) : CellsM w g M := ⟨⟨h.cell 0 rfl, h.cell 1 rfl, h.cell 2 rfl, h.cell 3 rfl, h.cell 4 rfl⟩, h.lt⟩
def FnM (M N : Mg) (w : World) (e : Ending) (w' : World) : Prop :=
  ((∃ x0 x1 x2 x3 x4 x5 x6, e = .returned (.agg #[.int .i64 x0, .int .i64 x1, .int .i64 x2, .int .i64 x3, .int .i64 x4, .int .i64 x5, .int .i64 x6]) ∧ (okPair2 M N = true ∧ Value.agg #[.int .i64 x0, .int .i64 x1, .int .i64 x2, .int .i64 x3, .int .i64 x4, .int .i64 x5, .int .i64 x6] = .agg #[.int .i64 (outM M N).a, .int .i64 (outM M N).b, .int .i64 (outM M N).c, .int .i64 (outM M N).d, .int .i64 (outM M N).e, .int .i64 (wA M N), .int .i64 (wB M N)])) ∨ (Pan e ∧ okPair2 M N = false)) ∧ Below w.heap.size w w'
theorem FnM.no {M N : Mg} {w w' : World} {e : Ending} (h : okPair2 M N = false) (he : Pan e) (hb : Below w.heap.size w w') : FnM M N w e w' := ⟨.inr ⟨he, h⟩, hb⟩
theorem FnM.yes {M N : Mg} {w w' : World} (h : okPair2 M N = true) (hb : Below w.heap.size w w') : FnM M N w (.returned (.agg #[.int .i64 (outM M N).a, .int .i64 (outM M N).b, .int .i64 (outM M N).c, .int .i64 (outM M N).d, .int .i64 (outM M N).e, .int .i64 (wA M N), .int .i64 (wB M N)])) w' := ⟨.inl ⟨_, _, _, _, _, _, _, rfl, h, rfl⟩, hb⟩
theorem mergeWith_yes (M N : Mg) (w : World) (hM : M.ok = true) (hN : N.ok = true) (h : okM M N = true) :
    Calls Try.prog 59 #[.agg #[.int .i64 M.a, .int .i64 M.b, .int .i64 M.c, .int .i64 M.d, .int .i64 M.e], .agg #[.int .i64 N.a, .int .i64 N.b, .int .i64 N.c, .int .i64 N.d, .int .i64 N.e]] w fun e w' => e = .returned (.agg #[.int .i64 (outM M N).a, .int .i64 (outM M N).b, .int .i64 (outM M N).c, .int .i64 (outM M N).d, .int .i64 (outM M N).e, .int .i64 (wA M N), .int .i64 (wB M N)]) ∧ Below w.heap.size w w' :=
  (mergeWith_any M N w hM hN).mono fun e w' ⟨hor, hb⟩ => ⟨hor.elim (fun h => h.2) (fun k => by rw [h] at k; cases k.1), hb⟩
theorem mergeWith_no (M N : Mg) (w : World) (hM : M.ok = true) (hN : N.ok = true) (h : okM M N = false) :
    Calls Try.prog 59 #[.agg #[.int .i64 M.a, .int .i64 M.b, .int .i64 M.c, .int .i64 M.d, .int .i64 M.e], .agg #[.int .i64 N.a, .int .i64 N.b, .int .i64 N.c, .int .i64 N.d, .int .i64 N.e]] w fun e w' => Pan e ∧ Below w.heap.size w w' :=
  (mergeWith_any M N w hM hN).mono fun e w' ⟨hor, hb⟩ => ⟨hor.elim (fun k => by rw [h] at k; cases k.1) (fun k => k.2), hb⟩
set_option maxRecDepth 100000 in
set_option maxHeartbeats 1600000 in
theorem mergeFn_any (g g' : Nat) (M N : Mg) (w : World) (h : CellsM w g M) (h' : CellsM w g' N) :
    Calls Try.prog 57 #[.pointer (some ⟨g, 0, none⟩), .pointer (some ⟨g', 0, none⟩)] w (FnM M N w) := by
  obtain ⟨⟨g0, g1, g2, g3, g4⟩, hg⟩ := h
  obtain ⟨⟨g0', g1', g2', g3', g4'⟩, hg'⟩ := h'
  have hg1 : g < w.heap.size + 1 := by omega
  have hg1' : g' < w.heap.size + 1 := by omega
  cases h1 : M.ok
  · have H1 := Lib.hid h1
    have R : Hid (okPair2 M N = false) := Lib.hid (show okPair2 M N = false by simp [okPair2, h1])
    clear h1
    go_enter Try.func57, Try.ntmps57
    go_wp2
    refine wp_region_treeB (Pl.takes [0, 2] (.alone 1 (.alone 3 (.alone 4 (.alone 5 .done))))) (by kernel_rfl) (by kernel_rfl) (by kernel_rfl) (fun _ d _ _ _ h => by cases d <;> exact h) (fun hS0 => ?_)
    refine tplan_w (v := ?_) rfl (by rfl) ?_ ?_
    rotate_left
    · intro wx hSx
      obtain ⟨hcx, hfx, hzx⟩ := bcell hSx
      go_simp
      try (with_reducible rfl)
    try simp only [Act.put, List.setIfInBounds_toArray, List.set_cons_zero, List.set_cons_succ]
    refine tplan_w (v := ?_) rfl (by rfl) ?_ ?_
    rotate_left
    · intro wx hSx
      obtain ⟨hcx, hfx, hzx⟩ := bcell hSx
      go_simp
      try (with_reducible rfl)
    try simp only [Act.put, List.setIfInBounds_toArray, List.set_cons_zero, List.set_cons_succ]
    refine tplan_b rfl (fun K hK => ?_)
    go_simp
    refine (requireMerge_no M _ H1.out).mono ?_
    rintro e w1 ⟨⟨u, pv, rfl⟩, hb1⟩
    have hS1 := belowS hS0 hb1
    exact ⟨rfl, FnM.no R.out ⟨_, _, rfl⟩ (bl_trans (by (repeat (first | assumption | exact Below.refl _ _ | (refine bl_alloc ?_ _) | (refine Below.drew ?_) | (refine bl_drewN ?_ _) | (refine bl_set ?_ (by first | (simp; done) | omega | (simp; omega)) _) | (refine bl_trans ?_ (by assumption)) | (refine bl_step ?_ (by assumption) (by first | omega | exact Below.size (by assumption) | (simp; omega) | (simp; exact Below.size (by assumption))))))) hS1)⟩
  · cases h2 : N.ok
    · have H1 := Lib.hid h1
      have H2 := Lib.hid h2
      have R : Hid (okPair2 M N = false) := Lib.hid (show okPair2 M N = false by simp [okPair2, h2])
      clear h1 h2
      go_enter Try.func57, Try.ntmps57
      go_wp2
      refine wp_region_treeB (Pl.takes [0, 2] (.alone 1 (.alone 3 (.alone 4 (.alone 5 .done))))) (by kernel_rfl) (by kernel_rfl) (by kernel_rfl) (fun _ d _ _ _ h => by cases d <;> exact h) (fun hS0 => ?_)
      refine tplan_w (v := ?_) rfl (by rfl) ?_ ?_
      rotate_left
      · intro wx hSx
        obtain ⟨hcx, hfx, hzx⟩ := bcell hSx
        go_simp
        try (with_reducible rfl)
      try simp only [Act.put, List.setIfInBounds_toArray, List.set_cons_zero, List.set_cons_succ]
      refine tplan_w (v := ?_) rfl (by rfl) ?_ ?_
      rotate_left
      · intro wx hSx
        obtain ⟨hcx, hfx, hzx⟩ := bcell hSx
        go_simp
        try (with_reducible rfl)
      try simp only [Act.put, List.setIfInBounds_toArray, List.set_cons_zero, List.set_cons_succ]
      refine tplan_b rfl (fun K hK => ?_)
      go_simp
      refine (requireMerge_yes M _ H1.out).mono ?_
      rintro e w1 ⟨rfl, hb1⟩
      have hS1 := belowS hS0 hb1
      refine hK _ _ ⟨hS1, ?_⟩
      clear hK K
      try simp only [Act.put, List.setIfInBounds_toArray, List.set_cons_zero, List.set_cons_succ]
      refine tplan_b rfl (fun K hK => ?_)
      go_simp
      refine (requireMerge_no N _ H2.out).mono ?_
      rintro e w2 ⟨⟨u, pv, rfl⟩, hb2⟩
      have hS2 := belowS hS1 hb2
      exact ⟨rfl, FnM.no R.out ⟨_, _, rfl⟩ (bl_trans (by (repeat (first | assumption | exact Below.refl _ _ | (refine bl_alloc ?_ _) | (refine Below.drew ?_) | (refine bl_drewN ?_ _) | (refine bl_set ?_ (by first | (simp; done) | omega | (simp; omega)) _) | (refine bl_trans ?_ (by assumption)) | (refine bl_step ?_ (by assumption) (by first | omega | exact Below.size (by assumption) | (simp; omega) | (simp; exact Below.size (by assumption))))))) hS2)⟩
    · cases h3 : okM M N
      · have H1 := Lib.hid h1
        have H2 := Lib.hid h2
        have H3 := Lib.hid h3
        have R : Hid (okPair2 M N = false) := Lib.hid (show okPair2 M N = false by simp [okPair2, h3])
        clear h1 h2 h3
        go_enter Try.func57, Try.ntmps57
        go_wp2
        refine wp_region_treeB (Pl.takes [0, 2] (.alone 1 (.alone 3 (.alone 4 (.alone 5 .done))))) (by kernel_rfl) (by kernel_rfl) (by kernel_rfl) (fun _ d _ _ _ h => by cases d <;> exact h) (fun hS0 => ?_)
        refine tplan_w (v := ?_) rfl (by rfl) ?_ ?_
        rotate_left
        · intro wx hSx
          obtain ⟨hcx, hfx, hzx⟩ := bcell hSx
          go_simp
          try (with_reducible rfl)
        try simp only [Act.put, List.setIfInBounds_toArray, List.set_cons_zero, List.set_cons_succ]
        refine tplan_w (v := ?_) rfl (by rfl) ?_ ?_
        rotate_left
        · intro wx hSx
          obtain ⟨hcx, hfx, hzx⟩ := bcell hSx
          go_simp
          try (with_reducible rfl)
        try simp only [Act.put, List.setIfInBounds_toArray, List.set_cons_zero, List.set_cons_succ]
        refine tplan_b rfl (fun K hK => ?_)
        go_simp
        refine (requireMerge_yes M _ H1.out).mono ?_
        rintro e w1 ⟨rfl, hb1⟩
        have hS1 := belowS hS0 hb1
        refine hK _ _ ⟨hS1, ?_⟩
        clear hK K
        try simp only [Act.put, List.setIfInBounds_toArray, List.set_cons_zero, List.set_cons_succ]
        refine tplan_b rfl (fun K hK => ?_)
        go_simp
        refine (requireMerge_yes N _ H2.out).mono ?_
        rintro e w2 ⟨rfl, hb2⟩
        have hS2 := belowS hS1 hb2
        refine hK _ _ ⟨hS2, ?_⟩
        clear hK K
        try simp only [Act.put, List.setIfInBounds_toArray, List.set_cons_zero, List.set_cons_succ]
        refine tplan_b rfl (fun K hK => ?_)
        go_simp
        refine (mergeWith_no M N _ H1.out H2.out H3.out).mono ?_
        rintro e w3 ⟨⟨u, pv, rfl⟩, hb3⟩
        have hS3 := belowS hS2 hb3
        exact ⟨rfl, FnM.no R.out ⟨_, _, rfl⟩ (bl_trans (by (repeat (first | assumption | exact Below.refl _ _ | (refine bl_alloc ?_ _) | (refine Below.drew ?_) | (refine bl_drewN ?_ _) | (refine bl_set ?_ (by first | (simp; done) | omega | (simp; omega)) _) | (refine bl_trans ?_ (by assumption)) | (refine bl_step ?_ (by assumption) (by first | omega | exact Below.size (by assumption) | (simp; omega) | (simp; exact Below.size (by assumption))))))) hS3)⟩
      · have H1 := Lib.hid h1
        have H2 := Lib.hid h2
        have H3 := Lib.hid h3
        have R : Hid (okPair2 M N = true) := Lib.hid (show okPair2 M N = true by simp [okPair2, h1, h2, h3])
        clear h1 h2 h3
        go_enter Try.func57, Try.ntmps57
        go_wp2
        refine wp_region_quietB (m := 5) (.alone 5 .done) (by kernel_rfl) (by kernel_rfl) (by kernel_rfl) ?_
        refine q_w (v := ?_) (by rfl) ?_ ?_
        rotate_left
        · intro wx hSx
          obtain ⟨hcx, hfx, hzx⟩ := bcell hSx
          go_simp
          try (with_reducible rfl)
        try simp only [Act.put, List.setIfInBounds_toArray, List.set_cons_zero, List.set_cons_succ]
        refine q_c (by rfl) (fun wx hSx => keepB hSx (Nat.le_refl _) (requireMerge_yes M _ H1.out)) (fun wx hSx => by go_simp <;> (repeat' (first | rfl | apply And.intro))) ?_
        try simp only [Act.put, List.setIfInBounds_toArray, List.set_cons_zero, List.set_cons_succ]
        refine q_w (v := ?_) (by rfl) ?_ ?_
        rotate_left
        · intro wx hSx
          obtain ⟨hcx, hfx, hzx⟩ := bcell hSx
          go_simp
          try (with_reducible rfl)
        try simp only [Act.put, List.setIfInBounds_toArray, List.set_cons_zero, List.set_cons_succ]
        refine q_c (by rfl) (fun wx hSx => keepB hSx (Nat.le_refl _) (requireMerge_yes N _ H2.out)) (fun wx hSx => by go_simp <;> (repeat' (first | rfl | apply And.intro))) ?_
        try simp only [Act.put, List.setIfInBounds_toArray, List.set_cons_zero, List.set_cons_succ]
        refine q_c (by rfl) (fun wx hSx => keepB hSx (Nat.le_refl _) (mergeWith_yes M N _ H1.out H2.out H3.out)) (fun wx hSx => by go_simp <;> (repeat' (first | rfl | apply And.intro))) ?_
        try simp only [Act.put, List.setIfInBounds_toArray, List.set_cons_zero, List.set_cons_succ]
        refine q_nil (fun w1 hb1 => ?_)
        obtain ⟨hc1, hf1, hz1⟩ := bcell hb1
        refine tplan_b rfl (fun K hK => ?_)
        go_simp
        refine hK _ _ ⟨trivial, ?_⟩
        clear hK K
        try simp only [Act.put, List.setIfInBounds_toArray, List.set_cons_zero, List.set_cons_succ]
        refine tplan_end ?_
        go_wp2
        have bZ : Below w.heap.size w w1 := bl_trans (by (repeat (first | assumption | exact Below.refl _ _ | (refine bl_alloc ?_ _) | (refine Below.drew ?_) | (refine bl_drewN ?_ _) | (refine bl_set ?_ (by first | (simp; done) | omega | (simp; omega)) _) | (refine bl_trans ?_ (by assumption)) | (refine bl_step ?_ (by assumption) (by first | omega | exact Below.size (by assumption) | (simp; omega) | (simp; exact Below.size (by assumption))))))) hb1
        have bY := (((((((bZ.setCell (p := ⟨w.heap.size, 0, none⟩) (Nat.le_refl _) (.int .i64 (outM M N).a)).setCell (p := ⟨w.heap.size, 1, none⟩) (Nat.le_refl _) (.int .i64 (outM M N).b)).setCell (p := ⟨w.heap.size, 2, none⟩) (Nat.le_refl _) (.int .i64 (outM M N).c)).setCell (p := ⟨w.heap.size, 3, none⟩) (Nat.le_refl _) (.int .i64 (outM M N).d)).setCell (p := ⟨w.heap.size, 4, none⟩) (Nat.le_refl _) (.int .i64 (outM M N).e)).setCell (p := ⟨w.heap.size, 5, none⟩) (Nat.le_refl _) (.int .i64 (wA M N))).setCell (p := ⟨w.heap.size, 6, none⟩) (Nat.le_refl _) (.int .i64 (wB M N)))
        exact bodyPost_ret (v := .agg #[.int .i64 (outM M N).a, .int .i64 (outM M N).b, .int .i64 (outM M N).c, .int .i64 (outM M N).d, .int .i64 (outM M N).e, .int .i64 (wA M N), .int .i64 (wB M N)]) (by simp [results, Try.results57, hc1, hz1, go_sem]) rfl (FnM.yes R.out bY)
end Go.Proofs.Ytkkeodceihjbgaa
