/-
  Contracts: MergePair, as the program has it.
-/
import Derived.Test.YtkkeodceihjbgaaMergeP
namespace Go.Proofs.Ytkkeodceihjbgaa
set_option linter.unusedSimpArgs false
set_option linter.unusedVariables false
open Go.ChangeShapes Go.WideShapes Go.ChangeAt Go.RowKit Go.Shelf

/-! ### of the program -/
set_option maxRecDepth 100000 in
set_option maxHeartbeats 3200000 in
theorem MergePairI_any (M N : Mg) (w : World) :
    Calls Try.prog 25 #[.agg #[.int .i64 M.a, .int .i64 M.b, .int .i64 M.c, .int .i64 M.d, .int .i64 M.e], .agg #[.int .i64 N.a, .int .i64 N.b, .int .i64 N.c, .int .i64 N.d, .int .i64 N.e]] w fun e w' => e = .returned (mpV M N) ∧ Below w.heap.size w w' := by
  have hmf : ∀ (fn : Fn) (first cap : Array Value) (w : World), (Instr.makeFunc fn first cap).run Try.prog w = .ok (.func fn first cap) w := fun _ _ _ _ => rfl
  have eg : ∀ args w, (callFunc 57 args).run Try.prog w = .ok (.enter 57 args) w := enters_of Try.func57 (by kernel_rfl) rfl
  have hB := ((((Blk.new w #[.int .i64 M.a, .int .i64 M.b, .int .i64 M.c, .int .i64 M.d, .int .i64 M.e] 45).alloc (.cells #[.int .i64 N.a, .int .i64 N.b, .int .i64 N.c, .int .i64 N.d, .int .i64 N.e] 45)).alloc (.cells #[.int .i64 0, .int .i64 0, .int .i64 0, .int .i64 0, .int .i64 0] 45)).alloc (.cells #[.int .i64 0, .int .i64 0, .int .i64 0, .int .i64 0, .int .i64 0, .int .i64 0, .int .i64 0] 76)).alloc (.cells #[.bool false] 4)
  have hN := (((Blk.new (w.alloc (.cells #[.int .i64 M.a, .int .i64 M.b, .int .i64 M.c, .int .i64 M.d, .int .i64 M.e] 45)) #[.int .i64 N.a, .int .i64 N.b, .int .i64 N.c, .int .i64 N.d, .int .i64 N.e] 45).alloc (.cells #[.int .i64 0, .int .i64 0, .int .i64 0, .int .i64 0, .int .i64 0] 45)).alloc (.cells #[.int .i64 0, .int .i64 0, .int .i64 0, .int .i64 0, .int .i64 0, .int .i64 0, .int .i64 0] 76)).alloc (.cells #[.bool false] 4)
  rw [World.size_alloc] at hN
  have hx := attemptM_any 57 #[.pointer (some ⟨w.heap.size, 0, none⟩), .pointer (some ⟨w.heap.size + 1, 0, none⟩)] (((w.alloc (.cells #[.int .i64 M.a, .int .i64 M.b, .int .i64 M.c, .int .i64 M.d, .int .i64 M.e] 45)).alloc (.cells #[.int .i64 N.a, .int .i64 N.b, .int .i64 N.c, .int .i64 N.d, .int .i64 N.e] 45)).alloc (.cells #[.int .i64 0, .int .i64 0, .int .i64 0, .int .i64 0, .int .i64 0] 45)) (fun v _ => okPair2 M N = true ∧ v = .agg #[.int .i64 (outM M N).a, .int .i64 (outM M N).b, .int .i64 (outM M N).c, .int .i64 (outM M N).d, .int .i64 (outM M N).e, .int .i64 (wA M N), .int .i64 (wB M N)]) (okPair2 M N = false) eg
    (mergeFn_any w.heap.size (w.heap.size + 1) M N _ (CellsM.of hB) (CellsM.of hN))
  have h0 : Below w.heap.size w (((w.alloc (.cells #[.int .i64 M.a, .int .i64 M.b, .int .i64 M.c, .int .i64 M.d, .int .i64 M.e] 45)).alloc (.cells #[.int .i64 N.a, .int .i64 N.b, .int .i64 N.c, .int .i64 N.d, .int .i64 N.e] 45)).alloc (.cells #[.int .i64 0, .int .i64 0, .int .i64 0, .int .i64 0, .int .i64 0] 45)) := by (repeat (first | assumption | exact Below.refl _ _ | (refine bl_alloc ?_ _) | (refine Below.drew ?_) | (refine bl_drewN ?_ _) | (refine bl_set ?_ (by first | (simp; done) | omega | (simp; omega)) _) | (refine bl_trans ?_ (by assumption)) | (refine bl_step ?_ (by assumption) (by first | omega | exact Below.size (by assumption) | (simp; omega) | (simp; exact Below.size (by assumption))))))
  clear hB hN
  go_enter Try.func25, Try.ntmps25
  go_wp2_with fail
  refine hx.mono ?_
  rintro e w1 ⟨⟨x0, x1, x2, x3, x4, x5, x6, w2, rfl, ⟨hi, hv⟩, -⟩ | ⟨rfl, hi⟩, hb1⟩
  · simp only [Value.agg.injEq, Array.mk.injEq, List.cons.injEq, Value.int.injEq, true_and, and_true] at hv
    obtain ⟨rfl, rfl, rfl, rfl, rfl, rfl, rfl⟩ := hv
    obtain ⟨hc1, hf1, hz1⟩ := bcell hb1
    have hz1w : w.heap.size + 2 < w1.heap.size := by (first | (simp at hz1; omega) | omega)
    have hz1v : w.heap.size + 1 < w1.heap.size := by omega
    have hz1u : w.heap.size < w1.heap.size := by omega
    have bW : Below w.heap.size w w1 := bl_trans h0 hb1
    go_wp2
    have hA7 : Blk (w1.alloc (.cells #[.int .i64 (outM M N).a, .int .i64 (outM M N).b, .int .i64 (outM M N).c, .int .i64 (outM M N).d, .int .i64 (outM M N).e, .int .i64 (wA M N), .int .i64 (wB M N)] 76)) w1.heap.size #[.int .i64 (outM M N).a, .int .i64 (outM M N).b, .int .i64 (outM M N).c, .int .i64 (outM M N).d, .int .i64 (outM M N).e, .int .i64 (wA M N), .int .i64 (wB M N)] 76 := Blk.new _ _ _
    have bA := bW.alloc (by omega) (.cells #[.int .i64 (outM M N).a, .int .i64 (outM M N).b, .int .i64 (outM M N).c, .int .i64 (outM M N).d, .int .i64 (outM M N).e, .int .i64 (wA M N), .int .i64 (wB M N)] 76)
    have bA1 := (Below.refl w1.heap.size w1).alloc (Nat.le_refl _) (.cells #[.int .i64 (outM M N).a, .int .i64 (outM M N).b, .int .i64 (outM M N).c, .int .i64 (outM M N).d, .int .i64 (outM M N).e, .int .i64 (wA M N), .int .i64 (wB M N)] 76)
    generalize (w1.alloc (.cells #[.int .i64 (outM M N).a, .int .i64 (outM M N).b, .int .i64 (outM M N).c, .int .i64 (outM M N).d, .int .i64 (outM M N).e, .int .i64 (wA M N), .int .i64 (wB M N)] 76)) = wq at *
    obtain ⟨hcq, hfq, hzq⟩ := bcell bA1
    clear bA1
    refine wp_region_tree (fun wx => Blk wx w1.heap.size #[.int .i64 (outM M N).a, .int .i64 (outM M N).b, .int .i64 (outM M N).c, .int .i64 (outM M N).d, .int .i64 (outM M N).e, .int .i64 (wA M N), .int .i64 (wB M N)] 76 ∧ Below w.heap.size w wx) (Pl.takes [0, 1, 2, 3, 4, 5, 6] (.alone 7 (.takes [8, 9, 10] .done))) (by kernel_rfl) (by kernel_rfl) (by kernel_rfl) (fun _ d _ _ _ h => by cases d <;> exact h) ⟨hA7, bA.drew⟩ (fun hS0 => ?_)
    refine tplan_w (v := ?_) rfl (by rfl) ?_ ?_
    rotate_left
    · intro wx hSx
      have q0 := hSx.1.cell 0 rfl
      have q1 := hSx.1.cell 1 rfl
      have q2 := hSx.1.cell 2 rfl
      have q3 := hSx.1.cell 3 rfl
      have q4 := hSx.1.cell 4 rfl
      have q5 := hSx.1.cell 5 rfl
      have q6 := hSx.1.cell 6 rfl
      go_simp
      try (with_reducible rfl)
    try simp only [Act.put, List.setIfInBounds_toArray, List.set_cons_zero, List.set_cons_succ]
    refine tplan_w (v := ?_) rfl (by rfl) ?_ ?_
    rotate_left
    · intro wx hSx
      have q0 := hSx.1.cell 0 rfl
      have q1 := hSx.1.cell 1 rfl
      have q2 := hSx.1.cell 2 rfl
      have q3 := hSx.1.cell 3 rfl
      have q4 := hSx.1.cell 4 rfl
      have q5 := hSx.1.cell 5 rfl
      have q6 := hSx.1.cell 6 rfl
      go_simp
      try (with_reducible rfl)
    try simp only [Act.put, List.setIfInBounds_toArray, List.set_cons_zero, List.set_cons_succ]
    refine tplan_w (v := ?_) rfl (by rfl) ?_ ?_
    rotate_left
    · intro wx hSx
      have q0 := hSx.1.cell 0 rfl
      have q1 := hSx.1.cell 1 rfl
      have q2 := hSx.1.cell 2 rfl
      have q3 := hSx.1.cell 3 rfl
      have q4 := hSx.1.cell 4 rfl
      have q5 := hSx.1.cell 5 rfl
      have q6 := hSx.1.cell 6 rfl
      go_simp
      try (with_reducible rfl)
    try simp only [Act.put, List.setIfInBounds_toArray, List.set_cons_zero, List.set_cons_succ]
    refine tplan_w (v := ?_) rfl (by rfl) ?_ ?_
    rotate_left
    · intro wx hSx
      have q0 := hSx.1.cell 0 rfl
      have q1 := hSx.1.cell 1 rfl
      have q2 := hSx.1.cell 2 rfl
      have q3 := hSx.1.cell 3 rfl
      have q4 := hSx.1.cell 4 rfl
      have q5 := hSx.1.cell 5 rfl
      have q6 := hSx.1.cell 6 rfl
      go_simp
      try (with_reducible rfl)
    try simp only [Act.put, List.setIfInBounds_toArray, List.set_cons_zero, List.set_cons_succ]
    refine tplan_w (v := ?_) rfl (by rfl) ?_ ?_
    rotate_left
    · intro wx hSx
      have q0 := hSx.1.cell 0 rfl
      have q1 := hSx.1.cell 1 rfl
      have q2 := hSx.1.cell 2 rfl
      have q3 := hSx.1.cell 3 rfl
      have q4 := hSx.1.cell 4 rfl
      have q5 := hSx.1.cell 5 rfl
      have q6 := hSx.1.cell 6 rfl
      go_simp
      try (with_reducible rfl)
    try simp only [Act.put, List.setIfInBounds_toArray, List.set_cons_zero, List.set_cons_succ]
    refine tplan_w (v := ?_) rfl (by rfl) ?_ ?_
    rotate_left
    · intro wx hSx
      have q0 := hSx.1.cell 0 rfl
      have q1 := hSx.1.cell 1 rfl
      have q2 := hSx.1.cell 2 rfl
      have q3 := hSx.1.cell 3 rfl
      have q4 := hSx.1.cell 4 rfl
      have q5 := hSx.1.cell 5 rfl
      have q6 := hSx.1.cell 6 rfl
      go_simp
      try (with_reducible rfl)
    try simp only [Act.put, List.setIfInBounds_toArray, List.set_cons_zero, List.set_cons_succ]
    refine tplan_w (v := ?_) rfl (by rfl) ?_ ?_
    rotate_left
    · intro wx hSx
      have q0 := hSx.1.cell 0 rfl
      have q1 := hSx.1.cell 1 rfl
      have q2 := hSx.1.cell 2 rfl
      have q3 := hSx.1.cell 3 rfl
      have q4 := hSx.1.cell 4 rfl
      have q5 := hSx.1.cell 5 rfl
      have q6 := hSx.1.cell 6 rfl
      go_simp
      try (with_reducible rfl)
    try simp only [Act.put, List.setIfInBounds_toArray, List.set_cons_zero, List.set_cons_succ]
    refine tplan_b rfl (fun K hK => ?_)
    go_simp
    refine hK _ _ ⟨⟨(((((hA7.far (p := ⟨w.heap.size + 1 + 1, 0, none⟩) (by show w1.heap.size ≠ w.heap.size + 1 + 1; omega) (.int .i64 (outM M N).a)).far (p := ⟨w.heap.size + 1 + 1, 1, none⟩) (by show w1.heap.size ≠ w.heap.size + 1 + 1; omega) (.int .i64 (outM M N).b)).far (p := ⟨w.heap.size + 1 + 1, 2, none⟩) (by show w1.heap.size ≠ w.heap.size + 1 + 1; omega) (.int .i64 (outM M N).c)).far (p := ⟨w.heap.size + 1 + 1, 3, none⟩) (by show w1.heap.size ≠ w.heap.size + 1 + 1; omega) (.int .i64 (outM M N).d)).far (p := ⟨w.heap.size + 1 + 1, 4, none⟩) (by show w1.heap.size ≠ w.heap.size + 1 + 1; omega) (.int .i64 (outM M N).e)), (((((bA.setCell (p := ⟨w.heap.size + 1 + 1, 0, none⟩) (by show w.heap.size ≤ w.heap.size + 1 + 1; omega) (.int .i64 (outM M N).a)).setCell (p := ⟨w.heap.size + 1 + 1, 1, none⟩) (by show w.heap.size ≤ w.heap.size + 1 + 1; omega) (.int .i64 (outM M N).b)).setCell (p := ⟨w.heap.size + 1 + 1, 2, none⟩) (by show w.heap.size ≤ w.heap.size + 1 + 1; omega) (.int .i64 (outM M N).c)).setCell (p := ⟨w.heap.size + 1 + 1, 3, none⟩) (by show w.heap.size ≤ w.heap.size + 1 + 1; omega) (.int .i64 (outM M N).d)).setCell (p := ⟨w.heap.size + 1 + 1, 4, none⟩) (by show w.heap.size ≤ w.heap.size + 1 + 1; omega) (.int .i64 (outM M N).e)).drew⟩, ?_⟩
    clear hK K
    try simp only [Act.put, List.setIfInBounds_toArray, List.set_cons_zero, List.set_cons_succ]
    refine tplan_w (v := ?_) rfl (by rfl) ?_ ?_
    rotate_left
    · intro wx hSx
      go_simp
      try (with_reducible rfl)
    try simp only [Act.put, List.setIfInBounds_toArray, List.set_cons_zero, List.set_cons_succ]
    refine tplan_w (v := ?_) rfl (by rfl) ?_ ?_
    rotate_left
    · intro wx hSx
      go_simp
      try (with_reducible rfl)
    try simp only [Act.put, List.setIfInBounds_toArray, List.set_cons_zero, List.set_cons_succ]
    refine tplan_w (v := ?_) rfl (by rfl) ?_ ?_
    rotate_left
    · intro wx hSx
      go_simp
      try (with_reducible rfl)
    try simp only [Act.put, List.setIfInBounds_toArray, List.set_cons_zero, List.set_cons_succ]
    refine tplan_endQ ?_
    go_wp2
    exact bodyPost_ret (v := .tuple #[.agg #[.int .i64 (outM M N).a, .int .i64 (outM M N).b, .int .i64 (outM M N).c, .int .i64 (outM M N).d, .int .i64 (outM M N).e], .int .i64 ( (wA M N)), .int .i64 ( (wB M N)), .bool true]) (by simp [results, Try.results25, hc1, hz1, hz1w, hz1v, hcq, hzq, go_sem]) rfl ⟨by rw [mpV_t hi], (((((bA.setCell (p := ⟨w.heap.size + 1 + 1, 0, none⟩) (by show w.heap.size ≤ w.heap.size + 1 + 1; omega) (.int .i64 (outM M N).a)).setCell (p := ⟨w.heap.size + 1 + 1, 1, none⟩) (by show w.heap.size ≤ w.heap.size + 1 + 1; omega) (.int .i64 (outM M N).b)).setCell (p := ⟨w.heap.size + 1 + 1, 2, none⟩) (by show w.heap.size ≤ w.heap.size + 1 + 1; omega) (.int .i64 (outM M N).c)).setCell (p := ⟨w.heap.size + 1 + 1, 3, none⟩) (by show w.heap.size ≤ w.heap.size + 1 + 1; omega) (.int .i64 (outM M N).d)).setCell (p := ⟨w.heap.size + 1 + 1, 4, none⟩) (by show w.heap.size ≤ w.heap.size + 1 + 1; omega) (.int .i64 (outM M N).e)).drew⟩
  · obtain ⟨hc1, hf1, hz1⟩ := bcell hb1
    have hz1w : w.heap.size + 2 < w1.heap.size := by (first | (simp at hz1; omega) | omega)
    have hz1v : w.heap.size + 1 < w1.heap.size := by omega
    have hz1u : w.heap.size < w1.heap.size := by omega
    have bW : Below w.heap.size w w1 := bl_trans h0 hb1
    go_wp2
    have hA7 : Blk (w1.alloc (.cells #[.int .i64 0, .int .i64 0, .int .i64 0, .int .i64 0, .int .i64 0, .int .i64 0, .int .i64 0] 76)) w1.heap.size #[.int .i64 0, .int .i64 0, .int .i64 0, .int .i64 0, .int .i64 0, .int .i64 0, .int .i64 0] 76 := Blk.new _ _ _
    have bA := bW.alloc (by omega) (.cells #[.int .i64 0, .int .i64 0, .int .i64 0, .int .i64 0, .int .i64 0, .int .i64 0, .int .i64 0] 76)
    have bA1 := (Below.refl w1.heap.size w1).alloc (Nat.le_refl _) (.cells #[.int .i64 0, .int .i64 0, .int .i64 0, .int .i64 0, .int .i64 0, .int .i64 0, .int .i64 0] 76)
    generalize (w1.alloc (.cells #[.int .i64 0, .int .i64 0, .int .i64 0, .int .i64 0, .int .i64 0, .int .i64 0, .int .i64 0] 76)) = wq at *
    obtain ⟨hcq, hfq, hzq⟩ := bcell bA1
    clear bA1
    refine wp_region_tree (fun wx => Blk wx w1.heap.size #[.int .i64 0, .int .i64 0, .int .i64 0, .int .i64 0, .int .i64 0, .int .i64 0, .int .i64 0] 76 ∧ Below w.heap.size w wx) (Pl.takes [0, 1, 2, 3, 4, 5, 6] (.alone 7 (.takes [8, 9, 10] .done))) (by kernel_rfl) (by kernel_rfl) (by kernel_rfl) (fun _ d _ _ _ h => by cases d <;> exact h) ⟨hA7, bA.drew⟩ (fun hS0 => ?_)
    refine tplan_w (v := ?_) rfl (by rfl) ?_ ?_
    rotate_left
    · intro wx hSx
      have q0 := hSx.1.cell 0 rfl
      have q1 := hSx.1.cell 1 rfl
      have q2 := hSx.1.cell 2 rfl
      have q3 := hSx.1.cell 3 rfl
      have q4 := hSx.1.cell 4 rfl
      have q5 := hSx.1.cell 5 rfl
      have q6 := hSx.1.cell 6 rfl
      go_simp
      try (with_reducible rfl)
    try simp only [Act.put, List.setIfInBounds_toArray, List.set_cons_zero, List.set_cons_succ]
    refine tplan_w (v := ?_) rfl (by rfl) ?_ ?_
    rotate_left
    · intro wx hSx
      have q0 := hSx.1.cell 0 rfl
      have q1 := hSx.1.cell 1 rfl
      have q2 := hSx.1.cell 2 rfl
      have q3 := hSx.1.cell 3 rfl
      have q4 := hSx.1.cell 4 rfl
      have q5 := hSx.1.cell 5 rfl
      have q6 := hSx.1.cell 6 rfl
      go_simp
      try (with_reducible rfl)
    try simp only [Act.put, List.setIfInBounds_toArray, List.set_cons_zero, List.set_cons_succ]
    refine tplan_w (v := ?_) rfl (by rfl) ?_ ?_
    rotate_left
    · intro wx hSx
      have q0 := hSx.1.cell 0 rfl
      have q1 := hSx.1.cell 1 rfl
      have q2 := hSx.1.cell 2 rfl
      have q3 := hSx.1.cell 3 rfl
      have q4 := hSx.1.cell 4 rfl
      have q5 := hSx.1.cell 5 rfl
      have q6 := hSx.1.cell 6 rfl
      go_simp
      try (with_reducible rfl)
    try simp only [Act.put, List.setIfInBounds_toArray, List.set_cons_zero, List.set_cons_succ]
    refine tplan_w (v := ?_) rfl (by rfl) ?_ ?_
    rotate_left
    · intro wx hSx
      have q0 := hSx.1.cell 0 rfl
      have q1 := hSx.1.cell 1 rfl
      have q2 := hSx.1.cell 2 rfl
      have q3 := hSx.1.cell 3 rfl
      have q4 := hSx.1.cell 4 rfl
      have q5 := hSx.1.cell 5 rfl
      have q6 := hSx.1.cell 6 rfl
      go_simp
      try (with_reducible rfl)
    try simp only [Act.put, List.setIfInBounds_toArray, List.set_cons_zero, List.set_cons_succ]
    refine tplan_w (v := ?_) rfl (by rfl) ?_ ?_
    rotate_left
    · intro wx hSx
      have q0 := hSx.1.cell 0 rfl
      have q1 := hSx.1.cell 1 rfl
      have q2 := hSx.1.cell 2 rfl
      have q3 := hSx.1.cell 3 rfl
      have q4 := hSx.1.cell 4 rfl
      have q5 := hSx.1.cell 5 rfl
      have q6 := hSx.1.cell 6 rfl
      go_simp
      try (with_reducible rfl)
    try simp only [Act.put, List.setIfInBounds_toArray, List.set_cons_zero, List.set_cons_succ]
    refine tplan_w (v := ?_) rfl (by rfl) ?_ ?_
    rotate_left
    · intro wx hSx
      have q0 := hSx.1.cell 0 rfl
      have q1 := hSx.1.cell 1 rfl
      have q2 := hSx.1.cell 2 rfl
      have q3 := hSx.1.cell 3 rfl
      have q4 := hSx.1.cell 4 rfl
      have q5 := hSx.1.cell 5 rfl
      have q6 := hSx.1.cell 6 rfl
      go_simp
      try (with_reducible rfl)
    try simp only [Act.put, List.setIfInBounds_toArray, List.set_cons_zero, List.set_cons_succ]
    refine tplan_w (v := ?_) rfl (by rfl) ?_ ?_
    rotate_left
    · intro wx hSx
      have q0 := hSx.1.cell 0 rfl
      have q1 := hSx.1.cell 1 rfl
      have q2 := hSx.1.cell 2 rfl
      have q3 := hSx.1.cell 3 rfl
      have q4 := hSx.1.cell 4 rfl
      have q5 := hSx.1.cell 5 rfl
      have q6 := hSx.1.cell 6 rfl
      go_simp
      try (with_reducible rfl)
    try simp only [Act.put, List.setIfInBounds_toArray, List.set_cons_zero, List.set_cons_succ]
    refine tplan_b rfl (fun K hK => ?_)
    go_simp
    refine hK _ _ ⟨⟨(((((hA7.far (p := ⟨w.heap.size + 1 + 1, 0, none⟩) (by show w1.heap.size ≠ w.heap.size + 1 + 1; omega) (.int .i64 0)).far (p := ⟨w.heap.size + 1 + 1, 1, none⟩) (by show w1.heap.size ≠ w.heap.size + 1 + 1; omega) (.int .i64 0)).far (p := ⟨w.heap.size + 1 + 1, 2, none⟩) (by show w1.heap.size ≠ w.heap.size + 1 + 1; omega) (.int .i64 0)).far (p := ⟨w.heap.size + 1 + 1, 3, none⟩) (by show w1.heap.size ≠ w.heap.size + 1 + 1; omega) (.int .i64 0)).far (p := ⟨w.heap.size + 1 + 1, 4, none⟩) (by show w1.heap.size ≠ w.heap.size + 1 + 1; omega) (.int .i64 0)), (((((bA.setCell (p := ⟨w.heap.size + 1 + 1, 0, none⟩) (by show w.heap.size ≤ w.heap.size + 1 + 1; omega) (.int .i64 0)).setCell (p := ⟨w.heap.size + 1 + 1, 1, none⟩) (by show w.heap.size ≤ w.heap.size + 1 + 1; omega) (.int .i64 0)).setCell (p := ⟨w.heap.size + 1 + 1, 2, none⟩) (by show w.heap.size ≤ w.heap.size + 1 + 1; omega) (.int .i64 0)).setCell (p := ⟨w.heap.size + 1 + 1, 3, none⟩) (by show w.heap.size ≤ w.heap.size + 1 + 1; omega) (.int .i64 0)).setCell (p := ⟨w.heap.size + 1 + 1, 4, none⟩) (by show w.heap.size ≤ w.heap.size + 1 + 1; omega) (.int .i64 0)).drew⟩, ?_⟩
    clear hK K
    try simp only [Act.put, List.setIfInBounds_toArray, List.set_cons_zero, List.set_cons_succ]
    refine tplan_w (v := ?_) rfl (by rfl) ?_ ?_
    rotate_left
    · intro wx hSx
      go_simp
      try (with_reducible rfl)
    try simp only [Act.put, List.setIfInBounds_toArray, List.set_cons_zero, List.set_cons_succ]
    refine tplan_w (v := ?_) rfl (by rfl) ?_ ?_
    rotate_left
    · intro wx hSx
      go_simp
      try (with_reducible rfl)
    try simp only [Act.put, List.setIfInBounds_toArray, List.set_cons_zero, List.set_cons_succ]
    refine tplan_w (v := ?_) rfl (by rfl) ?_ ?_
    rotate_left
    · intro wx hSx
      go_simp
      try (with_reducible rfl)
    try simp only [Act.put, List.setIfInBounds_toArray, List.set_cons_zero, List.set_cons_succ]
    refine tplan_endQ ?_
    go_wp2
    exact bodyPost_ret (v := .tuple #[.agg #[.int .i64 0, .int .i64 0, .int .i64 0, .int .i64 0, .int .i64 0], .int .i64 ( 0), .int .i64 ( 0), .bool false]) (by simp [results, Try.results25, hc1, hz1, hz1w, hz1v, hcq, hzq, go_sem]) rfl ⟨by rw [mpV_f hi], (((((bA.setCell (p := ⟨w.heap.size + 1 + 1, 0, none⟩) (by show w.heap.size ≤ w.heap.size + 1 + 1; omega) (.int .i64 0)).setCell (p := ⟨w.heap.size + 1 + 1, 1, none⟩) (by show w.heap.size ≤ w.heap.size + 1 + 1; omega) (.int .i64 0)).setCell (p := ⟨w.heap.size + 1 + 1, 2, none⟩) (by show w.heap.size ≤ w.heap.size + 1 + 1; omega) (.int .i64 0)).setCell (p := ⟨w.heap.size + 1 + 1, 3, none⟩) (by show w.heap.size ≤ w.heap.size + 1 + 1; omega) (.int .i64 0)).setCell (p := ⟨w.heap.size + 1 + 1, 4, none⟩) (by show w.heap.size ≤ w.heap.size + 1 + 1; omega) (.int .i64 0)).drew⟩
end Go.Proofs.Ytkkeodceihjbgaa
