/-
  Contract: the stack of pieces: which are apart, which must be above which.
-/
import Derived.Test.YtefcfpagbjflbaaDoorArrows
import Derived.Test.YtefcfpagbjflbaaDoorStackQ
namespace Go.Proofs.YtefcfpagbjflbaaDoor
set_option linter.unusedSimpArgs false
set_option linter.unusedVariables false
open Go.ChangeShapes Go.WideShapes Go.ChangeAt Go.RowKit Go.Shelf
attribute [local go_sem] Oper.semAt_some

/-- What stackOf answers. -/
def StackRes (T B : List Int) (N L H : Nat → Nat) (m a : Nat) (xs : List Nat) (w : World) (e : Ending) (w' : World) : Prop :=
  (∃ ga gb, e = .returned (.agg #[.int .u64 (a : Int), .slice (some ⟨ga, 0, none⟩) m m, .slice (some ⟨gb, 0, none⟩) m m]) ∧ BitBlk w' ga m (apF N L H (doneO xs xs.length)) ∧ BitBlk w' gb m (abF T B N L H (doneO xs xs.length)) ∧ w.heap.size ≤ ga ∧ w.heap.size ≤ gb) ∧ Below w.heap.size w w'

set_option maxRecDepth 100000 in
set_option maxHeartbeats 4000000 in
theorem stackOf_any (g gp : Nat) (T B : List Int) (n m c K : Nat) (q pp : Nat → Bool) (N L H : Nat → Nat) (w : World) (hG : ColBlk w g T B n n) (hn : n ≤ 24) (hP : PcBlk w gp c pp N L H) (hmc : m ≤ c) (hm : m ≤ 64) (hK : K ≤ 63)
    (hxs : ∀ x ∈ memL q 0 K, x < m ∧ pp x = true ∧ L x ≤ H x ∧ H x < n) (hL : BruAt w) :
    Calls Tryd.prog 96 #[.slice (some ⟨g, 0, none⟩) n n, .slice (some ⟨gp, 0, none⟩) m c, .int .u64 (maskTo q K)] w (StackRes T B N L H m (maskTo q K) (memL q 0 K) w) := by
  refine (callsIn_wide (n := 5)).1 ?_
  refine callsIn_of_wp_marks Tryd.func96 rfl trivial ?_ rfl
  simp only [Tryd.ntmps96, List.size_toArray, List.length_cons, List.length_nil, Nat.reduceAdd, Nat.reduceSub, Array.replicate_succ, Array.replicate_zero, List.push_toArray, List.append_toArray, List.nil_append, List.cons_append]
  have hmk : ∀ W : World, (Instr.makeSlice 84 (.int .i64 (m : Int)) (.int .i64 (m : Int))).run Tryd.prog W = .ok (.slice (some ⟨W.heap.size, 0, none⟩) m m) (W.alloc (.cells (zeros m) 88)) := fun W => run_mkbits m (by omega) W
  have hmk2 : ∀ W : World, (Instr.makeSlice 85 (.int .i64 (m : Int)) (.int .i64 (m : Int))).run Tryd.prog W = .ok (.slice (some ⟨W.heap.size, 0, none⟩) m m) (W.alloc (.cells (zeros m) 88)) := fun W => run_mkarrows m (by omega) W
  gi_upto_region 1 with fail
  have hF0 := FCells.new w (.slice (some ⟨g, 0, none⟩) n n) (.slice (some ⟨gp, 0, none⟩) m c) (.int .u64 (maskTo q K : Nat)) 101 147 88 105
  have hb0 : Below w.heap.size w ((((w.alloc (.cells #[.slice (some ⟨g, 0, none⟩) n n] 101)).alloc (.cells #[.slice (some ⟨gp, 0, none⟩) m c] 147)).alloc (.cells #[.int .u64 (maskTo q K : Nat)] 88)).alloc (.cells #[.int .u64 0, .slice none 0 0, .slice none 0 0] 105)) := by (repeat (first | assumption | exact Below.refl _ _ | (refine bl_alloc ?_ _) | (refine Below.drew ?_) | (refine bl_drewN ?_ _) | (refine bl_set ?_ (by first | (simp; done) | omega | (simp; omega)) _) | (refine bl_trans ?_ (by assumption)) | (refine bl_step ?_ (by assumption) (by first | omega | exact Below.size (by assumption) | (simp; omega) | (simp; exact Below.size (by assumption))))))
  have hz0 : ((((w.alloc (.cells #[.slice (some ⟨g, 0, none⟩) n n] 101)).alloc (.cells #[.slice (some ⟨gp, 0, none⟩) m c] 147)).alloc (.cells #[.int .u64 (maskTo q K : Nat)] 88)).alloc (.cells #[.int .u64 0, .slice none 0 0, .slice none 0 0] 105)).heap.size = w.heap.size + 1 + 1 + 1 + 1 := by simp
  generalize ((((w.alloc (.cells #[.slice (some ⟨g, 0, none⟩) n n] 101)).alloc (.cells #[.slice (some ⟨gp, 0, none⟩) m c] 147)).alloc (.cells #[.int .u64 (maskTo q K : Nat)] 88)).alloc (.cells #[.int .u64 0, .slice none 0 0, .slice none 0 0] 105)) = w0 at *
  gi_cut [7] from 12 (fun s7 wx => ∃ gs ga gb : Nat, s7 = .pointer (some ⟨gs, 0, none⟩) ∧ Below w0.heap.size w0 wx ∧ w0.heap.size ≤ gs ∧ w0.heap.size ≤ ga ∧ w0.heap.size ≤ gb ∧ gs ≠ ga ∧ gs ≠ gb ∧ ga ≠ gb ∧ BitBlk wx ga m (fun _ _ => false) ∧ BitBlk wx gb m (fun _ _ => false) ∧ wx.cell? ⟨gs, 0, none⟩ = some (.int .u64 (maskTo q K : Nat)) ∧ wx.cell? ⟨gs, 1, none⟩ = some (.slice (some ⟨ga, 0, none⟩) m m) ∧ wx.cell? ⟨gs, 2, none⟩ = some (.slice (some ⟨gb, 0, none⟩) m m))
  case first =>
    have c1 := hF0.c1
    have c2 := hF0.c2
    have hmI : (0 : Int) ≤ m := by omega
    refine wpIn_region_tree (fun wx => wx.cell? ⟨w.heap.size + 1, 0, none⟩ = some (.slice (some ⟨gp, 0, none⟩) m c) ∧ wx.cell? ⟨w.heap.size + 1 + 1, 0, none⟩ = some (.int .u64 (maskTo q K : Nat)))
      (Pl.takes [0, 1, 2, 4, 5] (.fork3 3 (.fork 6 (.take 7 (.alone 8 (.alone 9 .done))) 8 (.alone 6 (.take 7 (.alone 9 .done)))) 6 (.fork 3 (.take 7 (.alone 8 (.alone 9 .done))) 8 (.alone 3 (.take 7 (.alone 9 .done)))) 8 (.fork 3 (.alone 6 (.take 7 (.alone 9 .done))) 6 (.alone 3 (.take 7 (.alone 9 .done))))))
      (by kernel_rfl) (by kernel_rfl) (by kernel_rfl) ⟨c1, c2⟩ (fun hS0 => ?_)
    refine tplan_w (v := ?_) rfl (by rfl) ?_ ?_
    rotate_left
    · intro wx hSx
      try dsimp only at hSx
      go_simp
      try (with_reducible rfl)
    try simp only [Act.put, List.setIfInBounds_toArray, List.set_cons_zero, List.set_cons_succ]
    refine tplan_w (v := ?_) rfl (by rfl) ?_ ?_
    rotate_left
    · intro wx hSx
      try dsimp only at hSx
      go_simp
      try (with_reducible rfl)
    try simp only [Act.put, List.setIfInBounds_toArray, List.set_cons_zero, List.set_cons_succ]
    refine tplan_w (v := ?_) rfl (by rfl) ?_ ?_
    rotate_left
    · intro wx hSx
      try dsimp only at hSx
      go_simp
      try (with_reducible rfl)
    try simp only [Act.put, List.setIfInBounds_toArray, List.set_cons_zero, List.set_cons_succ]
    refine tplan_w (v := ?_) rfl (by rfl) ?_ ?_
    rotate_left
    · intro wx hSx
      try dsimp only at hSx
      go_simp
      try (with_reducible rfl)
    try simp only [Act.put, List.setIfInBounds_toArray, List.set_cons_zero, List.set_cons_succ]
    refine tplan_w (v := ?_) rfl (by rfl) ?_ ?_
    rotate_left
    · intro wx hSx
      try dsimp only at hSx
      go_simp
      try (with_reducible rfl)
    try simp only [Act.put, List.setIfInBounds_toArray, List.set_cons_zero, List.set_cons_succ]
    refine tplan_fork3 ?_ ?_ ?_
    · refine tplan_b rfl (fun K hK => ?_)
      go_simp
      refine hK _ _ ⟨⟨cellB hS0.1 (alloc_below _ _), cellB hS0.2 (alloc_below _ _)⟩, ?_⟩
      clear hK K
      try simp only [Act.put, List.setIfInBounds_toArray, List.set_cons_zero, List.set_cons_succ]
      refine tplan_fork ?_ ?_
      · refine tplan_b rfl (fun K hK => ?_)
        go_simp
        refine hK _ _ ⟨⟨cellB (cellB hS0.1 (alloc_below _ _)) (alloc_below _ _), cellB (cellB hS0.2 (alloc_below _ _)) (alloc_below _ _)⟩, ?_⟩
        clear hK K
        try simp only [Act.put, List.setIfInBounds_toArray, List.set_cons_zero, List.set_cons_succ]
        refine tplan_w (v := ?_) rfl (by rfl) ?_ ?_
        rotate_left
        · intro wx hSx
          try dsimp only at hSx
          go_simp
          try (with_reducible rfl)
        try simp only [Act.put, List.setIfInBounds_toArray, List.set_cons_zero, List.set_cons_succ]
        refine tplan_b rfl (fun K hK => ?_)
        go_simp
        refine hK _ _ ⟨⟨cellB (cellB (cellB hS0.1 (alloc_below _ _)) (alloc_below _ _)) (alloc_below _ _), cellB (cellB (cellB hS0.2 (alloc_below _ _)) (alloc_below _ _)) (alloc_below _ _)⟩, ?_⟩
        clear hK K
        try simp only [Act.put, List.setIfInBounds_toArray, List.set_cons_zero, List.set_cons_succ]
        obtain ⟨h1, h2, h3, hb3⟩ := three_blocks hz0 (.cells (zeros m) 88) (.cells (zeros m) 88) (.cells #[.int .u64 (maskTo q K : Nat), .slice (some ⟨w.heap.size + 1 + 1 + 1 + 1, 0, none⟩) m m, .slice (some ⟨w.heap.size + 1 + 1 + 1 + 1 + 1, 0, none⟩) m m] 105)
        refine tplan_b rfl (fun K hK => ?_)
        go_simp
        refine hK _ _ ⟨⟨cellB c1 (by rw [hz0]; exact hb3.drew), cellB c2 (by rw [hz0]; exact hb3.drew)⟩, ?_⟩
        clear hK K
        try simp only [Act.put, List.setIfInBounds_toArray, List.set_cons_zero, List.set_cons_succ]
        refine tplan_end ?_
        gi_wp2_with fail
        gi_meet
        exact ⟨w.heap.size + 1 + 1 + 1 + 1 + 1 + 1, w.heap.size + 1 + 1 + 1 + 1, w.heap.size + 1 + 1 + 1 + 1 + 1, rfl, by rw [hz0]; exact hb3.drew, by omega, by omega, by omega, by omega, by omega, by omega, BitBlk.of_zeros h1, BitBlk.of_zeros h2, (cell_of_row _ _ 0 _ _ _ h3).trans rfl, (cell_of_row _ _ 1 _ _ _ h3).trans rfl, (cell_of_row _ _ 2 _ _ _ h3).trans rfl⟩
      · refine tplan_b rfl (fun K hK => ?_)
        go_simp
        refine hK _ _ ⟨⟨cellB (cellB hS0.1 (alloc_below _ _)) (alloc_below _ _), cellB (cellB hS0.2 (alloc_below _ _)) (alloc_below _ _)⟩, ?_⟩
        clear hK K
        try simp only [Act.put, List.setIfInBounds_toArray, List.set_cons_zero, List.set_cons_succ]
        refine tplan_b rfl (fun K hK => ?_)
        go_simp
        refine hK _ _ ⟨⟨cellB (cellB (cellB hS0.1 (alloc_below _ _)) (alloc_below _ _)) (alloc_below _ _), cellB (cellB (cellB hS0.2 (alloc_below _ _)) (alloc_below _ _)) (alloc_below _ _)⟩, ?_⟩
        clear hK K
        try simp only [Act.put, List.setIfInBounds_toArray, List.set_cons_zero, List.set_cons_succ]
        refine tplan_w (v := ?_) rfl (by rfl) ?_ ?_
        rotate_left
        · intro wx hSx
          try dsimp only at hSx
          go_simp
          try (with_reducible rfl)
        try simp only [Act.put, List.setIfInBounds_toArray, List.set_cons_zero, List.set_cons_succ]
        obtain ⟨h1, h2, h3, hb3⟩ := three_blocks hz0 (.cells (zeros m) 88) (.cells #[.int .u64 (maskTo q K : Nat), .slice (some ⟨w.heap.size + 1 + 1 + 1 + 1, 0, none⟩) m m, .slice (some ⟨w.heap.size + 1 + 1 + 1 + 1 + 1 + 1, 0, none⟩) m m] 105) (.cells (zeros m) 88)
        refine tplan_b rfl (fun K hK => ?_)
        go_simp
        refine hK _ _ ⟨⟨cellB c1 (by rw [hz0]; exact hb3.drew), cellB c2 (by rw [hz0]; exact hb3.drew)⟩, ?_⟩
        clear hK K
        try simp only [Act.put, List.setIfInBounds_toArray, List.set_cons_zero, List.set_cons_succ]
        refine tplan_end ?_
        gi_wp2_with fail
        gi_meet
        exact ⟨w.heap.size + 1 + 1 + 1 + 1 + 1, w.heap.size + 1 + 1 + 1 + 1, w.heap.size + 1 + 1 + 1 + 1 + 1 + 1, rfl, by rw [hz0]; exact hb3.drew, by omega, by omega, by omega, by omega, by omega, by omega, BitBlk.of_zeros h1, BitBlk.of_zeros h3, (cell_of_row _ _ 0 _ _ _ h2).trans rfl, (cell_of_row _ _ 1 _ _ _ h2).trans rfl, (cell_of_row _ _ 2 _ _ _ h2).trans rfl⟩
    · refine tplan_b rfl (fun K hK => ?_)
      go_simp
      refine hK _ _ ⟨⟨cellB hS0.1 (alloc_below _ _), cellB hS0.2 (alloc_below _ _)⟩, ?_⟩
      clear hK K
      try simp only [Act.put, List.setIfInBounds_toArray, List.set_cons_zero, List.set_cons_succ]
      refine tplan_fork ?_ ?_
      · refine tplan_b rfl (fun K hK => ?_)
        go_simp
        refine hK _ _ ⟨⟨cellB (cellB hS0.1 (alloc_below _ _)) (alloc_below _ _), cellB (cellB hS0.2 (alloc_below _ _)) (alloc_below _ _)⟩, ?_⟩
        clear hK K
        try simp only [Act.put, List.setIfInBounds_toArray, List.set_cons_zero, List.set_cons_succ]
        refine tplan_w (v := ?_) rfl (by rfl) ?_ ?_
        rotate_left
        · intro wx hSx
          try dsimp only at hSx
          go_simp
          try (with_reducible rfl)
        try simp only [Act.put, List.setIfInBounds_toArray, List.set_cons_zero, List.set_cons_succ]
        refine tplan_b rfl (fun K hK => ?_)
        go_simp
        refine hK _ _ ⟨⟨cellB (cellB (cellB hS0.1 (alloc_below _ _)) (alloc_below _ _)) (alloc_below _ _), cellB (cellB (cellB hS0.2 (alloc_below _ _)) (alloc_below _ _)) (alloc_below _ _)⟩, ?_⟩
        clear hK K
        try simp only [Act.put, List.setIfInBounds_toArray, List.set_cons_zero, List.set_cons_succ]
        obtain ⟨h1, h2, h3, hb3⟩ := three_blocks hz0 (.cells (zeros m) 88) (.cells (zeros m) 88) (.cells #[.int .u64 (maskTo q K : Nat), .slice (some ⟨w.heap.size + 1 + 1 + 1 + 1 + 1, 0, none⟩) m m, .slice (some ⟨w.heap.size + 1 + 1 + 1 + 1, 0, none⟩) m m] 105)
        refine tplan_b rfl (fun K hK => ?_)
        go_simp
        refine hK _ _ ⟨⟨cellB c1 (by rw [hz0]; exact hb3.drew), cellB c2 (by rw [hz0]; exact hb3.drew)⟩, ?_⟩
        clear hK K
        try simp only [Act.put, List.setIfInBounds_toArray, List.set_cons_zero, List.set_cons_succ]
        refine tplan_end ?_
        gi_wp2_with fail
        gi_meet
        exact ⟨w.heap.size + 1 + 1 + 1 + 1 + 1 + 1, w.heap.size + 1 + 1 + 1 + 1 + 1, w.heap.size + 1 + 1 + 1 + 1, rfl, by rw [hz0]; exact hb3.drew, by omega, by omega, by omega, by omega, by omega, by omega, BitBlk.of_zeros h2, BitBlk.of_zeros h1, (cell_of_row _ _ 0 _ _ _ h3).trans rfl, (cell_of_row _ _ 1 _ _ _ h3).trans rfl, (cell_of_row _ _ 2 _ _ _ h3).trans rfl⟩
      · refine tplan_b rfl (fun K hK => ?_)
        go_simp
        refine hK _ _ ⟨⟨cellB (cellB hS0.1 (alloc_below _ _)) (alloc_below _ _), cellB (cellB hS0.2 (alloc_below _ _)) (alloc_below _ _)⟩, ?_⟩
        clear hK K
        try simp only [Act.put, List.setIfInBounds_toArray, List.set_cons_zero, List.set_cons_succ]
        refine tplan_b rfl (fun K hK => ?_)
        go_simp
        refine hK _ _ ⟨⟨cellB (cellB (cellB hS0.1 (alloc_below _ _)) (alloc_below _ _)) (alloc_below _ _), cellB (cellB (cellB hS0.2 (alloc_below _ _)) (alloc_below _ _)) (alloc_below _ _)⟩, ?_⟩
        clear hK K
        try simp only [Act.put, List.setIfInBounds_toArray, List.set_cons_zero, List.set_cons_succ]
        refine tplan_w (v := ?_) rfl (by rfl) ?_ ?_
        rotate_left
        · intro wx hSx
          try dsimp only at hSx
          go_simp
          try (with_reducible rfl)
        try simp only [Act.put, List.setIfInBounds_toArray, List.set_cons_zero, List.set_cons_succ]
        obtain ⟨h1, h2, h3, hb3⟩ := three_blocks hz0 (.cells (zeros m) 88) (.cells #[.int .u64 (maskTo q K : Nat), .slice (some ⟨w.heap.size + 1 + 1 + 1 + 1 + 1 + 1, 0, none⟩) m m, .slice (some ⟨w.heap.size + 1 + 1 + 1 + 1, 0, none⟩) m m] 105) (.cells (zeros m) 88)
        refine tplan_b rfl (fun K hK => ?_)
        go_simp
        refine hK _ _ ⟨⟨cellB c1 (by rw [hz0]; exact hb3.drew), cellB c2 (by rw [hz0]; exact hb3.drew)⟩, ?_⟩
        clear hK K
        try simp only [Act.put, List.setIfInBounds_toArray, List.set_cons_zero, List.set_cons_succ]
        refine tplan_end ?_
        gi_wp2_with fail
        gi_meet
        exact ⟨w.heap.size + 1 + 1 + 1 + 1 + 1, w.heap.size + 1 + 1 + 1 + 1 + 1 + 1, w.heap.size + 1 + 1 + 1 + 1, rfl, by rw [hz0]; exact hb3.drew, by omega, by omega, by omega, by omega, by omega, by omega, BitBlk.of_zeros h3, BitBlk.of_zeros h1, (cell_of_row _ _ 0 _ _ _ h2).trans rfl, (cell_of_row _ _ 1 _ _ _ h2).trans rfl, (cell_of_row _ _ 2 _ _ _ h2).trans rfl⟩
    · refine tplan_b rfl (fun K hK => ?_)
      go_simp
      refine hK _ _ ⟨⟨cellB hS0.1 (alloc_below _ _), cellB hS0.2 (alloc_below _ _)⟩, ?_⟩
      clear hK K
      try simp only [Act.put, List.setIfInBounds_toArray, List.set_cons_zero, List.set_cons_succ]
      refine tplan_fork ?_ ?_
      · refine tplan_b rfl (fun K hK => ?_)
        go_simp
        refine hK _ _ ⟨⟨cellB (cellB hS0.1 (alloc_below _ _)) (alloc_below _ _), cellB (cellB hS0.2 (alloc_below _ _)) (alloc_below _ _)⟩, ?_⟩
        clear hK K
        try simp only [Act.put, List.setIfInBounds_toArray, List.set_cons_zero, List.set_cons_succ]
        refine tplan_b rfl (fun K hK => ?_)
        go_simp
        refine hK _ _ ⟨⟨cellB (cellB (cellB hS0.1 (alloc_below _ _)) (alloc_below _ _)) (alloc_below _ _), cellB (cellB (cellB hS0.2 (alloc_below _ _)) (alloc_below _ _)) (alloc_below _ _)⟩, ?_⟩
        clear hK K
        try simp only [Act.put, List.setIfInBounds_toArray, List.set_cons_zero, List.set_cons_succ]
        refine tplan_w (v := ?_) rfl (by rfl) ?_ ?_
        rotate_left
        · intro wx hSx
          try dsimp only at hSx
          go_simp
          try (with_reducible rfl)
        try simp only [Act.put, List.setIfInBounds_toArray, List.set_cons_zero, List.set_cons_succ]
        obtain ⟨h1, h2, h3, hb3⟩ := three_blocks hz0 (.cells #[.int .u64 (maskTo q K : Nat), .slice (some ⟨w.heap.size + 1 + 1 + 1 + 1 + 1, 0, none⟩) m m, .slice (some ⟨w.heap.size + 1 + 1 + 1 + 1 + 1 + 1, 0, none⟩) m m] 105) (.cells (zeros m) 88) (.cells (zeros m) 88)
        refine tplan_b rfl (fun K hK => ?_)
        go_simp
        refine hK _ _ ⟨⟨cellB c1 (by rw [hz0]; exact hb3.drew), cellB c2 (by rw [hz0]; exact hb3.drew)⟩, ?_⟩
        clear hK K
        try simp only [Act.put, List.setIfInBounds_toArray, List.set_cons_zero, List.set_cons_succ]
        refine tplan_end ?_
        gi_wp2_with fail
        gi_meet
        exact ⟨w.heap.size + 1 + 1 + 1 + 1, w.heap.size + 1 + 1 + 1 + 1 + 1, w.heap.size + 1 + 1 + 1 + 1 + 1 + 1, rfl, by rw [hz0]; exact hb3.drew, by omega, by omega, by omega, by omega, by omega, by omega, BitBlk.of_zeros h2, BitBlk.of_zeros h3, (cell_of_row _ _ 0 _ _ _ h1).trans rfl, (cell_of_row _ _ 1 _ _ _ h1).trans rfl, (cell_of_row _ _ 2 _ _ _ h1).trans rfl⟩
      · refine tplan_b rfl (fun K hK => ?_)
        go_simp
        refine hK _ _ ⟨⟨cellB (cellB hS0.1 (alloc_below _ _)) (alloc_below _ _), cellB (cellB hS0.2 (alloc_below _ _)) (alloc_below _ _)⟩, ?_⟩
        clear hK K
        try simp only [Act.put, List.setIfInBounds_toArray, List.set_cons_zero, List.set_cons_succ]
        refine tplan_b rfl (fun K hK => ?_)
        go_simp
        refine hK _ _ ⟨⟨cellB (cellB (cellB hS0.1 (alloc_below _ _)) (alloc_below _ _)) (alloc_below _ _), cellB (cellB (cellB hS0.2 (alloc_below _ _)) (alloc_below _ _)) (alloc_below _ _)⟩, ?_⟩
        clear hK K
        try simp only [Act.put, List.setIfInBounds_toArray, List.set_cons_zero, List.set_cons_succ]
        refine tplan_w (v := ?_) rfl (by rfl) ?_ ?_
        rotate_left
        · intro wx hSx
          try dsimp only at hSx
          go_simp
          try (with_reducible rfl)
        try simp only [Act.put, List.setIfInBounds_toArray, List.set_cons_zero, List.set_cons_succ]
        obtain ⟨h1, h2, h3, hb3⟩ := three_blocks hz0 (.cells #[.int .u64 (maskTo q K : Nat), .slice (some ⟨w.heap.size + 1 + 1 + 1 + 1 + 1 + 1, 0, none⟩) m m, .slice (some ⟨w.heap.size + 1 + 1 + 1 + 1 + 1, 0, none⟩) m m] 105) (.cells (zeros m) 88) (.cells (zeros m) 88)
        refine tplan_b rfl (fun K hK => ?_)
        go_simp
        refine hK _ _ ⟨⟨cellB c1 (by rw [hz0]; exact hb3.drew), cellB c2 (by rw [hz0]; exact hb3.drew)⟩, ?_⟩
        clear hK K
        try simp only [Act.put, List.setIfInBounds_toArray, List.set_cons_zero, List.set_cons_succ]
        refine tplan_end ?_
        gi_wp2_with fail
        gi_meet
        exact ⟨w.heap.size + 1 + 1 + 1 + 1, w.heap.size + 1 + 1 + 1 + 1 + 1 + 1, w.heap.size + 1 + 1 + 1 + 1 + 1, rfl, by rw [hz0]; exact hb3.drew, by omega, by omega, by omega, by omega, by omega, by omega, BitBlk.of_zeros h3, BitBlk.of_zeros h2, (cell_of_row _ _ 0 _ _ _ h1).trans rfl, (cell_of_row _ _ 1 _ _ _ h1).trans rfl, (cell_of_row _ _ 2 _ _ _ h1).trans rfl⟩
  case rest =>
    obtain ⟨w4, rfl⟩ : ∃ w4, w4 = wc := ⟨_, rfl⟩
    obtain ⟨gs, ga, gb, rfl, hb1, zs, za, zb, nsa, nsb, nab, hA, hB, s0, s1, s2⟩ := hcut
    have hF := hF0.to hb1
    have hS : SCells w.heap.size gs (.slice (some ⟨g, 0, none⟩) n n) (.slice (some ⟨gp, 0, none⟩) m c) (.int .u64 (maskTo q K : Nat)) (.slice (some ⟨ga, 0, none⟩) m m) (.slice (some ⟨gb, 0, none⟩) m m) w4 := ⟨hF.c0, hF.c1, hF.c2, hF.r0, hF.r1, hF.r2, hF.f0, hF.f1, hF.f2, s0, s1, s2⟩
    have hbw := bl_step hb0 hb1 hb0.size
    have c2 := hF.c2
    have zr := World.block_lt_of_cell? _ _ hF.r0
    rw [hz0] at zs za zb
    have hA0 := hA.eq (G := apF N L H (doneO (memL q 0 K) 0)) fun i j _ => by simp [apF, doneO_zero]
    have hB0 := hB.eq (G := abF T B N L H (doneO (memL q 0 K) 0)) fun i j _ => by simp [abF, doneO_zero]
    clear hF hF0 hb0 hb1 hA hB s0 s1 s2 hmk hmk2 hz0
    gi_wp2
    refine range_givesH (gf := 79) (b := .int .u64 (maskTo q K : Nat)) (xs := memL q 0 K) (Kq := BruAt) (by omega) rfl (enters_of Tryd.func79 (by kernel_rfl) rfl) (each_gives _ q K hK) rfl
      (fun k W => ((SCells w.heap.size gs (.slice (some ⟨g, 0, none⟩) n n) (.slice (some ⟨gp, 0, none⟩) m c) (.int .u64 (maskTo q K : Nat)) (.slice (some ⟨ga, 0, none⟩) m m) (.slice (some ⟨gb, 0, none⟩) m m) W ∧ BitBlk W ga m (apF N L H (doneO (memL q 0 K) k))) ∧ BitBlk W gb m (abF T B N L H (doneO (memL q 0 K) k))) ∧ Below w.heap.size w W)
      (OwnFrom.and (OwnFrom.and (OwnFrom.and (Own.from (SCells.own _ _ _ _ _ _ _) _) (Own.from (BitBlk.own ga m fun k => apF N L H (doneO (memL q 0 K) k)) _)) (Own.from (BitBlk.own gb m fun k => abF T B N L H (doneO (memL q 0 K) k)) _)) (ownFrom_below (Nat.le_refl _) hbw.size)) (fun k W h => hL.to h.2) ⟨⟨⟨hS, hA0⟩, hB0⟩, hbw⟩
      (fun x a' W => ∃ bi, a' = { tmps := #[.slice (some ⟨g, 0, none⟩) n n, .slice (some ⟨gp, 0, none⟩) m c, .int .u64 (maskTo q K : Nat), .pointer (some ⟨w.heap.size, 0, none⟩), .pointer (some ⟨w.heap.size + 1, 0, none⟩), .pointer (some ⟨w.heap.size + 1 + 1, 0, none⟩), .pointer (some ⟨w.heap.size + 1 + 1 + 1, 0, none⟩), .pointer (some ⟨gs, 0, none⟩), .pointer (some ⟨bi, 0, none⟩), undef, undef, undef, u12, u13, u14, u15, u16, u17, u18, u19, .int .u64 (maskTo q K : Nat), .func (.func 79) #[.int .u64 (maskTo q K : Nat)] #[], .int .i64 (x : Nat), u23, u24, u25, u26, u27, u28, u29, u30, u31, u32, u33, u34, u35, u36, u37, u38, u39, u40, u41, u42, u43, u44, u45, u46, u47, u48, u49, u50, u51, u52, u53, u54, u55, u56, u57, u58, u59, u60, u61, u62, u63, u64, u65, u66, u67, u68, u69], defers := [] } ∧ W.cell? ⟨bi, 0, none⟩ = some (.int .i64 (x : Nat)) ∧ gs < bi ∧ ga < bi ∧ gb < bi) ?own ?assign ?body ?done
    case own =>
      rintro x a' s W W' row ⟨bi, h1, h2, h3⟩ hg hr
      exact ⟨bi, h1, cell_kept h2 hg (fun r e => (hr r e).2), h3⟩
    case assign =>
      intro l k x W K' hI hK'
      have lA := hI.1.1.2.lt
      have lB := hI.1.2.lt
      have lS := World.block_lt_of_cell? _ _ hI.1.1.1.s0
      have hy : Below W.heap.size W (W.alloc (.cells #[.int .i64 (x : Nat)] 2)) := alloc_below _ _
      gi_wp2
      exact hK' _ _ ((KeepsOthers.alloc _ _).from _) ⟨⟨⟨hI.1.1.1.to hy, hI.1.1.2.to hy⟩, hI.1.2.to hy⟩, bl_step hI.2 hy hI.2.size⟩ ⟨W.heap.size, rfl, new_cell _ _ _, lS, lA, lB⟩
    case body =>
      rintro l k x a' W0 hl ⟨r, hr⟩ ⟨⟨⟨hS, hA⟩, hB⟩, hb⟩ ⟨bi, rfl, cb, nsi, nai, nbi⟩ hx
      have c2 := hS.c2
      gi_wp2
      refine range_givesN hr (gf := 79) (b := .int .u64 (maskTo q K : Nat)) (xs := memL q 0 K) (Kq := BruAt) (by omega) rfl (enters_of Tryd.func79 (by kernel_rfl) rfl) (each_gives _ q K hK) rfl
        (fun d W => ((((SCells w.heap.size gs (.slice (some ⟨g, 0, none⟩) n n) (.slice (some ⟨gp, 0, none⟩) m c) (.int .u64 (maskTo q K : Nat)) (.slice (some ⟨ga, 0, none⟩) m m) (.slice (some ⟨gb, 0, none⟩) m m) W ∧ BitBlk W ga m (apF N L H (doneI (memL q 0 K) k x d))) ∧ BitBlk W gb m (abF T B N L H (doneI (memL q 0 K) k x d))) ∧ W.cell? ⟨bi, 0, none⟩ = some (.int .i64 (x : Nat))) ∧ KeepsFrom w4.heap.size W0 W) ∧ Below w.heap.size w W)
        (OwnFrom.and (OwnFrom.and (OwnFrom.and (OwnFrom.and (OwnFrom.and (Own.from (SCells.own _ _ _ _ _ _ _) _) (Own.from (BitBlk.own ga m fun d => apF N L H (doneI (memL q 0 K) k x d)) _)) (Own.from (BitBlk.own gb m fun d => abF T B N L H (doneI (memL q 0 K) k x d)) _)) (Own.from (fun _ _ _ _ hs hg hr => cell_kept hs hg hr) _)) (ownFrom_keeps w4.heap.size W0)) (ownFrom_below (Nat.le_refl _) hb.size)) (fun d W h => hL.to h.2)
        ⟨⟨⟨⟨⟨hS, hA.eq fun i j _ => by unfold apF; rw [doneI_zero]⟩, hB.eq fun i j _ => by unfold abF; rw [doneI_zero]⟩, cb⟩, KeepsFrom.refl _ _⟩, hb⟩
        (fun y => { tmps := #[.slice (some ⟨g, 0, none⟩) n n, .slice (some ⟨gp, 0, none⟩) m c, .int .u64 (maskTo q K : Nat), .pointer (some ⟨w.heap.size, 0, none⟩), .pointer (some ⟨w.heap.size + 1, 0, none⟩), .pointer (some ⟨w.heap.size + 1 + 1, 0, none⟩), .pointer (some ⟨w.heap.size + 1 + 1 + 1, 0, none⟩), .pointer (some ⟨gs, 0, none⟩), .pointer (some ⟨bi, 0, none⟩), .int .i64 (y : Nat), undef, undef, u12, u13, u14, u15, u16, u17, u18, u19, .int .u64 (maskTo q K : Nat), .func (.func 79) #[.int .u64 (maskTo q K : Nat)] #[], .int .i64 (x : Nat), .int .u64 (maskTo q K : Nat), .func (.func 79) #[.int .u64 (maskTo q K : Nat)] #[], .int .i64 (y : Nat), u26, u27, u28, u29, u30, u31, u32, u33, u34, u35, u36, u37, u38, u39, u40, u41, u42, u43, u44, u45, u46, u47, u48, u49, u50, u51, u52, u53, u54, u55, u56, u57, u58, u59, u60, u61, u62, u63, u64, u65, u66, u67, u68, u69], defers := [] }) ?assign2 ?body2 ?done2
      case assign2 =>
        intro l y W K' hK'
        gi_wp2
        exact hK'
      case done2 =>
        rintro W' ⟨⟨⟨⟨⟨hS', hA'⟩, hB'⟩, _⟩, hkf⟩, hb'⟩
        gi_wp2
        exact ⟨hkf, ⟨⟨hS', hA'.eq fun i j _ => by unfold apF; rw [doneI_all hx]⟩, hB'.eq fun i j _ => by unfold abF; rw [doneI_all hx]⟩, hb'⟩
      case body2 =>
        clear hS hA hB hb c2 cb hr
        rintro l2 d y W ⟨⟨⟨⟨⟨hS, hA⟩, hB⟩, cb⟩, hkf⟩, hb⟩ hy
        obtain ⟨xm, xp, xlh, xhn⟩ := hxs x (List.mem_of_getElem? hx)
        obtain ⟨ym, yp, ylh, yhn⟩ := hxs y (List.mem_of_getElem? hy)
        obtain ⟨p0, p1, p2⟩ := (hP.to hb).at_ (i := x) (by omega) xp
        obtain ⟨q0, q1, q2⟩ := (hP.to hb).at_ (i := y) (by omega) yp
        have c1 := hS.c1
        have xmI : (x : Int) < m := by omega
        have ymI : (y : Int) < m := by omega
        dsimp only
        gi_upto_region 6 with fail
        gi_cut [10, 11] from 26 (fun s10 s11 wx => ∃ pa pb : Nat, s10 = .pointer (some ⟨pa, 0, none⟩) ∧ s11 = .pointer (some ⟨pb, 0, none⟩) ∧ One3 wx pa (N x) (L x) (H x) ∧ One3 wx pb (N y) (L y) (H y) ∧ W.heap.size ≤ pa ∧ W.heap.size ≤ pb ∧ Below W.heap.size W wx)
        case first =>
          refine wpIn_region_treeR (fun wx => wx.cell? ⟨w.heap.size + 1, 0, none⟩ = some (.slice (some ⟨gp, 0, none⟩) m c) ∧ wx.cell? ⟨bi, 0, none⟩ = some (.int .i64 (x : Nat)) ∧ wx.cell? ⟨gp, x * 3, none⟩ = some (.int .i64 (N x : Nat)) ∧ wx.cell? ⟨gp, x * 3 + 1, none⟩ = some (.int .i64 (L x : Nat)) ∧ wx.cell? ⟨gp, x * 3 + 2, none⟩ = some (.int .i64 (H x : Nat)) ∧ wx.cell? ⟨gp, y * 3, none⟩ = some (.int .i64 (N y : Nat)) ∧ wx.cell? ⟨gp, y * 3 + 1, none⟩ = some (.int .i64 (L y : Nat)) ∧ wx.cell? ⟨gp, y * 3 + 2, none⟩ = some (.int .i64 (H y : Nat))) (Pl.takes [0, 1, 2, 3, 4, 5, 6, 7] (.fork 8 (.alone 9 (.alone 10 (.alone 11 .done))) 9 (.alone 8 (.alone 10 (.alone 11 .done))))) (by kernel_rfl) (by kernel_rfl) (by kernel_rfl) (by kernel_rfl) ⟨c1, cb, p0, p1, p2, q0, q1, q2⟩ (fun hS0 => ?_)
          refine tplan_w (v := ?_) rfl (by rfl) ?_ ?_
          rotate_left
          · intro wx hSx
            try dsimp only at hSx
            go_simp
            try (with_reducible rfl)
          try simp only [Act.put, List.setIfInBounds_toArray, List.set_cons_zero, List.set_cons_succ]
          refine tplan_w (v := ?_) rfl (by rfl) ?_ ?_
          rotate_left
          · intro wx hSx
            try dsimp only at hSx
            go_simp
            try (with_reducible rfl)
          try simp only [Act.put, List.setIfInBounds_toArray, List.set_cons_zero, List.set_cons_succ]
          refine tplan_w (v := ?_) rfl (by rfl) ?_ ?_
          rotate_left
          · intro wx hSx
            try dsimp only at hSx
            go_simp
            try (with_reducible rfl)
          try simp only [Act.put, List.setIfInBounds_toArray, List.set_cons_zero, List.set_cons_succ]
          refine tplan_w (v := ?_) rfl (by rfl) ?_ ?_
          rotate_left
          · intro wx hSx
            try dsimp only at hSx
            go_simp
            try (with_reducible rfl)
          try simp only [Act.put, List.setIfInBounds_toArray, List.set_cons_zero, List.set_cons_succ]
          refine tplan_w (v := ?_) rfl (by rfl) ?_ ?_
          rotate_left
          · intro wx hSx
            try dsimp only at hSx
            go_simp
            try (with_reducible rfl)
          try simp only [Act.put, List.setIfInBounds_toArray, List.set_cons_zero, List.set_cons_succ]
          refine tplan_w (v := ?_) rfl (by rfl) ?_ ?_
          rotate_left
          · intro wx hSx
            try dsimp only at hSx
            go_simp
            try (with_reducible rfl)
          try simp only [Act.put, List.setIfInBounds_toArray, List.set_cons_zero, List.set_cons_succ]
          refine tplan_w (v := ?_) rfl (by rfl) ?_ ?_
          rotate_left
          · intro wx hSx
            try dsimp only at hSx
            go_simp
            try (with_reducible rfl)
          try simp only [Act.put, List.setIfInBounds_toArray, List.set_cons_zero, List.set_cons_succ]
          refine tplan_w (v := ?_) rfl (by rfl) ?_ ?_
          rotate_left
          · intro wx hSx
            try dsimp only at hSx
            go_simp
            try (with_reducible rfl)
          try simp only [Act.put, List.setIfInBounds_toArray, List.set_cons_zero, List.set_cons_succ]
          refine tplan_fork ?_ ?_
          · refine tplan_b rfl (fun K hK => ?_)
            go_simp
            refine hK _ _ ⟨⟨cellB c1 (by first | exact alloc_below _ _ | exact (alloc_below _ _).drew), cellB cb (by first | exact alloc_below _ _ | exact (alloc_below _ _).drew), cellB p0 (by first | exact alloc_below _ _ | exact (alloc_below _ _).drew), cellB p1 (by first | exact alloc_below _ _ | exact (alloc_below _ _).drew), cellB p2 (by first | exact alloc_below _ _ | exact (alloc_below _ _).drew), cellB q0 (by first | exact alloc_below _ _ | exact (alloc_below _ _).drew), cellB q1 (by first | exact alloc_below _ _ | exact (alloc_below _ _).drew), cellB q2 (by first | exact alloc_below _ _ | exact (alloc_below _ _).drew)⟩, ?_⟩
            clear hK K
            try simp only [Act.put, List.setIfInBounds_toArray, List.set_cons_zero, List.set_cons_succ]
            obtain ⟨_, _, hb2⟩ := two_blocks W (.cells #[.int .i64 0, .int .i64 0, .int .i64 0] 170) (.cells #[.int .i64 0, .int .i64 0, .int .i64 0] 170)
            refine tplan_b rfl (fun K hK => ?_)
            go_simp
            refine hK _ _ ⟨⟨cellB c1 (by first | exact hb2 | exact hb2.drew), cellB cb (by first | exact hb2 | exact hb2.drew), cellB p0 (by first | exact hb2 | exact hb2.drew), cellB p1 (by first | exact hb2 | exact hb2.drew), cellB p2 (by first | exact hb2 | exact hb2.drew), cellB q0 (by first | exact hb2 | exact hb2.drew), cellB q1 (by first | exact hb2 | exact hb2.drew), cellB q2 (by first | exact hb2 | exact hb2.drew)⟩, ?_⟩
            clear hK K hb2
            try simp only [Act.put, List.setIfInBounds_toArray, List.set_cons_zero, List.set_cons_succ]
            obtain ⟨_, _, hb2⟩ := two_blocks W (.cells #[.int .i64 (N x : Nat), .int .i64 (L x : Nat), .int .i64 (H x : Nat)] 170) (.cells #[.int .i64 0, .int .i64 0, .int .i64 0] 170)
            refine tplan_b rfl (fun K hK => ?_)
            go_simp
            refine hK _ _ ⟨⟨cellB c1 (by first | exact hb2 | exact hb2.drew), cellB cb (by first | exact hb2 | exact hb2.drew), cellB p0 (by first | exact hb2 | exact hb2.drew), cellB p1 (by first | exact hb2 | exact hb2.drew), cellB p2 (by first | exact hb2 | exact hb2.drew), cellB q0 (by first | exact hb2 | exact hb2.drew), cellB q1 (by first | exact hb2 | exact hb2.drew), cellB q2 (by first | exact hb2 | exact hb2.drew)⟩, ?_⟩
            clear hK K hb2
            try simp only [Act.put, List.setIfInBounds_toArray, List.set_cons_zero, List.set_cons_succ]
            obtain ⟨h1, h2, hb2⟩ := two_blocks W (.cells #[.int .i64 (N x : Nat), .int .i64 (L x : Nat), .int .i64 (H x : Nat)] 170) (.cells #[.int .i64 (N y : Nat), .int .i64 (L y : Nat), .int .i64 (H y : Nat)] 170)
            refine tplan_b rfl (fun K hK => ?_)
            go_simp
            refine hK _ _ ⟨⟨cellB c1 (by first | exact hb2 | exact hb2.drew), cellB cb (by first | exact hb2 | exact hb2.drew), cellB p0 (by first | exact hb2 | exact hb2.drew), cellB p1 (by first | exact hb2 | exact hb2.drew), cellB p2 (by first | exact hb2 | exact hb2.drew), cellB q0 (by first | exact hb2 | exact hb2.drew), cellB q1 (by first | exact hb2 | exact hb2.drew), cellB q2 (by first | exact hb2 | exact hb2.drew)⟩, ?_⟩
            clear hK K
            try simp only [Act.put, List.setIfInBounds_toArray, List.set_cons_zero, List.set_cons_succ]
            refine tplan_end ?_
            gi_wp2_with fail
            gi_meet
            exact ⟨W.heap.size, W.heap.size + 1, rfl, rfl, ⟨(cell_of_row _ _ 0 _ _ _ h1).trans rfl, (cell_of_row _ _ 1 _ _ _ h1).trans rfl, (cell_of_row _ _ 2 _ _ _ h1).trans rfl⟩, ⟨(cell_of_row _ _ 0 _ _ _ h2).trans rfl, (cell_of_row _ _ 1 _ _ _ h2).trans rfl, (cell_of_row _ _ 2 _ _ _ h2).trans rfl⟩, by omega, by omega, (by first | exact hb2 | exact hb2.drew)⟩
          · refine tplan_b rfl (fun K hK => ?_)
            go_simp
            refine hK _ _ ⟨⟨cellB c1 (by first | exact alloc_below _ _ | exact (alloc_below _ _).drew), cellB cb (by first | exact alloc_below _ _ | exact (alloc_below _ _).drew), cellB p0 (by first | exact alloc_below _ _ | exact (alloc_below _ _).drew), cellB p1 (by first | exact alloc_below _ _ | exact (alloc_below _ _).drew), cellB p2 (by first | exact alloc_below _ _ | exact (alloc_below _ _).drew), cellB q0 (by first | exact alloc_below _ _ | exact (alloc_below _ _).drew), cellB q1 (by first | exact alloc_below _ _ | exact (alloc_below _ _).drew), cellB q2 (by first | exact alloc_below _ _ | exact (alloc_below _ _).drew)⟩, ?_⟩
            clear hK K
            try simp only [Act.put, List.setIfInBounds_toArray, List.set_cons_zero, List.set_cons_succ]
            obtain ⟨_, _, hb2⟩ := two_blocks W (.cells #[.int .i64 0, .int .i64 0, .int .i64 0] 170) (.cells #[.int .i64 0, .int .i64 0, .int .i64 0] 170)
            refine tplan_b rfl (fun K hK => ?_)
            go_simp
            refine hK _ _ ⟨⟨cellB c1 (by first | exact hb2 | exact hb2.drew), cellB cb (by first | exact hb2 | exact hb2.drew), cellB p0 (by first | exact hb2 | exact hb2.drew), cellB p1 (by first | exact hb2 | exact hb2.drew), cellB p2 (by first | exact hb2 | exact hb2.drew), cellB q0 (by first | exact hb2 | exact hb2.drew), cellB q1 (by first | exact hb2 | exact hb2.drew), cellB q2 (by first | exact hb2 | exact hb2.drew)⟩, ?_⟩
            clear hK K hb2
            try simp only [Act.put, List.setIfInBounds_toArray, List.set_cons_zero, List.set_cons_succ]
            obtain ⟨_, _, hb2⟩ := two_blocks W (.cells #[.int .i64 0, .int .i64 0, .int .i64 0] 170) (.cells #[.int .i64 (N x : Nat), .int .i64 (L x : Nat), .int .i64 (H x : Nat)] 170)
            refine tplan_b rfl (fun K hK => ?_)
            go_simp
            refine hK _ _ ⟨⟨cellB c1 (by first | exact hb2 | exact hb2.drew), cellB cb (by first | exact hb2 | exact hb2.drew), cellB p0 (by first | exact hb2 | exact hb2.drew), cellB p1 (by first | exact hb2 | exact hb2.drew), cellB p2 (by first | exact hb2 | exact hb2.drew), cellB q0 (by first | exact hb2 | exact hb2.drew), cellB q1 (by first | exact hb2 | exact hb2.drew), cellB q2 (by first | exact hb2 | exact hb2.drew)⟩, ?_⟩
            clear hK K hb2
            try simp only [Act.put, List.setIfInBounds_toArray, List.set_cons_zero, List.set_cons_succ]
            obtain ⟨h1, h2, hb2⟩ := two_blocks W (.cells #[.int .i64 (N y : Nat), .int .i64 (L y : Nat), .int .i64 (H y : Nat)] 170) (.cells #[.int .i64 (N x : Nat), .int .i64 (L x : Nat), .int .i64 (H x : Nat)] 170)
            refine tplan_b rfl (fun K hK => ?_)
            go_simp
            refine hK _ _ ⟨⟨cellB c1 (by first | exact hb2 | exact hb2.drew), cellB cb (by first | exact hb2 | exact hb2.drew), cellB p0 (by first | exact hb2 | exact hb2.drew), cellB p1 (by first | exact hb2 | exact hb2.drew), cellB p2 (by first | exact hb2 | exact hb2.drew), cellB q0 (by first | exact hb2 | exact hb2.drew), cellB q1 (by first | exact hb2 | exact hb2.drew), cellB q2 (by first | exact hb2 | exact hb2.drew)⟩, ?_⟩
            clear hK K
            try simp only [Act.put, List.setIfInBounds_toArray, List.set_cons_zero, List.set_cons_succ]
            refine tplan_end ?_
            gi_wp2_with fail
            gi_meet
            exact ⟨W.heap.size + 1, W.heap.size, rfl, rfl, ⟨(cell_of_row _ _ 0 _ _ _ h2).trans rfl, (cell_of_row _ _ 1 _ _ _ h2).trans rfl, (cell_of_row _ _ 2 _ _ _ h2).trans rfl⟩, ⟨(cell_of_row _ _ 0 _ _ _ h1).trans rfl, (cell_of_row _ _ 1 _ _ _ h1).trans rfl, (cell_of_row _ _ 2 _ _ _ h1).trans rfl⟩, by omega, by omega, (by first | exact hb2 | exact hb2.drew)⟩
        case rest =>
          obtain ⟨pa, pb, rfl, rfl, hpa, hpb, zpa, zpb, hbW⟩ := hcut
          obtain ⟨w5, rfl⟩ : ∃ w5, w5 = wc := ⟨_, rfl⟩
          have lA := hA.lt
          have lB := hB.lt
          have lS := World.block_lt_of_cell? _ _ hS.s0
          have zbi := World.block_lt_of_cell? _ _ cb
          dsimp only at lS zbi
          have hS5 := hS.to hbW
          have hA5 := hA.to hbW
          have hB5 := hB.to hbW
          have cb5 := cellB cb hbW
          have hb5 := bl_step hb hbW hb.size
          have hk5 : ∀ X, KeepsFrom X W w5 := fun X => keepsFrom_below hbW
          have hD := doneI_step (k := k) (x := x) hy
          clear hS hA hB cb hb p0 p1 p2 q0 q1 q2 c1 hbW
          have hend : ∀ W6 : World, Below w5.heap.size w5 W6 → apB N L H x y = false → KeepsFrom W0.heap.size W W6 ∧ (((((SCells w.heap.size gs (.slice (some ⟨g, 0, none⟩) n n) (.slice (some ⟨gp, 0, none⟩) m c) (.int .u64 (maskTo q K : Nat)) (.slice (some ⟨ga, 0, none⟩) m m) (.slice (some ⟨gb, 0, none⟩) m m) W6 ∧ BitBlk W6 ga m (apF N L H (doneI (memL q 0 K) k x (d + 1)))) ∧ BitBlk W6 gb m (abF T B N L H (doneI (memL q 0 K) k x (d + 1)))) ∧ W6.cell? ⟨bi, 0, none⟩ = some (.int .i64 (x : Nat))) ∧ KeepsFrom w4.heap.size W0 W6) ∧ Below w.heap.size w W6) := by
            intro W6 h6 hap
            have hab : abB T B N L H x y = false := by unfold abB; rw [hap]; rfl
            exact ⟨(hk5 _).trans (keepsFrom_below h6), ⟨⟨⟨⟨hS5.to h6, (hA5.to h6).eq fun i j _ => apF_same hD hap i j⟩, (hB5.to h6).eq fun i j _ => abF_same hD hab i j⟩, cellB cb5 h6⟩, hkf.trans ((hk5 _).trans (keepsFrom_below h6))⟩, bl_step hb5 h6 hb5.size⟩
          obtain ⟨a0, a1, a2⟩ := hpa
          obtain ⟨b0, b1, b2⟩ := hpb
          by_cases hN : N x = N y
          · have hap : apB N L H x y = false := by unfold apB; simp [hN]
            have HEND := Lib.hid (hend w5 (Below.refl _ _) hap)
            have heq : ((N x : Int) == (N y : Int)) = true := by simp [hN]
            have HN := Lib.hid hN
            clear hN hend hap
            gi_wp2
            refine ⟨trivial, ?_⟩
            gi_wp2
            exact HEND.out
          · have hne : ((N x : Int) == (N y : Int)) = false := by simpa using fun e : (N x : Int) = N y => hN (by omega)
            cases hov : (decide (L x ≤ H y) && decide (L y ≤ H x))
            · have hap : apB N L H x y = false := by unfold apB; rw [hov]; simp
              have HI : Hid ((decide ((L x : Int) ≤ (H y : Int)) && decide ((L y : Int) ≤ (H x : Int))) = false) := by
                show _ = _; rw [← hov]; congr 1 <;> rw [decide_eq_decide] <;> omega
              have HEND := Lib.hid fun W6 h6 => hend W6 h6 hap
              clear hN hend hap hov
              gi_wp2_with (refine ⟨trivial, ?_⟩; gi_at_call 117; refine (CallsIn.inRound l2 (callsIn_wide.2 (meets_any _ _ _ _ _ HI _))).mono ?_; rintro e w6 ⟨rfl, hb6⟩)
              exact HEND.out _ hb6
            · have hap : apB N L H x y = true := by unfold apB; rw [hov, decide_eq_true hN]; rfl
              have HI : Hid ((decide ((L x : Int) ≤ (H y : Int)) && decide ((L y : Int) ≤ (H x : Int))) = true) := by
                show _ = _; rw [← hov]; congr 1 <;> rw [decide_eq_decide] <;> omega
              rw [Bool.and_eq_true, decide_eq_true_eq, decide_eq_true_eq] at hov
              obtain ⟨ov1, ov2⟩ := hov
              clear hend
              gi_wp2_with (refine ⟨trivial, ?_⟩; gi_at_call 117; refine (CallsIn.inRound l2 (callsIn_wide.2 (meets_any _ _ _ _ _ HI _))).mono ?_; rintro e w6 ⟨rfl, hb6⟩)
              have hS6 := hS5.to hb6
              have hA6 := hA5.to hb6
              have hB6 := hB5.to hb6
              have cb6 := cellB cb5 hb6
              have a06 := cellB a0 hb6
              have a16 := cellB a1 hb6
              have a26 := cellB a2 hb6
              have b06 := cellB b0 hb6
              have b16 := cellB b1 hb6
              have b26 := cellB b2 hb6
              have hb06 := bl_step hb5 hb6 hb5.size
              have hk6 : ∀ X, KeepsFrom X W w6 := fun X => (hk5 X).trans (keepsFrom_below hb6)
              have s1 := hS6.s1
              obtain ⟨v, hv, dv, hvb⟩ := hA6.at_ xm
              have fv := hA6.frozen x
              have HOR := Lib.hid (or_pow v y hv (by omega))
              clear hS5 hA5 hB5 cb5 hb5 hk5 a0 a1 a2 b0 b1 b2 hb6
              gi_cut [] from 47 (fun wx => wx = w6.drew.setCell ⟨ga, x, none⟩ (.int .u64 ((v ||| 2 ^ y : Nat) : Int)))
              case first =>
                refine wpIn_region_treeR (fun wx => wx.cell? ⟨gs, 1, none⟩ = some (.slice (some ⟨ga, 0, none⟩) m m) ∧ wx.cell? ⟨bi, 0, none⟩ = some (.int .i64 (x : Nat))) (Pl.takes [0, 1, 2, 3, 5] (.fork 4 (.alone 6 (Pl.takes [7, 8] (.alone 9 .done))) 6 (.alone 4 (Pl.takes [7, 8] (.alone 9 .done))))) (by kernel_rfl) (by kernel_rfl) (by kernel_rfl) (by kernel_rfl) ⟨s1, cb6⟩ (fun hS0 => ?_)
                refine tplan_w (v := ?_) rfl (by rfl) ?_ ?_
                rotate_left
                · intro wx hSx
                  try dsimp only at hSx
                  go_simp
                  try (with_reducible rfl)
                try simp only [Act.put, List.setIfInBounds_toArray, List.set_cons_zero, List.set_cons_succ]
                refine tplan_w (v := ?_) rfl (by rfl) ?_ ?_
                rotate_left
                · intro wx hSx
                  try dsimp only at hSx
                  go_simp
                  try (with_reducible rfl)
                try simp only [Act.put, List.setIfInBounds_toArray, List.set_cons_zero, List.set_cons_succ]
                refine tplan_w (v := ?_) rfl (by rfl) ?_ ?_
                rotate_left
                · intro wx hSx
                  try dsimp only at hSx
                  go_simp
                  try (with_reducible rfl)
                try simp only [Act.put, List.setIfInBounds_toArray, List.set_cons_zero, List.set_cons_succ]
                refine tplan_w (v := ?_) rfl (by rfl) ?_ ?_
                rotate_left
                · intro wx hSx
                  try dsimp only at hSx
                  go_simp
                  try (with_reducible rfl)
                try simp only [Act.put, List.setIfInBounds_toArray, List.set_cons_zero, List.set_cons_succ]
                refine tplan_w (v := ?_) rfl (by rfl) ?_ ?_
                rotate_left
                · intro wx hSx
                  try dsimp only at hSx
                  go_simp
                  try (with_reducible rfl)
                try simp only [Act.put, List.setIfInBounds_toArray, List.set_cons_zero, List.set_cons_succ]
                refine tplan_fork ?_ ?_
                · refine tplan_b rfl (fun K hK => ?_)
                  go_simp
                  refine hK _ _ ⟨hS0, ?_⟩
                  clear hK K
                  try simp only [Act.put, List.setIfInBounds_toArray, List.set_cons_zero, List.set_cons_succ]
                  refine tplan_b rfl (fun K hK => ?_)
                  go_simp
                  refine (bitsetOf_any y (by omega) _).mono ?_
                  rintro e w7 ⟨rfl, rfl⟩
                  refine hK _ _ ⟨hS0, ?_⟩
                  clear hK K
                  try simp only [Act.put, List.setIfInBounds_toArray, List.set_cons_zero, List.set_cons_succ]
                  refine tplan_w (v := ?_) rfl (by rfl) ?_ ?_
                  rotate_left
                  · intro wx hSx
                    try dsimp only at hSx
                    go_simp
                    try (with_reducible rfl)
                  try simp only [Act.put, List.setIfInBounds_toArray, List.set_cons_zero, List.set_cons_succ]
                  refine tplan_w (v := ?_) rfl (by rfl) ?_ ?_
                  rotate_left
                  · intro wx hSx
                    try dsimp only at hSx
                    go_simp
                    try (with_reducible rfl)
                  try simp only [Act.put, List.setIfInBounds_toArray, List.set_cons_zero, List.set_cons_succ]
                  refine tplan_b rfl (fun K hK => ?_)
                  go_simp
                  refine hK _ _ ⟨⟨(cell_other _ _ _ _ (by dsimp only; omega)).trans hS0.1, (cell_other _ _ _ _ (by dsimp only; omega)).trans hS0.2⟩, ?_⟩
                  clear hK K
                  try simp only [Act.put, List.setIfInBounds_toArray, List.set_cons_zero, List.set_cons_succ]
                  refine tplan_end ?_
                  gi_wp2_with fail
                  gi_meet
                  rw [HOR.out]
                  rfl
                · refine tplan_b rfl (fun K hK => ?_)
                  go_simp
                  refine (bitsetOf_any y (by omega) _).mono ?_
                  rintro e w7 ⟨rfl, rfl⟩
                  refine hK _ _ ⟨hS0, ?_⟩
                  clear hK K
                  try simp only [Act.put, List.setIfInBounds_toArray, List.set_cons_zero, List.set_cons_succ]
                  refine tplan_b rfl (fun K hK => ?_)
                  go_simp
                  refine hK _ _ ⟨hS0, ?_⟩
                  clear hK K
                  try simp only [Act.put, List.setIfInBounds_toArray, List.set_cons_zero, List.set_cons_succ]
                  refine tplan_w (v := ?_) rfl (by rfl) ?_ ?_
                  rotate_left
                  · intro wx hSx
                    try dsimp only at hSx
                    go_simp
                    try (with_reducible rfl)
                  try simp only [Act.put, List.setIfInBounds_toArray, List.set_cons_zero, List.set_cons_succ]
                  refine tplan_w (v := ?_) rfl (by rfl) ?_ ?_
                  rotate_left
                  · intro wx hSx
                    try dsimp only at hSx
                    go_simp
                    try (with_reducible rfl)
                  try simp only [Act.put, List.setIfInBounds_toArray, List.set_cons_zero, List.set_cons_succ]
                  refine tplan_b rfl (fun K hK => ?_)
                  go_simp
                  refine hK _ _ ⟨⟨(cell_other _ _ _ _ (by dsimp only; omega)).trans hS0.1, (cell_other _ _ _ _ (by dsimp only; omega)).trans hS0.2⟩, ?_⟩
                  clear hK K
                  try simp only [Act.put, List.setIfInBounds_toArray, List.set_cons_zero, List.set_cons_succ]
                  refine tplan_end ?_
                  gi_wp2_with fail
                  gi_meet
                  rw [HOR.out]
                  rfl
              case rest =>
                obtain ⟨w7, rfl⟩ : ∃ w7, w7 = wc := ⟨_, rfl⟩
                have hbd : Below w6.heap.size w6 w6.drew := (Below.refl _ _).drew
                have hS7 : SCells w.heap.size gs (.slice (some ⟨g, 0, none⟩) n n) (.slice (some ⟨gp, 0, none⟩) m c) (.int .u64 (maskTo q K : Nat)) (.slice (some ⟨ga, 0, none⟩) m m) (.slice (some ⟨gb, 0, none⟩) m m) w7 := by rw [hcut]; exact (hS6.to hbd).set _ _ (by dsimp only; omega) nsa
                have hA7 : BitBlk w7 ga m (apF N L H (doneI (memL q 0 K) k x (d + 1))) := by rw [hcut]; exact ((hA6.to hbd).set xm (by omega) dv).eq fun i j _ => apF_add hD hap i j
                have hB7 : BitBlk w7 gb m (abF T B N L H (doneI (memL q 0 K) k x d)) := by rw [hcut]; exact (hB6.to hbd).other _ _ (by dsimp only; omega)
                have cb7 : w7.cell? ⟨bi, 0, none⟩ = some (.int .i64 (x : Nat)) := by rw [hcut]; exact (cell_other _ _ _ _ (by dsimp only; omega)).trans (cellB cb6 hbd)
                have a07 : w7.cell? ⟨pa, 0, none⟩ = some (.int .i64 (N x : Nat)) := by rw [hcut]; exact (cell_other _ _ _ _ (by dsimp only; omega)).trans (cellB a06 hbd)
                have a17 : w7.cell? ⟨pa, 1, none⟩ = some (.int .i64 (L x : Nat)) := by rw [hcut]; exact (cell_other _ _ _ _ (by dsimp only; omega)).trans (cellB a16 hbd)
                have a27 : w7.cell? ⟨pa, 2, none⟩ = some (.int .i64 (H x : Nat)) := by rw [hcut]; exact (cell_other _ _ _ _ (by dsimp only; omega)).trans (cellB a26 hbd)
                have b07 : w7.cell? ⟨pb, 0, none⟩ = some (.int .i64 (N y : Nat)) := by rw [hcut]; exact (cell_other _ _ _ _ (by dsimp only; omega)).trans (cellB b06 hbd)
                have b17 : w7.cell? ⟨pb, 1, none⟩ = some (.int .i64 (L y : Nat)) := by rw [hcut]; exact (cell_other _ _ _ _ (by dsimp only; omega)).trans (cellB b16 hbd)
                have b27 : w7.cell? ⟨pb, 2, none⟩ = some (.int .i64 (H y : Nat)) := by rw [hcut]; exact (cell_other _ _ _ _ (by dsimp only; omega)).trans (cellB b26 hbd)
                have hb07 : Below w.heap.size w w7 := by rw [hcut]; exact hb06.drew.setCell (p := ⟨ga, x, none⟩) (by dsimp only; omega) _
                have hk7 : ∀ X, KeepsFrom X W w7 := fun X => by rw [hcut]; exact ((hk6 X).trans (keepsFrom_below hbd)).trans ((KeepsOthers.setCell _ _ _).from _)
                have c07 := hS7.c0
                have hmb := mustBeAbove_any g T B n (N x) (L x) (H x) (N y) (L y) (H y) w7 (hG.to hb07) hn xlh xhn ylh yhn ov1 ov2
                clear hcut hS6 hA6 hB6 cb6 a06 a16 a26 b06 b16 b26 hb06 hk6 s1 dv fv hbd HOR hv hvb v
                cases hr : colIn T B (N x : Nat) (N y : Nat) (comF (L x) (L y)) (comM (L x) (H x) (L y) (H y))
                · have hab : abB T B N L H x y = false := by unfold abB; rw [hap, hr]; rfl
                  rw [hr] at hmb
                  clear hr
                  gi_wp2_with (refine ⟨trivial, ?_⟩; gi_at_call 118; refine (CallsIn.inRound l2 (callsIn_wide.2 hmb)).mono ?_; rintro e w8 ⟨rfl, hb8⟩)
                  exact ⟨(hk7 _).trans (keepsFrom_below hb8), ⟨⟨⟨⟨hS7.to hb8, hA7.to hb8⟩, (hB7.to hb8).eq fun i j _ => abF_same hD hab i j⟩, cellB cb7 hb8⟩, hkf.trans ((hk7 _).trans (keepsFrom_below hb8))⟩, bl_step hb07 hb8 hb07.size⟩
                · have hab : abB T B N L H x y = true := by unfold abB; rw [hap, hr]; rfl
                  rw [hr] at hmb
                  clear hr
                  gi_wp2_with (refine ⟨trivial, ?_⟩; gi_at_call 118; refine (CallsIn.inRound l2 (callsIn_wide.2 hmb)).mono ?_; rintro e w8 ⟨rfl, hb8⟩)
                  have hS8 := hS7.to hb8
                  have hA8 := hA7.to hb8
                  have hB8 := hB7.to hb8
                  have cb8 := cellB cb7 hb8
                  have hb08 := bl_step hb07 hb8 hb07.size
                  have hk8 : ∀ X, KeepsFrom X W w8 := fun X => (hk7 X).trans (keepsFrom_below hb8)
                  have s2 := hS8.s2
                  obtain ⟨v, hv, dv, hvb⟩ := hB8.at_ ym
                  have fv := hB8.frozen y
                  have HOR := Lib.hid (or_pow v x hv (by omega))
                  clear hS7 hA7 hB7 cb7 hb07 hk7 a07 a17 a27 b07 b17 b27 hb8 hmb c07
                  have hend9 : ∀ wc : World, wc = w8.drew.setCell ⟨gb, y, none⟩ (.int .u64 ((v ||| 2 ^ x : Nat) : Int)) → KeepsFrom W0.heap.size W wc ∧ (((((SCells w.heap.size gs (.slice (some ⟨g, 0, none⟩) n n) (.slice (some ⟨gp, 0, none⟩) m c) (.int .u64 (maskTo q K : Nat)) (.slice (some ⟨ga, 0, none⟩) m m) (.slice (some ⟨gb, 0, none⟩) m m) wc ∧ BitBlk wc ga m (apF N L H (doneI (memL q 0 K) k x (d + 1)))) ∧ BitBlk wc gb m (abF T B N L H (doneI (memL q 0 K) k x (d + 1)))) ∧ wc.cell? ⟨bi, 0, none⟩ = some (.int .i64 (x : Nat))) ∧ KeepsFrom w4.heap.size W0 wc) ∧ Below w.heap.size w wc) := by
                    intro wc hcut
                    have hbd : Below w8.heap.size w8 w8.drew := (Below.refl _ _).drew
                    have hS9 : SCells w.heap.size gs (.slice (some ⟨g, 0, none⟩) n n) (.slice (some ⟨gp, 0, none⟩) m c) (.int .u64 (maskTo q K : Nat)) (.slice (some ⟨ga, 0, none⟩) m m) (.slice (some ⟨gb, 0, none⟩) m m) wc := by rw [hcut]; exact (hS8.to hbd).set _ _ (by dsimp only; omega) nsb
                    have hA9 : BitBlk wc ga m (apF N L H (doneI (memL q 0 K) k x (d + 1))) := by rw [hcut]; exact (hA8.to hbd).other _ _ nab
                    have hB9 : BitBlk wc gb m (abF T B N L H (doneI (memL q 0 K) k x (d + 1))) := by rw [hcut]; exact ((hB8.to hbd).set ym (by omega) dv).eq fun i j _ => abF_add hD hab i j
                    have cb9 : wc.cell? ⟨bi, 0, none⟩ = some (.int .i64 (x : Nat)) := by rw [hcut]; exact (cell_other _ _ _ _ (by dsimp only; omega)).trans (cellB cb8 hbd)
                    have hb09 : Below w.heap.size w wc := by rw [hcut]; exact hb08.drew.setCell (p := ⟨gb, y, none⟩) (by dsimp only; omega) _
                    have hk9 : ∀ X, KeepsFrom X W wc := fun X => by rw [hcut]; exact ((hk8 X).trans (keepsFrom_below hbd)).trans ((KeepsOthers.setCell _ _ _).from _)
                    exact ⟨hk9 _, ⟨⟨⟨⟨hS9, hA9⟩, hB9⟩, cb9⟩, hkf.trans (hk9 _)⟩, hb09⟩
                  have HEND := Lib.hid hend9
                  clear hend9
                  refine wpIn_region_treeR (fun wx => wx.cell? ⟨gs, 2, none⟩ = some (.slice (some ⟨gb, 0, none⟩) m m) ∧ wx.cell? ⟨bi, 0, none⟩ = some (.int .i64 (x : Nat))) (Pl.takes [0, 1, 2, 3, 5] (.fork 4 (.alone 6 (Pl.takes [7, 8] (.alone 9 .done))) 6 (.alone 4 (Pl.takes [7, 8] (.alone 9 .done))))) (by kernel_rfl) (by kernel_rfl) (by kernel_rfl) (by kernel_rfl) ⟨s2, cb8⟩ (fun hS0 => ?_)
                  refine tplan_w (v := ?_) rfl (by rfl) ?_ ?_
                  rotate_left
                  · intro wx hSx
                    try dsimp only at hSx
                    go_simp
                    try (with_reducible rfl)
                  try simp only [Act.put, List.setIfInBounds_toArray, List.set_cons_zero, List.set_cons_succ]
                  refine tplan_w (v := ?_) rfl (by rfl) ?_ ?_
                  rotate_left
                  · intro wx hSx
                    try dsimp only at hSx
                    go_simp
                    try (with_reducible rfl)
                  try simp only [Act.put, List.setIfInBounds_toArray, List.set_cons_zero, List.set_cons_succ]
                  refine tplan_w (v := ?_) rfl (by rfl) ?_ ?_
                  rotate_left
                  · intro wx hSx
                    try dsimp only at hSx
                    go_simp
                    try (with_reducible rfl)
                  try simp only [Act.put, List.setIfInBounds_toArray, List.set_cons_zero, List.set_cons_succ]
                  refine tplan_w (v := ?_) rfl (by rfl) ?_ ?_
                  rotate_left
                  · intro wx hSx
                    try dsimp only at hSx
                    go_simp
                    try (with_reducible rfl)
                  try simp only [Act.put, List.setIfInBounds_toArray, List.set_cons_zero, List.set_cons_succ]
                  refine tplan_w (v := ?_) rfl (by rfl) ?_ ?_
                  rotate_left
                  · intro wx hSx
                    try dsimp only at hSx
                    go_simp
                    try (with_reducible rfl)
                  try simp only [Act.put, List.setIfInBounds_toArray, List.set_cons_zero, List.set_cons_succ]
                  refine tplan_fork ?_ ?_
                  · refine tplan_b rfl (fun K hK => ?_)
                    go_simp
                    refine hK _ _ ⟨hS0, ?_⟩
                    clear hK K
                    try simp only [Act.put, List.setIfInBounds_toArray, List.set_cons_zero, List.set_cons_succ]
                    refine tplan_b rfl (fun K hK => ?_)
                    go_simp
                    refine (bitsetOf_any x (by omega) _).mono ?_
                    rintro e w7 ⟨rfl, rfl⟩
                    refine hK _ _ ⟨hS0, ?_⟩
                    clear hK K
                    try simp only [Act.put, List.setIfInBounds_toArray, List.set_cons_zero, List.set_cons_succ]
                    refine tplan_w (v := ?_) rfl (by rfl) ?_ ?_
                    rotate_left
                    · intro wx hSx
                      try dsimp only at hSx
                      go_simp
                      try (with_reducible rfl)
                    try simp only [Act.put, List.setIfInBounds_toArray, List.set_cons_zero, List.set_cons_succ]
                    refine tplan_w (v := ?_) rfl (by rfl) ?_ ?_
                    rotate_left
                    · intro wx hSx
                      try dsimp only at hSx
                      go_simp
                      try (with_reducible rfl)
                    try simp only [Act.put, List.setIfInBounds_toArray, List.set_cons_zero, List.set_cons_succ]
                    refine tplan_b rfl (fun K hK => ?_)
                    go_simp
                    refine hK _ _ ⟨⟨(cell_other _ _ _ _ (by dsimp only; omega)).trans hS0.1, (cell_other _ _ _ _ (by dsimp only; omega)).trans hS0.2⟩, ?_⟩
                    clear hK K
                    try simp only [Act.put, List.setIfInBounds_toArray, List.set_cons_zero, List.set_cons_succ]
                    refine tplan_end ?_
                    exact HEND.out _ (by rw [HOR.out]; rfl)
                  · refine tplan_b rfl (fun K hK => ?_)
                    go_simp
                    refine (bitsetOf_any x (by omega) _).mono ?_
                    rintro e w7 ⟨rfl, rfl⟩
                    refine hK _ _ ⟨hS0, ?_⟩
                    clear hK K
                    try simp only [Act.put, List.setIfInBounds_toArray, List.set_cons_zero, List.set_cons_succ]
                    refine tplan_b rfl (fun K hK => ?_)
                    go_simp
                    refine hK _ _ ⟨hS0, ?_⟩
                    clear hK K
                    try simp only [Act.put, List.setIfInBounds_toArray, List.set_cons_zero, List.set_cons_succ]
                    refine tplan_w (v := ?_) rfl (by rfl) ?_ ?_
                    rotate_left
                    · intro wx hSx
                      try dsimp only at hSx
                      go_simp
                      try (with_reducible rfl)
                    try simp only [Act.put, List.setIfInBounds_toArray, List.set_cons_zero, List.set_cons_succ]
                    refine tplan_w (v := ?_) rfl (by rfl) ?_ ?_
                    rotate_left
                    · intro wx hSx
                      try dsimp only at hSx
                      go_simp
                      try (with_reducible rfl)
                    try simp only [Act.put, List.setIfInBounds_toArray, List.set_cons_zero, List.set_cons_succ]
                    refine tplan_b rfl (fun K hK => ?_)
                    go_simp
                    refine hK _ _ ⟨⟨(cell_other _ _ _ _ (by dsimp only; omega)).trans hS0.1, (cell_other _ _ _ _ (by dsimp only; omega)).trans hS0.2⟩, ?_⟩
                    clear hK K
                    try simp only [Act.put, List.setIfInBounds_toArray, List.set_cons_zero, List.set_cons_succ]
                    refine tplan_end ?_
                    exact HEND.out _ (by rw [HOR.out]; rfl)
    case done =>
      rintro D W hD ⟨⟨⟨hS, hA⟩, hB⟩, hb⟩ hK'
      obtain ⟨k0, k1, k2, r0, r1, r2, f0, f1, f2, s0, s1, s2⟩ := hS
      gi_wp2
      have hK3 : (((W.setCell ⟨w.heap.size + 1 + 1 + 1, 0, none⟩ (.int .u64 (maskTo q K : Nat))).setCell ⟨w.heap.size + 1 + 1 + 1, 1, none⟩ (.slice (some ⟨ga, 0, none⟩) m m)).setCell ⟨w.heap.size + 1 + 1 + 1, 2, none⟩ (.slice (some ⟨gb, 0, none⟩) m m)).heap[D]? = some (.deferred (some [])) := (Below.heap_setCell _ _ _ _ (by dsimp only; omega)).trans ((Below.heap_setCell _ _ _ _ (by dsimp only; omega)).trans ((Below.heap_setCell _ _ _ _ (by dsimp only; omega)).trans hK'))
      refine ⟨by simp, .inl ⟨_, _, rfl, run_takeDeferred hK3, ?_⟩⟩
      obtain ⟨v0, v1, v2⟩ := set3 (x := .int .u64 (maskTo q K : Nat)) (y := .slice (some ⟨ga, 0, none⟩) m m) (z := .slice (some ⟨gb, 0, none⟩) m m) r0 r1 r2
      have hA3 := ((hA.other ⟨w.heap.size + 1 + 1 + 1, 0, none⟩ (.int .u64 (maskTo q K : Nat)) (by dsimp only; omega)).other ⟨w.heap.size + 1 + 1 + 1, 1, none⟩ (.slice (some ⟨ga, 0, none⟩) m m) (by dsimp only; omega)).other ⟨w.heap.size + 1 + 1 + 1, 2, none⟩ (.slice (some ⟨gb, 0, none⟩) m m) (by dsimp only; omega)
      have hB3 := ((hB.other ⟨w.heap.size + 1 + 1 + 1, 0, none⟩ (.int .u64 (maskTo q K : Nat)) (by dsimp only; omega)).other ⟨w.heap.size + 1 + 1 + 1, 1, none⟩ (.slice (some ⟨ga, 0, none⟩) m m) (by dsimp only; omega)).other ⟨w.heap.size + 1 + 1 + 1, 2, none⟩ (.slice (some ⟨gb, 0, none⟩) m m) (by dsimp only; omega)
      have hb3 : Below w.heap.size w (((W.setCell ⟨w.heap.size + 1 + 1 + 1, 0, none⟩ (.int .u64 (maskTo q K : Nat))).setCell ⟨w.heap.size + 1 + 1 + 1, 1, none⟩ (.slice (some ⟨ga, 0, none⟩) m m)).setCell ⟨w.heap.size + 1 + 1 + 1, 2, none⟩ (.slice (some ⟨gb, 0, none⟩) m m)) := ((hb.setCell (p := ⟨w.heap.size + 1 + 1 + 1, 0, none⟩) (by simp; omega) _).setCell (p := ⟨w.heap.size + 1 + 1 + 1, 1, none⟩) (by simp; omega) _).setCell (p := ⟨w.heap.size + 1 + 1 + 1, 2, none⟩) (by simp; omega) _
      have lA0 := hA0.lt
      have lB0 := hB0.lt
      clear hA hB hb k0 k1 k2 r0 r1 r2 f0 f1 f2 s0 s1 s2 hA0 hB0 c2
      generalize ((W.setCell ⟨w.heap.size + 1 + 1 + 1, 0, none⟩ (.int .u64 (maskTo q K : Nat))).setCell ⟨w.heap.size + 1 + 1 + 1, 1, none⟩ (.slice (some ⟨ga, 0, none⟩) m m)).setCell ⟨w.heap.size + 1 + 1 + 1, 2, none⟩ (.slice (some ⟨gb, 0, none⟩) m m) = W3 at *
      have hbk := belowK_b (w := w) (Nat.le_refl _) W3 D _ (.deferred none) (by omega) hK3 rfl rfl
      have hbd := hb3.trans hbk
      have e0 : (W3.putObj D (.deferred none)).cell? ⟨w.heap.size + 1 + 1 + 1, 0, none⟩ = _ := (World.cell?_of_block (World.putObj_heap_other (by dsimp only; omega))).trans v0
      have e1 : (W3.putObj D (.deferred none)).cell? ⟨w.heap.size + 1 + 1 + 1, 1, none⟩ = _ := (World.cell?_of_block (World.putObj_heap_other (by dsimp only; omega))).trans v1
      have e2 : (W3.putObj D (.deferred none)).cell? ⟨w.heap.size + 1 + 1 + 1, 2, none⟩ = _ := (World.cell?_of_block (World.putObj_heap_other (by dsimp only; omega))).trans v2
      have lA := hA3.lt
      have lB := hB3.lt
      have hA4 : BitBlk (W3.putObj D (.deferred none)) ga m (apF N L H (doneO (memL q 0 K) (memL q 0 K).length)) := hA3.keep (World.putObj_heap_other (by omega))
      have hB4 : BitBlk (W3.putObj D (.deferred none)) gb m (abF T B N L H (doneO (memL q 0 K) (memL q 0 K).length)) := hB3.keep (World.putObj_heap_other (by omega))
      exact ⟨.agg #[.int .u64 (maskTo q K : Nat), .slice (some ⟨ga, 0, none⟩) m m, .slice (some ⟨gb, 0, none⟩) m m], by simp [results, Tryd.results96, go_sem, e0, e1, e2], ⟨⟨ga, gb, rfl, hA4, hB4, by omega, by omega⟩, hbd⟩⟩
end Go.Proofs.YtefcfpagbjflbaaDoor
