/-
  Proved: for every three points, the program's MedianPoint answers as the model's. No condition.
-/
import Derived.Test.YtepamhdopmfkfaaMedQ
import Derived.Test.YtepamhdopmfkfaaPlanT
import Derived.Test.YtepamhdopmfkfaaKeep
import Derived.Deep.DeepCutAuto
import Derived.Sort.CutIn
namespace Go.Proofs.Ytepamhdopmfkfaa.fnExactMedianPoint
set_option linter.unusedSimpArgs false
set_option linter.unusedVariables false
open Go.ChangeShapes Go.WideShapes Go.ChangeAt Go.RowKit
open Go.Proofs.Ytepamhdopmfkfaa.fnExactBoxOf

theorem mpV_parts (ax ay bx by_ cx cy : Int) : ∃ ra rb ok, mpV ax ay bx by_ cx cy = .tuple #[.agg #[.int .i64 ra, .int .i64 rb], .bool ok] := ⟨_, _, _, rfl⟩
set_option maxRecDepth 100000 in
set_option maxHeartbeats 6400000 in
theorem walk (ax ay bx by_ cx cy : Int) (w : World) (_ : Fits ax ∧ Fits ay) (_ : Fits bx ∧ Fits by_) (_ : Fits cx ∧ Fits cy) :
    Calls Try.prog 5 #[.agg #[.int .i64 ax, .int .i64 ay], .agg #[.int .i64 bx, .int .i64 by_], .agg #[.int .i64 cx, .int .i64 cy]] w fun e w' => e = .returned (.bool true) ∧ Below w.heap.size w w' := by
  obtain ⟨ra, rb, ok, hv⟩ := mpV_parts ax ay bx by_ cx cy
  have H := Lib.hid hv
  clear hv
  have q0 : (((w.alloc (.cells #[.int .i64 ax, .int .i64 ay] 32)).alloc (.cells #[.int .i64 bx, .int .i64 by_] 32)).alloc (.cells #[.int .i64 cx, .int .i64 cy] 32)).cell? ⟨w.heap.size, 0, none⟩ = some (.int .i64 ax) := by go_simp
  have q1 : (((w.alloc (.cells #[.int .i64 ax, .int .i64 ay] 32)).alloc (.cells #[.int .i64 bx, .int .i64 by_] 32)).alloc (.cells #[.int .i64 cx, .int .i64 cy] 32)).cell? ⟨w.heap.size, 1, none⟩ = some (.int .i64 ay) := by go_simp
  have q2 : (((w.alloc (.cells #[.int .i64 ax, .int .i64 ay] 32)).alloc (.cells #[.int .i64 bx, .int .i64 by_] 32)).alloc (.cells #[.int .i64 cx, .int .i64 cy] 32)).cell? ⟨w.heap.size + 1, 0, none⟩ = some (.int .i64 bx) := by go_simp
  have q3 : (((w.alloc (.cells #[.int .i64 ax, .int .i64 ay] 32)).alloc (.cells #[.int .i64 bx, .int .i64 by_] 32)).alloc (.cells #[.int .i64 cx, .int .i64 cy] 32)).cell? ⟨w.heap.size + 1, 1, none⟩ = some (.int .i64 by_) := by go_simp
  have q4 : (((w.alloc (.cells #[.int .i64 ax, .int .i64 ay] 32)).alloc (.cells #[.int .i64 bx, .int .i64 by_] 32)).alloc (.cells #[.int .i64 cx, .int .i64 cy] 32)).cell? ⟨w.heap.size + 1 + 1, 0, none⟩ = some (.int .i64 cx) := by go_simp
  have q5 : (((w.alloc (.cells #[.int .i64 ax, .int .i64 ay] 32)).alloc (.cells #[.int .i64 bx, .int .i64 by_] 32)).alloc (.cells #[.int .i64 cx, .int .i64 cy] 32)).cell? ⟨w.heap.size + 1 + 1, 1, none⟩ = some (.int .i64 cy) := by go_simp
  have hb1 : Below w.heap.size w (((w.alloc (.cells #[.int .i64 ax, .int .i64 ay] 32)).alloc (.cells #[.int .i64 bx, .int .i64 by_] 32)).alloc (.cells #[.int .i64 cx, .int .i64 cy] 32)) := by (repeat (first | assumption | exact Below.refl _ _ | (refine bl_alloc ?_ _) | (refine Below.drew ?_) | (refine bl_drewN ?_ _) | (refine bl_set ?_ (by first | (simp; done) | omega | (simp; omega)) _) | (refine bl_trans ?_ (by assumption)) | (refine bl_step ?_ (by assumption) (by first | omega | exact Below.size (by assumption) | (simp; omega) | (simp; exact Below.size (by assumption))))))
  have hz1 : w.heap.size + 1 + 1 < (((w.alloc (.cells #[.int .i64 ax, .int .i64 ay] 32)).alloc (.cells #[.int .i64 bx, .int .i64 by_] 32)).alloc (.cells #[.int .i64 cx, .int .i64 cy] 32)).heap.size := by simp
  go_enter Try.func5, Try.ntmps5
  go_wp2
  generalize (((w.alloc (.cells #[.int .i64 ax, .int .i64 ay] 32)).alloc (.cells #[.int .i64 bx, .int .i64 by_] 32)).alloc (.cells #[.int .i64 cx, .int .i64 cy] 32)) = w1 at *
  have hS1 : w1.cell? ⟨w.heap.size, 0, none⟩ = some (.int .i64 ax) ∧ w1.cell? ⟨w.heap.size, 1, none⟩ = some (.int .i64 ay) ∧ w1.cell? ⟨w.heap.size + 1, 0, none⟩ = some (.int .i64 bx) ∧ w1.cell? ⟨w.heap.size + 1, 1, none⟩ = some (.int .i64 by_) ∧ w1.cell? ⟨w.heap.size + 1 + 1, 0, none⟩ = some (.int .i64 cx) ∧ w1.cell? ⟨w.heap.size + 1 + 1, 1, none⟩ = some (.int .i64 cy) ∧ Below w.heap.size w w1 ∧ w.heap.size ≤ w1.heap.size := ⟨q0, q1, q2, q3, q4, q5, hb1, by omega⟩
  clear q0 q1 q2 q3 q4 q5
  obtain ⟨lz20, lz21, lz22, lz23, lz24, lz25, lz26⟩ := lt6 (w' := w1) hS1 (Below.refl _ _)
  go_cut [7, 8] (fun sp sb wx => ∃ G : Nat, sp = .pointer (some ⟨G, 0, none⟩) ∧ sb = .bool ok ∧ PtB wx G (ra, rb) ∧ w.heap.size + 1 + 1 < G ∧ (wx.cell? ⟨w.heap.size, 0, none⟩ = some (.int .i64 ax) ∧ wx.cell? ⟨w.heap.size, 1, none⟩ = some (.int .i64 ay) ∧ wx.cell? ⟨w.heap.size + 1, 0, none⟩ = some (.int .i64 bx) ∧ wx.cell? ⟨w.heap.size + 1, 1, none⟩ = some (.int .i64 by_) ∧ wx.cell? ⟨w.heap.size + 1 + 1, 0, none⟩ = some (.int .i64 cx) ∧ wx.cell? ⟨w.heap.size + 1 + 1, 1, none⟩ = some (.int .i64 cy) ∧ Below w.heap.size w wx ∧ w.heap.size ≤ wx.heap.size))
  case first =>
    refine (wpIn_wide (n := 3)).1 (wpIn_region_tree (fun wx => wx.cell? ⟨w.heap.size, 0, none⟩ = some (.int .i64 ax) ∧ wx.cell? ⟨w.heap.size, 1, none⟩ = some (.int .i64 ay) ∧ wx.cell? ⟨w.heap.size + 1, 0, none⟩ = some (.int .i64 bx) ∧ wx.cell? ⟨w.heap.size + 1, 1, none⟩ = some (.int .i64 by_) ∧ wx.cell? ⟨w.heap.size + 1 + 1, 0, none⟩ = some (.int .i64 cx) ∧ wx.cell? ⟨w.heap.size + 1 + 1, 1, none⟩ = some (.int .i64 cy) ∧ Below w.heap.size w wx ∧ w.heap.size ≤ wx.heap.size)
      (Pl.takes [0, 2, 4] (.fork 1 (.fork 3 (.fork 5 (.fork 6 (Pl.takes [7, 8, 9] (.alone 10 (.alone 11 (Pl.takes [12] .done)))) 10 (.alone 6 (Pl.takes [7, 8, 9] (.alone 11 (Pl.takes [12] .done))))) 10 (.alone 5 (.alone 6 (Pl.takes [7, 8, 9] (.alone 11 (Pl.takes [12] .done)))))) 10 (.alone 3 (.alone 5 (.alone 6 (Pl.takes [7, 8, 9] (.alone 11 (Pl.takes [12] .done))))))) 10 (.alone 1 (.alone 3 (.alone 5 (.alone 6 (Pl.takes [7, 8, 9] (.alone 11 (Pl.takes [12] .done)))))))))
      (by kernel_rfl) (by kernel_rfl) (by kernel_rfl) (kd6 hS1) (fun hS0 => ?_))
    refine tplan_w (v := ?_) rfl (by rfl) ?_ ?_
    rotate_left
    · intro wx hSx
      try dsimp only at hSx
      go_simp
      try (with_reducible rfl)
    try simp only [Act.put, List.setIfInBounds_toArray, List.set_cons_zero, List.set_cons_succ]
    refine tplan_w (v := ?_) rfl (by rfl) ?_ ?_
    rotate_left
    · intro wx hSx
      try dsimp only at hSx
      go_simp
      try (with_reducible rfl)
    try simp only [Act.put, List.setIfInBounds_toArray, List.set_cons_zero, List.set_cons_succ]
    refine tplan_w (v := ?_) rfl (by rfl) ?_ ?_
    rotate_left
    · intro wx hSx
      try dsimp only at hSx
      go_simp
      try (with_reducible rfl)
    try simp only [Act.put, List.setIfInBounds_toArray, List.set_cons_zero, List.set_cons_succ]
    refine tplan_fork ?_ ?_
    · refine tplan_b rfl (fun K hK => ?_)
      go_simp
      refine (toPoint_any _ _ _).mono ?_
      rintro e w20 ⟨rfl, hb20⟩
      have w20S := kp6 hS0 hb20
      obtain ⟨w20cc, w20ff, w20zz⟩ := bcell hb20
      obtain ⟨w20l0, w20l1, w20l2, w20l3, w20l4, w20l5, w20l6⟩ := lt6 hS0 hb20
      refine hK _ _ ⟨w20S, ?_⟩
      clear hK K
      try simp only [Act.put, List.setIfInBounds_toArray, List.set_cons_zero, List.set_cons_succ]
      refine tplan_fork ?_ ?_
      · refine tplan_b rfl (fun K hK => ?_)
        go_simp
        refine (toPoint_any _ _ _).mono ?_
        rintro e w21 ⟨rfl, hb21⟩
        have w21S := kp6 w20S hb21
        obtain ⟨w21cc, w21ff, w21zz⟩ := bcell hb21
        obtain ⟨w21l0, w21l1, w21l2, w21l3, w21l4, w21l5, w21l6⟩ := lt6 w20S hb21
        refine hK _ _ ⟨w21S, ?_⟩
        clear hK K
        try simp only [Act.put, List.setIfInBounds_toArray, List.set_cons_zero, List.set_cons_succ]
        refine tplan_fork ?_ ?_
        · refine tplan_b rfl (fun K hK => ?_)
          go_simp
          refine (toPoint_any _ _ _).mono ?_
          rintro e w22 ⟨rfl, hb22⟩
          have w22S := kp6 w21S hb22
          obtain ⟨w22cc, w22ff, w22zz⟩ := bcell hb22
          obtain ⟨w22l0, w22l1, w22l2, w22l3, w22l4, w22l5, w22l6⟩ := lt6 w21S hb22
          refine hK _ _ ⟨w22S, ?_⟩
          clear hK K
          try simp only [Act.put, List.setIfInBounds_toArray, List.set_cons_zero, List.set_cons_succ]
          refine tplan_fork ?_ ?_
          · refine tplan_b rfl (fun K hK => ?_)
            go_simp
            refine (MedianPointS_any _ _ _ _ _ _ _).mono ?_
            rintro e w23 ⟨rfl, hb23⟩
            rw [H.out]
            have w23S := kp6 w22S hb23
            obtain ⟨w23cc, w23ff, w23zz⟩ := bcell hb23
            obtain ⟨w23l0, w23l1, w23l2, w23l3, w23l4, w23l5, w23l6⟩ := lt6 w22S hb23
            refine hK _ _ ⟨w23S, ?_⟩
            clear hK K
            try simp only [Act.put, List.setIfInBounds_toArray, List.set_cons_zero, List.set_cons_succ]
            refine tplan_w (v := ?_) rfl (by rfl) ?_ ?_
            rotate_left
            · intro wx hSx
              try dsimp only at hSx
              go_simp
              try (with_reducible rfl)
            try simp only [Act.put, List.setIfInBounds_toArray, List.set_cons_zero, List.set_cons_succ]
            refine tplan_w (v := ?_) rfl (by rfl) ?_ ?_
            rotate_left
            · intro wx hSx
              try dsimp only at hSx
              go_simp
              try (with_reducible rfl)
            try simp only [Act.put, List.setIfInBounds_toArray, List.set_cons_zero, List.set_cons_succ]
            refine tplan_w (v := ?_) rfl (by rfl) ?_ ?_
            rotate_left
            · intro wx hSx
              try dsimp only at hSx
              go_simp
              try (with_reducible rfl)
            try simp only [Act.put, List.setIfInBounds_toArray, List.set_cons_zero, List.set_cons_succ]
            refine tplan_b rfl (fun K hK => ?_)
            go_simp
            have hA4 := kp6 w23S (allocB w23 (.cells #[.int .i64 0, .int .i64 0] 33))
            have hPA := PtB.new w23 (0, 0)
            refine hK _ _ ⟨by first | exact hA4 | exact kd6 hA4, ?_⟩
            clear hK K
            try simp only [Act.put, List.setIfInBounds_toArray, List.set_cons_zero, List.set_cons_succ]
            refine tplan_b rfl (fun K hK => ?_)
            go_simp
            have hT := ka6 hA4 (by first | omega | (simp <;> omega)) (by first | omega | (simp <;> omega)) (by first | omega | (simp <;> omega)) (by first | omega | (simp <;> omega)) (by first | omega | (simp <;> omega)) (by first | omega | (simp <;> omega)) (by first | omega | (simp <;> omega)) (.cells #[.int .i64 ra, .int .i64 rb] 33)
            have hPT := PtB.new w23 (ra, rb)
            refine hK _ _ ⟨hT, ?_⟩
            clear hK K
            try simp only [Act.put, List.setIfInBounds_toArray, List.set_cons_zero, List.set_cons_succ]
            refine tplan_w (v := ?_) rfl (by rfl) ?_ ?_
            rotate_left
            · intro wx hSx
              try dsimp only at hSx
              go_simp
              try (with_reducible rfl)
            try simp only [Act.put, List.setIfInBounds_toArray, List.set_cons_zero, List.set_cons_succ]
            refine tplan_end ?_
            go_wp2_with fail
            go_meet
            exact ⟨_, rfl, rfl, hPT, by first | omega | (simp <;> omega), hT⟩
          · refine tplan_b rfl (fun K hK => ?_)
            go_simp
            have hA3 := kp6 w22S (allocB w22 (.cells #[.int .i64 0, .int .i64 0] 33))
            have hPA := PtB.new w22 (0, 0)
            refine hK _ _ ⟨by first | exact hA3 | exact kd6 hA3, ?_⟩
            clear hK K
            try simp only [Act.put, List.setIfInBounds_toArray, List.set_cons_zero, List.set_cons_succ]
            refine tplan_b rfl (fun K hK => ?_)
            go_simp
            refine (MedianPointS_any _ _ _ _ _ _ _).mono ?_
            rintro e w23 ⟨rfl, hb23⟩
            rw [H.out]
            have w23S := kp6 hA3 hb23
            obtain ⟨w23cc, w23ff, w23zz⟩ := bcell hb23
            obtain ⟨w23l0, w23l1, w23l2, w23l3, w23l4, w23l5, w23l6⟩ := lt6 hA3 hb23
            have w23G : w22.heap.size < w23.heap.size := by first | exact alloc_lt hb23 | exact alloc_ltd hb23 | exact Nat.lt_of_lt_of_le (by assumption) hb23.size
            refine hK _ _ ⟨w23S, ?_⟩
            clear hK K
            try simp only [Act.put, List.setIfInBounds_toArray, List.set_cons_zero, List.set_cons_succ]
            refine tplan_w (v := ?_) rfl (by rfl) ?_ ?_
            rotate_left
            · intro wx hSx
              try dsimp only at hSx
              go_simp
              try (with_reducible rfl)
            try simp only [Act.put, List.setIfInBounds_toArray, List.set_cons_zero, List.set_cons_succ]
            refine tplan_w (v := ?_) rfl (by rfl) ?_ ?_
            rotate_left
            · intro wx hSx
              try dsimp only at hSx
              go_simp
              try (with_reducible rfl)
            try simp only [Act.put, List.setIfInBounds_toArray, List.set_cons_zero, List.set_cons_succ]
            refine tplan_w (v := ?_) rfl (by rfl) ?_ ?_
            rotate_left
            · intro wx hSx
              try dsimp only at hSx
              go_simp
              try (with_reducible rfl)
            try simp only [Act.put, List.setIfInBounds_toArray, List.set_cons_zero, List.set_cons_succ]
            refine tplan_b rfl (fun K hK => ?_)
            go_simp
            have hT := ks6 (ks6 w23S (p := ⟨w22.heap.size, 0, none⟩) (by first | omega | (simp <;> omega)) (by first | omega | (simp <;> omega)) (by first | omega | (simp <;> omega)) (by first | omega | (simp <;> omega)) (by first | omega | (simp <;> omega)) (by first | omega | (simp <;> omega)) (by first | omega | (simp <;> omega)) (.int .i64 ra)) (p := ⟨w22.heap.size, 1, none⟩) (by first | omega | (simp <;> omega)) (by first | omega | (simp <;> omega)) (by first | omega | (simp <;> omega)) (by first | omega | (simp <;> omega)) (by first | omega | (simp <;> omega)) (by first | omega | (simp <;> omega)) (by first | omega | (simp <;> omega)) (.int .i64 rb)
            have hPT : PtB ((w23.setCell ⟨w22.heap.size, 0, none⟩ (.int .i64 ra)).setCell ⟨w22.heap.size, 0 + 1, none⟩ (.int .i64 rb)) w22.heap.size (ra, rb) := PtB.set_ (p := (0, 0)) (by first | (exact hPA) | (exact (hPA).to hb23) | (exact ((hPA).to hb22).to hb23) | (exact (((hPA).to hb21).to hb22).to hb23) | (exact ((((hPA).to hb20).to hb21).to hb22).to hb23)) ra rb
            refine hK _ _ ⟨hT, ?_⟩
            clear hK K
            try simp only [Act.put, List.setIfInBounds_toArray, List.set_cons_zero, List.set_cons_succ]
            refine tplan_w (v := ?_) rfl (by rfl) ?_ ?_
            rotate_left
            · intro wx hSx
              try dsimp only at hSx
              go_simp
              try (with_reducible rfl)
            try simp only [Act.put, List.setIfInBounds_toArray, List.set_cons_zero, List.set_cons_succ]
            refine tplan_end ?_
            go_wp2_with fail
            go_meet
            exact ⟨_, rfl, rfl, hPT, by first | omega | (simp <;> omega), hT⟩
        · refine tplan_b rfl (fun K hK => ?_)
          go_simp
          have hA2 := kp6 w21S (allocB w21 (.cells #[.int .i64 0, .int .i64 0] 33))
          have hPA := PtB.new w21 (0, 0)
          refine hK _ _ ⟨by first | exact hA2 | exact kd6 hA2, ?_⟩
          clear hK K
          try simp only [Act.put, List.setIfInBounds_toArray, List.set_cons_zero, List.set_cons_succ]
          refine tplan_b rfl (fun K hK => ?_)
          go_simp
          refine (toPoint_any _ _ _).mono ?_
          rintro e w22 ⟨rfl, hb22⟩
          have w22S := kp6 hA2 hb22
          obtain ⟨w22cc, w22ff, w22zz⟩ := bcell hb22
          obtain ⟨w22l0, w22l1, w22l2, w22l3, w22l4, w22l5, w22l6⟩ := lt6 hA2 hb22
          have w22G : w21.heap.size < w22.heap.size := by first | exact alloc_lt hb22 | exact alloc_ltd hb22 | exact Nat.lt_of_lt_of_le (by assumption) hb22.size
          refine hK _ _ ⟨w22S, ?_⟩
          clear hK K
          try simp only [Act.put, List.setIfInBounds_toArray, List.set_cons_zero, List.set_cons_succ]
          refine tplan_b rfl (fun K hK => ?_)
          go_simp
          refine (MedianPointS_any _ _ _ _ _ _ _).mono ?_
          rintro e w23 ⟨rfl, hb23⟩
          rw [H.out]
          have w23S := kp6 w22S hb23
          obtain ⟨w23cc, w23ff, w23zz⟩ := bcell hb23
          obtain ⟨w23l0, w23l1, w23l2, w23l3, w23l4, w23l5, w23l6⟩ := lt6 w22S hb23
          have w23G : w21.heap.size < w23.heap.size := by first | exact alloc_lt hb23 | exact alloc_ltd hb23 | exact Nat.lt_of_lt_of_le (by assumption) hb23.size
          refine hK _ _ ⟨w23S, ?_⟩
          clear hK K
          try simp only [Act.put, List.setIfInBounds_toArray, List.set_cons_zero, List.set_cons_succ]
          refine tplan_w (v := ?_) rfl (by rfl) ?_ ?_
          rotate_left
          · intro wx hSx
            try dsimp only at hSx
            go_simp
            try (with_reducible rfl)
          try simp only [Act.put, List.setIfInBounds_toArray, List.set_cons_zero, List.set_cons_succ]
          refine tplan_w (v := ?_) rfl (by rfl) ?_ ?_
          rotate_left
          · intro wx hSx
            try dsimp only at hSx
            go_simp
            try (with_reducible rfl)
          try simp only [Act.put, List.setIfInBounds_toArray, List.set_cons_zero, List.set_cons_succ]
          refine tplan_w (v := ?_) rfl (by rfl) ?_ ?_
          rotate_left
          · intro wx hSx
            try dsimp only at hSx
            go_simp
            try (with_reducible rfl)
          try simp only [Act.put, List.setIfInBounds_toArray, List.set_cons_zero, List.set_cons_succ]
          refine tplan_b rfl (fun K hK => ?_)
          go_simp
          have hT := ks6 (ks6 w23S (p := ⟨w21.heap.size, 0, none⟩) (by first | omega | (simp <;> omega)) (by first | omega | (simp <;> omega)) (by first | omega | (simp <;> omega)) (by first | omega | (simp <;> omega)) (by first | omega | (simp <;> omega)) (by first | omega | (simp <;> omega)) (by first | omega | (simp <;> omega)) (.int .i64 ra)) (p := ⟨w21.heap.size, 1, none⟩) (by first | omega | (simp <;> omega)) (by first | omega | (simp <;> omega)) (by first | omega | (simp <;> omega)) (by first | omega | (simp <;> omega)) (by first | omega | (simp <;> omega)) (by first | omega | (simp <;> omega)) (by first | omega | (simp <;> omega)) (.int .i64 rb)
          have hPT : PtB ((w23.setCell ⟨w21.heap.size, 0, none⟩ (.int .i64 ra)).setCell ⟨w21.heap.size, 0 + 1, none⟩ (.int .i64 rb)) w21.heap.size (ra, rb) := PtB.set_ (p := (0, 0)) (by first | (exact hPA) | (exact (hPA).to hb23) | (exact ((hPA).to hb22).to hb23) | (exact (((hPA).to hb21).to hb22).to hb23) | (exact ((((hPA).to hb20).to hb21).to hb22).to hb23)) ra rb
          refine hK _ _ ⟨hT, ?_⟩
          clear hK K
          try simp only [Act.put, List.setIfInBounds_toArray, List.set_cons_zero, List.set_cons_succ]
          refine tplan_w (v := ?_) rfl (by rfl) ?_ ?_
          rotate_left
          · intro wx hSx
            try dsimp only at hSx
            go_simp
            try (with_reducible rfl)
          try simp only [Act.put, List.setIfInBounds_toArray, List.set_cons_zero, List.set_cons_succ]
          refine tplan_end ?_
          go_wp2_with fail
          go_meet
          exact ⟨_, rfl, rfl, hPT, by first | omega | (simp <;> omega), hT⟩
      · refine tplan_b rfl (fun K hK => ?_)
        go_simp
        have hA1 := kp6 w20S (allocB w20 (.cells #[.int .i64 0, .int .i64 0] 33))
        have hPA := PtB.new w20 (0, 0)
        refine hK _ _ ⟨by first | exact hA1 | exact kd6 hA1, ?_⟩
        clear hK K
        try simp only [Act.put, List.setIfInBounds_toArray, List.set_cons_zero, List.set_cons_succ]
        refine tplan_b rfl (fun K hK => ?_)
        go_simp
        refine (toPoint_any _ _ _).mono ?_
        rintro e w21 ⟨rfl, hb21⟩
        have w21S := kp6 hA1 hb21
        obtain ⟨w21cc, w21ff, w21zz⟩ := bcell hb21
        obtain ⟨w21l0, w21l1, w21l2, w21l3, w21l4, w21l5, w21l6⟩ := lt6 hA1 hb21
        have w21G : w20.heap.size < w21.heap.size := by first | exact alloc_lt hb21 | exact alloc_ltd hb21 | exact Nat.lt_of_lt_of_le (by assumption) hb21.size
        refine hK _ _ ⟨w21S, ?_⟩
        clear hK K
        try simp only [Act.put, List.setIfInBounds_toArray, List.set_cons_zero, List.set_cons_succ]
        refine tplan_b rfl (fun K hK => ?_)
        go_simp
        refine (toPoint_any _ _ _).mono ?_
        rintro e w22 ⟨rfl, hb22⟩
        have w22S := kp6 w21S hb22
        obtain ⟨w22cc, w22ff, w22zz⟩ := bcell hb22
        obtain ⟨w22l0, w22l1, w22l2, w22l3, w22l4, w22l5, w22l6⟩ := lt6 w21S hb22
        have w22G : w20.heap.size < w22.heap.size := by first | exact alloc_lt hb22 | exact alloc_ltd hb22 | exact Nat.lt_of_lt_of_le (by assumption) hb22.size
        refine hK _ _ ⟨w22S, ?_⟩
        clear hK K
        try simp only [Act.put, List.setIfInBounds_toArray, List.set_cons_zero, List.set_cons_succ]
        refine tplan_b rfl (fun K hK => ?_)
        go_simp
        refine (MedianPointS_any _ _ _ _ _ _ _).mono ?_
        rintro e w23 ⟨rfl, hb23⟩
        rw [H.out]
        have w23S := kp6 w22S hb23
        obtain ⟨w23cc, w23ff, w23zz⟩ := bcell hb23
        obtain ⟨w23l0, w23l1, w23l2, w23l3, w23l4, w23l5, w23l6⟩ := lt6 w22S hb23
        have w23G : w20.heap.size < w23.heap.size := by first | exact alloc_lt hb23 | exact alloc_ltd hb23 | exact Nat.lt_of_lt_of_le (by assumption) hb23.size
        refine hK _ _ ⟨w23S, ?_⟩
        clear hK K
        try simp only [Act.put, List.setIfInBounds_toArray, List.set_cons_zero, List.set_cons_succ]
        refine tplan_w (v := ?_) rfl (by rfl) ?_ ?_
        rotate_left
        · intro wx hSx
          try dsimp only at hSx
          go_simp
          try (with_reducible rfl)
        try simp only [Act.put, List.setIfInBounds_toArray, List.set_cons_zero, List.set_cons_succ]
        refine tplan_w (v := ?_) rfl (by rfl) ?_ ?_
        rotate_left
        · intro wx hSx
          try dsimp only at hSx
          go_simp
          try (with_reducible rfl)
        try simp only [Act.put, List.setIfInBounds_toArray, List.set_cons_zero, List.set_cons_succ]
        refine tplan_w (v := ?_) rfl (by rfl) ?_ ?_
        rotate_left
        · intro wx hSx
          try dsimp only at hSx
          go_simp
          try (with_reducible rfl)
        try simp only [Act.put, List.setIfInBounds_toArray, List.set_cons_zero, List.set_cons_succ]
        refine tplan_b rfl (fun K hK => ?_)
        go_simp
        have hT := ks6 (ks6 w23S (p := ⟨w20.heap.size, 0, none⟩) (by first | omega | (simp <;> omega)) (by first | omega | (simp <;> omega)) (by first | omega | (simp <;> omega)) (by first | omega | (simp <;> omega)) (by first | omega | (simp <;> omega)) (by first | omega | (simp <;> omega)) (by first | omega | (simp <;> omega)) (.int .i64 ra)) (p := ⟨w20.heap.size, 1, none⟩) (by first | omega | (simp <;> omega)) (by first | omega | (simp <;> omega)) (by first | omega | (simp <;> omega)) (by first | omega | (simp <;> omega)) (by first | omega | (simp <;> omega)) (by first | omega | (simp <;> omega)) (by first | omega | (simp <;> omega)) (.int .i64 rb)
        have hPT : PtB ((w23.setCell ⟨w20.heap.size, 0, none⟩ (.int .i64 ra)).setCell ⟨w20.heap.size, 0 + 1, none⟩ (.int .i64 rb)) w20.heap.size (ra, rb) := PtB.set_ (p := (0, 0)) (by first | (exact hPA) | (exact (hPA).to hb23) | (exact ((hPA).to hb22).to hb23) | (exact (((hPA).to hb21).to hb22).to hb23) | (exact ((((hPA).to hb20).to hb21).to hb22).to hb23)) ra rb
        refine hK _ _ ⟨hT, ?_⟩
        clear hK K
        try simp only [Act.put, List.setIfInBounds_toArray, List.set_cons_zero, List.set_cons_succ]
        refine tplan_w (v := ?_) rfl (by rfl) ?_ ?_
        rotate_left
        · intro wx hSx
          try dsimp only at hSx
          go_simp
          try (with_reducible rfl)
        try simp only [Act.put, List.setIfInBounds_toArray, List.set_cons_zero, List.set_cons_succ]
        refine tplan_end ?_
        go_wp2_with fail
        go_meet
        exact ⟨_, rfl, rfl, hPT, by first | omega | (simp <;> omega), hT⟩
    · refine tplan_b rfl (fun K hK => ?_)
      go_simp
      have hA0 := kp6 hS0 (allocB w1.drew (.cells #[.int .i64 0, .int .i64 0] 33))
      have hPA := PtB.new w1.drew (0, 0)
      refine hK _ _ ⟨by first | exact hA0 | exact kd6 hA0, ?_⟩
      clear hK K
      try simp only [Act.put, List.setIfInBounds_toArray, List.set_cons_zero, List.set_cons_succ]
      refine tplan_b rfl (fun K hK => ?_)
      go_simp
      refine (toPoint_any _ _ _).mono ?_
      rintro e w20 ⟨rfl, hb20⟩
      have w20S := kp6 hA0 hb20
      obtain ⟨w20cc, w20ff, w20zz⟩ := bcell hb20
      obtain ⟨w20l0, w20l1, w20l2, w20l3, w20l4, w20l5, w20l6⟩ := lt6 hA0 hb20
      have w20G : w1.heap.size < w20.heap.size := by first | exact alloc_lt hb20 | exact alloc_ltd hb20 | exact Nat.lt_of_lt_of_le (by assumption) hb20.size
      refine hK _ _ ⟨w20S, ?_⟩
      clear hK K
      try simp only [Act.put, List.setIfInBounds_toArray, List.set_cons_zero, List.set_cons_succ]
      refine tplan_b rfl (fun K hK => ?_)
      go_simp
      refine (toPoint_any _ _ _).mono ?_
      rintro e w21 ⟨rfl, hb21⟩
      have w21S := kp6 w20S hb21
      obtain ⟨w21cc, w21ff, w21zz⟩ := bcell hb21
      obtain ⟨w21l0, w21l1, w21l2, w21l3, w21l4, w21l5, w21l6⟩ := lt6 w20S hb21
      have w21G : w1.heap.size < w21.heap.size := by first | exact alloc_lt hb21 | exact alloc_ltd hb21 | exact Nat.lt_of_lt_of_le (by assumption) hb21.size
      refine hK _ _ ⟨w21S, ?_⟩
      clear hK K
      try simp only [Act.put, List.setIfInBounds_toArray, List.set_cons_zero, List.set_cons_succ]
      refine tplan_b rfl (fun K hK => ?_)
      go_simp
      refine (toPoint_any _ _ _).mono ?_
      rintro e w22 ⟨rfl, hb22⟩
      have w22S := kp6 w21S hb22
      obtain ⟨w22cc, w22ff, w22zz⟩ := bcell hb22
      obtain ⟨w22l0, w22l1, w22l2, w22l3, w22l4, w22l5, w22l6⟩ := lt6 w21S hb22
      have w22G : w1.heap.size < w22.heap.size := by first | exact alloc_lt hb22 | exact alloc_ltd hb22 | exact Nat.lt_of_lt_of_le (by assumption) hb22.size
      refine hK _ _ ⟨w22S, ?_⟩
      clear hK K
      try simp only [Act.put, List.setIfInBounds_toArray, List.set_cons_zero, List.set_cons_succ]
      refine tplan_b rfl (fun K hK => ?_)
      go_simp
      refine (MedianPointS_any _ _ _ _ _ _ _).mono ?_
      rintro e w23 ⟨rfl, hb23⟩
      rw [H.out]
      have w23S := kp6 w22S hb23
      obtain ⟨w23cc, w23ff, w23zz⟩ := bcell hb23
      obtain ⟨w23l0, w23l1, w23l2, w23l3, w23l4, w23l5, w23l6⟩ := lt6 w22S hb23
      have w23G : w1.heap.size < w23.heap.size := by first | exact alloc_lt hb23 | exact alloc_ltd hb23 | exact Nat.lt_of_lt_of_le (by assumption) hb23.size
      refine hK _ _ ⟨w23S, ?_⟩
      clear hK K
      try simp only [Act.put, List.setIfInBounds_toArray, List.set_cons_zero, List.set_cons_succ]
      refine tplan_w (v := ?_) rfl (by rfl) ?_ ?_
      rotate_left
      · intro wx hSx
        try dsimp only at hSx
        go_simp
        try (with_reducible rfl)
      try simp only [Act.put, List.setIfInBounds_toArray, List.set_cons_zero, List.set_cons_succ]
      refine tplan_w (v := ?_) rfl (by rfl) ?_ ?_
      rotate_left
      · intro wx hSx
        try dsimp only at hSx
        go_simp
        try (with_reducible rfl)
      try simp only [Act.put, List.setIfInBounds_toArray, List.set_cons_zero, List.set_cons_succ]
      refine tplan_w (v := ?_) rfl (by rfl) ?_ ?_
      rotate_left
      · intro wx hSx
        try dsimp only at hSx
        go_simp
        try (with_reducible rfl)
      try simp only [Act.put, List.setIfInBounds_toArray, List.set_cons_zero, List.set_cons_succ]
      refine tplan_b rfl (fun K hK => ?_)
      go_simp
      have hT := ks6 (ks6 w23S (p := ⟨w1.heap.size, 0, none⟩) (by first | omega | (simp <;> omega)) (by first | omega | (simp <;> omega)) (by first | omega | (simp <;> omega)) (by first | omega | (simp <;> omega)) (by first | omega | (simp <;> omega)) (by first | omega | (simp <;> omega)) (by first | omega | (simp <;> omega)) (.int .i64 ra)) (p := ⟨w1.heap.size, 1, none⟩) (by first | omega | (simp <;> omega)) (by first | omega | (simp <;> omega)) (by first | omega | (simp <;> omega)) (by first | omega | (simp <;> omega)) (by first | omega | (simp <;> omega)) (by first | omega | (simp <;> omega)) (by first | omega | (simp <;> omega)) (.int .i64 rb)
      have hPT : PtB ((w23.setCell ⟨w1.heap.size, 0, none⟩ (.int .i64 ra)).setCell ⟨w1.heap.size, 0 + 1, none⟩ (.int .i64 rb)) w1.heap.size (ra, rb) := PtB.set_ (p := (0, 0)) (by first | (exact hPA) | (exact (hPA).to hb23) | (exact ((hPA).to hb22).to hb23) | (exact (((hPA).to hb21).to hb22).to hb23) | (exact ((((hPA).to hb20).to hb21).to hb22).to hb23)) ra rb
      refine hK _ _ ⟨hT, ?_⟩
      clear hK K
      try simp only [Act.put, List.setIfInBounds_toArray, List.set_cons_zero, List.set_cons_succ]
      refine tplan_w (v := ?_) rfl (by rfl) ?_ ?_
      rotate_left
      · intro wx hSx
        try dsimp only at hSx
        go_simp
        try (with_reducible rfl)
      try simp only [Act.put, List.setIfInBounds_toArray, List.set_cons_zero, List.set_cons_succ]
      refine tplan_end ?_
      go_wp2_with fail
      go_meet
      exact ⟨_, rfl, rfl, hPT, by first | omega | (simp <;> omega), hT⟩
  case rest =>
    obtain ⟨G1, rfl, rfl, hG1, hGw1, hS2⟩ := hcut
    obtain ⟨c0, c1, _, _⟩ := hG1.cells
    simp only [Nat.zero_add] at c0 c1
    have hS3 : wc.cell? ⟨G1, 0, none⟩ = some (.int .i64 ra) ∧ wc.cell? ⟨G1, 1, none⟩ = some (.int .i64 rb) ∧ wc.cell? ⟨w.heap.size, 0, none⟩ = some (.int .i64 ax) ∧ wc.cell? ⟨w.heap.size, 1, none⟩ = some (.int .i64 ay) ∧ wc.cell? ⟨w.heap.size + 1, 0, none⟩ = some (.int .i64 bx) ∧ wc.cell? ⟨w.heap.size + 1, 1, none⟩ = some (.int .i64 by_) ∧ wc.cell? ⟨w.heap.size + 1 + 1, 0, none⟩ = some (.int .i64 cx) ∧ wc.cell? ⟨w.heap.size + 1 + 1, 1, none⟩ = some (.int .i64 cy) ∧ Below w.heap.size w wc ∧ w.heap.size ≤ wc.heap.size := ⟨c0, c1, hS2⟩
    clear hS1 hS2 c0 c1 hG1
    go_wp2
    obtain ⟨lz30, lz31, lz32, lz33, lz34, lz35, lz36, lz37, lz38⟩ := lt8 (w' := wc) hS3 (Below.refl _ _)
    go_cut [9, 10] (fun sp sb wx => ∃ G : Nat, sp = .pointer (some ⟨G, 0, none⟩) ∧ sb = .bool ok ∧ PtB wx G (ra, rb) ∧ w.heap.size + 1 + 1 < G ∧ (wx.cell? ⟨G1, 0, none⟩ = some (.int .i64 ra) ∧ wx.cell? ⟨G1, 1, none⟩ = some (.int .i64 rb) ∧ wx.cell? ⟨w.heap.size, 0, none⟩ = some (.int .i64 ax) ∧ wx.cell? ⟨w.heap.size, 1, none⟩ = some (.int .i64 ay) ∧ wx.cell? ⟨w.heap.size + 1, 0, none⟩ = some (.int .i64 bx) ∧ wx.cell? ⟨w.heap.size + 1, 1, none⟩ = some (.int .i64 by_) ∧ wx.cell? ⟨w.heap.size + 1 + 1, 0, none⟩ = some (.int .i64 cx) ∧ wx.cell? ⟨w.heap.size + 1 + 1, 1, none⟩ = some (.int .i64 cy) ∧ Below w.heap.size w wx ∧ w.heap.size ≤ wx.heap.size))
    case first =>
      refine (wpIn_wide (n := 3)).1 (wpIn_region_tree (fun wx => wx.cell? ⟨G1, 0, none⟩ = some (.int .i64 ra) ∧ wx.cell? ⟨G1, 1, none⟩ = some (.int .i64 rb) ∧ wx.cell? ⟨w.heap.size, 0, none⟩ = some (.int .i64 ax) ∧ wx.cell? ⟨w.heap.size, 1, none⟩ = some (.int .i64 ay) ∧ wx.cell? ⟨w.heap.size + 1, 0, none⟩ = some (.int .i64 bx) ∧ wx.cell? ⟨w.heap.size + 1, 1, none⟩ = some (.int .i64 by_) ∧ wx.cell? ⟨w.heap.size + 1 + 1, 0, none⟩ = some (.int .i64 cx) ∧ wx.cell? ⟨w.heap.size + 1 + 1, 1, none⟩ = some (.int .i64 cy) ∧ Below w.heap.size w wx ∧ w.heap.size ≤ wx.heap.size)
        (Pl.takes [0, 2, 4] (.fork 1 (.fork 3 (.fork 5 (.fork 6 (Pl.takes [7, 8, 9] (.alone 10 (.alone 11 (Pl.takes [12] .done)))) 10 (.alone 6 (Pl.takes [7, 8, 9] (.alone 11 (Pl.takes [12] .done))))) 10 (.alone 5 (.alone 6 (Pl.takes [7, 8, 9] (.alone 11 (Pl.takes [12] .done)))))) 10 (.alone 3 (.alone 5 (.alone 6 (Pl.takes [7, 8, 9] (.alone 11 (Pl.takes [12] .done))))))) 10 (.alone 1 (.alone 3 (.alone 5 (.alone 6 (Pl.takes [7, 8, 9] (.alone 11 (Pl.takes [12] .done)))))))))
        (by kernel_rfl) (by kernel_rfl) (by kernel_rfl) (kd8 hS3) (fun hS0 => ?_))
      refine tplan_w (v := ?_) rfl (by rfl) ?_ ?_
      rotate_left
      · intro wx hSx
        try dsimp only at hSx
        go_simp
        try (with_reducible rfl)
      try simp only [Act.put, List.setIfInBounds_toArray, List.set_cons_zero, List.set_cons_succ]
      refine tplan_w (v := ?_) rfl (by rfl) ?_ ?_
      rotate_left
      · intro wx hSx
        try dsimp only at hSx
        go_simp
        try (with_reducible rfl)
      try simp only [Act.put, List.setIfInBounds_toArray, List.set_cons_zero, List.set_cons_succ]
      refine tplan_w (v := ?_) rfl (by rfl) ?_ ?_
      rotate_left
      · intro wx hSx
        try dsimp only at hSx
        go_simp
        try (with_reducible rfl)
      try simp only [Act.put, List.setIfInBounds_toArray, List.set_cons_zero, List.set_cons_succ]
      refine tplan_fork ?_ ?_
      · refine tplan_b rfl (fun K hK => ?_)
        go_simp
        refine (toPoint_any _ _ _).mono ?_
        rintro e w30 ⟨rfl, hb30⟩
        have w30S := kp8 hS0 hb30
        obtain ⟨w30cc, w30ff, w30zz⟩ := bcell hb30
        obtain ⟨w30l0, w30l1, w30l2, w30l3, w30l4, w30l5, w30l6, w30l7, w30l8⟩ := lt8 hS0 hb30
        refine hK _ _ ⟨w30S, ?_⟩
        clear hK K
        try simp only [Act.put, List.setIfInBounds_toArray, List.set_cons_zero, List.set_cons_succ]
        refine tplan_fork ?_ ?_
        · refine tplan_b rfl (fun K hK => ?_)
          go_simp
          refine (toPoint_any _ _ _).mono ?_
          rintro e w31 ⟨rfl, hb31⟩
          have w31S := kp8 w30S hb31
          obtain ⟨w31cc, w31ff, w31zz⟩ := bcell hb31
          obtain ⟨w31l0, w31l1, w31l2, w31l3, w31l4, w31l5, w31l6, w31l7, w31l8⟩ := lt8 w30S hb31
          refine hK _ _ ⟨w31S, ?_⟩
          clear hK K
          try simp only [Act.put, List.setIfInBounds_toArray, List.set_cons_zero, List.set_cons_succ]
          refine tplan_fork ?_ ?_
          · refine tplan_b rfl (fun K hK => ?_)
            go_simp
            refine (toPoint_any _ _ _).mono ?_
            rintro e w32 ⟨rfl, hb32⟩
            have w32S := kp8 w31S hb32
            obtain ⟨w32cc, w32ff, w32zz⟩ := bcell hb32
            obtain ⟨w32l0, w32l1, w32l2, w32l3, w32l4, w32l5, w32l6, w32l7, w32l8⟩ := lt8 w31S hb32
            refine hK _ _ ⟨w32S, ?_⟩
            clear hK K
            try simp only [Act.put, List.setIfInBounds_toArray, List.set_cons_zero, List.set_cons_succ]
            refine tplan_fork ?_ ?_
            · refine tplan_b rfl (fun K hK => ?_)
              go_simp
              refine (MedianPointI_any _ _ _ _ _ _ _).mono ?_
              rintro e w33 ⟨rfl, hb33⟩
              rw [H.out]
              have w33S := kp8 w32S hb33
              obtain ⟨w33cc, w33ff, w33zz⟩ := bcell hb33
              obtain ⟨w33l0, w33l1, w33l2, w33l3, w33l4, w33l5, w33l6, w33l7, w33l8⟩ := lt8 w32S hb33
              refine hK _ _ ⟨w33S, ?_⟩
              clear hK K
              try simp only [Act.put, List.setIfInBounds_toArray, List.set_cons_zero, List.set_cons_succ]
              refine tplan_w (v := ?_) rfl (by rfl) ?_ ?_
              rotate_left
              · intro wx hSx
                try dsimp only at hSx
                go_simp
                try (with_reducible rfl)
              try simp only [Act.put, List.setIfInBounds_toArray, List.set_cons_zero, List.set_cons_succ]
              refine tplan_w (v := ?_) rfl (by rfl) ?_ ?_
              rotate_left
              · intro wx hSx
                try dsimp only at hSx
                go_simp
                try (with_reducible rfl)
              try simp only [Act.put, List.setIfInBounds_toArray, List.set_cons_zero, List.set_cons_succ]
              refine tplan_w (v := ?_) rfl (by rfl) ?_ ?_
              rotate_left
              · intro wx hSx
                try dsimp only at hSx
                go_simp
                try (with_reducible rfl)
              try simp only [Act.put, List.setIfInBounds_toArray, List.set_cons_zero, List.set_cons_succ]
              refine tplan_b rfl (fun K hK => ?_)
              go_simp
              have hA4 := kp8 w33S (allocB w33 (.cells #[.int .i64 0, .int .i64 0] 33))
              have hPA := PtB.new w33 (0, 0)
              refine hK _ _ ⟨by first | exact hA4 | exact kd8 hA4, ?_⟩
              clear hK K
              try simp only [Act.put, List.setIfInBounds_toArray, List.set_cons_zero, List.set_cons_succ]
              refine tplan_b rfl (fun K hK => ?_)
              go_simp
              have hT := ka8 hA4 (by first | omega | (simp <;> omega)) (by first | omega | (simp <;> omega)) (by first | omega | (simp <;> omega)) (by first | omega | (simp <;> omega)) (by first | omega | (simp <;> omega)) (by first | omega | (simp <;> omega)) (by first | omega | (simp <;> omega)) (by first | omega | (simp <;> omega)) (by first | omega | (simp <;> omega)) (.cells #[.int .i64 ra, .int .i64 rb] 33)
              have hPT := PtB.new w33 (ra, rb)
              refine hK _ _ ⟨hT, ?_⟩
              clear hK K
              try simp only [Act.put, List.setIfInBounds_toArray, List.set_cons_zero, List.set_cons_succ]
              refine tplan_w (v := ?_) rfl (by rfl) ?_ ?_
              rotate_left
              · intro wx hSx
                try dsimp only at hSx
                go_simp
                try (with_reducible rfl)
              try simp only [Act.put, List.setIfInBounds_toArray, List.set_cons_zero, List.set_cons_succ]
              refine tplan_end ?_
              go_wp2_with fail
              go_meet
              exact ⟨_, rfl, rfl, hPT, by first | omega | (simp <;> omega), hT⟩
            · refine tplan_b rfl (fun K hK => ?_)
              go_simp
              have hA3 := kp8 w32S (allocB w32 (.cells #[.int .i64 0, .int .i64 0] 33))
              have hPA := PtB.new w32 (0, 0)
              refine hK _ _ ⟨by first | exact hA3 | exact kd8 hA3, ?_⟩
              clear hK K
              try simp only [Act.put, List.setIfInBounds_toArray, List.set_cons_zero, List.set_cons_succ]
              refine tplan_b rfl (fun K hK => ?_)
              go_simp
              refine (MedianPointI_any _ _ _ _ _ _ _).mono ?_
              rintro e w33 ⟨rfl, hb33⟩
              rw [H.out]
              have w33S := kp8 hA3 hb33
              obtain ⟨w33cc, w33ff, w33zz⟩ := bcell hb33
              obtain ⟨w33l0, w33l1, w33l2, w33l3, w33l4, w33l5, w33l6, w33l7, w33l8⟩ := lt8 hA3 hb33
              have w33G : w32.heap.size < w33.heap.size := by first | exact alloc_lt hb33 | exact alloc_ltd hb33 | exact Nat.lt_of_lt_of_le (by assumption) hb33.size
              refine hK _ _ ⟨w33S, ?_⟩
              clear hK K
              try simp only [Act.put, List.setIfInBounds_toArray, List.set_cons_zero, List.set_cons_succ]
              refine tplan_w (v := ?_) rfl (by rfl) ?_ ?_
              rotate_left
              · intro wx hSx
                try dsimp only at hSx
                go_simp
                try (with_reducible rfl)
              try simp only [Act.put, List.setIfInBounds_toArray, List.set_cons_zero, List.set_cons_succ]
              refine tplan_w (v := ?_) rfl (by rfl) ?_ ?_
              rotate_left
              · intro wx hSx
                try dsimp only at hSx
                go_simp
                try (with_reducible rfl)
              try simp only [Act.put, List.setIfInBounds_toArray, List.set_cons_zero, List.set_cons_succ]
              refine tplan_w (v := ?_) rfl (by rfl) ?_ ?_
              rotate_left
              · intro wx hSx
                try dsimp only at hSx
                go_simp
                try (with_reducible rfl)
              try simp only [Act.put, List.setIfInBounds_toArray, List.set_cons_zero, List.set_cons_succ]
              refine tplan_b rfl (fun K hK => ?_)
              go_simp
              have hT := ks8 (ks8 w33S (p := ⟨w32.heap.size, 0, none⟩) (by first | omega | (simp <;> omega)) (by first | omega | (simp <;> omega)) (by first | omega | (simp <;> omega)) (by first | omega | (simp <;> omega)) (by first | omega | (simp <;> omega)) (by first | omega | (simp <;> omega)) (by first | omega | (simp <;> omega)) (by first | omega | (simp <;> omega)) (by first | omega | (simp <;> omega)) (.int .i64 ra)) (p := ⟨w32.heap.size, 1, none⟩) (by first | omega | (simp <;> omega)) (by first | omega | (simp <;> omega)) (by first | omega | (simp <;> omega)) (by first | omega | (simp <;> omega)) (by first | omega | (simp <;> omega)) (by first | omega | (simp <;> omega)) (by first | omega | (simp <;> omega)) (by first | omega | (simp <;> omega)) (by first | omega | (simp <;> omega)) (.int .i64 rb)
              have hPT : PtB ((w33.setCell ⟨w32.heap.size, 0, none⟩ (.int .i64 ra)).setCell ⟨w32.heap.size, 0 + 1, none⟩ (.int .i64 rb)) w32.heap.size (ra, rb) := PtB.set_ (p := (0, 0)) (by first | (exact hPA) | (exact (hPA).to hb33) | (exact ((hPA).to hb32).to hb33) | (exact (((hPA).to hb31).to hb32).to hb33) | (exact ((((hPA).to hb30).to hb31).to hb32).to hb33)) ra rb
              refine hK _ _ ⟨hT, ?_⟩
              clear hK K
              try simp only [Act.put, List.setIfInBounds_toArray, List.set_cons_zero, List.set_cons_succ]
              refine tplan_w (v := ?_) rfl (by rfl) ?_ ?_
              rotate_left
              · intro wx hSx
                try dsimp only at hSx
                go_simp
                try (with_reducible rfl)
              try simp only [Act.put, List.setIfInBounds_toArray, List.set_cons_zero, List.set_cons_succ]
              refine tplan_end ?_
              go_wp2_with fail
              go_meet
              exact ⟨_, rfl, rfl, hPT, by first | omega | (simp <;> omega), hT⟩
          · refine tplan_b rfl (fun K hK => ?_)
            go_simp
            have hA2 := kp8 w31S (allocB w31 (.cells #[.int .i64 0, .int .i64 0] 33))
            have hPA := PtB.new w31 (0, 0)
            refine hK _ _ ⟨by first | exact hA2 | exact kd8 hA2, ?_⟩
            clear hK K
            try simp only [Act.put, List.setIfInBounds_toArray, List.set_cons_zero, List.set_cons_succ]
            refine tplan_b rfl (fun K hK => ?_)
            go_simp
            refine (toPoint_any _ _ _).mono ?_
            rintro e w32 ⟨rfl, hb32⟩
            have w32S := kp8 hA2 hb32
            obtain ⟨w32cc, w32ff, w32zz⟩ := bcell hb32
            obtain ⟨w32l0, w32l1, w32l2, w32l3, w32l4, w32l5, w32l6, w32l7, w32l8⟩ := lt8 hA2 hb32
            have w32G : w31.heap.size < w32.heap.size := by first | exact alloc_lt hb32 | exact alloc_ltd hb32 | exact Nat.lt_of_lt_of_le (by assumption) hb32.size
            refine hK _ _ ⟨w32S, ?_⟩
            clear hK K
            try simp only [Act.put, List.setIfInBounds_toArray, List.set_cons_zero, List.set_cons_succ]
            refine tplan_b rfl (fun K hK => ?_)
            go_simp
            refine (MedianPointI_any _ _ _ _ _ _ _).mono ?_
            rintro e w33 ⟨rfl, hb33⟩
            rw [H.out]
            have w33S := kp8 w32S hb33
            obtain ⟨w33cc, w33ff, w33zz⟩ := bcell hb33
            obtain ⟨w33l0, w33l1, w33l2, w33l3, w33l4, w33l5, w33l6, w33l7, w33l8⟩ := lt8 w32S hb33
            have w33G : w31.heap.size < w33.heap.size := by first | exact alloc_lt hb33 | exact alloc_ltd hb33 | exact Nat.lt_of_lt_of_le (by assumption) hb33.size
            refine hK _ _ ⟨w33S, ?_⟩
            clear hK K
            try simp only [Act.put, List.setIfInBounds_toArray, List.set_cons_zero, List.set_cons_succ]
            refine tplan_w (v := ?_) rfl (by rfl) ?_ ?_
            rotate_left
            · intro wx hSx
              try dsimp only at hSx
              go_simp
              try (with_reducible rfl)
            try simp only [Act.put, List.setIfInBounds_toArray, List.set_cons_zero, List.set_cons_succ]
            refine tplan_w (v := ?_) rfl (by rfl) ?_ ?_
            rotate_left
            · intro wx hSx
              try dsimp only at hSx
              go_simp
              try (with_reducible rfl)
            try simp only [Act.put, List.setIfInBounds_toArray, List.set_cons_zero, List.set_cons_succ]
            refine tplan_w (v := ?_) rfl (by rfl) ?_ ?_
            rotate_left
            · intro wx hSx
              try dsimp only at hSx
              go_simp
              try (with_reducible rfl)
            try simp only [Act.put, List.setIfInBounds_toArray, List.set_cons_zero, List.set_cons_succ]
            refine tplan_b rfl (fun K hK => ?_)
            go_simp
            have hT := ks8 (ks8 w33S (p := ⟨w31.heap.size, 0, none⟩) (by first | omega | (simp <;> omega)) (by first | omega | (simp <;> omega)) (by first | omega | (simp <;> omega)) (by first | omega | (simp <;> omega)) (by first | omega | (simp <;> omega)) (by first | omega | (simp <;> omega)) (by first | omega | (simp <;> omega)) (by first | omega | (simp <;> omega)) (by first | omega | (simp <;> omega)) (.int .i64 ra)) (p := ⟨w31.heap.size, 1, none⟩) (by first | omega | (simp <;> omega)) (by first | omega | (simp <;> omega)) (by first | omega | (simp <;> omega)) (by first | omega | (simp <;> omega)) (by first | omega | (simp <;> omega)) (by first | omega | (simp <;> omega)) (by first | omega | (simp <;> omega)) (by first | omega | (simp <;> omega)) (by first | omega | (simp <;> omega)) (.int .i64 rb)
            have hPT : PtB ((w33.setCell ⟨w31.heap.size, 0, none⟩ (.int .i64 ra)).setCell ⟨w31.heap.size, 0 + 1, none⟩ (.int .i64 rb)) w31.heap.size (ra, rb) := PtB.set_ (p := (0, 0)) (by first | (exact hPA) | (exact (hPA).to hb33) | (exact ((hPA).to hb32).to hb33) | (exact (((hPA).to hb31).to hb32).to hb33) | (exact ((((hPA).to hb30).to hb31).to hb32).to hb33)) ra rb
            refine hK _ _ ⟨hT, ?_⟩
            clear hK K
            try simp only [Act.put, List.setIfInBounds_toArray, List.set_cons_zero, List.set_cons_succ]
            refine tplan_w (v := ?_) rfl (by rfl) ?_ ?_
            rotate_left
            · intro wx hSx
              try dsimp only at hSx
              go_simp
              try (with_reducible rfl)
            try simp only [Act.put, List.setIfInBounds_toArray, List.set_cons_zero, List.set_cons_succ]
            refine tplan_end ?_
            go_wp2_with fail
            go_meet
            exact ⟨_, rfl, rfl, hPT, by first | omega | (simp <;> omega), hT⟩
        · refine tplan_b rfl (fun K hK => ?_)
          go_simp
          have hA1 := kp8 w30S (allocB w30 (.cells #[.int .i64 0, .int .i64 0] 33))
          have hPA := PtB.new w30 (0, 0)
          refine hK _ _ ⟨by first | exact hA1 | exact kd8 hA1, ?_⟩
          clear hK K
          try simp only [Act.put, List.setIfInBounds_toArray, List.set_cons_zero, List.set_cons_succ]
          refine tplan_b rfl (fun K hK => ?_)
          go_simp
          refine (toPoint_any _ _ _).mono ?_
          rintro e w31 ⟨rfl, hb31⟩
          have w31S := kp8 hA1 hb31
          obtain ⟨w31cc, w31ff, w31zz⟩ := bcell hb31
          obtain ⟨w31l0, w31l1, w31l2, w31l3, w31l4, w31l5, w31l6, w31l7, w31l8⟩ := lt8 hA1 hb31
          have w31G : w30.heap.size < w31.heap.size := by first | exact alloc_lt hb31 | exact alloc_ltd hb31 | exact Nat.lt_of_lt_of_le (by assumption) hb31.size
          refine hK _ _ ⟨w31S, ?_⟩
          clear hK K
          try simp only [Act.put, List.setIfInBounds_toArray, List.set_cons_zero, List.set_cons_succ]
          refine tplan_b rfl (fun K hK => ?_)
          go_simp
          refine (toPoint_any _ _ _).mono ?_
          rintro e w32 ⟨rfl, hb32⟩
          have w32S := kp8 w31S hb32
          obtain ⟨w32cc, w32ff, w32zz⟩ := bcell hb32
          obtain ⟨w32l0, w32l1, w32l2, w32l3, w32l4, w32l5, w32l6, w32l7, w32l8⟩ := lt8 w31S hb32
          have w32G : w30.heap.size < w32.heap.size := by first | exact alloc_lt hb32 | exact alloc_ltd hb32 | exact Nat.lt_of_lt_of_le (by assumption) hb32.size
          refine hK _ _ ⟨w32S, ?_⟩
          clear hK K
          try simp only [Act.put, List.setIfInBounds_toArray, List.set_cons_zero, List.set_cons_succ]
          refine tplan_b rfl (fun K hK => ?_)
          go_simp
          refine (MedianPointI_any _ _ _ _ _ _ _).mono ?_
          rintro e w33 ⟨rfl, hb33⟩
          rw [H.out]
          have w33S := kp8 w32S hb33
          obtain ⟨w33cc, w33ff, w33zz⟩ := bcell hb33
          obtain ⟨w33l0, w33l1, w33l2, w33l3, w33l4, w33l5, w33l6, w33l7, w33l8⟩ := lt8 w32S hb33
          have w33G : w30.heap.size < w33.heap.size := by first | exact alloc_lt hb33 | exact alloc_ltd hb33 | exact Nat.lt_of_lt_of_le (by assumption) hb33.size
          refine hK _ _ ⟨w33S, ?_⟩
          clear hK K
          try simp only [Act.put, List.setIfInBounds_toArray, List.set_cons_zero, List.set_cons_succ]
          refine tplan_w (v := ?_) rfl (by rfl) ?_ ?_
          rotate_left
          · intro wx hSx
            try dsimp only at hSx
            go_simp
            try (with_reducible rfl)
          try simp only [Act.put, List.setIfInBounds_toArray, List.set_cons_zero, List.set_cons_succ]
          refine tplan_w (v := ?_) rfl (by rfl) ?_ ?_
          rotate_left
          · intro wx hSx
            try dsimp only at hSx
            go_simp
            try (with_reducible rfl)
          try simp only [Act.put, List.setIfInBounds_toArray, List.set_cons_zero, List.set_cons_succ]
          refine tplan_w (v := ?_) rfl (by rfl) ?_ ?_
          rotate_left
          · intro wx hSx
            try dsimp only at hSx
            go_simp
            try (with_reducible rfl)
          try simp only [Act.put, List.setIfInBounds_toArray, List.set_cons_zero, List.set_cons_succ]
          refine tplan_b rfl (fun K hK => ?_)
          go_simp
          have hT := ks8 (ks8 w33S (p := ⟨w30.heap.size, 0, none⟩) (by first | omega | (simp <;> omega)) (by first | omega | (simp <;> omega)) (by first | omega | (simp <;> omega)) (by first | omega | (simp <;> omega)) (by first | omega | (simp <;> omega)) (by first | omega | (simp <;> omega)) (by first | omega | (simp <;> omega)) (by first | omega | (simp <;> omega)) (by first | omega | (simp <;> omega)) (.int .i64 ra)) (p := ⟨w30.heap.size, 1, none⟩) (by first | omega | (simp <;> omega)) (by first | omega | (simp <;> omega)) (by first | omega | (simp <;> omega)) (by first | omega | (simp <;> omega)) (by first | omega | (simp <;> omega)) (by first | omega | (simp <;> omega)) (by first | omega | (simp <;> omega)) (by first | omega | (simp <;> omega)) (by first | omega | (simp <;> omega)) (.int .i64 rb)
          have hPT : PtB ((w33.setCell ⟨w30.heap.size, 0, none⟩ (.int .i64 ra)).setCell ⟨w30.heap.size, 0 + 1, none⟩ (.int .i64 rb)) w30.heap.size (ra, rb) := PtB.set_ (p := (0, 0)) (by first | (exact hPA) | (exact (hPA).to hb33) | (exact ((hPA).to hb32).to hb33) | (exact (((hPA).to hb31).to hb32).to hb33) | (exact ((((hPA).to hb30).to hb31).to hb32).to hb33)) ra rb
          refine hK _ _ ⟨hT, ?_⟩
          clear hK K
          try simp only [Act.put, List.setIfInBounds_toArray, List.set_cons_zero, List.set_cons_succ]
          refine tplan_w (v := ?_) rfl (by rfl) ?_ ?_
          rotate_left
          · intro wx hSx
            try dsimp only at hSx
            go_simp
            try (with_reducible rfl)
          try simp only [Act.put, List.setIfInBounds_toArray, List.set_cons_zero, List.set_cons_succ]
          refine tplan_end ?_
          go_wp2_with fail
          go_meet
          exact ⟨_, rfl, rfl, hPT, by first | omega | (simp <;> omega), hT⟩
      · refine tplan_b rfl (fun K hK => ?_)
        go_simp
        have hA0 := kp8 hS0 (allocB wc.drew (.cells #[.int .i64 0, .int .i64 0] 33))
        have hPA := PtB.new wc.drew (0, 0)
        refine hK _ _ ⟨by first | exact hA0 | exact kd8 hA0, ?_⟩
        clear hK K
        try simp only [Act.put, List.setIfInBounds_toArray, List.set_cons_zero, List.set_cons_succ]
        refine tplan_b rfl (fun K hK => ?_)
        go_simp
        refine (toPoint_any _ _ _).mono ?_
        rintro e w30 ⟨rfl, hb30⟩
        have w30S := kp8 hA0 hb30
        obtain ⟨w30cc, w30ff, w30zz⟩ := bcell hb30
        obtain ⟨w30l0, w30l1, w30l2, w30l3, w30l4, w30l5, w30l6, w30l7, w30l8⟩ := lt8 hA0 hb30
        have w30G : wc.heap.size < w30.heap.size := by first | exact alloc_lt hb30 | exact alloc_ltd hb30 | exact Nat.lt_of_lt_of_le (by assumption) hb30.size
        refine hK _ _ ⟨w30S, ?_⟩
        clear hK K
        try simp only [Act.put, List.setIfInBounds_toArray, List.set_cons_zero, List.set_cons_succ]
        refine tplan_b rfl (fun K hK => ?_)
        go_simp
        refine (toPoint_any _ _ _).mono ?_
        rintro e w31 ⟨rfl, hb31⟩
        have w31S := kp8 w30S hb31
        obtain ⟨w31cc, w31ff, w31zz⟩ := bcell hb31
        obtain ⟨w31l0, w31l1, w31l2, w31l3, w31l4, w31l5, w31l6, w31l7, w31l8⟩ := lt8 w30S hb31
        have w31G : wc.heap.size < w31.heap.size := by first | exact alloc_lt hb31 | exact alloc_ltd hb31 | exact Nat.lt_of_lt_of_le (by assumption) hb31.size
        refine hK _ _ ⟨w31S, ?_⟩
        clear hK K
        try simp only [Act.put, List.setIfInBounds_toArray, List.set_cons_zero, List.set_cons_succ]
        refine tplan_b rfl (fun K hK => ?_)
        go_simp
        refine (toPoint_any _ _ _).mono ?_
        rintro e w32 ⟨rfl, hb32⟩
        have w32S := kp8 w31S hb32
        obtain ⟨w32cc, w32ff, w32zz⟩ := bcell hb32
        obtain ⟨w32l0, w32l1, w32l2, w32l3, w32l4, w32l5, w32l6, w32l7, w32l8⟩ := lt8 w31S hb32
        have w32G : wc.heap.size < w32.heap.size := by first | exact alloc_lt hb32 | exact alloc_ltd hb32 | exact Nat.lt_of_lt_of_le (by assumption) hb32.size
        refine hK _ _ ⟨w32S, ?_⟩
        clear hK K
        try simp only [Act.put, List.setIfInBounds_toArray, List.set_cons_zero, List.set_cons_succ]
        refine tplan_b rfl (fun K hK => ?_)
        go_simp
        refine (MedianPointI_any _ _ _ _ _ _ _).mono ?_
        rintro e w33 ⟨rfl, hb33⟩
        rw [H.out]
        have w33S := kp8 w32S hb33
        obtain ⟨w33cc, w33ff, w33zz⟩ := bcell hb33
        obtain ⟨w33l0, w33l1, w33l2, w33l3, w33l4, w33l5, w33l6, w33l7, w33l8⟩ := lt8 w32S hb33
        have w33G : wc.heap.size < w33.heap.size := by first | exact alloc_lt hb33 | exact alloc_ltd hb33 | exact Nat.lt_of_lt_of_le (by assumption) hb33.size
        refine hK _ _ ⟨w33S, ?_⟩
        clear hK K
        try simp only [Act.put, List.setIfInBounds_toArray, List.set_cons_zero, List.set_cons_succ]
        refine tplan_w (v := ?_) rfl (by rfl) ?_ ?_
        rotate_left
        · intro wx hSx
          try dsimp only at hSx
          go_simp
          try (with_reducible rfl)
        try simp only [Act.put, List.setIfInBounds_toArray, List.set_cons_zero, List.set_cons_succ]
        refine tplan_w (v := ?_) rfl (by rfl) ?_ ?_
        rotate_left
        · intro wx hSx
          try dsimp only at hSx
          go_simp
          try (with_reducible rfl)
        try simp only [Act.put, List.setIfInBounds_toArray, List.set_cons_zero, List.set_cons_succ]
        refine tplan_w (v := ?_) rfl (by rfl) ?_ ?_
        rotate_left
        · intro wx hSx
          try dsimp only at hSx
          go_simp
          try (with_reducible rfl)
        try simp only [Act.put, List.setIfInBounds_toArray, List.set_cons_zero, List.set_cons_succ]
        refine tplan_b rfl (fun K hK => ?_)
        go_simp
        have hT := ks8 (ks8 w33S (p := ⟨wc.heap.size, 0, none⟩) (by first | omega | (simp <;> omega)) (by first | omega | (simp <;> omega)) (by first | omega | (simp <;> omega)) (by first | omega | (simp <;> omega)) (by first | omega | (simp <;> omega)) (by first | omega | (simp <;> omega)) (by first | omega | (simp <;> omega)) (by first | omega | (simp <;> omega)) (by first | omega | (simp <;> omega)) (.int .i64 ra)) (p := ⟨wc.heap.size, 1, none⟩) (by first | omega | (simp <;> omega)) (by first | omega | (simp <;> omega)) (by first | omega | (simp <;> omega)) (by first | omega | (simp <;> omega)) (by first | omega | (simp <;> omega)) (by first | omega | (simp <;> omega)) (by first | omega | (simp <;> omega)) (by first | omega | (simp <;> omega)) (by first | omega | (simp <;> omega)) (.int .i64 rb)
        have hPT : PtB ((w33.setCell ⟨wc.heap.size, 0, none⟩ (.int .i64 ra)).setCell ⟨wc.heap.size, 0 + 1, none⟩ (.int .i64 rb)) wc.heap.size (ra, rb) := PtB.set_ (p := (0, 0)) (by first | (exact hPA) | (exact (hPA).to hb33) | (exact ((hPA).to hb32).to hb33) | (exact (((hPA).to hb31).to hb32).to hb33) | (exact ((((hPA).to hb30).to hb31).to hb32).to hb33)) ra rb
        refine hK _ _ ⟨hT, ?_⟩
        clear hK K
        try simp only [Act.put, List.setIfInBounds_toArray, List.set_cons_zero, List.set_cons_succ]
        refine tplan_w (v := ?_) rfl (by rfl) ?_ ?_
        rotate_left
        · intro wx hSx
          try dsimp only at hSx
          go_simp
          try (with_reducible rfl)
        try simp only [Act.put, List.setIfInBounds_toArray, List.set_cons_zero, List.set_cons_succ]
        refine tplan_end ?_
        go_wp2_with fail
        go_meet
        exact ⟨_, rfl, rfl, hPT, by first | omega | (simp <;> omega), hT⟩
    case rest =>
      obtain ⟨G2, rfl, rfl, hG2, hGw2, hS4⟩ := hcut
      obtain ⟨c0, c1, _, _⟩ := hG2.cells
      simp only [Nat.zero_add] at c0 c1
      obtain ⟨d0, d1, _, _, _, _, _, _, b4, _⟩ := hS4
      clear hS3 hG2
      go_wp2_with fail
      refine (eqPoint_any _ _ _ _ _).mono ?_
      rintro e w6 ⟨rfl, hb6⟩
      have b6 := bl_step b4 hb6 b4.size
      go_wp2
      go_ret
      exact ⟨rfl, b6⟩
end Go.Proofs.Ytepamhdopmfkfaa.fnExactMedianPoint
