/-
  Proved: for every maze and further argument, the program's EndOf answers as the model's and leaves the maze alone. No condition.
-/
import Derived.Test.YtdndkknkkgialaaEndI
import Derived.Test.YtdndkknkkgialaaKeepS
import Derived.Test.YtdndkknkkgialaaPlanT
import Derived.Deep.DeepCutAuto
namespace Go.Proofs.Ytdndkknkkgialaa.fnExactEndOf
set_option linter.unusedSimpArgs false
set_option linter.unusedVariables false
open Go.ChangeShapes Go.WideShapes Go.ChangeAt Go.RowKit

set_option maxRecDepth 100000 in
set_option maxHeartbeats 1600000 in
theorem walk (A : Option Addr) (Ls : List SlI) (c : Nat) (x1 y1 : Int) (s2 : ByteArray) (w : World) (h : RowsIn w A Ls c) (_ : Fits x1 ∧ Fits y1) (hs2 : s2.size ≤ maxLen) :
    Calls Try.prog 5 #[.agg #[.slice A Ls.length c], .agg #[.int .i64 x1, .int .i64 y1], .string s2] w fun e w' => e = .returned (.bool true) ∧ Below w.heap.size w w' := by
  unfold maxLen at hs2
  by_cases hbig : s2.size ≤ 1048576
  · have hnbig : ¬ 1048576 < (s2.size : Int) := by omega
    obtain ⟨ra, rb, ok, hv⟩ : ∃ ra rb ok, endV (heldI Ls) x1 y1 s2 = .tuple #[.agg #[.int .i64 ra, .int .i64 rb], .bool ok] := endV_parts _ _ _ _
    have q0 : ((w.alloc (.cells #[.slice A Ls.length c] 24)).alloc (.cells #[.int .i64 x1, .int .i64 y1] 32)).cell? ⟨w.heap.size, 0, none⟩ = some (.slice A Ls.length c) := by go_simp
    have q1 : ((w.alloc (.cells #[.slice A Ls.length c] 24)).alloc (.cells #[.int .i64 x1, .int .i64 y1] 32)).cell? ⟨w.heap.size + 1, 0, none⟩ = some (.int .i64 x1) := by go_simp
    have q2 : ((w.alloc (.cells #[.slice A Ls.length c] 24)).alloc (.cells #[.int .i64 x1, .int .i64 y1] 32)).cell? ⟨w.heap.size + 1, 1, none⟩ = some (.int .i64 y1) := by go_simp
    have hb1 : Below w.heap.size w ((w.alloc (.cells #[.slice A Ls.length c] 24)).alloc (.cells #[.int .i64 x1, .int .i64 y1] 32)) := by (repeat (first | assumption | exact Below.refl _ _ | (refine bl_alloc ?_ _) | (refine Below.drew ?_) | (refine bl_drewN ?_ _) | (refine bl_set ?_ (by first | (simp; done) | omega | (simp; omega)) _) | (refine bl_trans ?_ (by assumption)) | (refine bl_step ?_ (by assumption) (by first | omega | exact Below.size (by assumption) | (simp; omega) | (simp; exact Below.size (by assumption))))))
    obtain ⟨w1, hw1⟩ : ∃ w1, ((w.alloc (.cells #[.slice A Ls.length c] 24)).alloc (.cells #[.int .i64 x1, .int .i64 y1] 32)) = w1 := ⟨_, rfl⟩
    rw [hw1] at q0 q1 q2 hb1
    have hS1 : w1.cell? ⟨w.heap.size, 0, none⟩ = some (.slice A Ls.length c) ∧ w1.cell? ⟨w.heap.size + 1, 0, none⟩ = some (.int .i64 x1) ∧ w1.cell? ⟨w.heap.size + 1, 1, none⟩ = some (.int .i64 y1) ∧ Below w.heap.size w w1 ∧ w.heap.size ≤ w1.heap.size := ⟨q0, q1, q2, hb1, hb1.size⟩
    have cz := szMaze_in A Ls c w1 w h hb1
    obtain ⟨M, hM⟩ : ∃ M, heldI Ls = M := ⟨_, rfl⟩
    obtain ⟨n, hn⟩ : ∃ n, Ls.length = n := ⟨_, rfl⟩
    rw [hM] at hv
    rw [hM, hn] at cz
    rw [hn] at hS1 hw1
    rw [hn]
    clear hn
    have H := Lib.hid hv
    clear hv hb1 h hM q0 q1 q2
    go_enter Try.func5, Try.ntmps5
    go_wp2_with fail
    refine cz.mono ?_
    rintro e w2 ⟨⟨r, rfl, hr1, hr2, hr3⟩, hb2⟩
    have HR := Lib.hid hr3
    have hS2 := kp3 hS1 hb2
    clear hr3 hS1 cz hb2 hw1
    by_cases hr : r < 0
    · go_wp2
      go_ret
      exact ⟨rfl, bl3 hS2⟩
    · have hI := Lib.hid (HR.out (by omega))
      clear HR
      have hS2b := hS2
      obtain ⟨lz20, lz21, lz22, lz23⟩ := lt3 (w' := w2) hS2b (Below.refl _ _)
      have hS2c := hS2b
      clear hS2b
      obtain ⟨e0, e1, e2, b2, z2⟩ := hS2
      go_wp2
      go_cut [8, 9] (fun sp sb wx => ∃ G : Nat, sp = .pointer (some ⟨G, 0, none⟩) ∧ sb = .bool ok ∧ PtBox wx G (ra, rb) ∧ w.heap.size ≤ G ∧ (wx.cell? ⟨w.heap.size, 0, none⟩ = some (.slice A n c) ∧ wx.cell? ⟨w.heap.size + 1, 0, none⟩ = some (.int .i64 x1) ∧ wx.cell? ⟨w.heap.size + 1, 1, none⟩ = some (.int .i64 y1) ∧ Below w.heap.size w wx ∧ w.heap.size ≤ wx.heap.size))
      case first =>
        refine (wpIn_wide (n := 3)).1 (wpIn_region_tree (fun wx => wx.cell? ⟨w.heap.size, 0, none⟩ = some (.slice A n c) ∧ wx.cell? ⟨w.heap.size + 1, 0, none⟩ = some (.int .i64 x1) ∧ wx.cell? ⟨w.heap.size + 1, 1, none⟩ = some (.int .i64 y1) ∧ Below w.heap.size w wx ∧ w.heap.size ≤ wx.heap.size)
          (Pl.takes [0, 2, 4] (.fork 1 (.fork 3 (.fork 5 (Pl.takes [6, 7, 8] (.alone 9 (.alone 10 (Pl.takes [11] .done)))) 9 (.alone 5 (Pl.takes [6, 7, 8] (.alone 10 (Pl.takes [11] .done))))) 9 (.alone 3 (.alone 5 (Pl.takes [6, 7, 8] (.alone 10 (Pl.takes [11] .done)))))) 9 (.alone 1 (.alone 3 (.alone 5 (Pl.takes [6, 7, 8] (.alone 10 (Pl.takes [11] .done))))))))
          (by kernel_rfl) (by kernel_rfl) (by kernel_rfl) (kd3 hS2c) (fun hS0 => ?_))
        refine tplan_w (v := ?_) rfl (by rfl) ?_ ?_
        rotate_left
        · intro wx hSx
          try dsimp only at hSx
          go_simp
          try (with_reducible rfl)
        try simp only [Act.put, List.setIfInBounds_toArray, List.set_cons_zero, List.set_cons_succ]
        refine tplan_w (v := ?_) rfl (by rfl) ?_ ?_
        rotate_left
        · intro wx hSx
          try dsimp only at hSx
          go_simp
          try (with_reducible rfl)
        try simp only [Act.put, List.setIfInBounds_toArray, List.set_cons_zero, List.set_cons_succ]
        refine tplan_w (v := ?_) rfl (by rfl) ?_ ?_
        rotate_left
        · intro wx hSx
          try dsimp only at hSx
          go_simp
          try (with_reducible rfl)
        try simp only [Act.put, List.setIfInBounds_toArray, List.set_cons_zero, List.set_cons_succ]
        refine tplan_fork ?_ ?_
        · refine tplan_b rfl (fun K hK => ?_)
          go_simp
          refine (toMaze_in _ _ _ M _ (hI.out.to (bl3 hS0))).mono ?_
          rintro e w3 ⟨g3, rfl, hO3, _, hb3⟩
          have hO_3 := hO3
          have w3S := kp3 hS0 hb3
          obtain ⟨w3cc, w3ff, w3zz⟩ := bcell hb3
          obtain ⟨w3l0, w3l1, w3l2, w3l3⟩ := lt3 hS0 hb3
          refine hK _ _ ⟨w3S, ?_⟩
          clear hK K
          try simp only [Act.put, List.setIfInBounds_toArray, List.set_cons_zero, List.set_cons_succ]
          refine tplan_fork ?_ ?_
          · refine tplan_b rfl (fun K hK => ?_)
            go_simp
            refine (toPoint_any _ _ _).mono ?_
            rintro e w4 ⟨rfl, hb4⟩
            have hO_4 := hO3.to (by first | exact hb4 | exact (allocB _ _).trans (hb4.mono (by simp)))
            have w4S := kp3 w3S hb4
            obtain ⟨w4cc, w4ff, w4zz⟩ := bcell hb4
            obtain ⟨w4l0, w4l1, w4l2, w4l3⟩ := lt3 w3S hb4
            refine hK _ _ ⟨w4S, ?_⟩
            clear hK K
            try simp only [Act.put, List.setIfInBounds_toArray, List.set_cons_zero, List.set_cons_succ]
            refine tplan_fork ?_ ?_
            · refine tplan_b rfl (fun K hK => ?_)
              go_simp
              refine (EndOfS_in _ _ _ M _ _ _ _ (by first | exact hO_4.in_ | exact hO_4.in_.to (allocB _ _)) hbig).mono ?_
              rintro e w5 ⟨rfl, hb5⟩
              rw [H.out]
              have w5S := kp3 w4S hb5
              obtain ⟨w5cc, w5ff, w5zz⟩ := bcell hb5
              obtain ⟨w5l0, w5l1, w5l2, w5l3⟩ := lt3 w4S hb5
              refine hK _ _ ⟨w5S, ?_⟩
              clear hK K
              try simp only [Act.put, List.setIfInBounds_toArray, List.set_cons_zero, List.set_cons_succ]
              refine tplan_w (v := ?_) rfl (by rfl) ?_ ?_
              rotate_left
              · intro wx hSx
                try dsimp only at hSx
                go_simp
                try (with_reducible rfl)
              try simp only [Act.put, List.setIfInBounds_toArray, List.set_cons_zero, List.set_cons_succ]
              refine tplan_w (v := ?_) rfl (by rfl) ?_ ?_
              rotate_left
              · intro wx hSx
                try dsimp only at hSx
                go_simp
                try (with_reducible rfl)
              try simp only [Act.put, List.setIfInBounds_toArray, List.set_cons_zero, List.set_cons_succ]
              refine tplan_w (v := ?_) rfl (by rfl) ?_ ?_
              rotate_left
              · intro wx hSx
                try dsimp only at hSx
                go_simp
                try (with_reducible rfl)
              try simp only [Act.put, List.setIfInBounds_toArray, List.set_cons_zero, List.set_cons_succ]
              refine tplan_b rfl (fun K hK => ?_)
              go_simp
              have hA3 := kp3 w5S (allocB w5 (.cells #[.int .i64 0, .int .i64 0] 34))
              have hPA := PtBox.new w5 0 0
              refine hK _ _ ⟨by first | exact hA3 | exact kd3 hA3, ?_⟩
              clear hK K
              try simp only [Act.put, List.setIfInBounds_toArray, List.set_cons_zero, List.set_cons_succ]
              refine tplan_b rfl (fun K hK => ?_)
              go_simp
              have hT := ka3 hA3 (by first | omega | (simp <;> omega)) (by first | omega | (simp <;> omega)) (by first | omega | (simp <;> omega)) (by first | omega | (simp <;> omega)) (.cells #[.int .i64 ra, .int .i64 rb] 34)
              have hPT := PtBox.new w5 ra rb
              refine hK _ _ ⟨hT, ?_⟩
              clear hK K
              try simp only [Act.put, List.setIfInBounds_toArray, List.set_cons_zero, List.set_cons_succ]
              refine tplan_w (v := ?_) rfl (by rfl) ?_ ?_
              rotate_left
              · intro wx hSx
                try dsimp only at hSx
                go_simp
                try (with_reducible rfl)
              try simp only [Act.put, List.setIfInBounds_toArray, List.set_cons_zero, List.set_cons_succ]
              refine tplan_end ?_
              go_wp2_with fail
              go_meet
              exact ⟨_, rfl, rfl, hPT, by first | omega | (simp <;> omega), hT⟩
            · refine tplan_b rfl (fun K hK => ?_)
              go_simp
              have hA2 := kp3 w4S (allocB w4 (.cells #[.int .i64 0, .int .i64 0] 34))
              have hPA := PtBox.new w4 0 0
              refine hK _ _ ⟨by first | exact hA2 | exact kd3 hA2, ?_⟩
              clear hK K
              try simp only [Act.put, List.setIfInBounds_toArray, List.set_cons_zero, List.set_cons_succ]
              refine tplan_b rfl (fun K hK => ?_)
              go_simp
              refine (EndOfS_in _ _ _ M _ _ _ _ (by first | exact hO_4.in_ | exact hO_4.in_.to (allocB _ _)) hbig).mono ?_
              rintro e w5 ⟨rfl, hb5⟩
              rw [H.out]
              have w5S := kp3 hA2 hb5
              obtain ⟨w5cc, w5ff, w5zz⟩ := bcell hb5
              obtain ⟨w5l0, w5l1, w5l2, w5l3⟩ := lt3 hA2 hb5
              have w5G : w4.heap.size < w5.heap.size := by first | exact alloc_lt hb5 | exact alloc_ltd hb5 | exact Nat.lt_of_lt_of_le (by assumption) hb5.size
              refine hK _ _ ⟨w5S, ?_⟩
              clear hK K
              try simp only [Act.put, List.setIfInBounds_toArray, List.set_cons_zero, List.set_cons_succ]
              refine tplan_w (v := ?_) rfl (by rfl) ?_ ?_
              rotate_left
              · intro wx hSx
                try dsimp only at hSx
                go_simp
                try (with_reducible rfl)
              try simp only [Act.put, List.setIfInBounds_toArray, List.set_cons_zero, List.set_cons_succ]
              refine tplan_w (v := ?_) rfl (by rfl) ?_ ?_
              rotate_left
              · intro wx hSx
                try dsimp only at hSx
                go_simp
                try (with_reducible rfl)
              try simp only [Act.put, List.setIfInBounds_toArray, List.set_cons_zero, List.set_cons_succ]
              refine tplan_w (v := ?_) rfl (by rfl) ?_ ?_
              rotate_left
              · intro wx hSx
                try dsimp only at hSx
                go_simp
                try (with_reducible rfl)
              try simp only [Act.put, List.setIfInBounds_toArray, List.set_cons_zero, List.set_cons_succ]
              refine tplan_b rfl (fun K hK => ?_)
              go_simp
              have hT := ks3 (ks3 w5S (p := ⟨w4.heap.size, 0, none⟩) (by first | omega | (simp <;> omega)) (by first | omega | (simp <;> omega)) (by first | omega | (simp <;> omega)) (by first | omega | (simp <;> omega)) (.int .i64 ra)) (p := ⟨w4.heap.size, 1, none⟩) (by first | omega | (simp <;> omega)) (by first | omega | (simp <;> omega)) (by first | omega | (simp <;> omega)) (by first | omega | (simp <;> omega)) (.int .i64 rb)
              have hPT : PtBox ((w5.setCell ⟨w4.heap.size, 0, none⟩ (.int .i64 ra)).setCell ⟨w4.heap.size, 1, none⟩ (.int .i64 rb)) w4.heap.size (ra, rb) := PtBox.set_ (p := (0, 0)) (by first | (exact (hPA.to hb5)) | (exact ((hPA.to hb4).to hb5)) | (exact (((hPA.to hb3).to hb4).to hb5))) ra rb
              refine hK _ _ ⟨hT, ?_⟩
              clear hK K
              try simp only [Act.put, List.setIfInBounds_toArray, List.set_cons_zero, List.set_cons_succ]
              refine tplan_w (v := ?_) rfl (by rfl) ?_ ?_
              rotate_left
              · intro wx hSx
                try dsimp only at hSx
                go_simp
                try (with_reducible rfl)
              try simp only [Act.put, List.setIfInBounds_toArray, List.set_cons_zero, List.set_cons_succ]
              refine tplan_end ?_
              go_wp2_with fail
              go_meet
              exact ⟨_, rfl, rfl, hPT, by first | omega | (simp <;> omega), hT⟩
          · refine tplan_b rfl (fun K hK => ?_)
            go_simp
            have hA1 := kp3 w3S (allocB w3 (.cells #[.int .i64 0, .int .i64 0] 34))
            have hPA := PtBox.new w3 0 0
            refine hK _ _ ⟨by first | exact hA1 | exact kd3 hA1, ?_⟩
            clear hK K
            try simp only [Act.put, List.setIfInBounds_toArray, List.set_cons_zero, List.set_cons_succ]
            refine tplan_b rfl (fun K hK => ?_)
            go_simp
            refine (toPoint_any _ _ _).mono ?_
            rintro e w4 ⟨rfl, hb4⟩
            have hO_4 := hO3.to (by first | exact hb4 | exact (allocB _ _).trans (hb4.mono (by simp)))
            have w4S := kp3 hA1 hb4
            obtain ⟨w4cc, w4ff, w4zz⟩ := bcell hb4
            obtain ⟨w4l0, w4l1, w4l2, w4l3⟩ := lt3 hA1 hb4
            have w4G : w3.heap.size < w4.heap.size := by first | exact alloc_lt hb4 | exact alloc_ltd hb4 | exact Nat.lt_of_lt_of_le (by assumption) hb4.size
            refine hK _ _ ⟨w4S, ?_⟩
            clear hK K
            try simp only [Act.put, List.setIfInBounds_toArray, List.set_cons_zero, List.set_cons_succ]
            refine tplan_b rfl (fun K hK => ?_)
            go_simp
            refine (EndOfS_in _ _ _ M _ _ _ _ (by first | exact hO_4.in_ | exact hO_4.in_.to (allocB _ _)) hbig).mono ?_
            rintro e w5 ⟨rfl, hb5⟩
            rw [H.out]
            have w5S := kp3 w4S hb5
            obtain ⟨w5cc, w5ff, w5zz⟩ := bcell hb5
            obtain ⟨w5l0, w5l1, w5l2, w5l3⟩ := lt3 w4S hb5
            have w5G : w3.heap.size < w5.heap.size := by first | exact alloc_lt hb5 | exact alloc_ltd hb5 | exact Nat.lt_of_lt_of_le (by assumption) hb5.size
            refine hK _ _ ⟨w5S, ?_⟩
            clear hK K
            try simp only [Act.put, List.setIfInBounds_toArray, List.set_cons_zero, List.set_cons_succ]
            refine tplan_w (v := ?_) rfl (by rfl) ?_ ?_
            rotate_left
            · intro wx hSx
              try dsimp only at hSx
              go_simp
              try (with_reducible rfl)
            try simp only [Act.put, List.setIfInBounds_toArray, List.set_cons_zero, List.set_cons_succ]
            refine tplan_w (v := ?_) rfl (by rfl) ?_ ?_
            rotate_left
            · intro wx hSx
              try dsimp only at hSx
              go_simp
              try (with_reducible rfl)
            try simp only [Act.put, List.setIfInBounds_toArray, List.set_cons_zero, List.set_cons_succ]
            refine tplan_w (v := ?_) rfl (by rfl) ?_ ?_
            rotate_left
            · intro wx hSx
              try dsimp only at hSx
              go_simp
              try (with_reducible rfl)
            try simp only [Act.put, List.setIfInBounds_toArray, List.set_cons_zero, List.set_cons_succ]
            refine tplan_b rfl (fun K hK => ?_)
            go_simp
            have hT := ks3 (ks3 w5S (p := ⟨w3.heap.size, 0, none⟩) (by first | omega | (simp <;> omega)) (by first | omega | (simp <;> omega)) (by first | omega | (simp <;> omega)) (by first | omega | (simp <;> omega)) (.int .i64 ra)) (p := ⟨w3.heap.size, 1, none⟩) (by first | omega | (simp <;> omega)) (by first | omega | (simp <;> omega)) (by first | omega | (simp <;> omega)) (by first | omega | (simp <;> omega)) (.int .i64 rb)
            have hPT : PtBox ((w5.setCell ⟨w3.heap.size, 0, none⟩ (.int .i64 ra)).setCell ⟨w3.heap.size, 1, none⟩ (.int .i64 rb)) w3.heap.size (ra, rb) := PtBox.set_ (p := (0, 0)) (by first | (exact (hPA.to hb5)) | (exact ((hPA.to hb4).to hb5)) | (exact (((hPA.to hb3).to hb4).to hb5))) ra rb
            refine hK _ _ ⟨hT, ?_⟩
            clear hK K
            try simp only [Act.put, List.setIfInBounds_toArray, List.set_cons_zero, List.set_cons_succ]
            refine tplan_w (v := ?_) rfl (by rfl) ?_ ?_
            rotate_left
            · intro wx hSx
              try dsimp only at hSx
              go_simp
              try (with_reducible rfl)
            try simp only [Act.put, List.setIfInBounds_toArray, List.set_cons_zero, List.set_cons_succ]
            refine tplan_end ?_
            go_wp2_with fail
            go_meet
            exact ⟨_, rfl, rfl, hPT, by first | omega | (simp <;> omega), hT⟩
        · refine tplan_b rfl (fun K hK => ?_)
          go_simp
          have hA0 := kp3 hS0 (allocB w2.drew (.cells #[.int .i64 0, .int .i64 0] 34))
          have hPA := PtBox.new w2.drew 0 0
          refine hK _ _ ⟨by first | exact hA0 | exact kd3 hA0, ?_⟩
          clear hK K
          try simp only [Act.put, List.setIfInBounds_toArray, List.set_cons_zero, List.set_cons_succ]
          refine tplan_b rfl (fun K hK => ?_)
          go_simp
          refine (toMaze_in _ _ _ M _ (hI.out.to (bl3 hA0))).mono ?_
          rintro e w3 ⟨g3, rfl, hO3, _, hb3⟩
          have hO_3 := hO3
          have w3S := kp3 hA0 hb3
          obtain ⟨w3cc, w3ff, w3zz⟩ := bcell hb3
          obtain ⟨w3l0, w3l1, w3l2, w3l3⟩ := lt3 hA0 hb3
          have w3G : w2.heap.size < w3.heap.size := by first | exact alloc_lt hb3 | exact alloc_ltd hb3 | exact Nat.lt_of_lt_of_le (by assumption) hb3.size
          refine hK _ _ ⟨w3S, ?_⟩
          clear hK K
          try simp only [Act.put, List.setIfInBounds_toArray, List.set_cons_zero, List.set_cons_succ]
          refine tplan_b rfl (fun K hK => ?_)
          go_simp
          refine (toPoint_any _ _ _).mono ?_
          rintro e w4 ⟨rfl, hb4⟩
          have hO_4 := hO3.to (by first | exact hb4 | exact (allocB _ _).trans (hb4.mono (by simp)))
          have w4S := kp3 w3S hb4
          obtain ⟨w4cc, w4ff, w4zz⟩ := bcell hb4
          obtain ⟨w4l0, w4l1, w4l2, w4l3⟩ := lt3 w3S hb4
          have w4G : w2.heap.size < w4.heap.size := by first | exact alloc_lt hb4 | exact alloc_ltd hb4 | exact Nat.lt_of_lt_of_le (by assumption) hb4.size
          refine hK _ _ ⟨w4S, ?_⟩
          clear hK K
          try simp only [Act.put, List.setIfInBounds_toArray, List.set_cons_zero, List.set_cons_succ]
          refine tplan_b rfl (fun K hK => ?_)
          go_simp
          refine (EndOfS_in _ _ _ M _ _ _ _ (by first | exact hO_4.in_ | exact hO_4.in_.to (allocB _ _)) hbig).mono ?_
          rintro e w5 ⟨rfl, hb5⟩
          rw [H.out]
          have w5S := kp3 w4S hb5
          obtain ⟨w5cc, w5ff, w5zz⟩ := bcell hb5
          obtain ⟨w5l0, w5l1, w5l2, w5l3⟩ := lt3 w4S hb5
          have w5G : w2.heap.size < w5.heap.size := by first | exact alloc_lt hb5 | exact alloc_ltd hb5 | exact Nat.lt_of_lt_of_le (by assumption) hb5.size
          refine hK _ _ ⟨w5S, ?_⟩
          clear hK K
          try simp only [Act.put, List.setIfInBounds_toArray, List.set_cons_zero, List.set_cons_succ]
          refine tplan_w (v := ?_) rfl (by rfl) ?_ ?_
          rotate_left
          · intro wx hSx
            try dsimp only at hSx
            go_simp
            try (with_reducible rfl)
          try simp only [Act.put, List.setIfInBounds_toArray, List.set_cons_zero, List.set_cons_succ]
          refine tplan_w (v := ?_) rfl (by rfl) ?_ ?_
          rotate_left
          · intro wx hSx
            try dsimp only at hSx
            go_simp
            try (with_reducible rfl)
          try simp only [Act.put, List.setIfInBounds_toArray, List.set_cons_zero, List.set_cons_succ]
          refine tplan_w (v := ?_) rfl (by rfl) ?_ ?_
          rotate_left
          · intro wx hSx
            try dsimp only at hSx
            go_simp
            try (with_reducible rfl)
          try simp only [Act.put, List.setIfInBounds_toArray, List.set_cons_zero, List.set_cons_succ]
          refine tplan_b rfl (fun K hK => ?_)
          go_simp
          have hT := ks3 (ks3 w5S (p := ⟨w2.heap.size, 0, none⟩) (by first | omega | (simp <;> omega)) (by first | omega | (simp <;> omega)) (by first | omega | (simp <;> omega)) (by first | omega | (simp <;> omega)) (.int .i64 ra)) (p := ⟨w2.heap.size, 1, none⟩) (by first | omega | (simp <;> omega)) (by first | omega | (simp <;> omega)) (by first | omega | (simp <;> omega)) (by first | omega | (simp <;> omega)) (.int .i64 rb)
          have hPT : PtBox ((w5.setCell ⟨w2.heap.size, 0, none⟩ (.int .i64 ra)).setCell ⟨w2.heap.size, 1, none⟩ (.int .i64 rb)) w2.heap.size (ra, rb) := PtBox.set_ (p := (0, 0)) (by first | (exact (hPA.to hb5)) | (exact ((hPA.to hb4).to hb5)) | (exact (((hPA.to hb3).to hb4).to hb5))) ra rb
          refine hK _ _ ⟨hT, ?_⟩
          clear hK K
          try simp only [Act.put, List.setIfInBounds_toArray, List.set_cons_zero, List.set_cons_succ]
          refine tplan_w (v := ?_) rfl (by rfl) ?_ ?_
          rotate_left
          · intro wx hSx
            try dsimp only at hSx
            go_simp
            try (with_reducible rfl)
          try simp only [Act.put, List.setIfInBounds_toArray, List.set_cons_zero, List.set_cons_succ]
          refine tplan_end ?_
          go_wp2_with fail
          go_meet
          exact ⟨_, rfl, rfl, hPT, by first | omega | (simp <;> omega), hT⟩
      case rest =>
        obtain ⟨G, rfl, rfl, hG5, hGw, hS5⟩ := hcut
        clear e0 e1 e2 b2 z2
        go_wp2_with fail
        refine (toMaze_in _ _ _ M _ (hI.out.to (bl3 hS5))).mono ?_
        rintro e w6 ⟨g6, rfl, hO6, _, hb6⟩
        have hx6 : Below w6.heap.size w6 (w6.alloc (.cells #[.slice (some ⟨g6, 0, none⟩) n n] 27)) := (Below.refl _ _).alloc (Nat.le_refl _) _
        have hS7 := kp3 (kp3 hS5 hb6) hx6
        have hO7 := hO6.to hx6
        have hGk := (hG5.to hb6).to hx6
        have q7 : (w6.alloc (.cells #[.slice (some ⟨g6, 0, none⟩) n n] 27)).cell? ⟨w6.heap.size, 0, none⟩ = some (.slice (some ⟨g6, 0, none⟩) n n) := by go_simp
        clear hS5 hb6 hx6 hO6
        obtain ⟨w7, hw7⟩ : ∃ w7, (w6.alloc (.cells #[.slice (some ⟨g6, 0, none⟩) n n] 27)) = w7 := ⟨_, rfl⟩
        rw [hw7] at hS7 hO7 q7 hGk
        go_wp2
        clear hw7
        generalize w6.heap.size = X at *
        obtain ⟨e0, e1, e2, b7, z7⟩ := hS7
        have hS7y : w7.cell? ⟨X, 0, none⟩ = some (.slice (some ⟨g6, 0, none⟩) n n) ∧ w7.cell? ⟨w.heap.size, 0, none⟩ = some (.slice A n c) ∧ w7.cell? ⟨w.heap.size + 1, 0, none⟩ = some (.int .i64 x1) ∧ w7.cell? ⟨w.heap.size + 1, 1, none⟩ = some (.int .i64 y1) ∧ Below w7.heap.size w7 w7 ∧ w7.heap.size ≤ w7.heap.size := ⟨q7, e0, e1, e2, Below.refl _ _, Nat.le_refl _⟩
        obtain ⟨ly70, ly71, ly72, ly73, ly74⟩ := lt4 (w' := w7) hS7y (Below.refl _ _)
        clear hS7y
        have hw7z := b7.size
        go_cut [11, 12] (fun sp sb wx => ∃ G9 : Nat, sp = .pointer (some ⟨G9, 0, none⟩) ∧ sb = .bool ok ∧ PtBox wx G9 (ra, rb) ∧ w7.heap.size ≤ G9 ∧ (wx.cell? ⟨X, 0, none⟩ = some (.slice (some ⟨g6, 0, none⟩) n n) ∧ wx.cell? ⟨w.heap.size, 0, none⟩ = some (.slice A n c) ∧ wx.cell? ⟨w.heap.size + 1, 0, none⟩ = some (.int .i64 x1) ∧ wx.cell? ⟨w.heap.size + 1, 1, none⟩ = some (.int .i64 y1) ∧ Below w7.heap.size w7 wx ∧ w7.heap.size ≤ wx.heap.size))
        case first =>
          have hS7c : w7.cell? ⟨X, 0, none⟩ = some (.slice (some ⟨g6, 0, none⟩) n n) ∧ w7.cell? ⟨w.heap.size, 0, none⟩ = some (.slice A n c) ∧ w7.cell? ⟨w.heap.size + 1, 0, none⟩ = some (.int .i64 x1) ∧ w7.cell? ⟨w.heap.size + 1, 1, none⟩ = some (.int .i64 y1) ∧ Below w7.heap.size w7 w7 ∧ w7.heap.size ≤ w7.heap.size := ⟨q7, e0, e1, e2, Below.refl _ _, Nat.le_refl _⟩
          refine (wpIn_wide (n := 3)).1 (wpIn_region_tree (fun wx => wx.cell? ⟨X, 0, none⟩ = some (.slice (some ⟨g6, 0, none⟩) n n) ∧ wx.cell? ⟨w.heap.size, 0, none⟩ = some (.slice A n c) ∧ wx.cell? ⟨w.heap.size + 1, 0, none⟩ = some (.int .i64 x1) ∧ wx.cell? ⟨w.heap.size + 1, 1, none⟩ = some (.int .i64 y1) ∧ Below w7.heap.size w7 wx ∧ w7.heap.size ≤ wx.heap.size)
            (Pl.takes [0, 1, 3] (.fork 2 (.fork 4 (Pl.takes [5, 6, 7] (.alone 8 (.alone 9 (Pl.takes [10] .done)))) 8 (.alone 4 (Pl.takes [5, 6, 7] (.alone 9 (Pl.takes [10] .done))))) 8 (.alone 2 (.alone 4 (Pl.takes [5, 6, 7] (.alone 9 (Pl.takes [10] .done)))))))
            (by kernel_rfl) (by kernel_rfl) (by kernel_rfl) (kd4 hS7c) (fun hS0 => ?_))
          refine tplan_w (v := ?_) rfl (by rfl) ?_ ?_
          rotate_left
          · intro wx hSx
            try dsimp only at hSx
            go_simp
            try (with_reducible rfl)
          try simp only [Act.put, List.setIfInBounds_toArray, List.set_cons_zero, List.set_cons_succ]
          refine tplan_w (v := ?_) rfl (by rfl) ?_ ?_
          rotate_left
          · intro wx hSx
            try dsimp only at hSx
            go_simp
            try (with_reducible rfl)
          try simp only [Act.put, List.setIfInBounds_toArray, List.set_cons_zero, List.set_cons_succ]
          refine tplan_w (v := ?_) rfl (by rfl) ?_ ?_
          rotate_left
          · intro wx hSx
            try dsimp only at hSx
            go_simp
            try (with_reducible rfl)
          try simp only [Act.put, List.setIfInBounds_toArray, List.set_cons_zero, List.set_cons_succ]
          refine tplan_fork ?_ ?_
          · refine tplan_b rfl (fun K hK => ?_)
            go_simp
            refine (toPoint_any _ _ _).mono ?_
            rintro e w8 ⟨rfl, hb8⟩
            have hO_8 := hO7.to (by first | exact step_a hb8 | exact (step_b hb8).1 | exact hb8 | exact (allocB _ _).trans (hb8.mono (by simp)))
            have w8S := kp4 hS0 hb8
            obtain ⟨w8cc, w8ff, w8zz⟩ := bcell hb8
            obtain ⟨w8l0, w8l1, w8l2, w8l3, w8l4⟩ := lt4 hS0 hb8
            refine hK _ _ ⟨w8S, ?_⟩
            clear hK K
            try simp only [Act.put, List.setIfInBounds_toArray, List.set_cons_zero, List.set_cons_succ]
            refine tplan_fork ?_ ?_
            · refine tplan_b rfl (fun K hK => ?_)
              go_simp
              refine (EndOfI_in _ _ _ M _ _ _ _ (by first | exact hO_8.in_ | exact hO_8.in_.to (allocB _ _)) hbig).mono ?_
              rintro e w9 ⟨rfl, hb9⟩
              rw [H.out]
              have w9S := kp4 w8S hb9
              obtain ⟨w9cc, w9ff, w9zz⟩ := bcell hb9
              obtain ⟨w9l0, w9l1, w9l2, w9l3, w9l4⟩ := lt4 w8S hb9
              refine hK _ _ ⟨w9S, ?_⟩
              clear hK K
              try simp only [Act.put, List.setIfInBounds_toArray, List.set_cons_zero, List.set_cons_succ]
              refine tplan_w (v := ?_) rfl (by rfl) ?_ ?_
              rotate_left
              · intro wx hSx
                try dsimp only at hSx
                go_simp
                try (with_reducible rfl)
              try simp only [Act.put, List.setIfInBounds_toArray, List.set_cons_zero, List.set_cons_succ]
              refine tplan_w (v := ?_) rfl (by rfl) ?_ ?_
              rotate_left
              · intro wx hSx
                try dsimp only at hSx
                go_simp
                try (with_reducible rfl)
              try simp only [Act.put, List.setIfInBounds_toArray, List.set_cons_zero, List.set_cons_succ]
              refine tplan_w (v := ?_) rfl (by rfl) ?_ ?_
              rotate_left
              · intro wx hSx
                try dsimp only at hSx
                go_simp
                try (with_reducible rfl)
              try simp only [Act.put, List.setIfInBounds_toArray, List.set_cons_zero, List.set_cons_succ]
              refine tplan_b rfl (fun K hK => ?_)
              go_simp
              have hA2 := kp4 w9S (allocB w9 (.cells #[.int .i64 0, .int .i64 0] 34))
              have hPA := PtBox.new w9 0 0
              refine hK _ _ ⟨by first | exact hA2 | exact kd4 hA2, ?_⟩
              clear hK K
              try simp only [Act.put, List.setIfInBounds_toArray, List.set_cons_zero, List.set_cons_succ]
              refine tplan_b rfl (fun K hK => ?_)
              go_simp
              have hT := ka4 hA2 (by first | omega | (simp <;> omega)) (by first | omega | (simp <;> omega)) (by first | omega | (simp <;> omega)) (by first | omega | (simp <;> omega)) (by first | omega | (simp <;> omega)) (.cells #[.int .i64 ra, .int .i64 rb] 34)
              have hPT := PtBox.new w9 ra rb
              refine hK _ _ ⟨hT, ?_⟩
              clear hK K
              try simp only [Act.put, List.setIfInBounds_toArray, List.set_cons_zero, List.set_cons_succ]
              refine tplan_w (v := ?_) rfl (by rfl) ?_ ?_
              rotate_left
              · intro wx hSx
                try dsimp only at hSx
                go_simp
                try (with_reducible rfl)
              try simp only [Act.put, List.setIfInBounds_toArray, List.set_cons_zero, List.set_cons_succ]
              refine tplan_end ?_
              go_wp2_with fail
              go_meet
              exact ⟨_, rfl, rfl, hPT, by first | omega | (simp <;> omega), hT⟩
            · refine tplan_b rfl (fun K hK => ?_)
              go_simp
              have hA1 := kp4 w8S (allocB w8 (.cells #[.int .i64 0, .int .i64 0] 34))
              have hPA := PtBox.new w8 0 0
              refine hK _ _ ⟨by first | exact hA1 | exact kd4 hA1, ?_⟩
              clear hK K
              try simp only [Act.put, List.setIfInBounds_toArray, List.set_cons_zero, List.set_cons_succ]
              refine tplan_b rfl (fun K hK => ?_)
              go_simp
              refine (EndOfI_in _ _ _ M _ _ _ _ (by first | exact hO_8.in_ | exact hO_8.in_.to (allocB _ _)) hbig).mono ?_
              rintro e w9 ⟨rfl, hb9⟩
              rw [H.out]
              have w9S := kp4 hA1 hb9
              obtain ⟨w9cc, w9ff, w9zz⟩ := bcell hb9
              obtain ⟨w9l0, w9l1, w9l2, w9l3, w9l4⟩ := lt4 hA1 hb9
              have w9G : w8.heap.size < w9.heap.size := by first | exact alloc_lt hb9 | exact alloc_ltd hb9 | exact Nat.lt_of_lt_of_le (by assumption) hb9.size
              refine hK _ _ ⟨w9S, ?_⟩
              clear hK K
              try simp only [Act.put, List.setIfInBounds_toArray, List.set_cons_zero, List.set_cons_succ]
              refine tplan_w (v := ?_) rfl (by rfl) ?_ ?_
              rotate_left
              · intro wx hSx
                try dsimp only at hSx
                go_simp
                try (with_reducible rfl)
              try simp only [Act.put, List.setIfInBounds_toArray, List.set_cons_zero, List.set_cons_succ]
              refine tplan_w (v := ?_) rfl (by rfl) ?_ ?_
              rotate_left
              · intro wx hSx
                try dsimp only at hSx
                go_simp
                try (with_reducible rfl)
              try simp only [Act.put, List.setIfInBounds_toArray, List.set_cons_zero, List.set_cons_succ]
              refine tplan_w (v := ?_) rfl (by rfl) ?_ ?_
              rotate_left
              · intro wx hSx
                try dsimp only at hSx
                go_simp
                try (with_reducible rfl)
              try simp only [Act.put, List.setIfInBounds_toArray, List.set_cons_zero, List.set_cons_succ]
              refine tplan_b rfl (fun K hK => ?_)
              go_simp
              have hT := ks4 (ks4 w9S (p := ⟨w8.heap.size, 0, none⟩) (by first | omega | (simp <;> omega)) (by first | omega | (simp <;> omega)) (by first | omega | (simp <;> omega)) (by first | omega | (simp <;> omega)) (by first | omega | (simp <;> omega)) (.int .i64 ra)) (p := ⟨w8.heap.size, 1, none⟩) (by first | omega | (simp <;> omega)) (by first | omega | (simp <;> omega)) (by first | omega | (simp <;> omega)) (by first | omega | (simp <;> omega)) (by first | omega | (simp <;> omega)) (.int .i64 rb)
              have hPT : PtBox ((w9.setCell ⟨w8.heap.size, 0, none⟩ (.int .i64 ra)).setCell ⟨w8.heap.size, 1, none⟩ (.int .i64 rb)) w8.heap.size (ra, rb) := PtBox.set_ (p := (0, 0)) (by first | (exact (hPA.to hb9)) | (exact ((hPA.to hb8).to hb9))) ra rb
              refine hK _ _ ⟨hT, ?_⟩
              clear hK K
              try simp only [Act.put, List.setIfInBounds_toArray, List.set_cons_zero, List.set_cons_succ]
              refine tplan_w (v := ?_) rfl (by rfl) ?_ ?_
              rotate_left
              · intro wx hSx
                try dsimp only at hSx
                go_simp
                try (with_reducible rfl)
              try simp only [Act.put, List.setIfInBounds_toArray, List.set_cons_zero, List.set_cons_succ]
              refine tplan_end ?_
              go_wp2_with fail
              go_meet
              exact ⟨_, rfl, rfl, hPT, by first | omega | (simp <;> omega), hT⟩
          · refine tplan_b rfl (fun K hK => ?_)
            go_simp
            have hA0 := kp4 hS0 (allocB w7.drew (.cells #[.int .i64 0, .int .i64 0] 34))
            have hPA := PtBox.new w7.drew 0 0
            refine hK _ _ ⟨by first | exact hA0 | exact kd4 hA0, ?_⟩
            clear hK K
            try simp only [Act.put, List.setIfInBounds_toArray, List.set_cons_zero, List.set_cons_succ]
            refine tplan_b rfl (fun K hK => ?_)
            go_simp
            refine (toPoint_any _ _ _).mono ?_
            rintro e w8 ⟨rfl, hb8⟩
            have hO_8 := hO7.to (by first | exact step_a hb8 | exact (step_b hb8).1 | exact hb8 | exact (allocB _ _).trans (hb8.mono (by simp)))
            have w8S := kp4 hA0 hb8
            obtain ⟨w8cc, w8ff, w8zz⟩ := bcell hb8
            obtain ⟨w8l0, w8l1, w8l2, w8l3, w8l4⟩ := lt4 hA0 hb8
            have w8G : w7.heap.size < w8.heap.size := by first | exact alloc_lt hb8 | exact alloc_ltd hb8 | exact Nat.lt_of_lt_of_le (by assumption) hb8.size
            refine hK _ _ ⟨w8S, ?_⟩
            clear hK K
            try simp only [Act.put, List.setIfInBounds_toArray, List.set_cons_zero, List.set_cons_succ]
            refine tplan_b rfl (fun K hK => ?_)
            go_simp
            refine (EndOfI_in _ _ _ M _ _ _ _ (by first | exact hO_8.in_ | exact hO_8.in_.to (allocB _ _)) hbig).mono ?_
            rintro e w9 ⟨rfl, hb9⟩
            rw [H.out]
            have w9S := kp4 w8S hb9
            obtain ⟨w9cc, w9ff, w9zz⟩ := bcell hb9
            obtain ⟨w9l0, w9l1, w9l2, w9l3, w9l4⟩ := lt4 w8S hb9
            have w9G : w7.heap.size < w9.heap.size := by first | exact alloc_lt hb9 | exact alloc_ltd hb9 | exact Nat.lt_of_lt_of_le (by assumption) hb9.size
            refine hK _ _ ⟨w9S, ?_⟩
            clear hK K
            try simp only [Act.put, List.setIfInBounds_toArray, List.set_cons_zero, List.set_cons_succ]
            refine tplan_w (v := ?_) rfl (by rfl) ?_ ?_
            rotate_left
            · intro wx hSx
              try dsimp only at hSx
              go_simp
              try (with_reducible rfl)
            try simp only [Act.put, List.setIfInBounds_toArray, List.set_cons_zero, List.set_cons_succ]
            refine tplan_w (v := ?_) rfl (by rfl) ?_ ?_
            rotate_left
            · intro wx hSx
              try dsimp only at hSx
              go_simp
              try (with_reducible rfl)
            try simp only [Act.put, List.setIfInBounds_toArray, List.set_cons_zero, List.set_cons_succ]
            refine tplan_w (v := ?_) rfl (by rfl) ?_ ?_
            rotate_left
            · intro wx hSx
              try dsimp only at hSx
              go_simp
              try (with_reducible rfl)
            try simp only [Act.put, List.setIfInBounds_toArray, List.set_cons_zero, List.set_cons_succ]
            refine tplan_b rfl (fun K hK => ?_)
            go_simp
            have hT := ks4 (ks4 w9S (p := ⟨w7.heap.size, 0, none⟩) (by first | omega | (simp <;> omega)) (by first | omega | (simp <;> omega)) (by first | omega | (simp <;> omega)) (by first | omega | (simp <;> omega)) (by first | omega | (simp <;> omega)) (.int .i64 ra)) (p := ⟨w7.heap.size, 1, none⟩) (by first | omega | (simp <;> omega)) (by first | omega | (simp <;> omega)) (by first | omega | (simp <;> omega)) (by first | omega | (simp <;> omega)) (by first | omega | (simp <;> omega)) (.int .i64 rb)
            have hPT : PtBox ((w9.setCell ⟨w7.heap.size, 0, none⟩ (.int .i64 ra)).setCell ⟨w7.heap.size, 1, none⟩ (.int .i64 rb)) w7.heap.size (ra, rb) := PtBox.set_ (p := (0, 0)) (by first | (exact (hPA.to hb9)) | (exact ((hPA.to hb8).to hb9))) ra rb
            refine hK _ _ ⟨hT, ?_⟩
            clear hK K
            try simp only [Act.put, List.setIfInBounds_toArray, List.set_cons_zero, List.set_cons_succ]
            refine tplan_w (v := ?_) rfl (by rfl) ?_ ?_
            rotate_left
            · intro wx hSx
              try dsimp only at hSx
              go_simp
              try (with_reducible rfl)
            try simp only [Act.put, List.setIfInBounds_toArray, List.set_cons_zero, List.set_cons_succ]
            refine tplan_end ?_
            go_wp2_with fail
            go_meet
            exact ⟨_, rfl, rfl, hPT, by first | omega | (simp <;> omega), hT⟩
        case rest =>
          obtain ⟨G9, rfl, rfl, hG9, hGw9, hS9⟩ := hcut
          clear e0 e1 e2 q7
          obtain ⟨q7, e0, e1, e2, b9, z9⟩ := hS9
          rename_i w9
          have hGG := hGk.to b9
          have hp0 := hG9.c0
          have hp1 := hG9.c1
          have hp2 := hGG.c0
          have hp3 := hGG.c1
          simp only at hp0 hp1 hp2 hp3
          go_wp2_with fail
          refine (eqPoint_one ra rb _).mono ?_
          rintro e w9b ⟨rfl, hb9b⟩
          clear hp0 hp1 hp2 hp3
          have hS9b : w9b.cell? ⟨X, 0, none⟩ = some (.slice (some ⟨g6, 0, none⟩) n n) ∧ w9b.cell? ⟨w.heap.size, 0, none⟩ = some (.slice A n c) ∧ w9b.cell? ⟨w.heap.size + 1, 0, none⟩ = some (.int .i64 x1) ∧ w9b.cell? ⟨w.heap.size + 1, 1, none⟩ = some (.int .i64 y1) ∧ Below w7.heap.size w7 w9b ∧ w7.heap.size ≤ w9b.heap.size := kp4 ⟨q7, e0, e1, e2, b9, z9⟩ hb9b
          clear q7 e0 e1 e2 b9 z9
          obtain ⟨q7, e0, e1, e2, b9, z9⟩ := hS9b
          have hO9 := (hO7.to b9).in_
          have bb9 := bl_step b7 b9 z7
          clear hO7 b7 b9
          go_wp2
          go_region_held3 (fun wx => wx.cell? ⟨X, 0, none⟩ = some (.slice (some ⟨g6, 0, none⟩) n n) ∧ wx.cell? ⟨w.heap.size, 0, none⟩ = some (.slice A n c) ∧ wx.cell? ⟨w.heap.size + 1, 0, none⟩ = some (.int .i64 x1) ∧ wx.cell? ⟨w.heap.size + 1, 1, none⟩ = some (.int .i64 y1) ∧ Below w9b.heap.size w9b wx ∧ w9b.heap.size ≤ wx.heap.size)
            (first | exact kd4 (by assumption) | exact kp4 (by assumption) (by assumption) | exact ⟨q7, e0, e1, e2, (Below.refl _ _).drew, Nat.le_refl _⟩ | exact ⟨q7, e0, e1, e2, Below.refl _ _, Nat.le_refl _⟩)
            (first
              | (go_at_call 13; refine (toMaze_in _ _ _ M _ (hI.out.to (bl_step bb9 (bl4 (by assumption)) bb9.size))).mono ?_; rintro e w10 ⟨g10, rfl, hO10, _, hb10⟩)
              | (go_at_call 15; refine (eqMaze_in _ _ _ _ _ M _ (hO9.to (bl4 (by assumption))) hO10.in_).mono ?_; rintro e w11 ⟨rfl, hb11⟩))
          go_wp2
          go_ret
          exact ⟨rfl, bl_step bb9 (bl4 (by assumption)) bb9.size⟩
  · have hyes : 1048576 < (s2.size : Int) := by omega
    go_enter Try.func5, Try.ntmps5
    go_wp2
    go_ret
    exact ⟨rfl, by (repeat (first | assumption | exact Below.refl _ _ | (refine bl_alloc ?_ _) | (refine Below.drew ?_) | (refine bl_drewN ?_ _) | (refine bl_set ?_ (by first | (simp; done) | omega | (simp; omega)) _) | (refine bl_trans ?_ (by assumption)) | (refine bl_step ?_ (by assumption) (by first | omega | exact Below.size (by assumption) | (simp; omega) | (simp; exact Below.size (by assumption))))))⟩
end Go.Proofs.Ytdndkknkkgialaa.fnExactEndOf
