/-
  Proved: for every maze, the program's MazeText answers as the model's and leaves the maze alone. No condition.
-/
import Derived.Test.YtdndkknkkgialaaMazeJ
namespace Go.Proofs.Ytdndkknkkgialaa.fnExactMazeText
set_option linter.unusedSimpArgs false
set_option linter.unusedVariables false
open Go.ChangeShapes Go.WideShapes Go.ChangeAt Go.RowKit

set_option maxRecDepth 100000 in
set_option maxHeartbeats 1600000 in
theorem walk (A : Option Addr) (Ls : List SlI) (c : Nat) (w : World) (h : RowsIn w A Ls c) :
    Calls Try.prog 10 #[.agg #[.slice A Ls.length c]] w fun e w' => e = .returned (.bool true) ∧ Below w.heap.size w w' := by
  obtain ⟨tx, ok, hv⟩ : ∃ tx ok, mzTxV (heldI Ls) = .tuple #[.string tx, .bool ok] := mzTxV_parts _
  have q0 : (w.alloc (.cells #[.slice A Ls.length c] 24)).cell? ⟨w.heap.size, 0, none⟩ = some (.slice A Ls.length c) := by go_simp
  have hb1 : Below w.heap.size w (w.alloc (.cells #[.slice A Ls.length c] 24)) := by (repeat (first | assumption | exact Below.refl _ _ | (refine bl_alloc ?_ _) | (refine Below.drew ?_) | (refine bl_drewN ?_ _) | (refine bl_set ?_ (by first | (simp; done) | omega | (simp; omega)) _) | (refine bl_trans ?_ (by assumption)) | (refine bl_step ?_ (by assumption) (by first | omega | exact Below.size (by assumption) | (simp; omega) | (simp; exact Below.size (by assumption))))))
  obtain ⟨w1, hw1⟩ : ∃ w1, (w.alloc (.cells #[.slice A Ls.length c] 24)) = w1 := ⟨_, rfl⟩
  rw [hw1] at q0 hb1
  have hS1 : w1.cell? ⟨w.heap.size, 0, none⟩ = some (.slice A Ls.length c) ∧ Below w.heap.size w w1 ∧ w.heap.size ≤ w1.heap.size := ⟨q0, hb1, hb1.size⟩
  have cz := szMaze_in A Ls c w1 w h hb1
  obtain ⟨M, hM⟩ : ∃ M, heldI Ls = M := ⟨_, rfl⟩
  obtain ⟨n, hn⟩ : ∃ n, Ls.length = n := ⟨_, rfl⟩
  rw [hM] at hv
  rw [hM, hn] at cz
  rw [hn] at hS1 hw1
  rw [hn]
  clear hn
  have H := Lib.hid hv
  clear hv hb1 h hM q0
  go_enter Try.func10, Try.ntmps10
  go_wp2_with fail
  refine cz.mono ?_
  rintro e w2 ⟨⟨r, rfl, hr1, hr2, hr3⟩, hb2⟩
  have HR := Lib.hid hr3
  have hS2 := kp1 hS1 hb2
  clear hr3 hS1 cz hb2 hw1
  by_cases hr : r < 0
  · go_wp2
    go_ret
    exact ⟨rfl, bl1 hS2⟩
  · have hI := Lib.hid (HR.out (by omega))
    clear HR
    go_wp2_with fail
    refine (toMaze_in _ _ _ M _ (hI.out.to (bl1 hS2))).mono ?_
    rintro e w3 ⟨g3, rfl, hO3, _, hb3⟩
    have hS3 := kp1 hS2 hb3
    clear hS2 hb3
    go_wp2_with fail
    refine (MazeTextS_in _ _ _ M _ hO3.in_).mono ?_
    rintro e w5 ⟨rfl, hb5⟩
    rw [H.out]
    have hS5 := kp1 hS3 hb5
    clear hS3 hb5 hO3
    go_wp2_with fail
    refine (toMaze_in _ _ _ M _ (hI.out.to (bl1 hS5))).mono ?_
    rintro e w6 ⟨g6, rfl, hO6, _, hb6⟩
    have hx6 : Below w6.heap.size w6 (w6.alloc (.cells #[.slice (some ⟨g6, 0, none⟩) n n] 27)) := (Below.refl _ _).alloc (Nat.le_refl _) _
    have hS7 := kp1 (kp1 hS5 hb6) hx6
    have hO7 := hO6.to hx6
    have q7 : (w6.alloc (.cells #[.slice (some ⟨g6, 0, none⟩) n n] 27)).cell? ⟨w6.heap.size, 0, none⟩ = some (.slice (some ⟨g6, 0, none⟩) n n) := by go_simp
    clear hS5 hb6 hx6 hO6
    obtain ⟨w7, hw7⟩ : ∃ w7, (w6.alloc (.cells #[.slice (some ⟨g6, 0, none⟩) n n] 27)) = w7 := ⟨_, rfl⟩
    rw [hw7] at hS7 hO7 q7
    obtain ⟨e0, b7, z7⟩ := hS7
    go_wp2_with fail
    refine (MazeTextI_in _ _ _ M _ hO7.in_).mono ?_
    rintro e w9 ⟨rfl, hb9⟩
    rw [H.out]
    clear hw7
    generalize w6.heap.size = X at *
    have hS7x : w7.cell? ⟨X, 0, none⟩ = some (.slice (some ⟨g6, 0, none⟩) n n) ∧ w7.cell? ⟨w.heap.size, 0, none⟩ = some (.slice A n c) ∧ Below w7.heap.size w7 w7 ∧ w7.heap.size ≤ w7.heap.size := ⟨q7, e0, Below.refl _ _, Nat.le_refl _⟩
    have hS9 := kp2 hS7x hb9
    clear hS7x e0 q7
    obtain ⟨q7, e0, b9, z9⟩ := hS9
    have hO9 := (hO7.to b9).in_
    have bb9 := bl_step b7 b9 z7
    clear hO7 b7 b9 hb9
    go_wp2
    go_region_held3 (fun wx => wx.cell? ⟨X, 0, none⟩ = some (.slice (some ⟨g6, 0, none⟩) n n) ∧ wx.cell? ⟨w.heap.size, 0, none⟩ = some (.slice A n c) ∧ Below w9.heap.size w9 wx ∧ w9.heap.size ≤ wx.heap.size)
      (first | exact kd2 (by assumption) | exact kp2 (by assumption) (by assumption) | exact ⟨q7, e0, (Below.refl _ _).drew, Nat.le_refl _⟩ | exact ⟨q7, e0, Below.refl _ _, Nat.le_refl _⟩)
      (first
        | (go_at_call 13; refine (toMaze_in _ _ _ M _ (hI.out.to (bl_step bb9 (bl2 (by assumption)) bb9.size))).mono ?_; rintro e w10 ⟨g10, rfl, hO10, _, hb10⟩)
        | (go_at_call 15; refine (eqMaze_in _ _ _ _ _ M _ (hO9.to (bl2 (by assumption))) hO10.in_).mono ?_; rintro e w11 ⟨rfl, hb11⟩))
    go_wp2
    go_ret
    exact ⟨rfl, bl_step bb9 (bl2 (by assumption)) bb9.size⟩
end Go.Proofs.Ytdndkknkkgialaa.fnExactMazeText
