/-
  Proved: for every maze and further argument, the program's PriceOf answers as the model's and leaves the maze alone. No condition.
-/
import Derived.Test.YtdpamieheefhdaaPriceW
namespace Go.Proofs.Ytdpamieheefhdaa.fnExactPriceOf
set_option linter.unusedSimpArgs false
set_option linter.unusedVariables false
open Go.ChangeShapes Go.WideShapes Go.ChangeAt Go.RowKit

set_option maxRecDepth 100000 in
set_option maxHeartbeats 1600000 in
theorem walk (A : Option Addr) (Ls : List SlI) (c : Nat) (x1 y1 : Int) (s2 : ByteArray) (n3 : Int) (w : World) (h : RowsIn w A Ls c) (_ : Fits x1 ∧ Fits y1) (hs2 : s2.size ≤ maxLen) (_ : (Lit.int .i64 n3).wf = true) :
    Calls Try.prog 7 #[.agg #[.slice A Ls.length c], .agg #[.int .i64 x1, .int .i64 y1], .string s2, .int .i64 n3] w fun e w' => e = .returned (.bool true) ∧ Below w.heap.size w w' := by
  unfold maxLen at hs2
  by_cases hbig : s2.size ≤ 1048576
  · have hnbig : ¬ 1048576 < (s2.size : Int) := by omega
    obtain ⟨pr, ok, hv⟩ : ∃ pr ok, priceV (heldI Ls) x1 y1 s2 n3 = .tuple #[.int .i64 pr, .bool ok] := priceV_parts _ _ _ _ _
    have q0 : ((w.alloc (.cells #[.slice A Ls.length c] 47)).alloc (.cells #[.int .i64 x1, .int .i64 y1] 48)).cell? ⟨w.heap.size, 0, none⟩ = some (.slice A Ls.length c) := by go_simp
    have q1 : ((w.alloc (.cells #[.slice A Ls.length c] 47)).alloc (.cells #[.int .i64 x1, .int .i64 y1] 48)).cell? ⟨w.heap.size + 1, 0, none⟩ = some (.int .i64 x1) := by go_simp
    have q2 : ((w.alloc (.cells #[.slice A Ls.length c] 47)).alloc (.cells #[.int .i64 x1, .int .i64 y1] 48)).cell? ⟨w.heap.size + 1, 1, none⟩ = some (.int .i64 y1) := by go_simp
    have hb1 : Below w.heap.size w ((w.alloc (.cells #[.slice A Ls.length c] 47)).alloc (.cells #[.int .i64 x1, .int .i64 y1] 48)) := by (repeat (first | assumption | exact Below.refl _ _ | (refine bl_alloc ?_ _) | (refine Below.drew ?_) | (refine bl_drewN ?_ _) | (refine bl_set ?_ (by first | (simp; done) | omega | (simp; omega)) _) | (refine bl_trans ?_ (by assumption)) | (refine bl_step ?_ (by assumption) (by first | omega | exact Below.size (by assumption) | (simp; omega) | (simp; exact Below.size (by assumption))))))
    obtain ⟨w1, hw1⟩ : ∃ w1, ((w.alloc (.cells #[.slice A Ls.length c] 47)).alloc (.cells #[.int .i64 x1, .int .i64 y1] 48)) = w1 := ⟨_, rfl⟩
    rw [hw1] at q0 q1 q2 hb1
    have hS1 : w1.cell? ⟨w.heap.size, 0, none⟩ = some (.slice A Ls.length c) ∧ w1.cell? ⟨w.heap.size + 1, 0, none⟩ = some (.int .i64 x1) ∧ w1.cell? ⟨w.heap.size + 1, 1, none⟩ = some (.int .i64 y1) ∧ Below w.heap.size w w1 ∧ w.heap.size ≤ w1.heap.size := ⟨q0, q1, q2, hb1, hb1.size⟩
    have cz := szMaze_in A Ls c w1 w h hb1
    obtain ⟨M, hM⟩ : ∃ M, heldI Ls = M := ⟨_, rfl⟩
    obtain ⟨n, hn⟩ : ∃ n, Ls.length = n := ⟨_, rfl⟩
    rw [hM] at hv
    rw [hM, hn] at cz
    rw [hn] at hS1 hw1
    rw [hn]
    clear hn
    have H := Lib.hid hv
    clear hv hb1 h hM q0 q1 q2
    go_enter Try.func7, Try.ntmps7
    go_wp2_with fail
    refine cz.mono ?_
    rintro e w2 ⟨⟨r, rfl, hr1, hr2, hr3⟩, hb2⟩
    have HR := Lib.hid hr3
    have hS2 := kp3 hS1 hb2
    clear hr3 hS1 cz hb2 hw1
    by_cases hr : r < 0
    · go_wp2
      go_ret
      exact ⟨rfl, bl3 hS2⟩
    · have hI := Lib.hid (HR.out (by omega))
      clear HR
      obtain ⟨e0, e1, e2, b2, z2⟩ := hS2
      go_wp2
      go_region_held3 (fun wx => wx.cell? ⟨w.heap.size, 0, none⟩ = some (.slice A n c) ∧ wx.cell? ⟨w.heap.size + 1, 0, none⟩ = some (.int .i64 x1) ∧ wx.cell? ⟨w.heap.size + 1, 1, none⟩ = some (.int .i64 y1) ∧ Below w.heap.size w wx ∧ w.heap.size ≤ wx.heap.size)
        (first | exact kd3 (by assumption) | exact kp3 (by assumption) (by assumption) | exact ⟨e0, e1, e2, b2.drew, z2⟩ | exact ⟨e0, e1, e2, b2, z2⟩)
        (first
          | (go_at_call 30; refine (toMaze_in _ _ _ M _ (hI.out.to (bl3 (by assumption)))).mono ?_; rintro e w3 ⟨g3, rfl, hO3, _, hb3⟩)
          | (go_at_call 31; refine (toPoint_any _ _ _).mono ?_; rintro e w4 ⟨rfl, hb4⟩)
          | (go_at_call 29; refine (PriceOfS_in _ _ _ M _ _ _ _ _ (hO3.in_.to hb4) hbig).mono ?_; rintro e w5 ⟨rfl, hb5⟩; rw [H.out]))
      have hS5 : w5.cell? ⟨w.heap.size, 0, none⟩ = some (.slice A n c) ∧ w5.cell? ⟨w.heap.size + 1, 0, none⟩ = some (.int .i64 x1) ∧ w5.cell? ⟨w.heap.size + 1, 1, none⟩ = some (.int .i64 y1) ∧ Below w.heap.size w w5 ∧ w.heap.size ≤ w5.heap.size := by assumption
      clear e0 e1 e2 b2 z2 hO3 hb3 hb4 hb5
      go_wp2_with fail
      refine (toMaze_in _ _ _ M _ (hI.out.to (bl3 hS5))).mono ?_
      rintro e w6 ⟨g6, rfl, hO6, _, hb6⟩
      have hx6 : Below w6.heap.size w6 (w6.alloc (.cells #[.slice (some ⟨g6, 0, none⟩) n n] 51)) := (Below.refl _ _).alloc (Nat.le_refl _) _
      have hS7 := kp3 (kp3 hS5 hb6) hx6
      have hO7 := hO6.to hx6
      have q7 : (w6.alloc (.cells #[.slice (some ⟨g6, 0, none⟩) n n] 51)).cell? ⟨w6.heap.size, 0, none⟩ = some (.slice (some ⟨g6, 0, none⟩) n n) := by go_simp
      clear hS5 hb6 hx6 hO6
      obtain ⟨w7, hw7⟩ : ∃ w7, (w6.alloc (.cells #[.slice (some ⟨g6, 0, none⟩) n n] 51)) = w7 := ⟨_, rfl⟩
      rw [hw7] at hS7 hO7 q7
      go_wp2
      clear hw7
      generalize w6.heap.size = X at *
      obtain ⟨e0, e1, e2, b7, z7⟩ := hS7
      go_region_held3 (fun wx => wx.cell? ⟨X, 0, none⟩ = some (.slice (some ⟨g6, 0, none⟩) n n) ∧ wx.cell? ⟨w.heap.size, 0, none⟩ = some (.slice A n c) ∧ wx.cell? ⟨w.heap.size + 1, 0, none⟩ = some (.int .i64 x1) ∧ wx.cell? ⟨w.heap.size + 1, 1, none⟩ = some (.int .i64 y1) ∧ Below w7.heap.size w7 wx ∧ w7.heap.size ≤ wx.heap.size)
        (first | exact kd4 (by assumption) | exact kp4 (by assumption) (by assumption) | exact ⟨q7, e0, e1, e2, (Below.refl _ _).drew, Nat.le_refl _⟩ | exact ⟨q7, e0, e1, e2, Below.refl _ _, Nat.le_refl _⟩)
        (first
          | (go_at_call 31; refine (toPoint_any _ _ _).mono ?_; rintro e w8 ⟨rfl, hb8⟩)
          | (go_at_call 32; refine (PriceOfI_in _ _ _ M _ _ _ _ _ (hO7.in_.to (bl4 (by assumption))) hbig).mono ?_; rintro e w9 ⟨rfl, hb9⟩; rw [H.out]))
      have hS9 : w9.cell? ⟨X, 0, none⟩ = some (.slice (some ⟨g6, 0, none⟩) n n) ∧ w9.cell? ⟨w.heap.size, 0, none⟩ = some (.slice A n c) ∧ w9.cell? ⟨w.heap.size + 1, 0, none⟩ = some (.int .i64 x1) ∧ w9.cell? ⟨w.heap.size + 1, 1, none⟩ = some (.int .i64 y1) ∧ Below w7.heap.size w7 w9 ∧ w7.heap.size ≤ w9.heap.size := by assumption
      clear e0 e1 e2 q7 hb8 hb9
      obtain ⟨q7, e0, e1, e2, b9, z9⟩ := hS9
      have hO9 := (hO7.to b9).in_
      have bb9 := bl_step b7 b9 z7
      clear hO7 b7 b9
      go_wp2
      go_region_held3 (fun wx => wx.cell? ⟨X, 0, none⟩ = some (.slice (some ⟨g6, 0, none⟩) n n) ∧ wx.cell? ⟨w.heap.size, 0, none⟩ = some (.slice A n c) ∧ wx.cell? ⟨w.heap.size + 1, 0, none⟩ = some (.int .i64 x1) ∧ wx.cell? ⟨w.heap.size + 1, 1, none⟩ = some (.int .i64 y1) ∧ Below w9.heap.size w9 wx ∧ w9.heap.size ≤ wx.heap.size)
        (first | exact kd4 (by assumption) | exact kp4 (by assumption) (by assumption) | exact ⟨q7, e0, e1, e2, (Below.refl _ _).drew, Nat.le_refl _⟩ | exact ⟨q7, e0, e1, e2, Below.refl _ _, Nat.le_refl _⟩)
        (first
          | (go_at_call 30; refine (toMaze_in _ _ _ M _ (hI.out.to (bl_step bb9 (bl4 (by assumption)) bb9.size))).mono ?_; rintro e w10 ⟨g10, rfl, hO10, _, hb10⟩)
          | (go_at_call 33; refine (eqMaze_in _ _ _ _ _ M _ (hO9.to (bl4 (by assumption))) hO10.in_).mono ?_; rintro e w11 ⟨rfl, hb11⟩))
      go_wp2
      go_ret
      exact ⟨rfl, bl_step bb9 (bl4 (by assumption)) bb9.size⟩
  · have hyes : 1048576 < (s2.size : Int) := by omega
    go_enter Try.func7, Try.ntmps7
    go_wp2
    go_ret
    exact ⟨rfl, by (repeat (first | assumption | exact Below.refl _ _ | (refine bl_alloc ?_ _) | (refine Below.drew ?_) | (refine bl_drewN ?_ _) | (refine bl_set ?_ (by first | (simp; done) | omega | (simp; omega)) _) | (refine bl_trans ?_ (by assumption)) | (refine bl_step ?_ (by assumption) (by first | omega | exact Below.size (by assumption) | (simp; omega) | (simp; exact Below.size (by assumption))))))⟩
end Go.Proofs.Ytdpamieheefhdaa.fnExactPriceOf
