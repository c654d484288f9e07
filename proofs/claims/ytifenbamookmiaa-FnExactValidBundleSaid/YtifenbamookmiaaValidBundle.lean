/-
  Proved: for every bundle, the program's ValidBundle answers as the model's and leaves the bundle alone. No condition.
-/
import Derived.Test.YtifenbamookmiaaBunL
namespace Go.Proofs.Ytifenbamookmiaa.fnExactValidBundle
set_option linter.unusedSimpArgs false
set_option linter.unusedVariables false
open Go.ChangeShapes Go.WideShapes Go.ChangeAt Go.RowKit

set_option maxRecDepth 100000 in
set_option maxHeartbeats 1600000 in
theorem walk (A : Option Addr) (Ls : List SlI) (c : Nat) (w : World) (h : RowsIn w A Ls c) :
    Calls Try.prog 3 #[.agg #[.slice A Ls.length c]] w fun e w' => e = .returned (.bool true) ∧ Below w.heap.size w w' := by
  obtain ⟨hp, _, hlc, hc⟩ := h
  have hx0 : Below w.heap.size w (w.alloc (.cells #[.slice A Ls.length c] 24)) := by (repeat (first | assumption | exact Below.refl _ _ | (refine bl_alloc ?_ _) | (refine Below.drew ?_) | (refine bl_drewN ?_ _) | (refine bl_set ?_ (by first | (simp; done) | omega | (simp; omega)) _) | (refine bl_trans ?_ (by assumption)) | (refine bl_step ?_ (by assumption) (by first | omega | exact Below.size (by assumption) | (simp; omega) | (simp; exact Below.size (by assumption))))))
  have hS0 : (w.alloc (.cells #[.slice A Ls.length c] 24)).cell? ⟨w.heap.size, 0, none⟩ = some (.slice A Ls.length c) ∧ Below w.heap.size w (w.alloc (.cells #[.slice A Ls.length c] 24)) ∧ w.heap.size ≤ (w.alloc (.cells #[.slice A Ls.length c] 24)).heap.size := ⟨by go_simp, hx0, hx0.size⟩
  obtain ⟨b, hv⟩ : ∃ b, bnB (heldI Ls) = b := ⟨_, rfl⟩
  have H := Lib.hid hv
  clear hv
  go_enter Try.func3, Try.ntmps3
  go_wp2_with fail
  refine (szBundle_any _ _ _ _ (hp.to hx0) (by omega)).mono ?_
  rintro e w1 ⟨⟨r, rfl, hr1, hr2, hr3⟩, hb1⟩
  have HR := Lib.hid hr3
  clear hr3
  have hS1 := kp1 hS0 hb1
  clear hS0 hb1 hx0
  by_cases hr : r < 0
  · go_wp2
    go_ret
    exact ⟨rfl, bl1 hS1⟩
  · obtain ⟨hn, hl⟩ := HR.out (by omega)
    have HL := Lib.hid hl
    clear hl HR
    go_wp2_with fail
    refine (toBundle_new _ _ _ _ (hp.to (bl1 hS1)) hn HL.out).mono ?_
    rintro e w2 ⟨g2, M2, rfl, hM2, hH2, hZ2, hN2, _, hb2⟩
    have hS2 := kp1 hS1 hb2
    have hn2 : M2.length ≤ 1048576 := by omega
    have cS := fun w1 c => ValidBundleS_any (some ⟨g2, 0, none⟩) M2 c w1
    rw [hM2, hH2, H.out] at cS
    clear hS1 hb2
    go_wp2_with fail
    refine (cS _ _ (hZ2.isat hN2) hn (fun i hi => hN2.nsz (by omega))).mono ?_
    rintro e w3 ⟨rfl, hb3⟩
    have hS3 := kp1 hS2 hb3
    clear hS2 hb3 cS hZ2 hN2 hM2 hH2 hn2
    go_wp2_with fail
    refine (toBundle_new _ _ _ _ (hp.to (bl1 hS3)) hn HL.out).mono ?_
    rintro e w4 ⟨g4, M4, rfl, hM4, hH4, hZ4, hN4, _, hb4⟩
    have hS4 := kp1 hS3 hb4
    have hI4 := hZ4.isat hN4
    have hn4 := fun i hi => hN4.nsz (i := i) hi
    have hx4 : Below w4.heap.size w4 (w4.alloc (.cells #[.slice (some ⟨g4, 0, none⟩) Ls.length Ls.length] 27)) := (Below.refl _ _).alloc (Nat.le_refl _) _
    have hS4x : (w4.alloc (.cells #[.slice (some ⟨g4, 0, none⟩) Ls.length Ls.length] 27)).cell? ⟨w4.heap.size, 0, none⟩ = some (.slice (some ⟨g4, 0, none⟩) Ls.length Ls.length) ∧ (w4.alloc (.cells #[.slice (some ⟨g4, 0, none⟩) Ls.length Ls.length] 27)).cell? ⟨w.heap.size, 0, none⟩ = some (.slice A Ls.length c) ∧ Below w.heap.size w (w4.alloc (.cells #[.slice (some ⟨g4, 0, none⟩) Ls.length Ls.length] 27)) ∧ w.heap.size ≤ (w4.alloc (.cells #[.slice (some ⟨g4, 0, none⟩) Ls.length Ls.length] 27)).heap.size := ⟨by go_simp, kp1 hS4 hx4⟩
    have hI4x := hI4.to hx4
    have cI := fun w1 c => ValidBundleI_any (some ⟨g4, 0, none⟩) M4 c w1
    rw [hM4, hH4, H.out] at cI
    rw [hM4] at hn4
    have HI := Lib.hid hI4x
    have HN := Lib.hid hn4
    have HM := Lib.hid hM4
    have HH := Lib.hid hH4
    clear hS3 hb4 hZ4 hN4 hI4 hI4x hn4 hM4 hH4 hS4 hx4
    go_wp2_with fail
    refine (cI _ _ HI.out hn HN.out).mono ?_
    rintro e w5 ⟨rfl, hb5⟩
    have hS5 := kp2 hS4x hb5
    have hI5 := HI.out.to hb5
    have HI5 := Lib.hid hI5
    generalize w4.heap.size = X at *
    clear hS4x hb5 cI HI hI5
    obtain ⟨e0, e1, b5, z5⟩ := hS5
    go_wp2
    go_region_held3 (fun wx => wx.cell? ⟨X, 0, none⟩ = some (.slice (some ⟨g4, 0, none⟩) Ls.length Ls.length) ∧ wx.cell? ⟨w.heap.size, 0, none⟩ = some (.slice A Ls.length c) ∧ Below w5.heap.size w5 wx ∧ w5.heap.size ≤ wx.heap.size)
      (first | exact kd2 (by assumption) | exact kp2 (by assumption) (by assumption) | exact ⟨e0, e1, (Below.refl _ _).drew, Nat.le_refl _⟩ | exact ⟨e0, e1, Below.refl _ _, Nat.le_refl _⟩)
      (first
        | (go_at_call 8; refine (toBundle_new _ _ _ _ (hp.to (bl_step b5 (bl2 (by assumption)) z5)) hn HL.out).mono ?_; rintro e w6 ⟨g6, M6, rfl, hM6, hH6, hZ6, hN6, _, hb6⟩)
        | (go_at_call 10; refine (eqBundle_same _ _ M4 M6 _ _ _ _ (HI5.out.to (bl2 (by assumption))) (hZ6.isat hN6) HM.out hM6 (HH.out.trans hH6.symm) hn HN.out).mono ?_; rintro e w7 ⟨rfl, hb7⟩))
    go_wp2
    go_ret
    exact ⟨rfl, bl_step b5 (bl2 (by assumption)) z5⟩
end Go.Proofs.Ytifenbamookmiaa.fnExactValidBundle
