/-
  Proved: for every channel and two numbers, the program's MustBeAbove answers as the model's and leaves the channel alone (math/bits' table laid). No condition beyond the row's laid variable.
-/
import Derived.Test.YtefcfpagbjflbaaDoorMbaS
import Derived.Test.YtefcfpagbjflbaaDoorMbaI
namespace Go.Proofs.YtefcfpagbjflbaaDoor.fnExactMustBeAbove
set_option linter.unusedSimpArgs false
set_option linter.unusedVariables false
open Go.ChangeShapes Go.WideShapes Go.ChangeAt Go.RowKit

theorem mbaV_parts (T B : List Int) (x y : Int) : ∃ b, mbaV T B x y = b := ⟨_, rfl⟩
set_option maxRecDepth 100000 in
set_option maxHeartbeats 800000 in
theorem walk (A : Option Addr) (T : List Int) (c : Nat) (A' : Option Addr) (B : List Int) (c' : Nat) (x y : Int) (w : World) (h : RowIn w A T c) (h' : RowIn w A' B c') (_ : (Lit.int .i64 x).wf = true) (_ : (Lit.int .i64 y).wf = true) (hL : BruAt w) :
    Calls Tryd.prog 6 #[.agg #[.slice A T.length c, .slice A' B.length c'], .int .i64 x, .int .i64 y] w fun e w' => e = .returned (.bool true) ∧ Below w.heap.size w w' := by
  obtain ⟨hp, _, hlc, hc⟩ := h
  obtain ⟨hq, _, hlc', hc'⟩ := h'
  have hb0 : Below w.heap.size w (w.alloc (.cells #[.slice A T.length c, .slice A' B.length c'] 46)) := by (repeat (first | assumption | exact Below.refl _ _ | (refine bl_alloc ?_ _) | (refine Below.drew ?_) | (refine bl_drewN ?_ _) | (refine bl_set ?_ (by first | (simp; done) | omega | (simp; omega)) _) | (refine bl_trans ?_ (by assumption)) | (refine bl_step ?_ (by assumption) (by first | omega | exact Below.size (by assumption) | (simp; omega) | (simp; exact Below.size (by assumption))))))
  by_cases hs : T.length + B.length ≤ 1048576
  · obtain ⟨b, hv⟩ : ∃ b, mbaV T B x y = b := mbaV_parts _ _ _ _
    have H := Lib.hid hv
    have hl : T.length ≤ 1048576 := by omega
    have hl' : B.length ≤ 1048576 := by omega
    clear hv
    go_enter Tryd.func6, Tryd.ntmps6
    go_wp2_with fail
    refine (szChannel_fits _ _ _ _ _ _ _ hs).mono ?_
    rintro e w1 ⟨⟨k, hk, rfl⟩, hb1⟩
    have hkI : ¬ k < 0 := by omega
    have hca := (ChAt.new w A A' T.length B.length c c' 46).to hb1
    have b1 : Below w.heap.size w w1 := bl_step hb0 hb1 (by simp)
    have hca1 := hca
    obtain ⟨_, e0, e1⟩ := hca1
    clear hb1 hb0
    go_wp2_with fail
    refine (toChannel_new _ _ _ _ _ _ _ (hp.to b1) (hq.to b1) hl hl').mono ?_
    rintro e w2 ⟨g1, g2, rfl, hB1, hB2, hb2, hg1, hg2⟩
    have b2 := bl_step b1 hb2 b1.size
    go_wp2_with fail
    refine (MustBeAboveS_any _ _ _ _ _ _ _ _ _ hB1.nums hB2.nums).mono ?_
    rintro e w3 ⟨rfl, hb3⟩
    rw [H.out]
    have hca3 := (hca.to hb2).to hb3
    have b3 := bl_step b2 hb3 b2.size
    clear e0 e1 hca b1 hB1 hB2 hb2 hb3 b2 hg1 hg2
    have hca3' := hca3
    obtain ⟨_, e0, e1⟩ := hca3'
    go_wp2_with fail
    refine (toChannel_new _ _ _ _ _ _ _ (hp.to b3) (hq.to b3) hl hl').mono ?_
    rintro e w4 ⟨g3, g4, rfl, hB3, hB4, hb4, hg3, hg4⟩
    have b4 := bl_step b3 hb4 b3.size
    have hca4 := hca3.to hb4
    clear e0 e1 b3 hca3 hb4
    have hx4 : Below w4.heap.size w4 (w4.alloc (.cells #[.slice (some ⟨g3, 0, none⟩) T.length T.length, .slice (some ⟨g4, 0, none⟩) B.length B.length] 49)) := (Below.refl _ _).alloc (Nat.le_refl _) _
    have b4' := bl_step b4 hx4 b4.size
    have hcx := ChAt.new w4 (some ⟨g3, 0, none⟩) (some ⟨g4, 0, none⟩) T.length B.length T.length B.length 49
    have hB3' := hB3.to hx4
    have hB4' := hB4.to hx4
    have hca4' := hca4.to hx4
    clear hB3 hB4 hca4 hx4
    go_wp2_with fail
    refine (MustBeAboveI_any _ _ _ _ _ _ _ _ _ hB3'.nums hB4'.nums (hL.to b4')).mono ?_
    rintro e w5 ⟨rfl, hb5⟩
    rw [H.out]
    have b5 := bl_step b4' hb5 b4'.size
    have hB3 := hB3'.to hb5
    have hB4 := hB4'.to hb5
    have hca5 := hca4'.to hb5
    have hcx5 := hcx.to hb5
    clear hB3' hB4' hca4' hcx hb5 b4 b4' hg3 hg4
    obtain ⟨_, e0, e1⟩ := hca5
    obtain ⟨_, e2, e3⟩ := hcx5
    generalize w4.heap.size = X at *
    go_wp2
    go_region_held3 (fun wx => wx.cell? ⟨X, 0, none⟩ = some (.slice (some ⟨g3, 0, none⟩) T.length T.length) ∧ wx.cell? ⟨X, 1, none⟩ = some (.slice (some ⟨g4, 0, none⟩) B.length B.length) ∧ wx.cell? ⟨w.heap.size, 0, none⟩ = some (.slice A T.length c) ∧ wx.cell? ⟨w.heap.size, 1, none⟩ = some (.slice A' B.length c') ∧ Below w5.heap.size w5 wx ∧ w5.heap.size ≤ wx.heap.size)
      (first | exact drewE (by assumption) | exact keepE (by assumption) (by assumption) | exact ⟨e2, e3, e0, e1, (Below.refl _ _).drew, Nat.le_refl _⟩ | exact ⟨e2, e3, e0, e1, Below.refl _ _, Nat.le_refl _⟩)
      (first
        | (go_at_call 25; refine (toChannel_new _ _ _ _ _ _ _ (hp.to (bl_step b5 (fifthE (by assumption)) b5.size)) (hq.to (bl_step b5 (fifthE (by assumption)) b5.size)) hl hl').mono ?_; rintro e w6 ⟨g5, g6, rfl, hB5, hB6, hb6, _, _⟩)
        | (go_at_call 27; refine (eqChannel_same _ _ _ _ _ _ _ _ _ _ _ (hB3.nums.to (fifthE (by assumption))) (hB4.nums.to (fifthE (by assumption))) hB5.nums hB6.nums hl hl').mono ?_; rintro e w7 ⟨rfl, hb7⟩))
    go_wp2
    go_ret
    exact ⟨rfl, bl_step b5 (fifthE (by assumption)) b5.size⟩
  · have hbig : 1048576 < T.length + B.length := by omega
    go_enter Tryd.func6, Tryd.ntmps6
    go_wp2_with fail
    refine (szChannel_big _ _ _ _ _ _ _ hbig (by omega) (by omega)).mono ?_
    rintro e w1 ⟨rfl, hb1⟩
    go_wp2
    go_ret
    exact ⟨rfl, by (repeat (first | assumption | exact Below.refl _ _ | (refine bl_alloc ?_ _) | (refine Below.drew ?_) | (refine bl_drewN ?_ _) | (refine bl_set ?_ (by first | (simp; done) | omega | (simp; omega)) _) | (refine bl_trans ?_ (by assumption)) | (refine bl_step ?_ (by assumption) (by first | omega | exact Below.size (by assumption) | (simp; omega) | (simp; exact Below.size (by assumption))))))⟩
end Go.Proofs.YtefcfpagbjflbaaDoor.fnExactMustBeAbove
