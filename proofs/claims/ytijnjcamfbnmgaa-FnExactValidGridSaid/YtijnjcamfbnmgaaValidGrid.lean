/-
  Proved: for every grid, the program's ValidGrid answers as the model's and leaves the grid alone. No condition.
-/
import Derived.Test.YtijnjcamfbnmgaaGridL
namespace Go.Proofs.Ytijnjcamfbnmgaa.fnExactValidGrid
set_option linter.unusedSimpArgs false
set_option linter.unusedVariables false
open Go.ChangeShapes Go.WideShapes Go.ChangeAt Go.RowKit

set_option maxRecDepth 100000 in
set_option maxHeartbeats 1600000 in
theorem walk (AA : Option Addr) (A : List SlI) (cA : Nat) (AU : Option Addr) (U : List SlI) (cU : Nat) (w : World) (h : GrIn w AA A cA AU U cU) :
    Calls Try.prog 7 #[.agg #[.slice AA A.length cA, .slice AU U.length cU]] w fun e w' => e = .returned (.bool true) ∧ Below w.heap.size w w' := by
  obtain ⟨⟨hA, _, lA1, lA2⟩, hU, _, lU1, lU2⟩ := h
  have hp : GrAt w w.heap.size AA A AU U := ⟨hA, hU⟩
  have hx0 : Below w.heap.size w (w.alloc (.cells #[.slice AA A.length cA, .slice AU U.length cU] 50)) := by (repeat (first | assumption | exact Below.refl _ _ | (refine bl_alloc ?_ _) | (refine Below.drew ?_) | (refine bl_drewN ?_ _) | (refine bl_set ?_ (by first | (simp; done) | omega | (simp; omega)) _) | (refine bl_trans ?_ (by assumption)) | (refine bl_step ?_ (by assumption) (by first | omega | exact Below.size (by assumption) | (simp; omega) | (simp; exact Below.size (by assumption))))))
  have ka0 := Blk.new w #[.slice AA A.length cA, .slice AU U.length cU] 50
  have csz := szGrid_any AA A cA AU U cU (w.alloc (.cells #[.slice AA A.length cA, .slice AU U.length cU] 50)) (hp.to hx0) (by omega) (by omega)
  have HP := Lib.hid hp
  clear hp hA hU lA1 lA2 lU1 lU2
  obtain ⟨v, hv⟩ : ∃ v, gvB (heldI A) (heldI U) = v := ⟨_, rfl⟩
  have CS0 : ∀ (wx : World) (g1 : Nat) (M1 : List SlI) (g2 : Nat) (M2 : List SlI) (h : HeldG A U g1 M1 g2 M2 wx) (hs : GrSz A U), Calls Try.prog 35 #[.agg #[.slice (some ⟨g1, 0, none⟩) A.length A.length, .slice (some ⟨g2, 0, none⟩) U.length U.length]] wx fun e w' => e = .returned (.bool v) ∧ Below wx.heap.size wx w' := by
    intro wx g1 M1 g2 M2 h hs
    have := ValidGridS_any (some ⟨g1, 0, none⟩) M1 A.length (some ⟨g2, 0, none⟩) M2 U.length wx h.2 (h.sz hs)
    rw [h.1.2.2.1, h.1.2.2.2, hv, h.1.1, h.1.2.1] at this
    exact this
  have CI0 : ∀ (wx : World) (g1 : Nat) (M1 : List SlI) (g2 : Nat) (M2 : List SlI) (h : HeldG A U g1 M1 g2 M2 wx) (hs : GrSz A U), Calls Try.prog 37 #[.agg #[.slice (some ⟨g1, 0, none⟩) A.length A.length, .slice (some ⟨g2, 0, none⟩) U.length U.length]] wx fun e w' => e = .returned (.bool v) ∧ Below wx.heap.size wx w' := by
    intro wx g1 M1 g2 M2 h hs
    have := ValidGridI_any (some ⟨g1, 0, none⟩) M1 A.length (some ⟨g2, 0, none⟩) M2 U.length wx h.2 (h.sz hs)
    rw [h.1.2.2.1, h.1.2.2.2, hv, h.1.1, h.1.2.1] at this
    exact this
  have CS := Lib.hid CS0
  have CI := Lib.hid CI0
  clear CS0 CI0
  have HV := Lib.hid hv
  clear hv
  go_enter Try.func7, Try.ntmps7
  go_wp2_with fail
  refine csz.mono ?_
  rintro e w1 ⟨⟨r, rfl, hr1, hr2, hr3⟩, hb1⟩
  have HR := Lib.hid hr3
  clear hr3
  replace ka0 := ka0.to hb1
  have x1 := bl_step hx0 hb1 hx0.size
  clear hb1 hx0
  by_cases hr : r < 0
  · go_wp2
    go_ret
    exact ⟨rfl, x1⟩
  have HS := Lib.hid (HR.out (by omega))
  have CT := Lib.hid (fun (wx : World) (hx : Below w.heap.size w wx) => toGrid_copy AA A cA AU U cU wx (HP.out.to hx) HS.out)
  have s0 := ka0.cell 0 (v := .slice AA A.length cA) rfl
  have s1 := ka0.cell 1 (v := .slice AU U.length cU) rfl
  go_wp2_with fail
  refine (CT.out _ x1).mono ?_
  rintro e w2 ⟨g1, M1, g2, M2, rfl, hH, hb2⟩
  have x2 := bl_trans x1 hb2
  replace ka0 := ka0.to hb2
  clear hb2 s0 s1 x1
  go_wp2_with fail
  refine (CS.out _ g1 M1 g2 M2 hH HS.out).mono ?_
  rintro e w3 ⟨rfl, hb3⟩
  have x3 := bl_trans x2 hb3
  replace ka0 := ka0.to hb3
  clear hb3 hH x2
  have s0 := ka0.cell 0 (v := .slice AA A.length cA) rfl
  have s1 := ka0.cell 1 (v := .slice AU U.length cU) rfl
  go_wp2_with fail
  refine (CT.out _ x3).mono ?_
  rintro e w4 ⟨k1, N1, k2, N2, rfl, hN, hb4⟩
  have x4 := bl_trans x3 hb4
  replace ka0 := ka0.to hb4
  clear hb4 s0 s1 x3
  have kb0 := Blk.new w4 #[.slice (some ⟨k1, 0, none⟩) A.length A.length, .slice (some ⟨k2, 0, none⟩) U.length U.length] 53
  have hx4 : Below w4.heap.size w4 (w4.alloc (.cells #[.slice (some ⟨k1, 0, none⟩) A.length A.length, .slice (some ⟨k2, 0, none⟩) U.length U.length] 53)) := (Below.refl _ _).alloc (Nat.le_refl _) _
  replace ka0 := ka0.to hx4
  have hN4 := hN.to hx4
  replace x4 := bl_trans x4 hx4
  clear hx4 hN
  go_wp2_with fail
  generalize (w4.alloc (.cells #[.slice (some ⟨k1, 0, none⟩) A.length A.length, .slice (some ⟨k2, 0, none⟩) U.length U.length] 53)) = w5 at *
  generalize w4.heap.size = X at *
  refine (CI.out _ k1 N1 k2 N2 hN4 HS.out).mono ?_
  rintro e w6 ⟨rfl, hb6⟩
  have x6 := bl_trans x4 hb6
  replace ka0 := ka0.to hb6
  replace kb0 := kb0.to hb6
  have hN6 := hN4.to hb6
  clear hb6 x4 hN4
  have s0 := ka0.cell 0 (v := .slice AA A.length cA) rfl
  have s1 := ka0.cell 1 (v := .slice AU U.length cU) rfl
  have t0 := kb0.cell 0 (v := .slice (some ⟨k1, 0, none⟩) A.length A.length) rfl
  have t1 := kb0.cell 1 (v := .slice (some ⟨k2, 0, none⟩) U.length U.length) rfl
  have la := ka0.lt
  have lb := kb0.lt
  clear CI CS
  go_wp2_with fail
  refine wp_region_treeB (.takes [0, 1] (.alone 2 (.alone 3 (.takes [4] .done)))) (by kernel_rfl) (by kernel_rfl) (by kernel_rfl) (fun _ d _ _ _ h => by cases d <;> exact h) (fun hS0 => ?_)
  refine tplan_w (v := ?_) rfl (by rfl) ?_ ?_
  rotate_left
  · intro wx hSx
    obtain ⟨hcx, hfx, hzx⟩ := bcell hSx
    go_simp
    try (with_reducible rfl)
  try simp only [Act.put, List.setIfInBounds_toArray, List.set_cons_zero, List.set_cons_succ]
  refine tplan_w (v := ?_) rfl (by rfl) ?_ ?_
  rotate_left
  · intro wx hSx
    obtain ⟨hcx, hfx, hzx⟩ := bcell hSx
    go_simp
    try (with_reducible rfl)
  try simp only [Act.put, List.setIfInBounds_toArray, List.set_cons_zero, List.set_cons_succ]
  refine tplan_b rfl (fun K hK => ?_)
  go_simp
  refine (CT.out _ (bl_step x6 hS0 x6.size)).mono ?_
  rintro e w7 ⟨m1, P1, m2, P2, rfl, hP, hb7⟩
  have hS1 := belowS hS0 hb7
  refine hK _ _ ⟨hS1, ?_⟩
  clear hK K
  try simp only [Act.put, List.setIfInBounds_toArray, List.set_cons_zero, List.set_cons_succ]
  refine tplan_b rfl (fun K hK => ?_)
  go_simp
  refine ((eqGrid_same A U k1 N1 k2 N2 m1 P1 m2 P2 _ ((hN6.to hS0).to hb7) hP HS.out)).mono ?_
  rintro e w2 ⟨rfl, hb2⟩
  have hS2 := belowS hS1 hb2
  refine hK _ _ ⟨hS2, ?_⟩
  clear hK K
  try simp only [Act.put, List.setIfInBounds_toArray, List.set_cons_zero, List.set_cons_succ]
  refine tplan_w (v := ?_) rfl (by rfl) ?_ ?_
  rotate_left
  · intro wx hSx
    obtain ⟨hcx, hfx, hzx⟩ := bcell hSx
    go_simp
    try (with_reducible rfl)
  try simp only [Act.put, List.setIfInBounds_toArray, List.set_cons_zero, List.set_cons_succ]
  refine tplan_endQ ?_
  go_wp2
  go_ret
  exact ⟨rfl, bl_step x6 hS2 x6.size⟩
end Go.Proofs.Ytijnjcamfbnmgaa.fnExactValidGrid
