/-
  Proved: for every grid and net, the program's IsNet answers as the model's and leaves the grid alone. No condition.
-/
import Derived.Test.YtijnjcamfbnmgaaNetI
namespace Go.Proofs.Ytijnjcamfbnmgaa.fnExactIsNet
set_option linter.unusedSimpArgs false
set_option linter.unusedVariables false
open Go.ChangeShapes Go.WideShapes Go.ChangeAt Go.RowKit

set_option maxRecDepth 100000 in
set_option maxHeartbeats 1600000 in
theorem walk (AA : Option Addr) (A : List SlI) (cA : Nat) (AU : Option Addr) (U : List SlI) (cU : Nat) (x y z t : Int) (w : World) (h : GrIn w AA A cA AU U cU) (_ : Fits x ∧ Fits y ∧ Fits z ∧ Fits t) :
    Calls Try.prog 9 #[.agg #[.slice AA A.length cA, .slice AU U.length cU], .agg #[.int .i64 x, .int .i64 y, .int .i64 z, .int .i64 t]] w fun e w' => e = .returned (.bool true) ∧ Below w.heap.size w w' := by
  obtain ⟨⟨hA, _, lA1, lA2⟩, hU, _, lU1, lU2⟩ := h
  have hp : GrAt w w.heap.size AA A AU U := ⟨hA, hU⟩
  have hx0 : Below w.heap.size w ((w.alloc (.cells #[.slice AA A.length cA, .slice AU U.length cU] 50)).alloc (.cells #[.int .i64 x, .int .i64 y, .int .i64 z, .int .i64 t] 64)) := by (repeat (first | assumption | exact Below.refl _ _ | (refine bl_alloc ?_ _) | (refine Below.drew ?_) | (refine bl_drewN ?_ _) | (refine bl_set ?_ (by first | (simp; done) | omega | (simp; omega)) _) | (refine bl_trans ?_ (by assumption)) | (refine bl_step ?_ (by assumption) (by first | omega | exact Below.size (by assumption) | (simp; omega) | (simp; exact Below.size (by assumption))))))
  have ka0 : Blk ((w.alloc (.cells #[.slice AA A.length cA, .slice AU U.length cU] 50)).alloc (.cells #[.int .i64 x, .int .i64 y, .int .i64 z, .int .i64 t] 64)) w.heap.size #[.slice AA A.length cA, .slice AU U.length cU] 50 := (Blk.new _ _ _).alloc _
  have kn0 : Blk ((w.alloc (.cells #[.slice AA A.length cA, .slice AU U.length cU] 50)).alloc (.cells #[.int .i64 x, .int .i64 y, .int .i64 z, .int .i64 t] 64)) (w.heap.size + 1) #[.int .i64 x, .int .i64 y, .int .i64 z, .int .i64 t] 64 := by
    have := Blk.new (w.alloc (.cells #[.slice AA A.length cA, .slice AU U.length cU] 50)) #[.int .i64 x, .int .i64 y, .int .i64 z, .int .i64 t] 64
    rwa [World.size_alloc] at this
  have csz := szGrid_any AA A cA AU U cU ((w.alloc (.cells #[.slice AA A.length cA, .slice AU U.length cU] 50)).alloc (.cells #[.int .i64 x, .int .i64 y, .int .i64 z, .int .i64 t] 64)) (hp.to hx0) (by omega) (by omega)
  have HP := Lib.hid hp
  clear hp hA hU lA1 lA2 lU1 lU2
  obtain ⟨v, hv⟩ : ∃ v, isNetB (heldI A) (heldI U) x y z t = v := ⟨_, rfl⟩
  have CS0 : ∀ (wx : World) (g1 : Nat) (M1 : List SlI) (g2 : Nat) (M2 : List SlI) (h : HeldG A U g1 M1 g2 M2 wx) (hs : GrSz A U), Calls Try.prog 43 #[.agg #[.slice (some ⟨g1, 0, none⟩) A.length A.length, .slice (some ⟨g2, 0, none⟩) U.length U.length], .agg #[.int .i64 x, .int .i64 y, .int .i64 z, .int .i64 t]] wx fun e w' => e = .returned (.bool v) ∧ Below wx.heap.size wx w' := by
    intro wx g1 M1 g2 M2 h hs
    have := IsNetS_any (some ⟨g1, 0, none⟩) M1 A.length (some ⟨g2, 0, none⟩) M2 U.length x y z t wx h.2 (h.sz hs)
    rw [h.1.2.2.1, h.1.2.2.2, hv, h.1.1, h.1.2.1] at this
    exact this
  have CI0 : ∀ (wx : World) (g1 : Nat) (M1 : List SlI) (g2 : Nat) (M2 : List SlI) (h : HeldG A U g1 M1 g2 M2 wx) (hs : GrSz A U), Calls Try.prog 45 #[.agg #[.slice (some ⟨g1, 0, none⟩) A.length A.length, .slice (some ⟨g2, 0, none⟩) U.length U.length], .agg #[.int .i64 x, .int .i64 y, .int .i64 z, .int .i64 t]] wx fun e w' => e = .returned (.bool v) ∧ Below wx.heap.size wx w' := by
    intro wx g1 M1 g2 M2 h hs
    have := IsNetI_any (some ⟨g1, 0, none⟩) M1 A.length (some ⟨g2, 0, none⟩) M2 U.length x y z t wx h.2 (h.sz hs)
    rw [h.1.2.2.1, h.1.2.2.2, hv, h.1.1, h.1.2.1] at this
    exact this
  have CS := Lib.hid CS0
  have CI := Lib.hid CI0
  clear CS0 CI0
  have HV := Lib.hid hv
  clear hv
  go_enter Try.func9, Try.ntmps9
  go_wp2_with fail
  refine csz.mono ?_
  rintro e w1 ⟨⟨r, rfl, hr1, hr2, hr3⟩, hb1⟩
  have HR := Lib.hid hr3
  clear hr3
  replace ka0 := ka0.to hb1
  replace kn0 := kn0.to hb1
  have x1 := bl_step hx0 hb1 hx0.size
  clear hb1 hx0
  by_cases hr : r < 0
  · go_wp2
    go_ret
    exact ⟨rfl, x1⟩
  have HS := Lib.hid (HR.out (by omega))
  have CT := Lib.hid (fun (wx : World) (hx : Below w.heap.size w wx) => toGrid_copy AA A cA AU U cU wx (HP.out.to hx) HS.out)
  have s0 := ka0.cell 0 (v := .slice AA A.length cA) rfl
  have s1 := ka0.cell 1 (v := .slice AU U.length cU) rfl
  have n0 := kn0.cell 0 (v := .int .i64 x) rfl
  have n1 := kn0.cell 1 (v := .int .i64 y) rfl
  have n2 := kn0.cell 2 (v := .int .i64 z) rfl
  have n3 := kn0.cell 3 (v := .int .i64 t) rfl
  have la := ka0.lt
  have ln := kn0.lt
  go_wp2_with fail
  refine wp_region_treeB (.takes [0, 2] (.alone 1 (.alone 3 (.alone 4 (.takes [5] .done))))) (by kernel_rfl) (by kernel_rfl) (by kernel_rfl) (fun _ d _ _ _ h => by cases d <;> exact h) (fun hS0 => ?_)
  refine tplan_w (v := ?_) rfl (by rfl) ?_ ?_
  rotate_left
  · intro wx hSx
    obtain ⟨hcx, hfx, hzx⟩ := bcell hSx
    go_simp
    try (with_reducible rfl)
  try simp only [Act.put, List.setIfInBounds_toArray, List.set_cons_zero, List.set_cons_succ]
  refine tplan_w (v := ?_) rfl (by rfl) ?_ ?_
  rotate_left
  · intro wx hSx
    obtain ⟨hcx, hfx, hzx⟩ := bcell hSx
    go_simp
    try (with_reducible rfl)
  try simp only [Act.put, List.setIfInBounds_toArray, List.set_cons_zero, List.set_cons_succ]
  refine tplan_b rfl (fun K hK => ?_)
  go_simp
  refine (CT.out _ (bl_step x1 hS0 x1.size)).mono ?_
  rintro e wg ⟨g1, M1, g2, M2, rfl, hH, hbg⟩
  have hS1 := belowS hS0 hbg
  refine hK _ _ ⟨hS1, ?_⟩
  clear hK K
  try simp only [Act.put, List.setIfInBounds_toArray, List.set_cons_zero, List.set_cons_succ]
  refine tplan_b rfl (fun K hK => ?_)
  go_simp
  refine ((toNet_any _ _ _ _ _)).mono ?_
  rintro e w2 ⟨rfl, hb2⟩
  have hS2 := belowS hS1 hb2
  refine hK _ _ ⟨hS2, ?_⟩
  clear hK K
  try simp only [Act.put, List.setIfInBounds_toArray, List.set_cons_zero, List.set_cons_succ]
  refine tplan_b rfl (fun K hK => ?_)
  go_simp
  refine ((CS.out _ g1 M1 g2 M2 (hH.to hb2) HS.out)).mono ?_
  rintro e w3 ⟨rfl, hb3⟩
  have hS3 := belowS hS2 hb3
  refine hK _ _ ⟨hS3, ?_⟩
  clear hK K
  try simp only [Act.put, List.setIfInBounds_toArray, List.set_cons_zero, List.set_cons_succ]
  refine tplan_w (v := ?_) rfl (by rfl) ?_ ?_
  rotate_left
  · intro wx hSx
    obtain ⟨hcx, hfx, hzx⟩ := bcell hSx
    go_simp
    try (with_reducible rfl)
  try simp only [Act.put, List.setIfInBounds_toArray, List.set_cons_zero, List.set_cons_succ]
  refine tplan_endQ ?_
  have x3 := bl_step x1 hS3 x1.size
  replace ka0 := ka0.to hS3
  replace kn0 := kn0.to hS3
  clear s0 s1 n0 n1 n2 n3 la ln hS0 hS1 hS2 hS3 hH hb2 hb3 hbg x1 CS
  have s0 := ka0.cell 0 (v := .slice AA A.length cA) rfl
  have s1 := ka0.cell 1 (v := .slice AU U.length cU) rfl
  go_wp2_with fail
  refine (CT.out _ x3).mono ?_
  rintro e w4 ⟨k1, N1, k2, N2, rfl, hN, hb4⟩
  have x4 := bl_trans x3 hb4
  replace ka0 := ka0.to hb4
  replace kn0 := kn0.to hb4
  clear hb4 s0 s1 x3
  have kb0 := Blk.new w4 #[.slice (some ⟨k1, 0, none⟩) A.length A.length, .slice (some ⟨k2, 0, none⟩) U.length U.length] 53
  have hx4 : Below w4.heap.size w4 (w4.alloc (.cells #[.slice (some ⟨k1, 0, none⟩) A.length A.length, .slice (some ⟨k2, 0, none⟩) U.length U.length] 53)) := (Below.refl _ _).alloc (Nat.le_refl _) _
  replace ka0 := ka0.to hx4
  replace kn0 := kn0.to hx4
  have hN4 := hN.to hx4
  replace x4 := bl_trans x4 hx4
  have hW4 : (w4.alloc (.cells #[.slice (some ⟨k1, 0, none⟩) A.length A.length, .slice (some ⟨k2, 0, none⟩) U.length U.length] 53)) = (w4.alloc (.cells #[.slice (some ⟨k1, 0, none⟩) A.length A.length, .slice (some ⟨k2, 0, none⟩) U.length U.length] 53)) := rfl
  clear hx4 hN
  go_wp2_with fail
  generalize (w4.alloc (.cells #[.slice (some ⟨k1, 0, none⟩) A.length A.length, .slice (some ⟨k2, 0, none⟩) U.length U.length] 53)) = w5 at *
  generalize w4.heap.size = X at *
  clear hW4
  have t0 := kb0.cell 0 (v := .slice (some ⟨k1, 0, none⟩) A.length A.length) rfl
  have t1 := kb0.cell 1 (v := .slice (some ⟨k2, 0, none⟩) U.length U.length) rfl
  have n0 := kn0.cell 0 (v := .int .i64 x) rfl
  have n1 := kn0.cell 1 (v := .int .i64 y) rfl
  have n2 := kn0.cell 2 (v := .int .i64 z) rfl
  have n3 := kn0.cell 3 (v := .int .i64 t) rfl
  have lb := kb0.lt
  have ln := kn0.lt
  refine wp_region_treeB (.takes [0, 1] (.alone 2 (.alone 3 (.takes [4] .done)))) (by kernel_rfl) (by kernel_rfl) (by kernel_rfl) (fun _ d _ _ _ h => by cases d <;> exact h) (fun hS0 => ?_)
  refine tplan_w (v := ?_) rfl (by rfl) ?_ ?_
  rotate_left
  · intro wx hSx
    obtain ⟨hcx, hfx, hzx⟩ := bcell hSx
    go_simp
    try (with_reducible rfl)
  try simp only [Act.put, List.setIfInBounds_toArray, List.set_cons_zero, List.set_cons_succ]
  refine tplan_w (v := ?_) rfl (by rfl) ?_ ?_
  rotate_left
  · intro wx hSx
    obtain ⟨hcx, hfx, hzx⟩ := bcell hSx
    go_simp
    try (with_reducible rfl)
  try simp only [Act.put, List.setIfInBounds_toArray, List.set_cons_zero, List.set_cons_succ]
  refine tplan_b rfl (fun K hK => ?_)
  go_simp
  refine ((toNet_any _ _ _ _ _)).mono ?_
  rintro e w1 ⟨rfl, hb1⟩
  have hS1 := belowS hS0 hb1
  refine hK _ _ ⟨hS1, ?_⟩
  clear hK K
  try simp only [Act.put, List.setIfInBounds_toArray, List.set_cons_zero, List.set_cons_succ]
  refine tplan_b rfl (fun K hK => ?_)
  go_simp
  refine ((CI.out _ k1 N1 k2 N2 ((hN4.to hS0).to hb1) HS.out)).mono ?_
  rintro e w2 ⟨rfl, hb2⟩
  have hS2 := belowS hS1 hb2
  refine hK _ _ ⟨hS2, ?_⟩
  clear hK K
  try simp only [Act.put, List.setIfInBounds_toArray, List.set_cons_zero, List.set_cons_succ]
  refine tplan_w (v := ?_) rfl (by rfl) ?_ ?_
  rotate_left
  · intro wx hSx
    obtain ⟨hcx, hfx, hzx⟩ := bcell hSx
    go_simp
    try (with_reducible rfl)
  try simp only [Act.put, List.setIfInBounds_toArray, List.set_cons_zero, List.set_cons_succ]
  refine tplan_endQ ?_
  have x6 := bl_step x4 hS2 x4.size
  replace ka0 := ka0.to hS2
  replace kb0 := kb0.to hS2
  have hN6 := hN4.to hS2
  clear t0 t1 n0 n1 n2 n3 lb ln hS0 hS1 hS2 hb1 hb2 x4 CI kn0 hN4
  have s0 := ka0.cell 0 (v := .slice AA A.length cA) rfl
  have s1 := ka0.cell 1 (v := .slice AU U.length cU) rfl
  have t0 := kb0.cell 0 (v := .slice (some ⟨k1, 0, none⟩) A.length A.length) rfl
  have t1 := kb0.cell 1 (v := .slice (some ⟨k2, 0, none⟩) U.length U.length) rfl
  have la := ka0.lt
  have lb := kb0.lt
  go_wp2_with fail
  refine wp_region_treeB (.takes [0, 1] (.alone 2 (.alone 3 (.takes [4] .done)))) (by kernel_rfl) (by kernel_rfl) (by kernel_rfl) (fun _ d _ _ _ h => by cases d <;> exact h) (fun hS0 => ?_)
  refine tplan_w (v := ?_) rfl (by rfl) ?_ ?_
  rotate_left
  · intro wx hSx
    obtain ⟨hcx, hfx, hzx⟩ := bcell hSx
    go_simp
    try (with_reducible rfl)
  try simp only [Act.put, List.setIfInBounds_toArray, List.set_cons_zero, List.set_cons_succ]
  refine tplan_w (v := ?_) rfl (by rfl) ?_ ?_
  rotate_left
  · intro wx hSx
    obtain ⟨hcx, hfx, hzx⟩ := bcell hSx
    go_simp
    try (with_reducible rfl)
  try simp only [Act.put, List.setIfInBounds_toArray, List.set_cons_zero, List.set_cons_succ]
  refine tplan_b rfl (fun K hK => ?_)
  go_simp
  refine (CT.out _ (bl_step x6 hS0 x6.size)).mono ?_
  rintro e w7 ⟨m1, P1, m2, P2, rfl, hP, hb7⟩
  have hS1 := belowS hS0 hb7
  refine hK _ _ ⟨hS1, ?_⟩
  clear hK K
  try simp only [Act.put, List.setIfInBounds_toArray, List.set_cons_zero, List.set_cons_succ]
  refine tplan_b rfl (fun K hK => ?_)
  go_simp
  refine ((eqGrid_same A U k1 N1 k2 N2 m1 P1 m2 P2 _ ((hN6.to hS0).to hb7) hP HS.out)).mono ?_
  rintro e w2 ⟨rfl, hb2⟩
  have hS2 := belowS hS1 hb2
  refine hK _ _ ⟨hS2, ?_⟩
  clear hK K
  try simp only [Act.put, List.setIfInBounds_toArray, List.set_cons_zero, List.set_cons_succ]
  refine tplan_w (v := ?_) rfl (by rfl) ?_ ?_
  rotate_left
  · intro wx hSx
    obtain ⟨hcx, hfx, hzx⟩ := bcell hSx
    go_simp
    try (with_reducible rfl)
  try simp only [Act.put, List.setIfInBounds_toArray, List.set_cons_zero, List.set_cons_succ]
  refine tplan_endQ ?_
  go_wp2
  go_ret
  exact ⟨rfl, bl_step x6 hS2 x6.size⟩
end Go.Proofs.Ytijnjcamfbnmgaa.fnExactIsNet
