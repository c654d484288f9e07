/-
  Proved: for every wiring, the program's ValidWiring answers as the model's and leaves the wiring alone. No condition.
-/
import Derived.Test.YtdoheipnfdbioaaWirL
namespace Go.Proofs.Ytdoheipnfdbioaa.fnExactValidWiring
set_option linter.unusedSimpArgs false
set_option linter.unusedVariables false
open Go.ChangeShapes Go.WideShapes Go.ChangeAt Go.RowKit

theorem ValidWiringS_any (n : Int) (AC : Option Addr) (C : List SlI) (cC : Nat) (AJ : Option Addr) (J : List SlI) (cJ : Nat) (AF : Option Addr) (F : List Int) (cF : Nat) (w : World)
    (hp : WirAt w w.heap.size AC C AJ J AF F) (hs : WirSz C J F) :
    Calls Try.prog 5 #[.agg #[.int .i64 n, .slice AC C.length cC, .slice AJ J.length cJ, .slice AF F.length cF]] w fun e w' => e = .returned (.bool (wvB n (heldI C) (heldI J) F)) ∧ Below w.heap.size w w' := by
  have hx : Below w.heap.size w (w.alloc (.cells #[.int .i64 n, .slice AC C.length cC, .slice AJ J.length cJ, .slice AF F.length cF] 28)) := by (repeat (first | assumption | exact Below.refl _ _ | (refine bl_alloc ?_ _) | (refine Below.drew ?_) | (refine bl_drewN ?_ _) | (refine bl_set ?_ (by first | (simp; done) | omega | (simp; omega)) _) | (refine bl_trans ?_ (by assumption)) | (refine bl_step ?_ (by assumption) (by first | omega | exact Below.size (by assumption) | (simp; omega) | (simp; exact Below.size (by assumption))))))
  have h1 := hp.to hx
  have cc := l07Is_any w.heap.size n AC C cC AJ J cJ AF F cF (w.alloc (.cells #[.int .i64 n, .slice AC C.length cC, .slice AJ J.length cJ, .slice AF F.length cF] 28)) (by go_simp) (by go_simp) (by go_simp) (by go_simp) h1.1 h1.2.1 h1.2.2 hs.1.1 hs.2.1.1 hs.2.2 hs.1.2 hs.2.1.2
  go_enter Try.func5, Try.ntmps5
  go_wp2_with fail
  refine cc.mono ?_
  rintro e w1 ⟨rfl, hb1⟩
  go_wp2
  go_ret
  exact ⟨rfl, bl_step hx hb1 hx.size⟩
set_option maxRecDepth 100000 in
set_option maxHeartbeats 1600000 in
theorem walk (n : Int) (AC : Option Addr) (C : List SlI) (cC : Nat) (AJ : Option Addr) (J : List SlI) (cJ : Nat) (AF : Option Addr) (F : List Int) (cF : Nat) (w : World) (h : WirIn w AC C cC AJ J cJ AF F cF n) :
    Calls Try.prog 3 #[.agg #[.int .i64 n, .slice AC C.length cC, .slice AJ J.length cJ, .slice AF F.length cF]] w fun e w' => e = .returned (.bool true) ∧ Below w.heap.size w w' := by
  obtain ⟨_, ⟨hC, _, lC1, lC2⟩, ⟨hJ, _, lJ1, lJ2⟩, hF, _, lF1, lF2⟩ := h
  have hp : WirAt w w.heap.size AC C AJ J AF F := ⟨hC, hJ, hF⟩
  have hx0 : Below w.heap.size w (w.alloc (.cells #[.int .i64 n, .slice AC C.length cC, .slice AJ J.length cJ, .slice AF F.length cF] 25)) := by (repeat (first | assumption | exact Below.refl _ _ | (refine bl_alloc ?_ _) | (refine Below.drew ?_) | (refine bl_drewN ?_ _) | (refine bl_set ?_ (by first | (simp; done) | omega | (simp; omega)) _) | (refine bl_trans ?_ (by assumption)) | (refine bl_step ?_ (by assumption) (by first | omega | exact Below.size (by assumption) | (simp; omega) | (simp; exact Below.size (by assumption))))))
  have ka0 := Blk.new w #[.int .i64 n, .slice AC C.length cC, .slice AJ J.length cJ, .slice AF F.length cF] 25
  have csz := szWiring_any n AC C cC AJ J cJ AF F cF (w.alloc (.cells #[.int .i64 n, .slice AC C.length cC, .slice AJ J.length cJ, .slice AF F.length cF] 25)) (hp.to hx0) (by omega) (by omega) (by omega)
  have HP := Lib.hid hp
  clear hp hC hJ hF lC1 lC2 lJ1 lJ2 lF1 lF2
  obtain ⟨v, hv⟩ : ∃ v, wvB n (heldI C) (heldI J) F = v := ⟨_, rfl⟩
  have CS0 : ∀ (wx : World) (g1 : Nat) (M1 : List SlI) (g2 : Nat) (M2 : List SlI) (g3 : Nat) (h : HeldW C J F g1 M1 g2 M2 g3 wx) (hs : WirSz C J F), Calls Try.prog 5 #[.agg #[.int .i64 n, .slice (some ⟨g1, 0, none⟩) M1.length M1.length, .slice (some ⟨g2, 0, none⟩) M2.length M2.length, .slice (some ⟨g3, 0, none⟩) F.length F.length]] wx fun e w' => e = .returned (.bool v) ∧ Below wx.heap.size wx w' := by
    intro wx g1 M1 g2 M2 g3 h hs
    have := ValidWiringS_any n (some ⟨g1, 0, none⟩) M1 M1.length (some ⟨g2, 0, none⟩) M2 M2.length (some ⟨g3, 0, none⟩) F F.length wx h.2 (h.sz hs)
    rw [h.1.2.2.1, h.1.2.2.2, hv] at this
    exact this
  have CI0 : ∀ (wx : World) (g1 : Nat) (M1 : List SlI) (g2 : Nat) (M2 : List SlI) (g3 : Nat) (h : HeldW C J F g1 M1 g2 M2 g3 wx) (hs : WirSz C J F), Calls Try.prog 7 #[.agg #[.int .i64 n, .slice (some ⟨g1, 0, none⟩) M1.length M1.length, .slice (some ⟨g2, 0, none⟩) M2.length M2.length, .slice (some ⟨g3, 0, none⟩) F.length F.length]] wx fun e w' => e = .returned (.bool v) ∧ Below wx.heap.size wx w' := by
    intro wx g1 M1 g2 M2 g3 h hs
    have := ValidWiringI_any n (some ⟨g1, 0, none⟩) M1 M1.length (some ⟨g2, 0, none⟩) M2 M2.length (some ⟨g3, 0, none⟩) F F.length wx h.2.1 h.2.2.1 h.2.2.2 (h.sz hs).1.1 (h.sz hs).2.1.1 (h.sz hs).2.2 (h.sz hs).1.2 (h.sz hs).2.1.2
    rw [h.1.2.2.1, h.1.2.2.2, hv] at this
    exact this
  have CS := Lib.hid CS0
  have CI := Lib.hid CI0
  clear CS0 CI0
  have HV := Lib.hid hv
  clear hv
  go_enter Try.func3, Try.ntmps3
  go_wp2_with fail
  refine csz.mono ?_
  rintro e w1 ⟨⟨r, rfl, hr1, hr2, hr3⟩, hb1⟩
  have HR := Lib.hid hr3
  clear hr3
  replace ka0 := ka0.to hb1
  have x1 := bl_step hx0 hb1 hx0.size
  clear hb1 hx0
  by_cases hr : r < 0
  · go_wp2
    go_ret
    exact ⟨rfl, x1⟩
  have HS := Lib.hid (HR.out (by omega))
  have CT := Lib.hid (fun (wx : World) (hx : Below w.heap.size w wx) => toWiring_copy n AC C cC AJ J cJ AF F cF wx (HP.out.to hx) HS.out)
  have s0 := ka0.cell 0 (v := .int .i64 n) rfl
  have s1 := ka0.cell 1 (v := .slice AC C.length cC) rfl
  have s2 := ka0.cell 2 (v := .slice AJ J.length cJ) rfl
  have s3 := ka0.cell 3 (v := .slice AF F.length cF) rfl
  go_wp2_with fail
  refine (CT.out _ x1).mono ?_
  rintro e w2 ⟨g1, M1, g2, M2, g3, rfl, hH, hb2⟩
  have x2 := bl_trans x1 hb2
  replace ka0 := ka0.to hb2
  clear hb2 s0 s1 s2 s3 x1
  go_wp2_with fail
  refine (CS.out _ g1 M1 g2 M2 g3 hH HS.out).mono ?_
  rintro e w3 ⟨rfl, hb3⟩
  have x3 := bl_trans x2 hb3
  replace ka0 := ka0.to hb3
  clear hb3 hH x2
  have s0 := ka0.cell 0 (v := .int .i64 n) rfl
  have s1 := ka0.cell 1 (v := .slice AC C.length cC) rfl
  have s2 := ka0.cell 2 (v := .slice AJ J.length cJ) rfl
  have s3 := ka0.cell 3 (v := .slice AF F.length cF) rfl
  go_wp2_with fail
  refine (CT.out _ x3).mono ?_
  rintro e w4 ⟨k1, N1, k2, N2, k3, rfl, hN, hb4⟩
  have x4 := bl_trans x3 hb4
  replace ka0 := ka0.to hb4
  clear hb4 s0 s1 s2 s3 x3
  have kb0 := Blk.new w4 #[.int .i64 n, .slice (some ⟨k1, 0, none⟩) N1.length N1.length, .slice (some ⟨k2, 0, none⟩) N2.length N2.length, .slice (some ⟨k3, 0, none⟩) F.length F.length] 28
  have hx4 : Below w4.heap.size w4 (w4.alloc (.cells #[.int .i64 n, .slice (some ⟨k1, 0, none⟩) N1.length N1.length, .slice (some ⟨k2, 0, none⟩) N2.length N2.length, .slice (some ⟨k3, 0, none⟩) F.length F.length] 28)) := (Below.refl _ _).alloc (Nat.le_refl _) _
  replace ka0 := ka0.to hx4
  have hN4 := hN.to hx4
  replace x4 := bl_trans x4 hx4
  clear hx4 hN
  have hB : w4.heap.size = w4.heap.size := rfl
  go_wp2_with fail
  generalize (w4.alloc (.cells #[.int .i64 n, .slice (some ⟨k1, 0, none⟩) N1.length N1.length, .slice (some ⟨k2, 0, none⟩) N2.length N2.length, .slice (some ⟨k3, 0, none⟩) F.length F.length] 28)) = w5 at *
  generalize w4.heap.size = X at *
  refine (CI.out _ k1 N1 k2 N2 k3 hN4 HS.out).mono ?_
  rintro e w6 ⟨rfl, hb6⟩
  have x6 := bl_trans x4 hb6
  replace ka0 := ka0.to hb6
  replace kb0 := kb0.to hb6
  have hN6 := hN4.to hb6
  clear hb6 x4 hB hN4
  have s0 := ka0.cell 0 (v := .int .i64 n) rfl
  have s1 := ka0.cell 1 (v := .slice AC C.length cC) rfl
  have s2 := ka0.cell 2 (v := .slice AJ J.length cJ) rfl
  have s3 := ka0.cell 3 (v := .slice AF F.length cF) rfl
  have t0 := kb0.cell 0 (v := .int .i64 n) rfl
  have t1 := kb0.cell 1 (v := .slice (some ⟨k1, 0, none⟩) N1.length N1.length) rfl
  have t2 := kb0.cell 2 (v := .slice (some ⟨k2, 0, none⟩) N2.length N2.length) rfl
  have t3 := kb0.cell 3 (v := .slice (some ⟨k3, 0, none⟩) F.length F.length) rfl
  have la := ka0.lt
  have lb := kb0.lt
  clear CI CS
  go_wp2_with fail
  refine wp_region_treeB (.takes [0, 1] (.alone 2 (.alone 3 (.takes [4] .done)))) (by kernel_rfl) (by kernel_rfl) (by kernel_rfl) (fun _ d _ _ _ h => by cases d <;> exact h) (fun hS0 => ?_)
  refine tplan_w (v := ?_) rfl (by rfl) ?_ ?_
  rotate_left
  · intro wx hSx
    obtain ⟨hcx, hfx, hzx⟩ := bcell hSx
    go_simp
    try (with_reducible rfl)
  try simp only [Act.put, List.setIfInBounds_toArray, List.set_cons_zero, List.set_cons_succ]
  refine tplan_w (v := ?_) rfl (by rfl) ?_ ?_
  rotate_left
  · intro wx hSx
    obtain ⟨hcx, hfx, hzx⟩ := bcell hSx
    go_simp
    try (with_reducible rfl)
  try simp only [Act.put, List.setIfInBounds_toArray, List.set_cons_zero, List.set_cons_succ]
  refine tplan_b rfl (fun K hK => ?_)
  go_simp
  refine (CT.out _ (bl_step x6 hS0 x6.size)).mono ?_
  rintro e w7 ⟨m1, P1, m2, P2, m3, rfl, hP, hb7⟩
  have hS1 := belowS hS0 hb7
  refine hK _ _ ⟨hS1, ?_⟩
  clear hK K
  try simp only [Act.put, List.setIfInBounds_toArray, List.set_cons_zero, List.set_cons_succ]
  refine tplan_b rfl (fun K hK => ?_)
  go_simp
  refine ((eqWiring_same n C J F k1 N1 k2 N2 k3 m1 P1 m2 P2 m3 _ ((hN6.to hS0).to hb7) hP HS.out)).mono ?_
  rintro e w2 ⟨rfl, hb2⟩
  have hS2 := belowS hS1 hb2
  refine hK _ _ ⟨hS2, ?_⟩
  clear hK K
  try simp only [Act.put, List.setIfInBounds_toArray, List.set_cons_zero, List.set_cons_succ]
  refine tplan_w (v := ?_) rfl (by rfl) ?_ ?_
  rotate_left
  · intro wx hSx
    obtain ⟨hcx, hfx, hzx⟩ := bcell hSx
    go_simp
    try (with_reducible rfl)
  try simp only [Act.put, List.setIfInBounds_toArray, List.set_cons_zero, List.set_cons_succ]
  refine tplan_endQ ?_
  go_wp2
  go_ret
  exact ⟨rfl, bl_step x6 hS2 x6.size⟩
end Go.Proofs.Ytdoheipnfdbioaa.fnExactValidWiring
