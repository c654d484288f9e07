/-
  Proved: for every press, the program's WidthOf answers as the model's and leaves the press alone. No condition.
-/
import Derived.Test.YtgpcfkegbcpkpaaPresL
import Derived.Test.YtgpcfkegbcpkpaaWidI
namespace Go.Proofs.Ytgpcfkegbcpkpaa.fnExactWidthOf
set_option linter.unusedSimpArgs false
set_option linter.unusedVariables false
open Go.ChangeShapes Go.WideShapes Go.ChangeAt Go.RowKit

set_option maxRecDepth 100000 in
set_option maxHeartbeats 1600000 in
theorem walk (n : Int) (A : Option Addr) (rs : List R3) (c : Nat) (w : World) (h : PrIn w n A rs c) :
    Calls Try.prog 9 #[.agg #[.int .i64 n, .slice A rs.length c]] w fun e w' => e = .returned (.bool true) ∧ Below w.heap.size w w' := by
  obtain ⟨_, hp, _, hl1, hl2⟩ := h
  have hx0 : Below w.heap.size w (w.alloc (.cells #[.int .i64 n, .slice A rs.length c] 24)) := by (repeat (first | assumption | exact Below.refl _ _ | (refine bl_alloc ?_ _) | (refine Below.drew ?_) | (refine bl_drewN ?_ _) | (refine bl_set ?_ (by first | (simp; done) | omega | (simp; omega)) _) | (refine bl_trans ?_ (by assumption)) | (refine bl_step ?_ (by assumption) (by first | omega | exact Below.size (by assumption) | (simp; omega) | (simp; exact Below.size (by assumption))))))
  by_cases hl : rs.length ≤ 1048576
  case neg =>
    go_enter Try.func9, Try.ntmps9
    go_wp2_with fail
    refine (szPress_big _ _ _ _ _ (by omega) (by omega)).mono ?_
    rintro e w1 ⟨rfl, hb1⟩
    go_wp2
    go_ret
    exact ⟨rfl, bl_step hx0 hb1 hx0.size⟩
  have hz : ¬ (1048576 - (rs.length : Int)) < 0 := by omega
  have ka0 := Blk.new w #[.int .i64 n, .slice A rs.length c] 24
  obtain ⟨v, hv⟩ : ∃ v, widO (lstP n rs) = v := ⟨_, rfl⟩
  obtain ⟨ok, hok⟩ : ∃ ok, (lstP n rs).isSome = ok := ⟨_, rfl⟩
  have hvv : (v != v) = false := by simp
  have hkk : (ok != ok) = false := by simp
  have CS := Lib.hid (fun (wx : World) (B : Option Addr) (h : RulAt wx wx.heap.size B rs) => by have := WidthOfS_any n B rs rs.length wx h hl; rw [hv, hok] at this; exact this)
  have CI := Lib.hid (fun (wx : World) (B : Option Addr) (h : RulAt wx wx.heap.size B rs) => by have := WidthOfI_any n B rs rs.length wx h hl; rw [hv, hok] at this; exact this)
  have CT := Lib.hid (fun (wx : World) (hx : Below w.heap.size w wx) => toPress_new n A rs c wx (hp.to hx) hl)
  clear hp hv hok hl1 hl2
  go_enter Try.func9, Try.ntmps9
  go_wp2_with fail
  refine (szPress_fits _ _ _ _ _ hl).mono ?_
  rintro e w1 ⟨rfl, hb1⟩
  replace ka0 := ka0.to hb1
  have x1 := bl_step hx0 hb1 hx0.size
  clear hb1 hx0
  have s0 := ka0.cell 0 (v := .int .i64 n) rfl
  have s1 := ka0.cell 1 (v := .slice A rs.length c) rfl
  go_wp2_with fail
  refine (CT.out _ x1).mono ?_
  rintro e w2 ⟨g1, rfl, hB, hb2, _⟩
  have x2 := bl_trans x1 hb2
  replace ka0 := ka0.to hb2
  clear hb2 s0 s1 x1
  go_wp2_with fail
  refine (CS.out _ _ hB.rec_).mono ?_
  rintro e w3 ⟨rfl, hb3⟩
  have x3 := bl_trans x2 hb3
  replace ka0 := ka0.to hb3
  clear hb3 hB x2
  have s0 := ka0.cell 0 (v := .int .i64 n) rfl
  have s1 := ka0.cell 1 (v := .slice A rs.length c) rfl
  go_wp2_with fail
  refine (CT.out _ x3).mono ?_
  rintro e w4 ⟨g2, rfl, hB, hb4, hg2⟩
  have x4 := bl_trans x3 hb4
  replace ka0 := ka0.to hb4
  clear hb4 s0 s1 x3
  have kb0 := Blk.new w4 #[.int .i64 n, .slice (some ⟨g2, 0, none⟩) rs.length rs.length] 29
  have hx4 : Below w4.heap.size w4 (w4.alloc (.cells #[.int .i64 n, .slice (some ⟨g2, 0, none⟩) rs.length rs.length] 29)) := (Below.refl _ _).alloc (Nat.le_refl _) _
  replace ka0 := ka0.to hx4
  have hB4 := hB.to hx4
  replace x4 := bl_trans x4 hx4
  clear hx4 hB
  go_wp2_with fail
  generalize (w4.alloc (.cells #[.int .i64 n, .slice (some ⟨g2, 0, none⟩) rs.length rs.length] 29)) = w5 at *
  generalize w4.heap.size = X at *
  refine (CI.out _ _ hB4.rec_).mono ?_
  rintro e w6 ⟨rfl, hb6⟩
  have x6 := bl_trans x4 hb6
  replace ka0 := ka0.to hb6
  replace kb0 := kb0.to hb6
  have hB6 := hB4.to hb6
  clear hb6 x4 hB4
  have s0 := ka0.cell 0 (v := .int .i64 n) rfl
  have s1 := ka0.cell 1 (v := .slice A rs.length c) rfl
  have t0 := kb0.cell 0 (v := .int .i64 n) rfl
  have t1 := kb0.cell 1 (v := .slice (some ⟨g2, 0, none⟩) rs.length rs.length) rfl
  have la := ka0.lt
  have lb := kb0.lt
  clear CI CS
  go_wp2_with fail
  refine wp_region_treeB (.takes [0, 1] (.alone 2 (.alone 3 (.takes [4] .done)))) (by kernel_rfl) (by kernel_rfl) (by kernel_rfl) (fun _ d _ _ _ h => by cases d <;> exact h) (fun hS0 => ?_)
  refine tplan_w (v := ?_) rfl (by rfl) ?_ ?_
  rotate_left
  · intro wx hSx
    obtain ⟨hcx, hfx, hzx⟩ := bcell hSx
    go_simp
    try (with_reducible rfl)
  try simp only [Act.put, List.setIfInBounds_toArray, List.set_cons_zero, List.set_cons_succ]
  refine tplan_w (v := ?_) rfl (by rfl) ?_ ?_
  rotate_left
  · intro wx hSx
    obtain ⟨hcx, hfx, hzx⟩ := bcell hSx
    go_simp
    try (with_reducible rfl)
  try simp only [Act.put, List.setIfInBounds_toArray, List.set_cons_zero, List.set_cons_succ]
  refine tplan_b rfl (fun K hK => ?_)
  go_simp
  refine (CT.out _ (bl_step x6 hS0 x6.size)).mono ?_
  rintro e w7 ⟨m1, rfl, hP, hb7, _⟩
  have hS1 := belowS hS0 hb7
  refine hK _ _ ⟨hS1, ?_⟩
  clear hK K
  try simp only [Act.put, List.setIfInBounds_toArray, List.set_cons_zero, List.set_cons_succ]
  refine tplan_b rfl (fun K hK => ?_)
  go_simp
  refine ((eqPress_same n _ _ rs _ _ _ ((hB6.to hS0).to hb7).rec_ hP.rec_ hl)).mono ?_
  rintro e w2 ⟨rfl, hb2⟩
  have hS2 := belowS hS1 hb2
  refine hK _ _ ⟨hS2, ?_⟩
  clear hK K
  try simp only [Act.put, List.setIfInBounds_toArray, List.set_cons_zero, List.set_cons_succ]
  refine tplan_w (v := ?_) rfl (by rfl) ?_ ?_
  rotate_left
  · intro wx hSx
    obtain ⟨hcx, hfx, hzx⟩ := bcell hSx
    go_simp
    try (with_reducible rfl)
  try simp only [Act.put, List.setIfInBounds_toArray, List.set_cons_zero, List.set_cons_succ]
  refine tplan_endQ ?_
  go_wp2
  go_ret
  exact ⟨rfl, bl_step x6 hS2 x6.size⟩
end Go.Proofs.Ytgpcfkegbcpkpaa.fnExactWidthOf
