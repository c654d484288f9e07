/-
  Proved: for every press and all places, the program's IsPlaced answers as the model's and leaves both alone. No condition.
-/
import Derived.Test.YtgpcfkegbcpkpaaPresL
import Derived.Test.YtgpcfkegbcpkpaaPlac
namespace Go.Proofs.Ytgpcfkegbcpkpaa.fnExactIsPlaced
set_option linter.unusedSimpArgs false
set_option linter.unusedVariables false
open Go.ChangeShapes Go.WideShapes Go.ChangeAt Go.RowKit

set_option maxRecDepth 100000 in
set_option maxHeartbeats 1600000 in
theorem walk (n : Int) (A : Option Addr) (rs : List R3) (c : Nat) (B : Option Addr) (ps : List Int) (d : Nat) (w : World) (h : PrIn w n A rs c) (h2 : IntsAt w w.heap.size B ps ∧ (∀ n ∈ ps, Fits n) ∧ ps.length ≤ d ∧ d ≤ maxLen) :
    Calls Try.prog 4 #[.agg #[.int .i64 n, .slice A rs.length c], .slice B ps.length d] w fun e w' => e = .returned (.bool true) ∧ Below w.heap.size w w' := by
  obtain ⟨_, hp, _, hl1, hl2⟩ := h
  obtain ⟨hq, _, hd1, hd2⟩ := h2
  have hx0 : Below w.heap.size w (w.alloc (.cells #[.int .i64 n, .slice A rs.length c] 24)) := by (repeat (first | assumption | exact Below.refl _ _ | (refine bl_alloc ?_ _) | (refine Below.drew ?_) | (refine bl_drewN ?_ _) | (refine bl_set ?_ (by first | (simp; done) | omega | (simp; omega)) _) | (refine bl_trans ?_ (by assumption)) | (refine bl_step ?_ (by assumption) (by first | omega | exact Below.size (by assumption) | (simp; omega) | (simp; exact Below.size (by assumption))))))
  by_cases hm : ps.length ≤ 1048576
  case neg =>
    have hmI : 1048576 < (ps.length : Int) := by omega
    go_enter Try.func4, Try.ntmps4
    go_wp2
    go_ret
    exact ⟨rfl, hx0⟩
  have hmI : (ps.length : Int) ≤ 1048576 := by omega
  by_cases hl : rs.length ≤ 1048576
  case neg =>
    go_enter Try.func4, Try.ntmps4
    go_wp2_with fail
    refine (szPress_big _ _ _ _ _ (by omega) (by omega)).mono ?_
    rintro e w1 ⟨rfl, hb1⟩
    go_wp2
    go_ret
    exact ⟨rfl, bl_step hx0 hb1 hx0.size⟩
  have hz : ¬ (1048576 - (rs.length : Int)) < 0 := by omega
  have ka0 := Blk.new w #[.int .i64 n, .slice A rs.length c] 24
  obtain ⟨v, hv⟩ : ∃ v, isPl n rs ps = v := ⟨_, rfl⟩
  have CS := Lib.hid (fun (wx : World) (A B : Option Addr) (h : RulAt wx wx.heap.size A rs) (k : IntsAt wx wx.heap.size B ps) => by have := IsPlacedS_any n A rs rs.length B ps ps.length wx h k hl hm; rw [hv] at this; exact this)
  have CI := Lib.hid (fun (wx : World) (A B : Option Addr) (h : RulAt wx wx.heap.size A rs) (k : IntsAt wx wx.heap.size B ps) => by have := IsPlacedI_any n A rs rs.length B ps ps.length wx h k hl hm; rw [hv] at this; exact this)
  have CT := Lib.hid (fun (wx : World) (hx : Below w.heap.size w wx) => toPress_new n A rs c wx (hp.to hx) hl)
  have CN := Lib.hid (fun (wx : World) (hx : Below w.heap.size w wx) => toInt64S_new B ps d wx (hq.to hx) hm)
  have CE := Lib.hid (fun (wx : World) (A B : Option Addr) (h : IntsAt wx wx.heap.size A ps) (k : IntsAt wx wx.heap.size B ps) => eqInt64S_same A B ps ps.length ps.length wx h k hm)
  clear hp hq hv hl1 hl2 hd1 hd2
  go_enter Try.func4, Try.ntmps4
  go_wp2_with fail
  refine (szPress_fits _ _ _ _ _ hl).mono ?_
  rintro e w1 ⟨rfl, hb1⟩
  replace ka0 := ka0.to hb1
  have x1 := bl_step hx0 hb1 hx0.size
  clear hb1 hx0
  have s0 := ka0.cell 0 (v := .int .i64 n) rfl
  have s1 := ka0.cell 1 (v := .slice A rs.length c) rfl
  go_wp2_with fail
  refine (CT.out _ x1).mono ?_
  rintro e w2 ⟨g1, rfl, hB, hb2, _⟩
  have x2 := bl_trans x1 hb2
  replace ka0 := ka0.to hb2
  clear hb2 s0 s1 x1
  go_wp2_with fail
  refine (CN.out _ x2).mono ?_
  rintro e w3 ⟨g2, rfl, hN, hb3, _⟩
  have x3 := bl_trans x2 hb3
  replace ka0 := ka0.to hb3
  replace hB := hB.to hb3
  clear hb3 x2
  go_wp2_with fail
  refine (CS.out _ _ _ hB.rec_ hN.nums).mono ?_
  rintro e w4 ⟨rfl, hb4⟩
  have x4 := bl_trans x3 hb4
  replace ka0 := ka0.to hb4
  clear hb4 hB hN x3
  have s0 := ka0.cell 0 (v := .int .i64 n) rfl
  have s1 := ka0.cell 1 (v := .slice A rs.length c) rfl
  go_wp2_with fail
  refine (CT.out _ x4).mono ?_
  rintro e w5 ⟨g3, rfl, hB, hb5, hg3⟩
  have x5 := bl_trans x4 hb5
  replace ka0 := ka0.to hb5
  clear hb5 s0 s1 x4
  have kb0 := Blk.new w5 #[.int .i64 n, .slice (some ⟨g3, 0, none⟩) rs.length rs.length] 29
  have hx5 : Below w5.heap.size w5 (w5.alloc (.cells #[.int .i64 n, .slice (some ⟨g3, 0, none⟩) rs.length rs.length] 29)) := (Below.refl _ _).alloc (Nat.le_refl _) _
  replace ka0 := ka0.to hx5
  replace hB := hB.to hx5
  replace x5 := bl_trans x5 hx5
  clear hx5
  go_wp2_with fail
  generalize (w5.alloc (.cells #[.int .i64 n, .slice (some ⟨g3, 0, none⟩) rs.length rs.length] 29)) = w6 at *
  generalize w5.heap.size = X at *
  refine (CN.out _ x5).mono ?_
  rintro e w7 ⟨g4, rfl, hN, hb7, _⟩
  have x7 := bl_trans x5 hb7
  replace ka0 := ka0.to hb7
  replace kb0 := kb0.to hb7
  replace hB := hB.to hb7
  clear hb7 x5
  have t0 := kb0.cell 0 (v := .int .i64 n) rfl
  have t1 := kb0.cell 1 (v := .slice (some ⟨g3, 0, none⟩) rs.length rs.length) rfl
  go_wp2_with fail
  refine (CI.out _ _ _ hB.rec_ hN.nums).mono ?_
  rintro e w8 ⟨rfl, hb8⟩
  have x8 := bl_trans x7 hb8
  replace ka0 := ka0.to hb8
  replace kb0 := kb0.to hb8
  replace hB := hB.to hb8
  replace hN := hN.to hb8
  clear hb8 x7 t0 t1
  have s0 := ka0.cell 0 (v := .int .i64 n) rfl
  have s1 := ka0.cell 1 (v := .slice A rs.length c) rfl
  have t0 := kb0.cell 0 (v := .int .i64 n) rfl
  have t1 := kb0.cell 1 (v := .slice (some ⟨g3, 0, none⟩) rs.length rs.length) rfl
  have la := ka0.lt
  have lb := kb0.lt
  clear CI CS
  go_wp2_with fail
  refine wp_region_treeB (.takes [0, 1] (.alone 2 (.alone 3 (.takes [4] .done)))) (by kernel_rfl) (by kernel_rfl) (by kernel_rfl) (fun _ d _ _ _ h => by cases d <;> exact h) (fun hS0 => ?_)
  refine tplan_w (v := ?_) rfl (by rfl) ?_ ?_
  rotate_left
  · intro wx hSx
    obtain ⟨hcx, hfx, hzx⟩ := bcell hSx
    go_simp
    try (with_reducible rfl)
  try simp only [Act.put, List.setIfInBounds_toArray, List.set_cons_zero, List.set_cons_succ]
  refine tplan_w (v := ?_) rfl (by rfl) ?_ ?_
  rotate_left
  · intro wx hSx
    obtain ⟨hcx, hfx, hzx⟩ := bcell hSx
    go_simp
    try (with_reducible rfl)
  try simp only [Act.put, List.setIfInBounds_toArray, List.set_cons_zero, List.set_cons_succ]
  refine tplan_b rfl (fun K hK => ?_)
  go_simp
  refine (CT.out _ (bl_step x8 hS0 x8.size)).mono ?_
  rintro e w9 ⟨m1, rfl, hP, hb9, _⟩
  have hS1 := belowS hS0 hb9
  refine hK _ _ ⟨hS1, ?_⟩
  clear hK K
  try simp only [Act.put, List.setIfInBounds_toArray, List.set_cons_zero, List.set_cons_succ]
  refine tplan_b rfl (fun K hK => ?_)
  go_simp
  refine ((eqPress_same n _ _ rs _ _ _ ((hB.to hS0).to hb9).rec_ hP.rec_ hl)).mono ?_
  rintro e w2 ⟨rfl, hb2⟩
  have hS2 := belowS hS1 hb2
  refine hK _ _ ⟨hS2, ?_⟩
  clear hK K
  try simp only [Act.put, List.setIfInBounds_toArray, List.set_cons_zero, List.set_cons_succ]
  refine tplan_w (v := ?_) rfl (by rfl) ?_ ?_
  rotate_left
  · intro wx hSx
    obtain ⟨hcx, hfx, hzx⟩ := bcell hSx
    go_simp
    try (with_reducible rfl)
  try simp only [Act.put, List.setIfInBounds_toArray, List.set_cons_zero, List.set_cons_succ]
  refine tplan_endQ ?_
  have y2 := bl_step x8 hS2 x8.size
  replace hN := hN.to hS2
  clear hB hP s0 s1 t0 t1
  go_wp2_with fail
  refine (CN.out _ y2).mono ?_
  rintro e w10 ⟨m2, rfl, hQ, hb10, _⟩
  go_wp2_with fail
  refine (CE.out _ _ _ (hN.to hb10).nums hQ.nums).mono ?_
  rintro e w11 ⟨rfl, hb11⟩
  go_wp2
  go_ret
  exact ⟨rfl, bl_trans (bl_trans y2 hb10) hb11⟩
end Go.Proofs.Ytgpcfkegbcpkpaa.fnExactIsPlaced
