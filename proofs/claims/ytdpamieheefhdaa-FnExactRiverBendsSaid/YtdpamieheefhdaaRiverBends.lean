/-
  Proved: for all rows and numbers, the program's RiverBends answers as the model's and leaves the rows alone. No condition.
-/
import Derived.Test.YtdpamieheefhdaaRivSums
namespace Go.Proofs.Ytdpamieheefhdaa.fnExactRiverBends
set_option linter.unusedSimpArgs false
set_option linter.unusedVariables false
open Go.ChangeShapes Go.WideShapes Go.ChangeAt Go.RowKit

set_option maxRecDepth 100000 in
set_option maxHeartbeats 400000 in
theorem walk (A : Option Addr) (T : List Int) (c : Nat) (A' : Option Addr) (B : List Int) (c' : Nat) (t0 : Int) (w : World) (h : IntsAt w w.heap.size A T ∧ (∀ n ∈ T, Fits n) ∧ T.length ≤ c ∧ c ≤ maxLen) (h' : IntsAt w w.heap.size A' B ∧ (∀ n ∈ B, Fits n) ∧ B.length ≤ c' ∧ c' ≤ maxLen) (_ : (Lit.int .i64 t0).wf = true) :
    Calls Try.prog 6 #[.slice A T.length c, .slice A' B.length c', .int .i64 t0] w fun e w' => e = .returned (.bool true) ∧ Below w.heap.size w w' := by
  obtain ⟨hp, _, hlc, hc⟩ := h
  obtain ⟨hq, _, hlc', hc'⟩ := h'
  unfold maxLen at hc hc'
  by_cases hl : T.length ≤ 1048576
  · by_cases hl' : B.length ≤ 1048576
    · obtain ⟨n, b, hv⟩ := swV_parts benF T B t0
      have H := Lib.hid hv
      clear hv
      have hT : ¬ 1048576 < (T.length : Int) := by omega
      have hB : ¬ 1048576 < (B.length : Int) := by omega
      go_enter Try.func6, Try.ntmps6
      go_wp2_with fail
      refine (toInt64S_new _ _ _ _ hp hl).mono ?_
      rintro e w1 ⟨g1, rfl, hB1, hb1, _⟩
      go_wp2_with fail
      refine (toInt64S_new _ _ _ _ (hq.to hb1) hl').mono ?_
      rintro e w2 ⟨g2, rfl, hB2, hb2, _⟩
      have b2 := bl_trans hb1 hb2
      have hB1' := hB1.to hb2
      go_wp2_with fail
      refine (RiverBendsS_any _ _ _ _ _ _ _ _ hB1'.nums hB2.nums hl hl').mono ?_
      rintro e w3 ⟨rfl, hb3⟩
      rw [H.out]
      have b3 := bl_trans b2 hb3
      clear hB1 hB2 hB1' hb1 hb2 hb3 b2
      go_wp2_with fail
      refine (toInt64S_new _ _ _ _ (hp.to b3) hl).mono ?_
      rintro e w4 ⟨g4, rfl, hB4, hb4, _⟩
      have b4 := bl_trans b3 hb4
      go_wp2_with fail
      refine (toInt64S_new _ _ _ _ (hq.to b4) hl').mono ?_
      rintro e w5 ⟨g5, rfl, hB5, hb5, _⟩
      have b5 := bl_trans b4 hb5
      have hB4' := hB4.to hb5
      clear hB4 hb4 hb5 b3 b4
      go_wp2_with fail
      refine (RiverBendsI_any _ _ _ _ _ _ _ _ hB4'.nums hB5.nums hl hl' (Nat.le_refl _) (Nat.le_refl _)).mono ?_
      rintro e w6 ⟨rfl, hb6⟩
      rw [H.out]
      have b6 := bl_trans b5 hb6
      have hX := hB4'.to hb6
      have hY := hB5.to hb6
      clear hB4' hB5 hb6 b5
      go_wp2_with fail
      refine (toInt64S_new _ _ _ _ (hp.to b6) hl).mono ?_
      rintro e w7 ⟨g7, rfl, hB7, hb7, _⟩
      have b7 := bl_trans b6 hb7
      have hX7 := hX.to hb7
      have hY7 := hY.to hb7
      clear hX hY hb7 b6
      go_wp2_with fail
      refine (eqInt64S_same _ _ _ _ _ _ hX7.nums hB7.nums hl).mono ?_
      rintro e w8 ⟨rfl, hb8⟩
      have b8 := bl_trans b7 hb8
      have hY8 := hY7.to hb8
      clear hX7 hY7 hB7 hb8 b7
      go_wp2_with fail
      refine (toInt64S_new _ _ _ _ (hq.to b8) hl').mono ?_
      rintro e w9 ⟨g9, rfl, hB9, hb9, _⟩
      have b9 := bl_trans b8 hb9
      have hY9 := hY8.to hb9
      clear hY8 hb9 b8
      go_wp2_with fail
      refine (eqInt64S_same _ _ _ _ _ _ hY9.nums hB9.nums hl').mono ?_
      rintro e wx ⟨rfl, hbx⟩
      have bx := bl_trans b9 hbx
      clear hY9 hB9 hbx b9
      go_wp2
      go_ret
      exact ⟨rfl, bx⟩
    · have hT : ¬ 1048576 < (T.length : Int) := by omega
      have hB : 1048576 < (B.length : Int) := by omega
      go_enter Try.func6, Try.ntmps6
      go_wp2
      go_ret
      exact ⟨rfl, Below.refl _ _⟩
  · have hT : 1048576 < (T.length : Int) := by omega
    go_enter Try.func6, Try.ntmps6
    go_wp2
    go_ret
    exact ⟨rfl, Below.refl _ _⟩
end Go.Proofs.Ytdpamieheefhdaa.fnExactRiverBends
