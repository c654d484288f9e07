/-
  Proved: for every list of wires, the program's AreApart answers as the model's and leaves the wires alone. No condition.
-/
import Derived.Test.YtfmkedmhbmcbiaaApart
namespace Go.Proofs.Ytfmkedmhbmcbiaa.fnExactAreApart
set_option linter.unusedSimpArgs false
set_option linter.unusedVariables false
open Go.ChangeShapes Go.WideShapes Go.ChangeAt Go.RowKit

theorem held_le {Ls Ms : List Sl} (hh : held Ms = held Ls) (hL : Ms.length = Ls.length) (hl : ∀ i, i < Ls.length → (Ls.getD i sl0).2.1.length ≤ 1048576) : ∀ i, i < Ms.length → (Ms.getD i sl0).2.1.length ≤ 1048576 := by
  intro i hi
  rw [← held_at, hh, held_at]
  exact hl i (by omega)
theorem S_n (A : Option Addr) (Ls Ms : List Sl) (n c : Nat) (w : World) (hL : Ms.length = n) (hLs : Ls.length = n) (hh : held Ms = held Ls) (hp : SSAt w w.heap.size A Ms) (hn : n ≤ 1048576) (hl : ∀ i, i < Ls.length → (Ls.getD i sl0).2.1.length ≤ 1048576) :
    Calls Try.prog 62 #[.slice A n c] w fun e w' => e = .returned (.bool (apartB (held Ls))) ∧ Below w.heap.size w w' := by
  have := AreApartS_any A Ms c w hp (by omega) (held_le hh (by omega) hl)
  rwa [hL, hh] at this
theorem I_n (A : Option Addr) (Ls Ms : List Sl) (n c : Nat) (w : World) (hL : Ms.length = n) (hLs : Ls.length = n) (hh : held Ms = held Ls) (hp : SSAt w w.heap.size A Ms) (hn : n ≤ 1048576) (hl : ∀ i, i < Ls.length → (Ls.getD i sl0).2.1.length ≤ 1048576) :
    Calls Try.prog 37 #[.slice A n c] w fun e w' => e = .returned (.bool (apartB (held Ls))) ∧ Below w.heap.size w w' := by
  have := AreApartI_any A Ms c w hp (by omega) (held_le hh (by omega) hl)
  rwa [hL, hh] at this

set_option maxRecDepth 100000 in
set_option maxHeartbeats 800000 in
theorem walk (A : Option Addr) (Ls : List Sl) (c : Nat) (w : World) (h : SSAt w w.heap.size A Ls ∧ Ls.length ≤ c ∧ c ≤ maxLen) :
    Calls Try.prog 18 #[.slice A Ls.length c] w fun e w' => e = .returned (.bool true) ∧ Below w.heap.size w w' := by
  obtain ⟨hp, hlc, hc⟩ := h
  obtain ⟨B, hB⟩ : ∃ B, apartB (held Ls) = B := ⟨_, rfl⟩
  have HB := Lib.hid hB
  clear hB
  go_enter Try.func18, Try.ntmps18
  go_wp2_with fail
  refine (szPointSS_any _ _ _ _ hp (Nat.le_trans hlc hc)).mono ?_
  rintro e w1 ⟨r, rfl, rfl, hr0, hr1, hR⟩
  by_cases hneg : r < 0
  · go_wp2
    go_ret
    exact ⟨rfl, Below.refl _ _⟩
  · obtain ⟨hn, hl⟩ := hR (by omega)
    have HLL := Lib.hid hl
    clear hR hl
    go_wp2_with fail
    refine (toPointSS_new _ _ _ _ hp hn HLL.out).mono ?_
    rintro e w1 ⟨g1, M1, rfl, hL1, hM1, hS1, hb1⟩
    go_wp2_with fail
    refine (S_n _ Ls M1 _ _ _ hL1 rfl hM1 hS1 hn HLL.out).mono ?_
    rintro e w2 ⟨rfl, hb2⟩
    rw [HB.out]
    have b2 := bl_trans hb1 hb2
    clear hL1 hM1 hS1 hb1 hb2
    go_wp2_with fail
    refine (toPointSS_new _ _ _ _ (hp.to b2) hn HLL.out).mono ?_
    rintro e w3 ⟨g3, M3, rfl, hL3, hM3, hS3, hb3⟩
    have b3 := bl_trans b2 hb3
    have HL3 := Lib.hid hL3
    have HM3 := Lib.hid hM3
    clear b2 hb3 hL3 hM3
    go_wp2_with fail
    refine (I_n _ Ls M3 _ _ _ HL3.out rfl HM3.out hS3 hn HLL.out).mono ?_
    rintro e w4 ⟨rfl, hb4⟩
    rw [HB.out]
    have b4 := bl_trans b3 hb4
    have hS4 := hS3.to hb4
    clear b3 hb4 hS3
    go_wp2_with fail
    refine (toPointSS_new _ _ _ _ (hp.to b4) hn HLL.out).mono ?_
    rintro e w5 ⟨g5, M5, rfl, hL5, hM5, hS5, hb5⟩
    have b5 := bl_trans b4 hb5
    have hS45 := hS4.to hb5
    have HL5 := Lib.hid hL5
    have HM5 := Lib.hid hM5
    clear b4 hb5 hS4 hL5 hM5
    go_wp2_with fail
    refine (eqPointSS_same _ _ M3 M5 _ _ _ _ hS45 hS5 HL3.out HL5.out (by rw [HM3.out, HM5.out]) hn (fun i hi => held_le HM3.out HL3.out HLL.out i (by rw [HL3.out]; exact hi))).mono ?_
    rintro e w6 ⟨rfl, hb6⟩
    have b6 := bl_trans b5 hb6
    go_wp2
    go_ret
    exact ⟨rfl, b6⟩
end Go.Proofs.Ytfmkedmhbmcbiaa.fnExactAreApart
