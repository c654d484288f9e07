/-
  Contracts: two lists compared, as the model and as the library have it.
-/
import Derived.Test.YtdoheipnfdbioaaDoorWirP
namespace Go.Proofs.YtdoheipnfdbioaaDoor
set_option linter.unusedSimpArgs false
set_option linter.unusedVariables false
open Go.ChangeShapes Go.WideShapes Go.ChangeAt Go.RowKit

theorem isNaN_any (x : Int) (w : World) : Calls Tryd.prog 106 #[.int .i64 x] w fun e w' => e = .returned (.bool false) ∧ w = w' := by
  go_enter Tryd.func106, Tryd.ntmps106
  go_wp2
  go_ret
  exact ⟨by simp, rfl⟩
def cmpI (a b : Int) : Int := if a < b then -1 else if b < a then 1 else 0
theorem cmpCompare_any (x y : Int) (w : World) : Calls Tryd.prog 105 #[.int .i64 x, .int .i64 y] w fun e w' => e = .returned (.int .i64 (cmpI x y)) ∧ w = w' := by
  by_cases h1 : x < y
  · have H : Hid (cmpI x y = -1) := by show _ = _; unfold cmpI; rw [if_pos h1]
    go_enter Tryd.func105, Tryd.ntmps105
    go_wp2_with ((first | (go_at_call_of 106 (Value.int IntKind.i64 x)) | (go_at_call_of 106 (Value.int IntKind.i64 y))); refine (isNaN_any _ _).mono ?_; rintro e w' ⟨rfl, rfl⟩)
    go_ret
    exact ⟨retI H.out.symm, rfl⟩
  · by_cases h2 : y < x
    · have H : Hid (cmpI x y = 1) := by show _ = _; unfold cmpI; rw [if_neg h1, if_pos h2]
      go_enter Tryd.func105, Tryd.ntmps105
      go_wp2_with ((first | (go_at_call_of 106 (Value.int IntKind.i64 x)) | (go_at_call_of 106 (Value.int IntKind.i64 y))); refine (isNaN_any _ _).mono ?_; rintro e w' ⟨rfl, rfl⟩)
      go_ret
      exact ⟨retI H.out.symm, rfl⟩
    · have H : Hid (cmpI x y = 0) := by show _ = _; unfold cmpI; rw [if_neg h1, if_neg h2]
      go_enter Tryd.func105, Tryd.ntmps105
      go_wp2_with ((first | (go_at_call_of 106 (Value.int IntKind.i64 x)) | (go_at_call_of 106 (Value.int IntKind.i64 y))); refine (isNaN_any _ _).mono ?_; rintro e w' ⟨rfl, rfl⟩)
      go_ret
      exact ⟨retI H.out.symm, rfl⟩

set_option maxHeartbeats 800000 in
theorem sCompare_any (A B : Option Addr) (S T : List Int) (c d : Nat) (w : World) (hp : IntsAt w w.heap.size A S) (hq : IntsAt w w.heap.size B T) (hS : S.length ≤ 1048576) (hT : T.length ≤ 1048576) :
    Calls Tryd.prog 102 #[.slice A S.length c, .slice B T.length d] w fun e w' => e = .returned (.int .i64 (cmpL S T)) ∧ w = w' := by
  have hSI : (S.length : Int) ≤ 1048576 := by omega
  have hTI : (T.length : Int) ≤ 1048576 := by omega
  go_enter Tryd.func102, Tryd.ntmps102
  go_wp2
  go_loop [11, 30] (fun i _ => ∃ k : Nat, k ≤ S.length ∧ k ≤ T.length ∧ i = .int .i64 k ∧ Hid (∀ i, i < k → S.getD i 0 = T.getD i 0)) (fun i _ => S.length - (intOf i).toNat)
  case atStart => exact ⟨0, Nat.zero_le _, Nat.zero_le _, rfl, fun i hi => by omega⟩
  case round =>
    obtain ⟨k, hk, hk', rfl, HX⟩ := hrel
    have hk0 : (0 : Int) ≤ (k : Int) := by omega
    by_cases h1 : k < S.length
    · have h1I : (k : Int) < (S.length : Int) := by omega
      obtain ⟨b1, o1, rfl, _, hc1⟩ := hp (by omega)
      have d1 := hc1 k h1
      by_cases h2 : k < T.length
      · have h2I : ¬ (T.length : Int) ≤ (k : Int) := by omega
        have h2J : (k : Int) < (T.length : Int) := by omega
        obtain ⟨b2, o2, rfl, _, hc2⟩ := hq (by omega)
        have d2 := hc2 k h2
        have HC := Lib.hid (cmpL_at h1 h2 HX.out)
        have HN : Hid (S.getD k 0 = T.getD k 0 → ∀ i, i < k + 1 → S.getD i 0 = T.getD i 0) := fun e i hi => by
          rcases Nat.lt_or_ge i k with h | h
          · exact HX.out i h
          · obtain rfl : i = k := by omega
            exact e
        clear hc1 hc2 hp hq
        generalize S.getD k 0 = x at *
        generalize T.getD k 0 = y at *
        rcases Int.lt_trichotomy x y with h | h | h
        · have F := Lib.hid (HC.out.1 h)
          have e : cmpI x y = -1 := by unfold cmpI; rw [if_pos h]
          go_wp2_with (go_at_call 105; refine (cmpCompare_any _ _ _).mono ?_; rintro e w' ⟨rfl, rfl⟩; rw [e])
          go_ret
          exact ⟨retI F.out.symm, rfl⟩
        · have e : cmpI x y = 0 := by unfold cmpI; rw [if_neg (by omega), if_neg (by omega)]
          have HN2 := Lib.hid (HN.out h)
          clear h
          go_wp2_with (go_at_call 105; refine (cmpCompare_any _ _ _).mono ?_; rintro e w' ⟨rfl, rfl⟩; rw [e])
          go_round
          case rel => exact ⟨k + 1, by omega, by omega, by go_num, HN2.out⟩
          case measure => simp [intOf]; omega
        · have F := Lib.hid (HC.out.2 h)
          have e : cmpI x y = 1 := by unfold cmpI; rw [if_neg (by omega), if_pos h]
          go_wp2_with (go_at_call 105; refine (cmpCompare_any _ _ _).mono ?_; rintro e w' ⟨rfl, rfl⟩; rw [e])
          go_ret
          exact ⟨retI F.out.symm, rfl⟩
      · have h2I : (T.length : Int) ≤ (k : Int) := by omega
        have F : Hid (cmpL S T = 1) := by
          show _ = _
          rw [cmpL_end (fun i hi hj => HX.out i (by omega)), if_neg (by omega), if_pos (by omega)]
        clear hc1 hp hq
        generalize S.getD k 0 = x at *
        go_wp2
        go_ret
        exact ⟨retI F.out.symm, rfl⟩
    · obtain rfl : k = S.length := by omega
      have F := Lib.hid (cmpL_end (a := S) (b := T) (fun i hi hj => HX.out i (by omega)))
      by_cases h2 : S.length < T.length
      · have h2I : (S.length : Int) < (T.length : Int) := by omega
        go_wp2
        go_ret
        exact ⟨retI (by rw [F.out, if_pos h2]), rfl⟩
      · have h2I : ¬ (S.length : Int) < (T.length : Int) := by omega
        go_wp2
        go_ret
        exact ⟨retI (by rw [F.out, if_neg h2, if_neg (by omega)]), rfl⟩

set_option maxHeartbeats 800000 in
theorem l03Less_any (A B : Option Addr) (S T : List Int) (c d : Nat) (w : World) (hp : IntsAt w w.heap.size A S) (hq : IntsAt w w.heap.size B T) (hS : S.length ≤ 1048576) (hT : T.length ≤ 1048576) :
    Calls Tryd.prog 86 #[.slice A S.length c, .slice B T.length d] w fun e w' => e = .returned (.bool (decide (cmpL S T < 0))) ∧ Below w.heap.size w w' := by
  have hSI : (S.length : Int) ≤ 1048576 := by omega
  have hTI : (T.length : Int) ≤ 1048576 := by omega
  go_enter Tryd.func86, Tryd.ntmps86
  go_wp2
  go_loopw [5] (fun i wr => ∃ k : Nat, k ≤ S.length ∧ k ≤ T.length ∧ i = .int .i64 k ∧ Hid (∀ i, i < k → S.getD i 0 = T.getD i 0) ∧ Below w.heap.size w wr) (fun i _ => S.length - (intOf i).toNat)
  case atStart => exact ⟨0, Nat.zero_le _, Nat.zero_le _, rfl, fun i hi => by omega, Below.refl _ _⟩
  case round =>
    obtain ⟨k, hk, hk', rfl, HX, hb⟩ := hrel
    have hk0 : (0 : Int) ≤ (k : Int) := by omega
    by_cases h1 : k < S.length
    · have h1I : (k : Int) < (S.length : Int) := by omega
      obtain ⟨b1, o1, rfl, l1, hc1⟩ := hp (by omega)
      have d1 := (hb.cell (p := ⟨b1, o1 + k, none⟩) l1).trans (hc1 k h1)
      by_cases h2 : k < T.length
      · have h2J : (k : Int) < (T.length : Int) := by omega
        obtain ⟨b2, o2, rfl, l2, hc2⟩ := hq (by omega)
        have d2 := (hb.cell (p := ⟨b2, o2 + k, none⟩) l2).trans (hc2 k h2)
        have HC := Lib.hid (cmpL_at h1 h2 HX.out)
        have HN : Hid (S.getD k 0 = T.getD k 0 → ∀ i, i < k + 1 → S.getD i 0 = T.getD i 0) := fun e i hi => by
          rcases Nat.lt_or_ge i k with h | h
          · exact HX.out i h
          · obtain rfl : i = k := by omega
            exact e
        clear hc1 hc2 hp hq
        generalize S.getD k 0 = x at *
        generalize T.getD k 0 = y at *
        by_cases h : x = y
        · have HN2 := Lib.hid (HN.out h)
          subst h
          go_wp2
          go_quiet (fail)
          go_wp2
          go_roundw
          case rel => exact ⟨k + 1, by omega, by omega, by go_num, HN2.out, bl_drewN hb _⟩
          case measure => simp [intOf]; omega
        · have hne : (x != y) = true := by simpa using h
          have F : Hid (decide (cmpL S T < 0) = decide (x < y)) := by
            show _ = _
            rcases Int.lt_or_gt_of_ne h with h | h
            · rw [HC.out.1 h]; simp [h]
            · rw [HC.out.2 h]; simp; omega
          clear h
          go_wp2
          go_quiet (fail)
          go_wp2
          go_quiet (fail)
          go_wp2
          go_ret
          exact ⟨retB F.out.symm, by (repeat (first | assumption | exact Below.refl _ _ | (refine bl_alloc ?_ _) | (refine Below.drew ?_) | (refine bl_drewN ?_ _) | (refine bl_set ?_ (by first | (simp; done) | omega | (simp; omega)) _) | (refine bl_trans ?_ (by assumption)) | (refine bl_step ?_ (by assumption) (by first | omega | exact Below.size (by assumption) | (simp; omega) | (simp; exact Below.size (by assumption))))))⟩
      · have h2I : ¬ (k : Int) < (T.length : Int) := by omega
        have hd : decide ((k : Int) < (T.length : Int)) = false := decide_eq_false h2I
        have F : Hid (decide (cmpL S T < 0) = false) := by
          show _ = _
          rw [cmpL_end (fun i hi hj => HX.out i (by omega)), if_neg (by omega), if_pos (by omega)]; rfl
        have h3 : ¬ (S.length : Int) < (T.length : Int) := by omega
        clear hc1 hp hq
        generalize S.getD k 0 = x at *
        go_wp2
        go_ret
        exact ⟨retB (by rw [F.out]), hb⟩
    · obtain rfl : k = S.length := by omega
      have F := Lib.hid (cmpL_end (a := S) (b := T) (fun i hi hj => HX.out i (by omega)))
      by_cases h2 : S.length < T.length
      · have h2I : (S.length : Int) < (T.length : Int) := by omega
        go_wp2
        go_ret
        exact ⟨retB (by rw [F.out, if_pos h2]; simp), hb⟩
      · have h2I : ¬ (S.length : Int) < (T.length : Int) := by omega
        go_wp2
        go_ret
        exact ⟨retB (by rw [F.out, if_neg h2, if_neg (by omega)]; simp), hb⟩
end Go.Proofs.YtdoheipnfdbioaaDoor
