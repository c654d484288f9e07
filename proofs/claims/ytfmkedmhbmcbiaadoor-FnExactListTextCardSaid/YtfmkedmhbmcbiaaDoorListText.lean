/-
  Proved: for every list of numbers, the program's ListText answers as the model's and leaves the list alone. No condition beyond the row's laid tables.
-/
import Derived.Test.YtfmkedmhbmcbiaaDoorJoin
namespace Go.Proofs.YtfmkedmhbmcbiaaDoor.fnExactListText
set_option linter.unusedSimpArgs false
set_option linter.unusedVariables false
open Go.ChangeShapes Go.WideShapes Go.ChangeAt Go.RowKit

/-- What ListText answers. -/
def ltT (ns : List Int) : ByteArray := if itmsB ns = true then lstT ns else ⟨#[]⟩
def ltV (ns : List Int) : Value := .tuple #[.string (ltT ns), .bool (itmsB ns)]
theorem ltV_f {ns : List Int} (h : itmsB ns = false) : ltV ns = .tuple #[.string ⟨#[]⟩, .bool false] := by unfold ltV ltT; rw [h]; rfl
theorem ltV_t {ns : List Int} (h : itmsB ns = true) : ltV ns = .tuple #[.string (lstT ns), .bool true] := by unfold ltV ltT; rw [h]; rfl
theorem itms_split {ns : List Int} (h : itmsB ns = true) : ns.length ≤ 60 ∧ itmTo ns ns.length = true := by
  unfold itmsB at h
  rw [Bool.and_eq_true, decide_eq_true_eq] at h
  exact h

theorem ListTextS_any (A : Option Addr) (ns : List Int) (c : Nat) (w : World) (hp : IntsAt w w.heap.size A ns) (hl : ns.length ≤ 1048576) :
    Calls Tryd.prog 22 #[.slice A ns.length c] w fun e w' => e = .returned (ltV ns) ∧ Below w.heap.size w w' := by
  cases hv : itmsB ns
  · have H := Lib.hid hv
    have R := Lib.hid (ltV_f hv)
    clear hv
    go_enter Tryd.func22, Tryd.ntmps22
    go_wp2_with (go_at_call 45; refine (l01List_any _ _ _ _ hp hl).mono ?_; rintro e w' ⟨rfl, hb'⟩; rw [H.out])
    go_ret2
    exact ⟨by rw [R.out]; rfl, hb'⟩
  · have H := Lib.hid hv
    have R := Lib.hid (ltV_t hv)
    obtain ⟨h60, hi⟩ := itms_split hv
    clear hv
    go_enter Tryd.func22, Tryd.ntmps22
    go_wp2_with fail
    refine (l01List_any _ _ _ _ hp hl).mono ?_
    rintro e w1 ⟨rfl, hb1⟩
    rw [H.out]
    go_wp2_with fail
    refine (l01Text_any _ _ _ _ (hp.to hb1) h60 hi).mono ?_
    rintro e w2 ⟨rfl, hb2⟩
    have b2 := bl_trans hb1 hb2
    go_wp2
    go_ret2
    exact ⟨by rw [R.out]; rfl, b2⟩
theorem ListTextI_any (A : Option Addr) (ns : List Int) (c : Nat) (w : World) (hp : IntsAt w w.heap.size A ns) (hl : ns.length ≤ 1048576) (htab : Lib.TabIs Tryd.prog w "internal/strconv.uint64pow10" .u64 Lib.pow10Tab) :
    Calls Tryd.prog 24 #[.slice A ns.length c] w fun e w' => e = .returned (ltV ns) ∧ Below w.heap.size w w' := by
  cases hv : itmsB ns
  · have H := Lib.hid hv
    have R := Lib.hid (ltV_f hv)
    clear hv
    go_enter Tryd.func24, Tryd.ntmps24
    go_wp2_with (go_at_call 47; refine (areItems_any _ _ _ _ hp hl).mono ?_; rintro e w' ⟨rfl, hb'⟩; rw [H.out])
    go_ret2
    exact ⟨by rw [R.out]; rfl, hb'⟩
  · have H := Lib.hid hv
    have R := Lib.hid (ltV_t hv)
    obtain ⟨h60, hi⟩ := itms_split hv
    clear hv
    go_enter Tryd.func24, Tryd.ntmps24
    go_wp2_with fail
    refine (areItems_any _ _ _ _ hp hl).mono ?_
    rintro e w1 ⟨rfl, hb1⟩
    rw [H.out]
    have ht1 := Go.Joins.tab_stays fnExactDecimal.gPow htab hb1 (Nat.le_refl _)
    go_wp2_with fail
    refine (joinInts_any _ _ _ _ (hp.to hb1) h60 hi ht1).mono ?_
    rintro e w2 ⟨rfl, hb2⟩
    have b2 := bl_trans hb1 hb2
    go_wp2
    go_ret2
    exact ⟨by rw [R.out]; rfl, b2⟩

set_option maxRecDepth 100000 in
set_option maxHeartbeats 800000 in
theorem walk (A : Option Addr) (ns : List Int) (c : Nat) (w : World) (h : IntsAt w w.heap.size A ns ∧ (∀ n ∈ ns, Fits n) ∧ ns.length ≤ c ∧ c ≤ maxLen) (htab : Lib.TabIs Tryd.prog w "internal/strconv.uint64pow10" .u64 Lib.pow10Tab) :
    Calls Tryd.prog 7 #[.slice A ns.length c] w fun e w' => e = .returned (.bool true) ∧ Below w.heap.size w w' := by
  obtain ⟨hp, _, hlc, hc⟩ := h
  unfold maxLen at hc
  by_cases hl : ns.length ≤ 1048576
  · obtain ⟨s, b, hv⟩ : ∃ s b, ltV ns = .tuple #[.string s, .bool b] := ⟨_, _, rfl⟩
    have H := Lib.hid hv
    clear hv
    have hT : ¬ 1048576 < (ns.length : Int) := by omega
    go_enter Tryd.func7, Tryd.ntmps7
    go_wp2_with fail
    refine (toInt64S_new _ _ _ _ hp hl).mono ?_
    rintro e w1 ⟨g1, rfl, hB1, hb1, _⟩
    go_wp2_with fail
    refine (ListTextS_any _ _ _ _ hB1.nums hl).mono ?_
    rintro e w2 ⟨rfl, hb2⟩
    rw [H.out]
    have b2 := bl_trans hb1 hb2
    clear hB1 hb1 hb2
    go_wp2_with fail
    refine (toInt64S_new _ _ _ _ (hp.to b2) hl).mono ?_
    rintro e w3 ⟨g3, rfl, hB3, hb3, _⟩
    have b3 := bl_trans b2 hb3
    have ht3 := Go.Joins.tab_stays fnExactDecimal.gPow htab b3 (Nat.le_refl _)
    clear hb3 b2
    go_wp2_with fail
    refine (ListTextI_any _ _ _ _ hB3.nums hl ht3).mono ?_
    rintro e w4 ⟨rfl, hb4⟩
    rw [H.out]
    have b4 := bl_trans b3 hb4
    have hX := hB3.to hb4
    clear hB3 hb4 b3 ht3
    go_wp2_with fail
    refine (toInt64S_new _ _ _ _ (hp.to b4) hl).mono ?_
    rintro e w5 ⟨g5, rfl, hB5, hb5, _⟩
    have b5 := bl_trans b4 hb5
    have hX5 := hX.to hb5
    clear hX hb5 b4
    go_wp2_with fail
    refine (eqInt64S_same _ _ _ _ _ _ hX5.nums hB5.nums hl).mono ?_
    rintro e w6 ⟨rfl, hb6⟩
    have b6 := bl_trans b5 hb6
    go_wp2
    go_ret
    exact ⟨rfl, b6⟩
  · have hT : 1048576 < (ns.length : Int) := by omega
    go_enter Tryd.func7, Tryd.ntmps7
    go_wp2
    go_ret
    exact ⟨rfl, Below.refl _ _⟩
end Go.Proofs.YtfmkedmhbmcbiaaDoor.fnExactListText
