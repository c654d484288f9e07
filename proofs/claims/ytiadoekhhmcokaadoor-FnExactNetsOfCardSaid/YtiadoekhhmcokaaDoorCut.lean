/-
  Contracts: strings.Cut at a separator of one byte.
-/
import Derived.Test.YtiadoekhhmcokaaDoorText
import Derived.Lib.CutLaws
import Derived.Laws.Strings3
import Derived.RegionTactic
namespace Go.Proofs.YtiadoekhhmcokaaDoor
set_option linter.unusedSimpArgs false
set_option linter.unusedVariables false
open Go.ChangeShapes Go.WideShapes Go.ChangeAt Go.RowKit

theorem indexByte_fact (s : ByteArray) (c : UInt8) (w : World) :
    Calls Tryd.prog 146 #[.string s, .int .u8 (c.toNat : Int)] w fun e w' => e = .returned (.int .i64 (Lib.indexByte s.data.toList c)) ∧ w' = w := by
  have hx := @run_callFunc_extern Tryd.prog 162 _ Extern.BytealgIndexByte.indexByte Tryd.func162 (by kernel_rfl) (by kernel_rfl) (by kernel_rfl) (by kernel_rfl)
  have hr := fun w => Lib.run_indexByteString (P := Tryd.prog) s (c.toNat : Int) w
  have hc : ((c.toNat : Int)).toNat.toUInt8 = c := by simp
  rw [hc] at hr
  go_enter Tryd.func146, Tryd.ntmps146
  go_wp2
  go_ret
  exact ⟨rfl, rfl⟩

theorem index1_fact (s : ByteArray) (c : UInt8) (w : World) :
    Calls Tryd.prog 133 #[.string s, .string ⟨#[c]⟩] w fun e w' => e = .returned (.int .i64 (Lib.indexByte s.data.toList c)) ∧ w' = w := by
  have h1 : ((⟨#[c]⟩ : ByteArray).size : Int) = 1 := rfl
  cases he : ([c] == s.toList)
  · go_enter Tryd.func133, Tryd.ntmps133
    go_wp2_with (go_at_call 146; refine (indexByte_fact s c _).mono ?_; rintro e w' ⟨rfl, rfl⟩)
    go_ret
    exact ⟨rfl, rfl⟩
  · have e0 : Lib.indexByte s.data.toList c = 0 := by
      have := beq_iff_eq.1 he
      rw [ByteArray.toList_eq] at this
      rw [← this]
      simp [Lib.indexByte]
    rw [e0]
    go_enter Tryd.func133, Tryd.ntmps133
    go_wp2
    go_ret
    exact ⟨rfl, rfl⟩

/-- No separator in the text. -/
theorem cut_miss (s : ByteArray) (c : UInt8) (w : World) (h : Lib.indexByte s.data.toList c = -1) :
    Calls Tryd.prog 87 #[.string s, .string ⟨#[c]⟩] w fun e w' => e = .returned (.tuple #[.string s, .string ⟨#[]⟩, .bool false]) ∧ w' = w := by
  have hi := fun w => index1_fact s c w
  rw [h] at hi
  have hc : ∀ w, Calls Tryd.prog 113 #[.string s, .string ⟨#[c]⟩] w fun e w' => e = .returned (.tuple #[.string s, .string ⟨#[]⟩, .bool false]) ∧ w' = w := by
    intro w
    go_enter Tryd.func113, Tryd.ntmps113
    go_wp2_with (go_at_call 133; refine (hi _).mono ?_; rintro e w' ⟨rfl, rfl⟩)
    go_ret3
    exact ⟨rfl, rfl⟩
  go_enter Tryd.func87, Tryd.ntmps87
  go_wp2_with (go_at_call 113; refine (hc _).mono ?_; rintro e w' ⟨rfl, rfl⟩)
  go_ret3
  exact ⟨rfl, rfl⟩

/-- The first separator stands at place i. -/
theorem cut_hit (s : ByteArray) (c : UInt8) (i : Nat) (w : World) (hs : s.size ≤ 1048576) (h : Lib.indexByte s.data.toList c = i) (hlt : i < s.size) :
    Calls Tryd.prog 87 #[.string s, .string ⟨#[c]⟩] w fun e w' => e = .returned (.tuple #[.string (s.extract 0 i), .string (s.extract (i + 1) s.size), .bool true]) ∧ Below w.heap.size w w' := by
  have hi := fun w => index1_fact s c w
  rw [h] at hi
  have h1 : ((⟨#[c]⟩ : ByteArray).size : Int) = 1 := rfl
  have hcI : (i : Int) + 1 ≤ s.size := by omega
  have hsI : (s.size : Int) ≤ 1048576 := by omega
  have hc : ∀ w, Calls Tryd.prog 113 #[.string s, .string ⟨#[c]⟩] w fun e w' => e = .returned (.tuple #[.string (s.extract 0 i), .string (s.extract (i + 1) s.size), .bool true]) ∧ Below w.heap.size w w' := by
    intro w
    go_enter Tryd.func113, Tryd.ntmps113
    go_wp2_with (go_at_call 133; refine (hi _).mono ?_; rintro e w' ⟨rfl, rfl⟩)
    go_region
    go_wp2
    go_ret3
    exact ⟨rfl, by (repeat (first | assumption | exact Below.refl _ _ | (refine bl_alloc ?_ _) | (refine Below.drew ?_) | (refine bl_drewN ?_ _) | (refine bl_set ?_ (by first | (simp; done) | omega | (simp; omega)) _) | (refine bl_trans ?_ (by assumption)) | (refine bl_step ?_ (by assumption) (by first | omega | exact Below.size (by assumption) | (simp; omega) | (simp; exact Below.size (by assumption))))))⟩
  go_enter Tryd.func87, Tryd.ntmps87
  go_wp2_with (go_at_call 113; refine (hc _).mono ?_; rintro e w' ⟨rfl, hb⟩)
  go_ret3
  exact ⟨rfl, hb⟩
end Go.Proofs.YtiadoekhhmcokaaDoor
