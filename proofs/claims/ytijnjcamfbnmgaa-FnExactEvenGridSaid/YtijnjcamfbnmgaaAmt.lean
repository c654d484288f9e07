/-
  Contracts: is a number an amount; numbers between bounds.
-/
import Derived.Test.YtijnjcamfbnmgaaPts
namespace Go.Proofs.Ytijnjcamfbnmgaa
set_option linter.unusedSimpArgs false
set_option linter.unusedVariables false
open Go.ChangeShapes Go.WideShapes Go.ChangeAt Go.RowKit

theorem isAmount_any (n : Int) (w : World) :
    Calls Try.prog 105 #[.int .i64 n] w fun e w' => e = .returned (.bool (inB n 0 1000000000)) ∧ w = w' := by
  by_cases h1 : 0 ≤ n
  · by_cases h2 : n ≤ 1000000000
    · have H := Lib.hid (inB_t h1 h2)
      go_enter Try.func105, Try.ntmps105
      go_wp2
      go_ret
      exact ⟨retB (by rw [H.out]; try simp [*]), rfl⟩
    · have H := Lib.hid (inB_f (lo := 0) (n := n) (hi := 1000000000) (by omega))
      go_enter Try.func105, Try.ntmps105
      go_wp2
      go_ret
      exact ⟨retB (by rw [H.out]; try simp [*]), rfl⟩
  · have H := Lib.hid (inB_f (lo := 0) (n := n) (hi := 1000000000) (by omega))
    go_enter Try.func105, Try.ntmps105
    go_wp2
    go_ret
    exact ⟨retB (by rw [H.out]; try simp [*]), rfl⟩
theorem isItemB_any (n : Int) (w : World) :
    Calls Try.prog 152 #[.int .i64 n] w fun e w' => e = .returned (.bool (inB n (-1000000000) 1000000000)) ∧ w = w' := by
  by_cases h1 : -1000000000 ≤ n
  · by_cases h2 : n ≤ 1000000000
    · have H := Lib.hid (inB_t h1 h2)
      go_enter Try.func152, Try.ntmps152
      go_wp2
      go_ret
      exact ⟨retB (by rw [H.out]; try simp [*]), rfl⟩
    · have H := Lib.hid (inB_f (lo := -1000000000) (n := n) (hi := 1000000000) (by omega))
      go_enter Try.func152, Try.ntmps152
      go_wp2
      go_ret
      exact ⟨retB (by rw [H.out]; try simp [*]), rfl⟩
  · have H := Lib.hid (inB_f (lo := -1000000000) (n := n) (hi := 1000000000) (by omega))
    go_enter Try.func152, Try.ntmps152
    go_wp2
    go_ret
    exact ⟨retB (by rw [H.out]; try simp [*]), rfl⟩
end Go.Proofs.Ytijnjcamfbnmgaa
