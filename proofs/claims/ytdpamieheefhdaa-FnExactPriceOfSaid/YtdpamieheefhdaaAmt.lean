/-
  Contracts: is a number an amount; numbers between bounds.
-/
import Derived.Test.YtdpamieheefhdaaPts
namespace Go.Proofs.Ytdpamieheefhdaa
set_option linter.unusedSimpArgs false
set_option linter.unusedVariables false
open Go.ChangeShapes Go.WideShapes Go.ChangeAt Go.RowKit

theorem isAmount_any (n : Int) (w : World) :
    Calls Try.prog 61 #[.int .i64 n] w fun e w' => e = .returned (.bool (inB n 0 1000000000)) ∧ w = w' := by
  by_cases h1 : 0 ≤ n
  · by_cases h2 : n ≤ 1000000000
    · have H := Lib.hid (inB_t h1 h2)
      go_enter Try.func61, Try.ntmps61
      go_wp2
      go_ret
      exact ⟨retB (by rw [H.out]; try simp [*]), rfl⟩
    · have H := Lib.hid (inB_f (lo := 0) (n := n) (hi := 1000000000) (by omega))
      go_enter Try.func61, Try.ntmps61
      go_wp2
      go_ret
      exact ⟨retB (by rw [H.out]; try simp [*]), rfl⟩
  · have H := Lib.hid (inB_f (lo := 0) (n := n) (hi := 1000000000) (by omega))
    go_enter Try.func61, Try.ntmps61
    go_wp2
    go_ret
    exact ⟨retB (by rw [H.out]; try simp [*]), rfl⟩
end Go.Proofs.Ytdpamieheefhdaa
