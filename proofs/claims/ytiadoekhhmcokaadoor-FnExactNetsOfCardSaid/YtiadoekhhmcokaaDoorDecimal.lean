/-
  Proved: for every 64-bit number, the program's Decimal answers as the model's (strconv's decimal text, its table laid). No condition beyond the row's laid tables.
-/
import Derived.Test.YtiadoekhhmcokaaDoorDec
import Derived.Test.YtiadoekhhmcokaaDoorSh
import Derived.Lib.LaidTab
import Derived.Lib.SmallJoins
import Derived.Lib.AppendIntMem
namespace Go.Proofs.YtiadoekhhmcokaaDoor.fnExactDecimal
set_option linter.unusedSimpArgs false
set_option linter.unusedVariables false
open Go.ChangeShapes Go.WideShapes Go.ChangeAt Go.RowKit

theorem gPow : Tryd.prog.globalNamed "internal/strconv.uint64pow10" = some 3 := by kernel_rfl
theorem tPow : (Tryd.prog.globals[3]?).map (·.type) = some 218 := by kernel_rfl
theorem uArr : Tryd.prog.underlying 218 = some (.array 20 78) := by kernel_rfl
theorem uU64 : Tryd.prog.underlying 78 = some (.int .u64) := by kernel_rfl

/-- The contract of impl.Decimal: strconv's text. -/
theorem decI_any (n : Int) (w : World) (h1 : -9223372036854775808 ≤ n) (h2 : n ≤ 9223372036854775807) (htab : Lib.TabIs Tryd.prog w "internal/strconv.uint64pow10" .u64 Lib.pow10Tab) :
    Calls Tryd.prog 85 #[.int .i64 n] w fun e w' => e = .returned (.string ⟨(Lib.itoa n).toArray⟩) ∧ Below w.heap.size w w' := by
  go_enter Tryd.func85, Tryd.ntmps85
  go_wp2_with (go_at_call 111; refine (Any.strconv_FormatInt_10 Tryd.laysM173 n h1 h2 _ htab).mono ?_; rintro e w' ⟨rfl, k, os, rfl⟩)
  go_ret
  exact ⟨rfl, Lib.below_grow _ _ (Nat.le_refl _) _ _⟩

end Go.Proofs.YtiadoekhhmcokaaDoor.fnExactDecimal
