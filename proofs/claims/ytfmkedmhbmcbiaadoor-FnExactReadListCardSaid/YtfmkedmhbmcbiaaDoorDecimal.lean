/-
  Proved: for every 64-bit number, the program's Decimal answers as the model's (strconv's decimal text, its table laid). No condition beyond the row's laid tables.
-/
import Derived.Test.YtfmkedmhbmcbiaaDoorDec
import Derived.Test.YtfmkedmhbmcbiaaDoorSh
import Derived.Lib.LaidTab
import Derived.Lib.SmallJoins
import Derived.Lib.AppendIntMem
namespace Go.Proofs.YtfmkedmhbmcbiaaDoor.fnExactDecimal
set_option linter.unusedSimpArgs false
set_option linter.unusedVariables false
open Go.ChangeShapes Go.WideShapes Go.ChangeAt Go.RowKit

theorem gPow : Tryd.prog.globalNamed "internal/strconv.uint64pow10" = some 1 := by kernel_rfl
theorem tPow : (Tryd.prog.globals[1]?).map (·.type) = some 116 := by kernel_rfl
theorem uArr : Tryd.prog.underlying 116 = some (.array 20 88) := by kernel_rfl
theorem uU64 : Tryd.prog.underlying 88 = some (.int .u64) := by kernel_rfl

/-- The contract of impl.Decimal: strconv's text. -/
theorem decI_any (n : Int) (w : World) (h1 : -9223372036854775808 ≤ n) (h2 : n ≤ 9223372036854775807) (htab : Lib.TabIs Tryd.prog w "internal/strconv.uint64pow10" .u64 Lib.pow10Tab) :
    Calls Tryd.prog 10 #[.int .i64 n] w fun e w' => e = .returned (.string ⟨(Lib.itoa n).toArray⟩) ∧ Below w.heap.size w w' := by
  go_enter Tryd.func10, Tryd.ntmps10
  go_wp2_with (go_at_call 31; refine (Any.strconv_FormatInt_10 Tryd.laysM173 n h1 h2 _ htab).mono ?_; rintro e w' ⟨rfl, k, os, rfl⟩)
  go_ret
  exact ⟨rfl, Lib.below_grow _ _ (Nat.le_refl _) _ _⟩

/-- The contract of spec.Decimal. -/
theorem decS_any (n : Int) (w : World) (h1 : -9223372036854775808 ≤ n) (h2 : n ≤ 9223372036854775807) :
    Calls Tryd.prog 9 #[.int .i64 n] w fun e w' => e = .returned (.string ⟨(Lib.itoa n).toArray⟩) ∧ Below w.heap.size w w' := by
  go_enter Tryd.func9, Tryd.ntmps9
  go_wp2_with (go_at_call 30; refine (l01Dec_any n _ h1 h2).mono ?_; rintro e w' ⟨rfl, hb⟩)
  go_ret
  exact ⟨rfl, hb⟩

theorem walk (n : Int) (w : World) (h1 : -9223372036854775808 ≤ n) (h2 : n ≤ 9223372036854775807) (htab : Lib.TabIs Tryd.prog w "internal/strconv.uint64pow10" .u64 Lib.pow10Tab) :
    Calls Tryd.prog 3 #[.int .i64 n] w fun e w' => e = .returned (.bool true) ∧ Below w.heap.size w w' := by
  have cS := decS_any n w h1 h2
  have cI := fun w1 (hb : Below w.heap.size w w1) => decI_any n w1 h1 h2 (Go.Joins.tab_stays gPow htab hb (Nat.le_refl _))
  generalize (⟨(Lib.itoa n).toArray⟩ : ByteArray) = s at cS cI
  go_enter Tryd.func3, Tryd.ntmps3
  go_wp2_with (first
    | (go_at_call 9; refine cS.mono ?_; rintro e w' ⟨rfl, hb⟩)
    | (go_at_call 10; refine (cI _ hb).mono ?_; rintro e w'' ⟨rfl, hb2⟩))
  go_ret
  exact ⟨rfl, hb.trans (hb2.mono hb.size)⟩
end Go.Proofs.YtfmkedmhbmcbiaaDoor.fnExactDecimal
