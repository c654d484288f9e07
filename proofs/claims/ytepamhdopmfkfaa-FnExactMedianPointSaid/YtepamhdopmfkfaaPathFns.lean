/-
  Contracts: both IsPath, both LengthOf.
-/
import Derived.Test.YtepamhdopmfkfaaWhole
namespace Go.Proofs.Ytepamhdopmfkfaa
set_option linter.unusedSimpArgs false
set_option linter.unusedVariables false
open Go.ChangeShapes Go.WideShapes Go.ChangeAt Go.RowKit

def lenI (ps : List (Int × Int)) : Int := if isPathB ps = true then (ps.length : Int) - 1 else 0
def lenV (ps : List (Int × Int)) : Value := .tuple #[.int .i64 (lenI ps), .bool (isPathB ps)]
theorem lenV_f {ps : List (Int × Int)} (h : isPathB ps = false) : lenV ps = .tuple #[.int .i64 0, .bool false] := by simp [lenV, lenI, h]
theorem lenV_t {ps : List (Int × Int)} (h : isPathB ps = true) : lenV ps = .tuple #[.int .i64 ((ps.length : Int) - 1), .bool true] := by simp [lenV, lenI, h]
theorem pathLen {ps : List (Int × Int)} (h : isPathB ps = true) : 1 ≤ ps.length ∧ ps.length ≤ 576 := by
  unfold isPathB sizeB at h
  simp only [Bool.and_eq_true, decide_eq_true_eq] at h
  exact h.1

end Go.Proofs.Ytepamhdopmfkfaa
