/-
  Contracts: both CornersOf.
-/
import Derived.Test.YtdpamieheefhdaaHarn
namespace Go.Proofs.Ytdpamieheefhdaa
set_option linter.unusedSimpArgs false
set_option linter.unusedVariables false
open Go.ChangeShapes Go.WideShapes Go.ChangeAt Go.RowKit

def cornR (ps : List (Int × Int)) : List (Int × Int) := if isPathB ps = true then cornL ps ps.length else []
theorem cornR_le (ps : List (Int × Int)) (hl : ps.length ≤ 1048576) : (cornR ps).length ≤ 1048576 := by
  unfold cornR; split
  · exact Nat.le_trans (cornL_le ps _) hl
  · simp

end Go.Proofs.Ytdpamieheefhdaa
