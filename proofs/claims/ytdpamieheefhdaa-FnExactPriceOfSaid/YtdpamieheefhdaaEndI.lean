/-
  Contracts: EndOf, as the program has it.
-/
import Derived.Test.YtdpamieheefhdaaWalkE
namespace Go.Proofs.Ytdpamieheefhdaa
set_option linter.unusedSimpArgs false
set_option linter.unusedVariables false
open Go.ChangeShapes Go.WideShapes Go.ChangeAt Go.RowKit

theorem endV_walk {M : Mz} {x y : Int} {s : ByteArray} (h : atB M x y = true) : WalkV M (x, y) s = endV M x y s := by unfold WalkV endV endQ; rw [h]; rfl
theorem endV_parts (M : Mz) (x y : Int) (s : ByteArray) : ∃ a b ok, endV M x y s = .tuple #[.agg #[.int .i64 a, .int .i64 b], .bool ok] := ⟨_, _, _, rfl⟩
end Go.Proofs.Ytdpamieheefhdaa
