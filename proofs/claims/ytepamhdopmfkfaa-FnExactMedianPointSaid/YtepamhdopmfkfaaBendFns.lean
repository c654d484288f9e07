/-
  Contracts: bends of a path, counted; both BendsOf.
-/
import Derived.Test.YtepamhdopmfkfaaPathFns
import Derived.RegionTactic
namespace Go.Proofs.Ytepamhdopmfkfaa
set_option linter.unusedSimpArgs false
set_option linter.unusedVariables false
open Go.ChangeShapes Go.WideShapes Go.ChangeAt Go.RowKit

/-- The list bends at i. -/
def bendB (ps : List (Int × Int)) (i : Nat) : Bool :=
  decide (0 < i) && (decide (i + 1 < ps.length) && (decide ((ps.getD (i - 1) (0, 0)).1 ≠ (ps.getD (i + 1) (0, 0)).1) && decide ((ps.getD (i - 1) (0, 0)).2 ≠ (ps.getD (i + 1) (0, 0)).2)))

def cntB (ps : List (Int × Int)) : Nat → Int
  | 0 => 0
  | k + 1 => cntB ps k + (if bendB ps k = true then 1 else 0)
theorem cntB_bd (ps : List (Int × Int)) : ∀ k : Nat, 0 ≤ cntB ps k ∧ cntB ps k ≤ k
  | 0 => ⟨Int.le_refl _, Int.le_refl _⟩
  | k + 1 => by have := cntB_bd ps k; unfold cntB; split <;> omega
def bendI (ps : List (Int × Int)) : Int := if isPathB ps = true then cntB ps ps.length else 0
def bendV (ps : List (Int × Int)) : Value := .tuple #[.int .i64 (bendI ps), .bool (isPathB ps)]
theorem bendV_f {ps : List (Int × Int)} (h : isPathB ps = false) : bendV ps = .tuple #[.int .i64 0, .bool false] := by simp [bendV, bendI, h]
theorem bendV_t {ps : List (Int × Int)} (h : isPathB ps = true) : bendV ps = .tuple #[.int .i64 (cntB ps ps.length), .bool true] := by simp [bendV, bendI, h]

end Go.Proofs.Ytepamhdopmfkfaa
