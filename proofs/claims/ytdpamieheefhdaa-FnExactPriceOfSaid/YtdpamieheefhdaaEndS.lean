/-
  Contracts: EndOf, as the model has it.
-/
import Derived.Test.YtdpamieheefhdaaMazeQ
namespace Go.Proofs.Ytdpamieheefhdaa
set_option linter.unusedSimpArgs false
set_option linter.unusedVariables false
open Go.ChangeShapes Go.WideShapes Go.ChangeAt Go.RowKit

/-- Where a way ends, if it is one. -/
def endQ (M : Mz) (x y : Int) (s : ByteArray) : Option (Int × Int) := if atB M x y = true then posTo M (x, y) s s.size else none
def endP : Option (Int × Int) → Int × Int
  | none => (0, 0)
  | some q => q
def endO : Option (Int × Int) → Bool
  | none => false
  | some _ => true
def endV (M : Mz) (x y : Int) (s : ByteArray) : Value := .tuple #[ptA (endP (endQ M x y s)), .bool (endO (endQ M x y s))]
theorem endV_no {M : Mz} {x y : Int} {s : ByteArray} (h : atB M x y = false) : endV M x y s = .tuple #[.agg #[.int .i64 0, .int .i64 0], .bool false] := by
  unfold endV endQ; rw [h]; rfl
theorem endV_out {M : Mz} {x y : Int} {s : ByteArray} (h : posTo M (x, y) s s.size = none) : endV M x y s = .tuple #[.agg #[.int .i64 0, .int .i64 0], .bool false] := by
  unfold endV endQ; rw [h]; split <;> rfl
theorem endV_yes {M : Mz} {x y : Int} {s : ByteArray} {q : Int × Int} (h : atB M x y = true) (hp : posTo M (x, y) s s.size = some q) : endV M x y s = .tuple #[.agg #[.int .i64 q.1, .int .i64 q.2], .bool true] := by
  unfold endV endQ; rw [h, hp]; rfl
theorem cellsL_last {M : Mz} {p q : Int × Int} {s : ByteArray} {n : Nat} (h : posTo M p s n = some q) : (cellsL M p s n).getD n (0, 0) = q := by
  rw [cellsL_at (Nat.le_refl _)]; simp [posD, h]
theorem atB_parts {M : Mz} {x y : Int} (h : atB M x y = true) : MzOk M ∧ openB M x y = true := by
  simp only [atB, Bool.and_eq_true] at h
  exact ⟨mzOk_of h.1, h.2⟩

end Go.Proofs.Ytdpamieheefhdaa
