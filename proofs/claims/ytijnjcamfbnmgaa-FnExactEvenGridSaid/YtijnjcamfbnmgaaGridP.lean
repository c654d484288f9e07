/-
  Grids: what is valid, said over lists (no walk).
-/
import Derived.Test.YtijnjcamfbnmgaaMazeP
namespace Go.Proofs.Ytijnjcamfbnmgaa
set_option linter.unusedSimpArgs false
set_option linter.unusedVariables false
open Go.ChangeShapes Go.WideShapes Go.ChangeAt Go.RowKit

def roomB (L : List Int) (k : Nat) : Bool := inB (L.getD k 0) 0 20
/-- Row k has n rooms. -/
def gRowB (R : List (List Int)) (n k : Nat) : Bool := decide ((R.getD k []).length = n) && okTo (roomB (R.getD k [])) n
/-- These are h rows of n rooms. -/
def gRowsB (R : List (List Int)) (h n : Nat) : Bool := decide (R.length = h) && okTo (gRowB R n) h
/-- Is a grid valid? -/
def gvB (A U : List (List Int)) : Bool :=
  decide (0 < A.length) && (decide ((A.getD 0 []).length ≤ 7) && (decide (A.length ≤ 8) && (gRowsB A A.length (A.getD 0 []).length && gRowsB U (A.length - 1) ((A.getD 0 []).length + 1))))
theorem gvB_0 {A U : List (List Int)} (h : ¬ 0 < A.length) : gvB A U = false := by unfold gvB; rw [decide_eq_false h]; rfl
theorem gvB_w {A U : List (List Int)} (h : ¬ (A.getD 0 []).length ≤ 7) : gvB A U = false := by unfold gvB; rw [decide_eq_false h]; simp
theorem gvB_h {A U : List (List Int)} (h : ¬ A.length ≤ 8) : gvB A U = false := by unfold gvB; rw [decide_eq_false h]; simp
theorem gvB_r {A U : List (List Int)} (h1 : 0 < A.length) (h2 : (A.getD 0 []).length ≤ 7) (h3 : A.length ≤ 8) : gvB A U = (gRowsB A A.length (A.getD 0 []).length && gRowsB U (A.length - 1) ((A.getD 0 []).length + 1)) := by
  unfold gvB; rw [decide_eq_true h1, decide_eq_true h2, decide_eq_true h3]; rfl
theorem gRowsB_len {R : List (List Int)} {h n : Nat} (e : ¬ R.length = h) : gRowsB R h n = false := by unfold gRowsB; rw [decide_eq_false e]; rfl
theorem gRowsB_bad {R : List (List Int)} {h n k : Nat} (hk : k < h) (e : gRowB R n k = false) : gRowsB R h n = false := by unfold gRowsB; rw [okTo_bad hk e]; simp
theorem gRowsB_ok {R : List (List Int)} {h n : Nat} (e : R.length = h) (e2 : okTo (gRowB R n) h = true) : gRowsB R h n = true := by unfold gRowsB; rw [decide_eq_true e, e2]; rfl
/-- A cell of a grid. -/
def gcB (A : List (List Int)) (p : Int × Int) : Bool := inB p.1 0 ((A.getD 0 []).length : Int) && inB p.2 0 ((A.length : Int) - 1)
end Go.Proofs.Ytijnjcamfbnmgaa
