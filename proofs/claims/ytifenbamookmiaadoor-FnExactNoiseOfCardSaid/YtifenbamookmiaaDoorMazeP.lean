/-
  Mazes: what is valid, said over lists (no walk).
-/
import Derived.Test.YtifenbamookmiaaDoorIS
namespace Go.Proofs.YtifenbamookmiaaDoor
set_option linter.unusedSimpArgs false
set_option linter.unusedVariables false
open Go.ChangeShapes Go.WideShapes Go.ChangeAt Go.RowKit

/-- The first k all hold. -/
def okTo (f : Nat → Bool) : Nat → Bool
  | 0 => true
  | k + 1 => okTo f k && f k
theorem okTo_iff {f : Nat → Bool} {n : Nat} : okTo f n = true ↔ ∀ i, i < n → f i = true := by
  induction n with
  | zero => simp [okTo]
  | succ n ih =>
    simp only [okTo, Bool.and_eq_true, ih]
    constructor
    · intro ⟨h1, h2⟩ i hi
      by_cases e : i = n
      · subst e; exact h2
      · exact h1 i (by omega)
    · intro h; exact ⟨fun i hi => h i (by omega), h n (by omega)⟩
theorem okTo_bad {f : Nat → Bool} {k n : Nat} (hk : k < n) (h : f k = false) : okTo f n = false := by
  cases e : okTo f n
  · rfl
  · have := okTo_iff.1 e k hk; rw [h] at this; cases this
theorem okTo_next {f : Nat → Bool} {k : Nat} (h : okTo f k = true) (hk : f k = true) : okTo f (k + 1) = true := by simp [okTo, h, hk]
theorem okTo_congr {f g : Nat → Bool} {n : Nat} (h : ∀ i, i < n → f i = g i) : okTo f n = okTo g n := by
  induction n with
  | zero => rfl
  | succ n ih => simp only [okTo]; rw [ih (fun i hi => h i (by omega)), h n (by omega)]

abbrev Mz := List (List Int)
def wid (M : Mz) : Nat := (M.getD 0 []).length
def cellOk (r : List Int) (x : Nat) : Bool := inB (r.getD x 0) 0 9
def cellsOk (r : List Int) : Bool := okTo (cellOk r) r.length
def rowOk (M : Mz) (y : Nat) : Bool := decide ((M.getD y []).length = wid M) && cellsOk (M.getD y [])
/-- Is a maze valid? -/
def mzB (M : Mz) : Bool := inB (M.length : Int) 1 12 && (inB (wid M : Int) 1 12 && okTo (rowOk M) M.length)
theorem mzB_f1 {M : Mz} (h : inB (M.length : Int) 1 12 = false) : mzB M = false := by unfold mzB; rw [h]; rfl
theorem mzB_f2 {M : Mz} (h : inB (wid M : Int) 1 12 = false) : mzB M = false := by unfold mzB; rw [h]; simp
theorem mzB_f3 {M : Mz} {y : Nat} (hy : y < M.length) (h : rowOk M y = false) : mzB M = false := by unfold mzB; rw [okTo_bad hy h]; simp
theorem mzB_t {M : Mz} (h1 : inB (M.length : Int) 1 12 = true) (h2 : inB (wid M : Int) 1 12 = true) (h3 : okTo (rowOk M) M.length = true) : mzB M = true := by unfold mzB; rw [h1, h2, h3]; rfl
theorem rowOk_len {M : Mz} {y : Nat} (h : ¬ (M.getD y []).length = wid M) : rowOk M y = false := by unfold rowOk; rw [decide_eq_false h]; rfl
theorem rowOk_bad {M : Mz} {y x : Nat} (hx : x < (M.getD y []).length) (h : cellOk (M.getD y []) x = false) : rowOk M y = false := by unfold rowOk cellsOk; rw [okTo_bad hx h]; simp
theorem rowOk_cells {M : Mz} {y : Nat} (h : cellsOk (M.getD y []) = false) : rowOk M y = false := by unfold rowOk; rw [h]; simp
theorem rowOk_t {M : Mz} {y : Nat} (h : (M.getD y []).length = wid M) (hc : cellsOk (M.getD y []) = true) : rowOk M y = true := by unfold rowOk; rw [decide_eq_true h, hc]; rfl
structure MzOk (M : Mz) : Prop where
  h1 : 1 ≤ M.length
  h12 : M.length ≤ 12
  w1 : 1 ≤ wid M
  w12 : wid M ≤ 12
  row : ∀ y, y < M.length → (M.getD y []).length = wid M
  cell : ∀ y x, y < M.length → x < wid M → 0 ≤ (M.getD y []).getD x 0 ∧ (M.getD y []).getD x 0 ≤ 9
theorem mzOk_of {M : Mz} (h : mzB M = true) : MzOk M := by
  simp only [mzB, Bool.and_eq_true] at h
  obtain ⟨h1, h2, h3⟩ := h
  simp only [inB, decide_eq_true_eq] at h1 h2
  have hr : ∀ y, y < M.length → (M.getD y []).length = wid M ∧ cellsOk (M.getD y []) = true := fun y hy => by
    have := okTo_iff.1 h3 y hy
    simpa [rowOk] using this
  refine ⟨by omega, by omega, by omega, by omega, fun y hy => (hr y hy).1, fun y x hy hx => ?_⟩
  have := okTo_iff.1 (hr y hy).2 x (by rw [(hr y hy).1]; exact hx)
  simpa [cellOk, inB] using this

/-- The price of the cell at a point, -1 where there is none. -/
def priceI (M : Mz) (x y : Int) : Int :=
  if x < 0 ∨ (wid M : Int) ≤ x ∨ y < 0 ∨ (M.length : Int) ≤ y then -1 else (M.getD y.toNat []).getD x.toNat 0
def openB (M : Mz) (x y : Int) : Bool := decide (0 < priceI M x y)
theorem priceI_out {M : Mz} {x y : Int} (h : x < 0 ∨ (wid M : Int) ≤ x ∨ y < 0 ∨ (M.length : Int) ≤ y) : priceI M x y = -1 := by unfold priceI; rw [if_pos h]
theorem priceI_in {M : Mz} {x y : Nat} (hx : x < wid M) (hy : y < M.length) : priceI M (x : Int) (y : Int) = (M.getD y []).getD x 0 := by
  unfold priceI; rw [if_neg (by omega)]; simp
theorem openB_out {M : Mz} {x y : Int} (h : x < 0 ∨ (wid M : Int) ≤ x ∨ y < 0 ∨ (M.length : Int) ≤ y) : openB M x y = false := by unfold openB; rw [priceI_out h]; rfl
theorem openB_in {M : Mz} {x y : Nat} (hx : x < wid M) (hy : y < M.length) : openB M (x : Int) (y : Int) = decide (0 < (M.getD y []).getD x 0) := by unfold openB; rw [priceI_in hx hy]
theorem openB_pt {M : Mz} {x y : Int} (h : openB M x y = true) : ∃ i j : Nat, x = i ∧ y = j ∧ i < wid M ∧ j < M.length ∧ 0 < (M.getD j []).getD i 0 := by
  by_cases ho : x < 0 ∨ (wid M : Int) ≤ x ∨ y < 0 ∨ (M.length : Int) ≤ y
  · rw [openB_out ho] at h; cases h
  · refine ⟨x.toNat, y.toNat, by omega, by omega, by omega, by omega, ?_⟩
    have := h
    unfold openB priceI at this
    rw [if_neg ho] at this
    simpa using this
theorem heldI_wid (Ls : List SlI) : wid (heldI Ls) = (Ls.getD 0 si0).2.1.length := by unfold wid; rw [heldI_at]
theorem heldI_row (Ls : List SlI) (y : Nat) : (heldI Ls).getD y [] = (Ls.getD y si0).2.1 := heldI_at
end Go.Proofs.YtifenbamookmiaaDoor
