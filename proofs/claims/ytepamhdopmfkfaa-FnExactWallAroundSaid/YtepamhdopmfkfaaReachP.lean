/-
  What can be reached in a maze, said without a walk.
-/
import Derived.Test.YtepamhdopmfkfaaMazeQ
namespace Go.Proofs.Ytepamhdopmfkfaa
set_option linter.unusedSimpArgs false
set_option linter.unusedVariables false
open Go.ChangeShapes Go.WideShapes Go.ChangeAt Go.RowKit

abbrev Pt := Int × Int
def nb (q : Pt) (k : Nat) : Pt := stepW q.1 q.2 (k : Int)
inductive Reach (M : Mz) (p : Pt) : Pt → Prop
  | refl : Reach M p p
  | step {q : Pt} {k : Nat} : Reach M p q → k < 4 → openB M (nb q k).1 (nb q k).2 = true → Reach M p (nb q k)
theorem Reach.trans {M : Mz} {p q r : Pt} (h : Reach M p q) (k : Reach M q r) : Reach M p r := by
  induction k with
  | refl => exact h
  | step _ hk ho ih => exact .step ih hk ho
theorem Reach.open_ {M : Mz} {p q : Pt} (hp : openB M p.1 p.2 = true) (h : Reach M p q) : openB M q.1 q.2 = true := by
  cases h with
  | refl => exact hp
  | step _ _ ho => exact ho
/-- A set that has the first point and each open neighbour of its points has all that is reached. -/
theorem Reach.closed {M : Mz} {p : Pt} {S : Pt → Prop} (h0 : S p) (hS : ∀ q, S q → ∀ k, k < 4 → openB M (nb q k).1 (nb q k).2 = true → S (nb q k)) {q : Pt} (h : Reach M p q) : S q := by
  induction h with
  | refl => exact h0
  | step _ hk ho ih => exact hS _ ih _ hk ho
open Classical in
noncomputable def reachB (M : Mz) (p : Pt) (q : Pt) : Bool := decide (Reach M p q)
theorem reachB_iff {M : Mz} {p q : Pt} : reachB M p q = true ↔ Reach M p q := by unfold reachB; simp

/-! ### Points in order -/
/-- The first n points of a column that S has. -/
def colS (S : Pt → Bool) (x : Nat) : Nat → List Pt
  | 0 => []
  | y + 1 => colS S x y ++ if S ((x : Int), (y : Int)) then [((x : Int), (y : Int))] else []
def colsS (S : Pt → Bool) (h : Nat) : Nat → List Pt
  | 0 => []
  | x + 1 => colsS S h x ++ colS S x h
theorem colS_succ (S : Pt → Bool) (x y : Nat) : colS S x (y + 1) = colS S x y ++ if S ((x : Int), (y : Int)) then [((x : Int), (y : Int))] else [] := rfl
theorem colsS_succ (S : Pt → Bool) (h x : Nat) : colsS S h (x + 1) = colsS S h x ++ colS S x h := rfl
theorem colS_more {S : Pt → Bool} {x h : Nat} (hS : ∀ y : Nat, h ≤ y → S ((x : Int), (y : Int)) = false) : ∀ n, h ≤ n → colS S x n = colS S x h := by
  intro n hn
  induction n with
  | zero => obtain rfl : h = 0 := by omega
            rfl
  | succ n ih =>
    by_cases e : h = n + 1
    · subst e; rfl
    · rw [colS_succ, ih (by omega), hS n (by omega)]; simp
theorem colS_none {S : Pt → Bool} {x : Nat} (hS : ∀ y : Nat, S ((x : Int), (y : Int)) = false) : ∀ n, colS S x n = [] := by
  intro n
  induction n with
  | zero => rfl
  | succ n ih => rw [colS_succ, ih, hS n]; simp
theorem colsS_more {S : Pt → Bool} {w h : Nat} (hx : ∀ x y : Nat, w ≤ x → S ((x : Int), (y : Int)) = false) (hy : ∀ x y : Nat, h ≤ y → S ((x : Int), (y : Int)) = false) : ∀ n m, w ≤ n → h ≤ m → colsS S m n = colsS S h w := by
  intro n m hn hm
  have e1 : ∀ k, colsS S m k = colsS S h k := by
    intro k
    induction k with
    | zero => rfl
    | succ k ih => rw [colsS_succ, colsS_succ, ih, colS_more (hy k) m hm]
  rw [e1]
  induction n with
  | zero => obtain rfl : w = 0 := by omega
            rfl
  | succ n ih =>
    by_cases e : w = n + 1
    · subst e; rfl
    · rw [colsS_succ, ih (by omega), colS_none (fun y => hx n y (by omega))]; simp
theorem colS_len (S : Pt → Bool) (x : Nat) : ∀ n, (colS S x n).length ≤ n
  | 0 => by simp [colS]
  | n + 1 => by
    have := colS_len S x n
    unfold colS
    rw [List.length_append]
    split <;> simp <;> omega
theorem colsS_len (S : Pt → Bool) (h : Nat) : ∀ n, (colsS S h n).length ≤ n * h
  | 0 => by simp [colsS]
  | n + 1 => by
    have := colsS_len S h n
    have := colS_len S n h
    unfold colsS
    rw [List.length_append, Nat.succ_mul]
    omega
theorem colS_congr {S T : Pt → Bool} {x : Nat} : ∀ {n}, (∀ y : Nat, y < n → S ((x : Int), (y : Int)) = T ((x : Int), (y : Int))) → colS S x n = colS T x n
  | 0, _ => rfl
  | n + 1, h => by unfold colS; rw [colS_congr (fun y hy => h y (by omega)), h n (by omega)]
theorem colsS_congr {S T : Pt → Bool} {h : Nat} : ∀ {n}, (∀ x y : Nat, x < n → y < h → S ((x : Int), (y : Int)) = T ((x : Int), (y : Int))) → colsS S h n = colsS T h n
  | 0, _ => rfl
  | n + 1, e => by unfold colsS; rw [colsS_congr (fun x y hx hy => e x y (by omega) hy), colS_congr (fun y hy => e n y (by omega) hy)]

/-! ### Counting -/
/-- How many of the first n numbers f has. -/
def cnt (f : Nat → Bool) : Nat → Nat
  | 0 => 0
  | n + 1 => cnt f n + if f n then 1 else 0
def upd (f : Nat → Bool) (i : Nat) : Nat → Bool := fun j => if j = i then true else f j
theorem cnt_le (f : Nat → Bool) : ∀ n, cnt f n ≤ n
  | 0 => Nat.le_refl _
  | n + 1 => by have := cnt_le f n; unfold cnt; split <;> omega
theorem cnt_same {f g : Nat → Bool} : ∀ {n}, (∀ j, j < n → f j = g j) → cnt f n = cnt g n
  | 0, _ => rfl
  | n + 1, h => by unfold cnt; rw [cnt_same (fun j hj => h j (by omega)), h n (by omega)]
theorem cnt_upd {f : Nat → Bool} {i : Nat} (hf : f i = false) : ∀ {n}, i < n → cnt (upd f i) n = cnt f n + 1
  | 0, h => by omega
  | n + 1, h => by
    unfold cnt
    by_cases e : i = n
    · subst e
      rw [cnt_same (f := upd f i) (g := f) (n := i) (fun j hj => by simp [upd, Nat.ne_of_lt hj])]
      simp [upd, hf]
    · rw [cnt_upd hf (by omega)]
      simp [upd, Ne.symm e]
      omega
theorem cnt_mono {f g : Nat → Bool} : ∀ {n}, (∀ j, j < n → f j = true → g j = true) → cnt f n ≤ cnt g n
  | 0, _ => Nat.le_refl _
  | n + 1, h => by
    have ih := cnt_mono (f := f) (g := g) (n := n) (fun j hj => h j (by omega))
    have hn := h n (by omega)
    unfold cnt
    cases hf : f n
    · simp; omega
    · rw [hn hf]; simp; omega
end Go.Proofs.Ytepamhdopmfkfaa
