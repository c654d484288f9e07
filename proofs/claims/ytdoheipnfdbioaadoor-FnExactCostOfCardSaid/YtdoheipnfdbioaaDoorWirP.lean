/-
  Wirings: what is valid, said over lists (no walk).
-/
import Derived.Test.YtdoheipnfdbioaaDoorMazeP
namespace Go.Proofs.YtdoheipnfdbioaaDoor
set_option linter.unusedSimpArgs false
set_option linter.unusedVariables false
open Go.ChangeShapes Go.WideShapes Go.ChangeAt Go.RowKit

/-- How two lists of numbers compare: -1, 0 or 1. -/
def cmpL : List Int → List Int → Int
  | [], [] => 0
  | [], _ :: _ => -1
  | _ :: _, [] => 1
  | a :: s, b :: t => if a < b then -1 else if b < a then 1 else cmpL s t
theorem cmpL_step : ∀ (k : Nat) (a b : List Int), k ≤ a.length → k ≤ b.length → (∀ i, i < k → a.getD i 0 = b.getD i 0) → cmpL a b = cmpL (a.drop k) (b.drop k)
  | 0, _, _, _, _, _ => rfl
  | k + 1, [], _, h, _, _ => by simp at h
  | k + 1, _ :: _, [], _, h, _ => by simp at h
  | k + 1, x :: s, y :: t, h1, h2, h => by
    have e : x = y := by simpa using h 0 (by omega)
    subst e
    have e2 : cmpL (x :: s) (x :: t) = cmpL s t := by
      rw [show cmpL (x :: s) (x :: t) = if x < x then -1 else if x < x then 1 else cmpL s t from rfl, if_neg (by omega), if_neg (by omega)]
    rw [e2, List.drop_succ_cons, List.drop_succ_cons]
    exact cmpL_step k s t (by simpa using h1) (by simpa using h2) (fun i hi => by simpa using h (i + 1) (by omega))
theorem drop_cons_getD : ∀ (k : Nat) (a : List Int), k < a.length → a.drop k = a.getD k 0 :: a.drop (k + 1)
  | _, [], h => by simp at h
  | 0, _ :: _, _ => by simp
  | k + 1, x :: s, h => by simpa using drop_cons_getD k s (by simpa using h)
/-- Where they differ first. -/
theorem cmpL_at {k : Nat} {a b : List Int} (ha : k < a.length) (hb : k < b.length) (h : ∀ i, i < k → a.getD i 0 = b.getD i 0) :
    (a.getD k 0 < b.getD k 0 → cmpL a b = -1) ∧ (b.getD k 0 < a.getD k 0 → cmpL a b = 1) := by
  rw [cmpL_step k a b (by omega) (by omega) h, drop_cons_getD k a ha, drop_cons_getD k b hb]
  constructor
  · intro h; unfold cmpL; rw [if_pos h]
  · intro h; unfold cmpL; rw [if_neg (by omega), if_pos h]
theorem cmpL_end {a b : List Int} (h : ∀ i, i < a.length → i < b.length → a.getD i 0 = b.getD i 0) :
    cmpL a b = if a.length < b.length then -1 else if b.length < a.length then 1 else 0 := by
  by_cases h1 : a.length < b.length
  · rw [if_pos h1, cmpL_step a.length a b (Nat.le_refl _) (by omega) (fun i hi => h i hi (by omega)), List.drop_length]
    rw [drop_cons_getD _ b h1]; rfl
  · rw [if_neg h1]
    by_cases h2 : b.length < a.length
    · rw [if_pos h2, cmpL_step b.length a b (by omega) (Nat.le_refl _) (fun i hi => h i (by omega) hi), List.drop_length]
      rw [drop_cons_getD _ a h2]; rfl
    · rw [if_neg h2, cmpL_step a.length a b (Nat.le_refl _) (by omega) (fun i hi => h i hi (by omega)), List.drop_length]
      rw [show a.length = b.length by omega, List.drop_length]; rfl

/-- Row k of lists of two segments (and a cost): its size, the two segments, and that it comes behind the one before. -/
def pairB (L : List (List Int)) (n : Int) (size k : Nat) : Bool :=
  decide ((L.getD k []).length = size) && (inB ((L.getD k []).getD 0 0) 0 (n - 1) && (inB ((L.getD k []).getD 1 0) ((L.getD k []).getD 0 0 + 1) (n - 1) && (decide (k = 0) || decide (cmpL (L.getD (k - 1) []) (L.getD k []) < 0))))
def costB (L : List (List Int)) (k : Nat) : Bool := inB ((L.getD k []).getD 2 0) 0 1000
def rowW (L : List (List Int)) (n : Int) (size k : Nat) : Bool := pairB L n size k && (!decide (size = 3) || costB L k)
def listsB (L : List (List Int)) (n : Int) (size : Nat) : Bool := okTo (rowW L n size) L.length && decide (L.length ≤ 30)
def fixB (F : List Int) (k : Nat) : Bool := inB (F.getD k 0) (-1) 1
/-- Is a wiring valid? -/
def wvB (n : Int) (C J : List (List Int)) (F : List Int) : Bool :=
  inB n 0 14 && (decide ((F.length : Int) = n) && (okTo (fixB F) F.length && (listsB C n 2 && listsB J n 3)))
theorem okTo_and {f g : Nat → Bool} : ∀ n, okTo (fun k => f k && g k) n = (okTo f n && okTo g n)
  | 0 => rfl
  | n + 1 => by
    simp only [okTo]
    rw [okTo_and n]
    cases okTo f n <;> cases okTo g n <;> cases f n <;> cases g n <;> rfl
theorem listsB_2 (L : List (List Int)) (n : Int) : listsB L n 2 = (okTo (pairB L n 2) L.length && decide (L.length ≤ 30)) := by
  unfold listsB
  rw [okTo_congr (g := pairB L n 2) (fun i _ => by unfold rowW; simp)]
theorem listsB_3 (L : List (List Int)) (n : Int) : listsB L n 3 = ((okTo (pairB L n 3) L.length && decide (L.length ≤ 30)) && okTo (costB L) L.length) := by
  unfold listsB
  rw [okTo_congr (g := fun k => pairB L n 3 k && costB L k) (fun i _ => by unfold rowW; simp), okTo_and]
  cases okTo (pairB L n 3) L.length <;> cases okTo (costB L) L.length <;> simp
theorem pairB_iff {L : List (List Int)} {n : Int} {size k : Nat} : pairB L n size k = true ↔ (L.getD k []).length = size ∧ (0 ≤ (L.getD k []).getD 0 0 ∧ (L.getD k []).getD 0 0 ≤ n - 1) ∧ ((L.getD k []).getD 0 0 + 1 ≤ (L.getD k []).getD 1 0 ∧ (L.getD k []).getD 1 0 ≤ n - 1) ∧ (k = 0 ∨ cmpL (L.getD (k - 1) []) (L.getD k []) < 0) := by
  simp [pairB, inB]
end Go.Proofs.YtdoheipnfdbioaaDoor
