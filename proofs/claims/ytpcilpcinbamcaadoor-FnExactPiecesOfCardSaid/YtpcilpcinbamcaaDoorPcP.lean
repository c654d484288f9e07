/-
  The pieces of nets, said over lists (no walk).
-/
import Derived.Test.YtpcilpcinbamcaaDoorNets
import Derived.Test.YtpcilpcinbamcaaDoorChanE
namespace Go.Proofs.YtpcilpcinbamcaaDoor
set_option linter.unusedSimpArgs false
set_option linter.unusedVariables false
open Go.ChangeShapes Go.WideShapes Go.ChangeAt Go.RowKit

/-- The pieces of net x among the columns before k. -/
def pcsTo (p : Nat → Bool) (x : Int) : Nat → List (List Int)
  | 0 => []
  | k + 1 => pcsTo p x k ++ (if p k = true ∧ 0 ≤ hiTo p k then [[x, hiTo p k, (k : Int)]] else [])
theorem pcsTo_t {p : Nat → Bool} {x : Int} {k : Nat} (h : p k = true) (h0 : 0 ≤ hiTo p k) : pcsTo p x (k + 1) = pcsTo p x k ++ [[x, hiTo p k, (k : Int)]] := by
  rw [show pcsTo p x (k + 1) = pcsTo p x k ++ (if p k = true ∧ 0 ≤ hiTo p k then [[x, hiTo p k, (k : Int)]] else []) from rfl, if_pos ⟨h, h0⟩]
theorem pcsTo_f {p : Nat → Bool} {x : Int} {k : Nat} (h : ¬ (p k = true ∧ 0 ≤ hiTo p k)) : pcsTo p x (k + 1) = pcsTo p x k := by
  rw [show pcsTo p x (k + 1) = pcsTo p x k ++ (if p k = true ∧ 0 ≤ hiTo p k then [[x, hiTo p k, (k : Int)]] else []) from rfl, if_neg h, List.append_nil]
theorem pcsTo_len (p : Nat → Bool) (x : Int) : ∀ k, (pcsTo p x k).length ≤ k
  | 0 => by simp [pcsTo]
  | k + 1 => by
    have := pcsTo_len p x k
    by_cases h : p k = true ∧ 0 ≤ hiTo p k
    · rw [pcsTo_t h.1 h.2, List.length_append]; simp; omega
    · rw [pcsTo_f h]; omega
/-- .. by the ends of a list of columns: the first j of them. -/
def prTo (x : Int) (l : List Nat) (j : Nat) : List (List Int) := (List.range j).map fun i => [x, ((l.getD i 0 : Nat) : Int), ((l.getD (i + 1) 0 : Nat) : Int)]
theorem prTo_succ (x : Int) (l : List Nat) (j : Nat) : prTo x l (j + 1) = prTo x l j ++ [[x, ((l.getD j 0 : Nat) : Int), ((l.getD (j + 1) 0 : Nat) : Int)]] := by
  simp [prTo, List.range_succ]
theorem prTo_len (x : Int) (l : List Nat) (j : Nat) : (prTo x l j).length = j := by simp [prTo]
theorem prTo_snoc {x : Int} {l : List Nat} {k j : Nat} (hj : j < l.length) : prTo x (l ++ [k]) j = prTo x l j := by
  unfold prTo
  refine List.map_congr_left fun i hi => ?_
  have := List.mem_range.1 hi
  rw [List.getD_eq_getElem?_getD, List.getD_eq_getElem?_getD, List.getD_eq_getElem?_getD, List.getD_eq_getElem?_getD, List.getElem?_append_left (by omega), List.getElem?_append_left (by omega)]
theorem hi_last (p : Nat → Bool) : ∀ k, (memL p 0 k = [] ∧ hiTo p k = -1) ∨ (0 < (memL p 0 k).length ∧ hiTo p k = (((memL p 0 k).getD ((memL p 0 k).length - 1) 0 : Nat) : Int))
  | 0 => .inl ⟨by simp [memL], rfl⟩
  | k + 1 => by
    cases h : p k
    · rw [memL_snoc_f h, hiTo_f h]
      exact hi_last p k
    · rw [memL_snoc_t h, hiTo_t h]
      exact .inr ⟨by simp, by simp [List.getD_eq_getElem?_getD]⟩
theorem pcs_pairs (p : Nat → Bool) (x : Int) : ∀ k, pcsTo p x k = prTo x (memL p 0 k) ((memL p 0 k).length - 1)
  | 0 => by simp [pcsTo, memL, prTo]
  | k + 1 => by
    cases h : p k
    · rw [memL_snoc_f h, pcsTo_f (by rw [h]; simp)]
      exact pcs_pairs p x k
    · have ih := pcs_pairs p x k
      rw [memL_snoc_t h]
      rcases hi_last p k with ⟨e1, e2⟩ | ⟨e1, e2⟩
      · rw [pcsTo_f (by rw [e2]; omega), ih, e1]; rfl
      · rw [pcsTo_t h (by rw [e2]; omega), ih, List.length_append, List.length_singleton, Nat.add_sub_cancel]
        obtain ⟨j, hj⟩ : ∃ j, (memL p 0 k).length = j + 1 := ⟨(memL p 0 k).length - 1, by omega⟩
        rw [e2, hj, Nat.add_sub_cancel, prTo_succ, prTo_snoc (by omega)]
        congr 1
        rw [List.getD_eq_getElem?_getD, List.getD_eq_getElem?_getD, List.getD_eq_getElem?_getD, List.getElem?_append_left (by omega), ← hj]
        simp
/-- The pieces of the first i nets. -/
def pcsAll (T B : List Int) (n i : Nat) : List (List Int) := ((netsL T B n).take i).flatMap fun (x : Nat) => pcsTo (hasP T B (x : Int)) (x : Int) n
theorem pcsAll_succ {T B : List Int} {n i x : Nat} (h : (netsL T B n)[i]? = some x) : pcsAll T B n (i + 1) = pcsAll T B n i ++ pcsTo (hasP T B (x : Int)) (x : Int) n := by
  unfold pcsAll
  rw [List.take_add_one, h, List.flatMap_append]
  simp
theorem pcsAll_len (T B : List Int) (n : Nat) : ∀ i, (pcsAll T B n i).length ≤ i * n
  | 0 => by simp [pcsAll]
  | i + 1 => by
    have ih := pcsAll_len T B n i
    rw [Nat.succ_mul]
    cases h : (netsL T B n)[i]? with
    | none =>
      have : pcsAll T B n (i + 1) = pcsAll T B n i := by
        unfold pcsAll
        rw [List.take_add_one, h]
        simp
      rw [this]; omega
    | some x =>
      have := pcsTo_len (hasP T B (x : Int)) (x : Int) n
      rw [pcsAll_succ h, List.length_append]
      omega
/-- All of them, if the channel is valid. -/
def piecesA (T B : List Int) : List (List Int) := if chanB T B = true then pcsAll T B T.length (netsL T B T.length).length else []
theorem piecesA_f {T B : List Int} (h : chanB T B = false) : piecesA T B = [] := by unfold piecesA; rw [h]; rfl
theorem piecesA_t {T B : List Int} (h : chanB T B = true) : piecesA T B = pcsAll T B T.length (netsL T B T.length).length := by unfold piecesA; rw [h]; rfl
end Go.Proofs.YtpcilpcinbamcaaDoor
