/-
  Plain mathematics: the middle one of numbers in order, and that no number is nearer to all of them.
-/
import Derived.Test.YtepamhdopmfkfaaStar
namespace Go.Proofs.Ytepamhdopmfkfaa
set_option linter.unusedSimpArgs false
set_option linter.unusedVariables false

/-- The middle one: of two the lesser one. -/
def medL (l : List Int) : Int := (l.mergeSort fun x y => decide (x ≤ y)).getD ((l.length - 1) / 2) 0
def sumTo (l : List Int) (r : Int) : Int := (l.map fun x => absI (x - r)).sum
theorem sorted_at {s l : List Int} (hp : s.Perm l) (hs : s.Pairwise (· ≤ ·)) {k : Nat} (hk : k < s.length) :
    l.countP (fun x => decide (x < s.getD k 0)) ≤ k ∧ k < l.countP (fun x => decide (x ≤ s.getD k 0)) ∧ s.getD k 0 ∈ l := by
  have hg : s.getD k 0 = s[k] := by simp [List.getD_eq_getElem?_getD, hk]
  rw [hg]
  rw [← hp.countP_eq, ← hp.countP_eq]
  have hle : ∀ i j (hi : i < s.length) (hj : j < s.length), i ≤ j → s[i] ≤ s[j] := fun i j hi hj hij => by
    rcases Nat.lt_or_ge i j with h | h
    · exact (List.pairwise_iff_getElem.1 hs) i j hi hj h
    · obtain rfl : i = j := by omega
      exact Int.le_refl _
  refine ⟨?_, ?_, hp.subset (List.getElem_mem hk)⟩
  · have e : s.countP (fun x => decide (x < s[k])) = (s.take k).countP (fun x => decide (x < s[k])) + (s.drop k).countP (fun x => decide (x < s[k])) := by
      rw [← List.countP_append, List.take_append_drop]
    have h0 : (s.drop k).countP (fun x => decide (x < s[k])) = 0 := by
      rw [List.countP_eq_zero]
      intro x hx
      obtain ⟨i, hi, rfl⟩ := List.getElem_of_mem hx
      rw [List.getElem_drop]
      simp only [List.length_drop] at hi
      have := hle k (k + i) hk (by omega) (by omega)
      simp; omega
    have h1 := List.countP_le_length (p := fun x => decide (x < s[k])) (l := s.take k)
    simp only [List.length_take] at h1
    omega
  · have e : s.countP (fun x => decide (x ≤ s[k])) = (s.take (k + 1)).countP (fun x => decide (x ≤ s[k])) + (s.drop (k + 1)).countP (fun x => decide (x ≤ s[k])) := by
      rw [← List.countP_append, List.take_append_drop]
    have h0 : (s.take (k + 1)).countP (fun x => decide (x ≤ s[k])) = (s.take (k + 1)).length := by
      rw [List.countP_eq_length]
      intro x hx
      obtain ⟨i, hi, rfl⟩ := List.getElem_of_mem hx
      rw [List.getElem_take]
      simp only [List.length_take] at hi
      have := hle i k (by omega) hk (by omega)
      simpa using this
    rw [List.length_take] at h0
    omega
theorem medL_at {l : List Int} (h : l ≠ []) : l.countP (fun x => decide (x < medL l)) ≤ (l.length - 1) / 2 ∧ (l.length - 1) / 2 < l.countP (fun x => decide (x ≤ medL l)) ∧ medL l ∈ l := by
  have hp := List.mergeSort_perm l (fun x y => decide (x ≤ y))
  have hl : 0 < l.length := List.length_pos_iff.2 h
  have hs := List.pairwise_mergeSort (le := fun x y : Int => decide (x ≤ y)) (fun a b c h1 h2 => by simp at *; omega) (fun a b => by simp; omega) l
  exact sorted_at hp (hs.imp fun h => by simpa using h) (by rw [hp.length_eq]; omega)
theorem sumTo_cons (x : Int) (l : List Int) (r : Int) : sumTo (x :: l) r = absI (x - r) + sumTo l r := by simp [sumTo]
theorem sumTo_left (m d : Int) (hd : 0 ≤ d) : ∀ l : List Int, sumTo l m + d * (l.length : Int) - 2 * d * (l.countP (fun x => decide (x < m)) : Int) ≤ sumTo l (m - d)
  | [] => by simp [sumTo]
  | x :: l => by
    have ih := sumTo_left m d hd l
    rw [sumTo_cons, sumTo_cons, List.length_cons, List.countP_cons]
    have e1 : d * ((l.length + 1 : Nat) : Int) = d * (l.length : Int) + d := by rw [Int.natCast_add, Int.mul_add]; simp
    rw [e1]
    by_cases hx : x < m
    · rw [if_pos (by simpa using hx)]
      have e2 : 2 * d * ((l.countP (fun x => decide (x < m)) + 1 : Nat) : Int) = 2 * d * (l.countP (fun x => decide (x < m)) : Int) + 2 * d := by rw [Int.natCast_add, Int.mul_add]; simp
      rw [e2]
      generalize 2 * d * (l.countP (fun x => decide (x < m)) : Int) = P at *
      generalize d * (l.length : Int) = Q at *
      have : absI (x - m) - d ≤ absI (x - (m - d)) := by unfold absI; split <;> split <;> omega
      omega
    · rw [if_neg (by simpa using hx)]
      simp only [Nat.add_zero]
      generalize 2 * d * (l.countP (fun x => decide (x < m)) : Int) = P at *
      generalize d * (l.length : Int) = Q at *
      have : absI (x - m) + d ≤ absI (x - (m - d)) := by unfold absI; split <;> split <;> omega
      omega
theorem sumTo_right (m d : Int) (hd : 0 ≤ d) : ∀ l : List Int, sumTo l m + 2 * d * (l.countP (fun x => decide (x ≤ m)) : Int) - d * (l.length : Int) ≤ sumTo l (m + d)
  | [] => by simp [sumTo]
  | x :: l => by
    have ih := sumTo_right m d hd l
    rw [sumTo_cons, sumTo_cons, List.length_cons, List.countP_cons]
    have e1 : d * ((l.length + 1 : Nat) : Int) = d * (l.length : Int) + d := by rw [Int.natCast_add, Int.mul_add]; simp
    rw [e1]
    by_cases hx : x ≤ m
    · rw [if_pos (by simpa using hx)]
      have e2 : 2 * d * ((l.countP (fun x => decide (x ≤ m)) + 1 : Nat) : Int) = 2 * d * (l.countP (fun x => decide (x ≤ m)) : Int) + 2 * d := by rw [Int.natCast_add, Int.mul_add]; simp
      rw [e2]
      generalize 2 * d * (l.countP (fun x => decide (x ≤ m)) : Int) = P at *
      generalize d * (l.length : Int) = Q at *
      have : absI (x - m) + d ≤ absI (x - (m + d)) := by unfold absI; split <;> split <;> omega
      omega
    · rw [if_neg (by simpa using hx)]
      simp only [Nat.add_zero]
      generalize 2 * d * (l.countP (fun x => decide (x ≤ m)) : Int) = P at *
      generalize d * (l.length : Int) = Q at *
      have : absI (x - m) - d ≤ absI (x - (m + d)) := by unfold absI; split <;> split <;> omega
      omega
/-- No number is nearer to all, and none that is less is as near. -/
theorem medL_best {l : List Int} (h : l ≠ []) (r : Int) : sumTo l (medL l) ≤ sumTo l r ∧ (r < medL l → sumTo l (medL l) < sumTo l r) := by
  obtain ⟨h1, h2, _⟩ := medL_at h
  have hl : 0 < l.length := List.length_pos_iff.2 h
  by_cases hr : r < medL l
  · have := sumTo_left (medL l) (medL l - r) (by omega) l
    rw [show medL l - (medL l - r) = r by omega] at this
    have hk : 2 * (l.countP (fun x => decide (x < medL l)) : Int) + 1 ≤ (l.length : Int) := by omega
    have hm := Int.mul_le_mul_of_nonneg_left hk (show 0 ≤ medL l - r by omega)
    rw [Int.mul_add, Int.mul_one] at hm
    have e3 : (medL l - r) * (2 * (l.countP (fun x => decide (x < medL l)) : Int)) = 2 * (medL l - r) * (l.countP (fun x => decide (x < medL l)) : Int) := by
      rw [← Int.mul_assoc, Int.mul_comm (medL l - r) 2]
    rw [e3] at hm
    generalize 2 * (medL l - r) * (l.countP (fun x => decide (x < medL l)) : Int) = P at *
    generalize (medL l - r) * (l.length : Int) = Q at *
    omega
  · have := sumTo_right (medL l) (r - medL l) (by omega) l
    rw [show medL l + (r - medL l) = r by omega] at this
    have hk : (l.length : Int) ≤ 2 * (l.countP (fun x => decide (x ≤ medL l)) : Int) := by omega
    have hm := Int.mul_le_mul_of_nonneg_left hk (show 0 ≤ r - medL l by omega)
    have e3 : (r - medL l) * (2 * (l.countP (fun x => decide (x ≤ medL l)) : Int)) = 2 * (r - medL l) * (l.countP (fun x => decide (x ≤ medL l)) : Int) := by
      rw [← Int.mul_assoc, Int.mul_comm (r - medL l) 2]
    rw [e3] at hm
    generalize 2 * (r - medL l) * (l.countP (fun x => decide (x ≤ medL l)) : Int) = P at *
    generalize (r - medL l) * (l.length : Int) = Q at *
    omega
/-- The middle one of three. -/
def mid3 (a b c : Int) : Int := max (min a b) (min (max a b) c)
theorem medL_three (a b c : Int) : medL [a, b, c] = mid3 a b c := by
  obtain ⟨h1, h2, h3⟩ := medL_at (l := [a, b, c]) (by simp)
  generalize medL [a, b, c] = m at *
  simp only [List.countP_cons, List.countP_nil, decide_eq_true_eq, List.length_cons, List.length_nil] at h1 h2
  simp only [List.mem_cons, List.not_mem_nil, or_false] at h3
  unfold mid3
  split at h1 <;> split at h1 <;> split at h1 <;> split at h2 <;> split at h2 <;> split at h2 <;> omega
end Go.Proofs.Ytepamhdopmfkfaa
