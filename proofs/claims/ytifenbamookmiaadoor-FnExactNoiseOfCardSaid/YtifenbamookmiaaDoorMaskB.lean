/-
  Sets of bits as masks: their bits, and what the operations make of them (no walk).
-/
import Derived.Test.YtifenbamookmiaaDoorMem
import Derived.Test.YtifenbamookmiaaDoorBits
namespace Go.Proofs.YtifenbamookmiaaDoor
set_option linter.unusedSimpArgs false
set_option linter.unusedVariables false
open Go.ChangeShapes Go.WideShapes Go.ChangeAt Go.RowKit

theorem mask_testBit (p : Nat → Bool) (j : Nat) : ∀ k, (maskTo p k).testBit j = (decide (j < k) && p j)
  | 0 => by simp [maskTo]
  | k + 1 => by
    cases h : p k
    · rw [maskTo_f h, mask_testBit p j k]
      by_cases e : j = k
      · subst e; simp [h]
      · have e2 : decide (j < k + 1) = decide (j < k) := decide_eq_decide.2 (by omega)
        rw [e2]
    · rw [maskTo_t h, ← or_two_pow (maskTo_lt p k), Nat.testBit_or, mask_testBit p j k, pow_bit]
      by_cases e : j = k
      · subst e; simp [h]
      · have e2 : decide (j < k + 1) = decide (j < k) := decide_eq_decide.2 (by omega)
        rw [e2, decide_eq_false e]; simp
theorem mask_of_bits {v k : Nat} {p : Nat → Bool} (h : ∀ j, v.testBit j = (decide (j < k) && p j)) : v = maskTo p k :=
  Nat.eq_of_testBit_eq fun j => by rw [h j, mask_testBit]
theorem mask_congr {p q : Nat → Bool} {k : Nat} (h : ∀ j, j < k → p j = q j) : maskTo p k = maskTo q k :=
  mask_of_bits fun j => by
    rw [mask_testBit]
    by_cases e : j < k
    · rw [h j e]
    · rw [decide_eq_false e]; rfl
theorem mask_inj {p q : Nat → Bool} {k : Nat} (h : maskTo p k = maskTo q k) : ∀ j, j < k → p j = q j := fun j hj => by
  have h1 := mask_testBit p j k
  rw [h, mask_testBit, decide_eq_true hj] at h1
  simpa using h1.symm
theorem mask_64 (p : Nat → Bool) {k : Nat} (h : k ≤ 63) : maskTo p k < 18446744073709551616 := Nat.lt_of_lt_of_le (maskTo_lt _ _) (Nat.pow_le_pow_right (n := 2) (i := k) (j := 64) (by omega) (by omega))
theorem mask_or (p q : Nat → Bool) {k : Nat} (h : k ≤ 63) : bits .or .u64 (maskTo p k : Int) (maskTo q k : Int) = (maskTo (fun j => p j || q j) k : Int) := by
  obtain ⟨v, h1, _, h3⟩ := bits_join (maskTo p k) (maskTo q k) (mask_64 p h) (mask_64 q h)
  rw [h1, mask_of_bits (v := v) (k := k) (p := fun j => p j || q j) (fun j => by rw [h3, mask_testBit, mask_testBit]; cases decide (j < k) <;> rfl)]
theorem mask_or_of {v : Nat} (p q : Nat → Bool) {k : Nat} (h : k ≤ 63) (hv : v < 18446744073709551616) (hq : ∀ j, v.testBit j = (decide (j < k) && q j)) : bits .or .u64 (maskTo p k : Int) (v : Int) = (maskTo (fun j => p j || q j) k : Int) := by
  rw [mask_of_bits hq]; exact mask_or p q h
theorem mask_less (p q : Nat → Bool) {k : Nat} (h : k ≤ 63) : bits .andNot .u64 (maskTo p k : Int) (maskTo q k : Int) = (maskTo (fun j => p j && !q j) k : Int) := by
  obtain ⟨v, h1, _, h3⟩ := bits_less (maskTo p k) (maskTo q k) (mask_64 p h) (mask_64 q h)
  rw [h1, mask_of_bits (v := v) (k := k) (p := fun j => p j && !q j) (fun j => by rw [h3, mask_testBit, mask_testBit]; cases decide (j < k) <;> simp)]
theorem mask_and (p q : Nat → Bool) {k : Nat} (h : k ≤ 63) : bits .and .u64 (maskTo p k : Int) (maskTo q k : Int) = (maskTo (fun j => p j && q j) k : Int) := by
  rw [bits_and_u64_nat _ _ (mask_64 p h) (mask_64 q h), mask_of_bits (v := maskTo p k &&& maskTo q k) (k := k) (p := fun j => p j && q j) (fun j => by rw [Nat.testBit_and, mask_testBit, mask_testBit]; cases decide (j < k) <;> simp)]
theorem mask_full (k : Nat) : maskTo (fun _ => true) k = 2 ^ k - 1 :=
  (mask_of_bits fun j => by rw [Nat.testBit_two_pow_sub_one]; simp).symm
theorem mask_eq_iff {p q : Nat → Bool} {k : Nat} : ((maskTo p k : Int) == (maskTo q k : Int)) = decide (∀ j, j < k → p j = q j) := by
  rw [Bool.eq_iff_iff, beq_iff_eq, decide_eq_true_eq]
  exact ⟨fun h => mask_inj (by omega), fun h => by rw [mask_congr h]⟩
theorem mask_zero_eq {p : Nat → Bool} {k : Nat} : ((maskTo p k : Int) == 0) = decide (∀ j, j < k → p j = false) := by
  rw [Bool.eq_iff_iff, beq_iff_eq, decide_eq_true_eq]
  exact ⟨fun h => mask_zero_iff (by omega), fun h => by rw [mask_zero h]; rfl⟩
theorem mask_one {s k : Nat} (h : s < k) : maskTo (fun j => decide (j = s)) k = 2 ^ s :=
  (mask_of_bits fun j => by
    rw [pow_bit]
    by_cases e : j = s
    · subst e; simp [h]
    · simp [e]).symm
/-- More bits, or as many and none else. -/
theorem mask_mono {p q : Nat → Bool} {k : Nat} (h : ∀ j, j < k → p j = true → q j = true) : maskTo p k ≤ maskTo q k := by
  have : maskTo p k ||| maskTo q k = maskTo q k := Nat.eq_of_testBit_eq fun j => by
    rw [Nat.testBit_or, mask_testBit, mask_testBit]
    by_cases e : j < k
    · cases hp : p j
      · simp
      · simp [h j e hp]
    · simp [e]
  rw [← this]; exact Nat.left_le_or
end Go.Proofs.YtifenbamookmiaaDoor
