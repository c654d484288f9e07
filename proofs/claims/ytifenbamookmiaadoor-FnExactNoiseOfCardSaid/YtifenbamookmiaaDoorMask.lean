/-
  Sets of columns as bits: the least and the greatest one.
-/
import Derived.Lib.TrailingZeros
import Derived.Lib.BitFns
namespace Go.Proofs.YtifenbamookmiaaDoor
set_option linter.unusedSimpArgs false
set_option linter.unusedVariables false

/-- The bits of the numbers below k for which p holds. -/
def maskTo (p : Nat → Bool) : Nat → Nat
  | 0 => 0
  | k + 1 => maskTo p k + if p k then 2 ^ k else 0
/-- The first number below k for which p holds, or -1. -/
def loTo (p : Nat → Bool) : Nat → Int
  | 0 => -1
  | k + 1 => if loTo p k < 0 then (if p k then (k : Int) else -1) else loTo p k
/-- The last one, or -1. -/
def hiTo (p : Nat → Bool) : Nat → Int
  | 0 => -1
  | k + 1 => if p k then (k : Int) else hiTo p k
theorem maskTo_lt (p : Nat → Bool) (k : Nat) : maskTo p k < 2 ^ k := by
  induction k with
  | zero => simp [maskTo]
  | succ k ih => unfold maskTo; rw [Nat.pow_succ]; split <;> omega
theorem maskTo_t {p : Nat → Bool} {k : Nat} (h : p k = true) : maskTo p (k + 1) = maskTo p k + 2 ^ k := by
  rw [maskTo, if_pos h]
theorem maskTo_f {p : Nat → Bool} {k : Nat} (h : p k = false) : maskTo p (k + 1) = maskTo p k := by
  rw [maskTo, if_neg (by simp [h])]; rfl
theorem hiTo_t {p : Nat → Bool} {k : Nat} (h : p k = true) : hiTo p (k + 1) = (k : Int) := by rw [hiTo, if_pos h]
theorem hiTo_f {p : Nat → Bool} {k : Nat} (h : p k = false) : hiTo p (k + 1) = hiTo p k := by rw [hiTo, if_neg (by simp [h])]
theorem loTo_f {p : Nat → Bool} {k : Nat} (h : p k = false) (h1 : -1 ≤ loTo p k) : loTo p (k + 1) = loTo p k := by
  rw [loTo, if_neg (c := p k = true) (by simp [h])]; split <;> omega
theorem loTo_t {p : Nat → Bool} {k : Nat} (h : p k = true) (h1 : loTo p k < 0) : loTo p (k + 1) = (k : Int) := by
  rw [loTo, if_pos h1, if_pos h]
theorem loTo_s {p : Nat → Bool} {k : Nat} (h1 : ¬ loTo p k < 0) : loTo p (k + 1) = loTo p k := by
  rw [loTo, if_neg h1]
theorem loTo_ge (p : Nat → Bool) (k : Nat) : -1 ≤ loTo p k ∧ loTo p k < k := by
  induction k with
  | zero => simp [loTo]
  | succ k ih => unfold loTo; split <;> (try split) <;> omega
theorem hiTo_ge (p : Nat → Bool) (k : Nat) : -1 ≤ hiTo p k ∧ hiTo p k < k := by
  induction k with
  | zero => simp [hiTo]
  | succ k ih => unfold hiTo; split <;> omega
theorem or_two_pow {x k : Nat} (h : x < 2 ^ k) : x ||| 2 ^ k = x + 2 ^ k := by
  rw [Nat.or_comm, Nat.add_comm, ← Nat.mul_one (2 ^ k), ← Nat.two_pow_add_eq_or_of_lt h]

theorem ctzFrom_eq : ∀ (f i m : Nat), i < f → Lib.ctzFrom f (2 ^ i * (2 * m + 1)) = i
  | 0, i, m, h => by omega
  | f + 1, 0, m, _ => by
    unfold Lib.ctzFrom
    rw [if_pos (by simp)]
  | f + 1, i + 1, m, h => by
    have e : 2 ^ (i + 1) * (2 * m + 1) = 2 * (2 ^ i * (2 * m + 1)) := by rw [Nat.pow_succ, Nat.mul_comm (2 ^ i) 2, Nat.mul_assoc]
    unfold Lib.ctzFrom
    rw [e, if_neg (by omega), Nat.mul_div_cancel_left _ (by omega), ctzFrom_eq f i m (by omega)]
    omega
theorem bitLen_eq (h x : Nat) (h64 : h < 64) (h1 : 2 ^ h ≤ x) (h2 : x < 2 ^ (h + 1)) : Lib.bitLen x = h + 1 := by
  have hx : x < 2 ^ 64 := Nat.lt_of_lt_of_le h2 (Nat.pow_le_pow_right (by omega) (by omega))
  rw [Lib.bitLen_shift h x h1 hx]
  have e : x / 2 ^ h = 1 := by
    rw [Nat.pow_succ] at h2
    exact Nat.div_eq_of_lt_le (by omega) (by omega)
  rw [e]
  rfl

/-- What the bits tell of the least and the greatest number. -/
def MaskIs (p : Nat → Bool) (k : Nat) : Prop :=
  (maskTo p k = 0 ∧ loTo p k = -1 ∧ hiTo p k = -1 ∧ ∀ i, i < k → p i = false) ∨
  ∃ l h m : Nat, l ≤ h ∧ h < k ∧ loTo p k = l ∧ hiTo p k = h ∧ maskTo p k = 2 ^ l * (2 * m + 1) ∧ 2 ^ h ≤ maskTo p k ∧ maskTo p k < 2 ^ (h + 1) ∧ (l = h ↔ m = 0)
theorem mask_is (p : Nat → Bool) (k : Nat) : MaskIs p k := by
  induction k with
  | zero => exact .inl ⟨rfl, rfl, rfl, fun i hi => by omega⟩
  | succ k ih =>
    cases hp : p k
    · rcases ih with ⟨h1, h2, h3, h4⟩ | ⟨l, h, m, a, b, c, d, e, f, g, i⟩
      · exact .inl ⟨by rw [maskTo_f hp, h1], by rw [loTo_f hp (by omega), h2], by rw [hiTo_f hp, h3], fun i hi => by
          by_cases e : i = k
          · rw [e, hp]
          · exact h4 i (by omega)⟩
      · exact .inr ⟨l, h, m, a, by omega, by rw [loTo_f hp (by omega), c], by rw [hiTo_f hp, d], by rw [maskTo_f hp, e], by rw [maskTo_f hp]; exact f, by rw [maskTo_f hp]; exact g, i⟩
    · have hlt := maskTo_lt p k
      rcases ih with ⟨h1, h2, h3, h4⟩ | ⟨l, h, m, a, b, c, d, e, f, g, i⟩
      · exact .inr ⟨k, k, 0, by omega, by omega, loTo_t hp (by omega), hiTo_t hp, by rw [maskTo_t hp, h1]; omega, by rw [maskTo_t hp, h1]; omega, by rw [maskTo_t hp, h1, Nat.pow_succ]; have := Nat.two_pow_pos k; omega, by simp⟩
      · refine .inr ⟨l, k, m + 2 ^ (k - l - 1), by omega, by omega, by rw [loTo_s (by omega), c], hiTo_t hp, ?_, by rw [maskTo_t hp]; omega, by rw [maskTo_t hp, Nat.pow_succ]; omega, ?_⟩
        · rw [maskTo_t hp, e]
          have e2 : 2 ^ k = 2 ^ l * (2 * 2 ^ (k - l - 1)) := by
            rw [← Nat.pow_succ', ← Nat.pow_add]
            congr 1; omega
          rw [e2, ← Nat.mul_add]
          congr 1; omega
        · have := Nat.two_pow_pos (k - l - 1)
          omega
/-- .. as the library counts them. -/
theorem mask_span (p : Nat → Bool) (k : Nat) (hk : k ≤ 64) :
    (maskTo p k = 0 ∧ loTo p k = -1 ∧ hiTo p k = -1) ∨ ∃ l h : Nat, l ≤ h ∧ h < k ∧ loTo p k = l ∧ hiTo p k = h ∧ maskTo p k ≠ 0 ∧ Lib.ctz 64 (maskTo p k) = l ∧ Lib.bitLen (maskTo p k) = h + 1 := by
  rcases mask_is p k with ⟨h1, h2, h3, _⟩ | ⟨l, h, m, a, b, c, d, e, f, g, _⟩
  · exact .inl ⟨h1, h2, h3⟩
  · have hne : maskTo p k ≠ 0 := by have := Nat.two_pow_pos h; omega
    refine .inr ⟨l, h, a, b, c, d, hne, ?_, bitLen_eq h _ (by omega) f g⟩
    unfold Lib.ctz
    rw [if_neg hne, e]
    exact ctzFrom_eq 64 l m (by omega)
end Go.Proofs.YtifenbamookmiaaDoor
