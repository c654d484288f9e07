/-
  The members of a set of bits, one after another: the lowest bit is told and cleared.
-/
import Derived.Test.YtifenbamookmiaaDoorPop
namespace Go.Proofs.YtifenbamookmiaaDoor
set_option linter.unusedSimpArgs false
set_option linter.unusedVariables false

/-- p, from j on. -/
def pFrom (p : Nat → Bool) (j i : Nat) : Bool := p i && decide (j ≤ i)
/-- The numbers from j on and below k for which p holds. -/
def memL (p : Nat → Bool) (j k : Nat) : List Nat := (List.range k).filter (pFrom p j)
theorem pFrom_zero (p : Nat → Bool) : pFrom p 0 = p := by
  funext i; simp [pFrom]
theorem memL_zero (p : Nat → Bool) (k : Nat) : memL p 0 k = (List.range k).filter p := by
  unfold memL; rw [pFrom_zero]
theorem mask_zero {p : Nat → Bool} : ∀ {k : Nat}, (∀ i, i < k → p i = false) → maskTo p k = 0
  | 0, _ => rfl
  | k + 1, h => by rw [maskTo_f (h k (by omega)), mask_zero fun i hi => h i (by omega)]
theorem mask_zero_iff {p : Nat → Bool} {k : Nat} (h : maskTo p k = 0) : ∀ i, i < k → p i = false := by
  rcases mask_is p k with ⟨_, _, _, h4⟩ | ⟨l, h', m, a, b, c, d, e, f, g, i⟩
  · exact h4
  · have := Nat.two_pow_pos h'; omega
/-- The first one. -/
theorem mask_first {p : Nat → Bool} {k l : Nat} (hl : l < k) (hp : p l = true) (h0 : ∀ i, i < l → p i = false) : maskTo p k = 2 ^ l + maskTo (pFrom p (l + 1)) k := by
  induction k with
  | zero => omega
  | succ k ih =>
    by_cases e : l = k
    · subst e
      have h1 : maskTo (pFrom p (l + 1)) (l + 1) = 0 := mask_zero fun i hi => by
        unfold pFrom; rw [decide_eq_false (by omega), Bool.and_false]
      rw [maskTo_t hp, mask_zero h0, h1]; omega
    · have ih := ih (by omega)
      have hk : pFrom p (l + 1) k = p k := by unfold pFrom; rw [decide_eq_true (by omega), Bool.and_true]
      cases hpk : p k
      · rw [hpk] at hk
        rw [maskTo_f hpk, maskTo_f hk, ih]
      · rw [hpk] at hk
        rw [maskTo_t hpk, maskTo_t hk, ih]; omega
theorem mask_dvd (p : Nat → Bool) (j k : Nat) : ∃ m, maskTo (pFrom p j) k = 2 ^ j * m := by
  induction k with
  | zero => exact ⟨0, rfl⟩
  | succ k ih =>
    obtain ⟨m, hm⟩ := ih
    cases hp : pFrom p j k
    · exact ⟨m, by rw [maskTo_f hp, hm]⟩
    · have hj : j ≤ k := by
        unfold pFrom at hp
        simp at hp
        exact hp.2
      refine ⟨m + 2 ^ (k - j), ?_⟩
      rw [maskTo_t hp, hm, Nat.mul_add, ← Nat.pow_add, show j + (k - j) = k by omega]
theorem and_split2 (a b i j : Nat) (hi : i < 2) (hj : j < 2) : (2 * a + i) &&& (2 * b + j) = 2 * (a &&& b) + (i &&& j) := by
  have h1 := Nat.and_mod_two_pow (a := 2 * a + i) (b := 2 * b + j) (n := 1)
  have h2 := Nat.and_div_two_pow (a := 2 * a + i) (b := 2 * b + j) (n := 1)
  have e1 : (2 * a + i) % 2 ^ 1 = i := by omega
  have e2 : (2 * b + j) % 2 ^ 1 = j := by omega
  have e3 : (2 * a + i) / 2 ^ 1 = a := by omega
  have e4 : (2 * b + j) / 2 ^ 1 = b := by omega
  rw [e1, e2] at h1
  rw [e3, e4] at h2
  omega
theorem and_pred : ∀ (l m : Nat), (2 ^ l + 2 ^ (l + 1) * m) &&& (2 ^ l + 2 ^ (l + 1) * m - 1) = 2 ^ (l + 1) * m
  | 0, m => by
    have h := and_split2 m m 1 0 (by omega) (by omega)
    have e : 2 ^ 0 + 2 ^ (0 + 1) * m = 2 * m + 1 := by omega
    rw [e, show 2 * m + 1 - 1 = 2 * m + 0 by omega, h, Nat.and_self]
    simp
  | l + 1, m => by
    have ih := and_pred l m
    have hp := Nat.two_pow_pos l
    have e : 2 ^ (l + 1) + 2 ^ (l + 1 + 1) * m = 2 * (2 ^ l + 2 ^ (l + 1) * m) := by
      rw [Nat.pow_succ 2 (l + 1), Nat.mul_comm (2 ^ (l + 1)) 2, Nat.mul_assoc, Nat.mul_add, ← Nat.pow_succ']
    have e2 : 2 ^ (l + 1 + 1) * m = 2 * (2 ^ (l + 1) * m) := by rw [Nat.pow_succ', Nat.mul_assoc]
    rw [e, e2]
    generalize 2 ^ l + 2 ^ (l + 1) * m = a at *
    have ha : 1 ≤ a := by
      rcases Nat.eq_zero_or_pos a with h | h
      · rw [h] at ih; simp at ih
        have := Nat.two_pow_pos (l + 1)
        omega
      · exact h
    have h := and_split2 a (a - 1) 0 1 (by omega) (by omega)
    rw [show 2 * a - 1 = 2 * (a - 1) + 1 by omega]
    rw [Nat.add_zero] at h
    rw [h, ih]
    simp
/-- One step: the first bit is told, and cleared. -/
theorem mask_step (p : Nat → Bool) (j k : Nat) (hk : k ≤ 64) (h : maskTo (pFrom p j) k ≠ 0) : ∃ l, l < k ∧ j ≤ l ∧ Lib.ctz 64 (maskTo (pFrom p j) k) = l ∧
    maskTo (pFrom p j) k &&& (maskTo (pFrom p j) k - 1) = maskTo (pFrom p (l + 1)) k ∧ memL p j k = l :: memL p (l + 1) k := by
  have hex : ∃ l, l < k ∧ pFrom p j l = true ∧ ∀ i, i < l → pFrom p j i = false := by
    have : ∀ n, n ≤ k → (∀ i, i < n → pFrom p j i = false) ∨ ∃ l, l < n ∧ pFrom p j l = true ∧ ∀ i, i < l → pFrom p j i = false := by
      intro n
      induction n with
      | zero => exact fun _ => .inl fun i hi => by omega
      | succ n ih =>
        intro hn
        rcases ih (by omega) with h1 | ⟨l, h1, h2, h3⟩
        · cases hp : pFrom p j n
          · exact .inl fun i hi => by
              by_cases e : i = n
              · rw [e]; exact hp
              · exact h1 i (by omega)
          · exact .inr ⟨n, by omega, hp, h1⟩
        · exact .inr ⟨l, by omega, h2, h3⟩
    rcases this k (Nat.le_refl _) with h1 | h1
    · exact absurd (mask_zero h1) h
    · exact h1
  obtain ⟨l, hl, hpl, h0⟩ := hex
  have hjl : j ≤ l := by
    unfold pFrom at hpl
    simp at hpl
    exact hpl.2
  have hpp : p l = true := by
    unfold pFrom at hpl
    simp at hpl
    exact hpl.1
  have hff : pFrom (pFrom p j) (l + 1) = pFrom p (l + 1) := by
    funext i
    unfold pFrom
    by_cases e : l + 1 ≤ i
    · rw [decide_eq_true e, decide_eq_true (show j ≤ i by omega)]; simp
    · rw [decide_eq_false e]; simp
  have hM := mask_first hl hpl h0
  rw [hff] at hM
  obtain ⟨m, hm⟩ := mask_dvd p (l + 1) k
  refine ⟨l, hl, hjl, ?_, ?_, ?_⟩
  · unfold Lib.ctz
    rw [if_neg h, hM, hm]
    have e : 2 ^ l + 2 ^ (l + 1) * m = 2 ^ l * (2 * m + 1) := by rw [Nat.pow_succ, Nat.mul_add, Nat.mul_one, Nat.mul_assoc, Nat.add_comm]
    rw [e]
    exact ctzFrom_eq 64 l m (by omega)
  · rw [hM, hm]
    exact and_pred l m
  · unfold memL
    have hsp : List.range k = List.range l ++ l :: (List.range' (l + 1) (k - (l + 1))) := by
      rw [List.range_eq_range', List.range_eq_range', show k = l + ((k - (l + 1)) + 1) by omega, ← List.range'_append_1, List.range'_succ]
      simp
      omega
    rw [hsp, List.filter_append, List.filter_append, List.filter_cons, List.filter_cons, hpl]
    have e1 : (List.range l).filter (pFrom p j) = [] := by
      rw [List.filter_eq_nil_iff]
      intro i hi
      rw [h0 i (by simpa using hi)]; simp
    have e2 : (List.range l).filter (pFrom p (l + 1)) = [] := by
      rw [List.filter_eq_nil_iff]
      intro i hi
      have : i < l := by simpa using hi
      unfold pFrom; rw [decide_eq_false (by omega)]; simp
    have e3 : pFrom p (l + 1) l = false := by unfold pFrom; rw [decide_eq_false (by omega)]; simp
    rw [e1, e2, e3]
    simp only [List.nil_append, if_true, Bool.false_eq_true, if_false]
    congr 1
    apply List.filter_congr
    intro i hi
    have hi := List.mem_range'_1.1 hi
    unfold pFrom
    rw [decide_eq_true (show j ≤ i by omega), decide_eq_true (show l + 1 ≤ i by omega)]
theorem memL_nil {p : Nat → Bool} {j k : Nat} (h : maskTo (pFrom p j) k = 0) : memL p j k = [] := by
  unfold memL
  rw [List.filter_eq_nil_iff]
  intro i hi
  rw [mask_zero_iff h i (by simpa using hi)]; simp
theorem memL_lt {p : Nat → Bool} {j k x : Nat} (h : x ∈ memL p j k) : x < k ∧ p x = true := by
  unfold memL at h
  rw [List.mem_filter] at h
  refine ⟨by simpa using h.1, ?_⟩
  have := h.2
  unfold pFrom at this
  simp at this
  exact this.1
theorem memL_len (p : Nat → Bool) (j k : Nat) : (memL p j k).length ≤ k := by
  unfold memL
  exact Nat.le_trans (List.length_filter_le _ _) (by simp)
end Go.Proofs.YtifenbamookmiaaDoor
