/-
  The population count of numbers below 2^24, as the library's text computes it.
-/
import Derived.Test.YtifenbamookmiaaDoorMask
namespace Go.Proofs.YtifenbamookmiaaDoor
set_option linter.unusedSimpArgs false
set_option linter.unusedVariables false

theorem and_split (a y c d : Nat) (ha : a < 256) (hc : c < 256) : (a + 256 * y) &&& (c + 256 * d) = (a &&& c) + 256 * (y &&& d) := by
  have h1 := Nat.and_mod_two_pow (a := a + 256 * y) (b := c + 256 * d) (n := 8)
  have h2 := Nat.and_div_two_pow (a := a + 256 * y) (b := c + 256 * d) (n := 8)
  have e1 : (a + 256 * y) % 2 ^ 8 = a := by omega
  have e2 : (c + 256 * d) % 2 ^ 8 = c := by omega
  have e3 : (a + 256 * y) / 2 ^ 8 = y := by omega
  have e4 : (c + 256 * d) / 2 ^ 8 = d := by omega
  rw [e1, e2] at h1
  rw [e3, e4] at h2
  omega
def f1 (a : Nat) : Nat := (a / 2 &&& 85) + (a &&& 85)
def f2 (a : Nat) : Nat := (a / 4 &&& 51) + (a &&& 51)
def f3 (a : Nat) : Nat := (a / 16 + a) &&& 15
theorem b1 : ∀ a : Fin 256, f1 a.val < 256 ∧ ∀ t : Fin 2, (a.val / 2 + 128 * t.val) &&& 85 = a.val / 2 &&& 85 := by decide +kernel
theorem b2 : ∀ a : Fin 256, f2 (f1 a.val) < 69 ∧ ∀ t : Fin 4, (f1 a.val / 4 + 64 * t.val) &&& 51 = f1 a.val / 4 &&& 51 := by decide +kernel
theorem b3 : ∀ a : Fin 69, a.val / 16 ≤ 4 ∧ ((a.val % 16 ≤ 4) → ∀ t : Fin 5, (a.val / 16 + 16 * t.val + a.val) &&& 15 = f3 a.val) := by decide +kernel
theorem b4 : ∀ a : Fin 256, f2 (f1 a.val) % 16 ≤ 4 ∧ f3 (f2 (f1 a.val)) = Lib.popAux 8 a.val ∧ Lib.popAux 8 a.val ≤ 8 := by decide +kernel
theorem step1 (a y M : Nat) (ha : a < 256) : ((a + 256 * y) / 2 &&& (85 + 256 * M)) + ((a + 256 * y) &&& (85 + 256 * M)) = f1 a + 256 * ((y / 2 &&& M) + (y &&& M)) := by
  have e : (a + 256 * y) / 2 = (a / 2 + 128 * (y % 2)) + 256 * (y / 2) := by omega
  rw [e, and_split _ _ _ _ (by omega) (by omega), and_split _ _ _ _ ha (by omega)]
  have h := (b1 ⟨a, ha⟩).2 ⟨y % 2, by omega⟩
  simp only at h
  rw [h]
  unfold f1
  omega
theorem step2 (a y M : Nat) (ha : a < 256) (hf : ∃ c : Nat, c < 256 ∧ a = f1 c) : ((a + 256 * y) / 4 &&& (51 + 256 * M)) + ((a + 256 * y) &&& (51 + 256 * M)) = f2 a + 256 * ((y / 4 &&& M) + (y &&& M)) := by
  obtain ⟨c, hc, rfl⟩ := hf
  have e : (f1 c + 256 * y) / 4 = (f1 c / 4 + 64 * (y % 4)) + 256 * (y / 4) := by omega
  rw [e, and_split _ _ _ _ (by omega) (by omega), and_split _ _ _ _ ha (by omega)]
  have h := (b2 ⟨c, hc⟩).2 ⟨y % 4, by omega⟩
  simp only at h
  rw [h]
  unfold f2
  omega
theorem step3 (a y M : Nat) (ha : a < 69) (h4 : a % 16 ≤ 4) (hy : y % 16 ≤ 4) : ((a + 256 * y) / 16 + (a + 256 * y)) &&& (15 + 256 * M) = f3 a + 256 * ((y / 16 + y) &&& M) := by
  have hb := b3 ⟨a, ha⟩
  have h := hb.2 h4 ⟨y % 16, by omega⟩
  simp only at h hb
  have h5 := hb.1
  have e : (a + 256 * y) / 16 + (a + 256 * y) = (a / 16 + 16 * (y % 16) + a) + 256 * (y / 16 + y) := by omega
  rw [e, and_split _ _ _ _ (by omega) (by omega), h]
/-- The three steps of the library's text. -/
def q1 (x : Nat) : Nat := (x / 2 &&& 6148914691236517205) + (x &&& 6148914691236517205)
def q2 (x : Nat) : Nat := (x / 4 &&& 3689348814741910323) + (x &&& 3689348814741910323)
def q3 (x : Nat) : Nat := (x / 16 + x) &&& 1085102592571150095
theorem q_bytes (a b c : Nat) (ha : a < 256) (hb : b < 256) (hc : c < 256) : q3 (q2 (q1 (a + 256 * (b + 256 * c)))) = Lib.popAux 8 a + 256 * (Lib.popAux 8 b + 256 * Lib.popAux 8 c) ∧ q1 (a + 256 * (b + 256 * c)) < 16777216 ∧ q2 (q1 (a + 256 * (b + 256 * c))) < 16777216 := by
  have r0 := b1 ⟨a, ha⟩; have r1 := b1 ⟨b, hb⟩; have r2 := b1 ⟨c, hc⟩
  have s0 := b2 ⟨a, ha⟩; have s1 := b2 ⟨b, hb⟩; have s2 := b2 ⟨c, hc⟩
  have t0 := b4 ⟨a, ha⟩; have t1 := b4 ⟨b, hb⟩; have t2 := b4 ⟨c, hc⟩
  simp only at r0 r1 r2 s0 s1 s2 t0 t1 t2
  have e1 : q1 (a + 256 * (b + 256 * c)) = f1 a + 256 * (f1 b + 256 * f1 c) := by
    have h := step1 a (b + 256 * c) (85 + 256 * (85 + 256 * 366503875925)) ha
    have h' := step1 b c (85 + 256 * 366503875925) hb
    have h'' := step1 c 0 366503875925 hc
    rw [h'] at h
    simp only [Nat.mul_zero, Nat.add_zero, Nat.zero_div, Nat.zero_and] at h''
    rw [h''] at h
    exact h
  have e2 : q2 (f1 a + 256 * (f1 b + 256 * f1 c)) = f2 (f1 a) + 256 * (f2 (f1 b) + 256 * f2 (f1 c)) := by
    have h := step2 (f1 a) (f1 b + 256 * f1 c) (51 + 256 * (51 + 256 * 219902325555)) r0.1 ⟨a, ha, rfl⟩
    have h' := step2 (f1 b) (f1 c) (51 + 256 * 219902325555) r1.1 ⟨b, hb, rfl⟩
    have h'' := step2 (f1 c) 0 219902325555 r2.1 ⟨c, hc, rfl⟩
    rw [h'] at h
    simp only [Nat.mul_zero, Nat.add_zero, Nat.zero_div, Nat.zero_and] at h''
    rw [h''] at h
    exact h
  have e3 : q3 (f2 (f1 a) + 256 * (f2 (f1 b) + 256 * f2 (f1 c))) = f3 (f2 (f1 a)) + 256 * (f3 (f2 (f1 b)) + 256 * f3 (f2 (f1 c))) := by
    have h := step3 (f2 (f1 a)) (f2 (f1 b) + 256 * f2 (f1 c)) (15 + 256 * (15 + 256 * 64677154575)) s0.1 t0.1 (by omega)
    have h' := step3 (f2 (f1 b)) (f2 (f1 c)) (15 + 256 * 64677154575) s1.1 t1.1 t2.1
    have h'' := step3 (f2 (f1 c)) 0 64677154575 s2.1 t2.1 (by omega)
    rw [h'] at h
    simp only [Nat.mul_zero, Nat.add_zero, Nat.zero_div, Nat.zero_and] at h''
    rw [h''] at h
    exact h
  refine ⟨by rw [e1, e2, e3, t0.2.1, t1.2.1, t2.2.1], by rw [e1]; omega, by rw [e1, e2]; omega⟩

theorem popS (f x : Nat) : Lib.popAux (f + 1) x = x % 2 + Lib.popAux f (x / 2) := rfl
theorem popAux_zero : ∀ f : Nat, Lib.popAux f 0 = 0
  | 0 => rfl
  | f + 1 => by rw [popS, Nat.zero_div, popAux_zero f]
theorem popAux_add : ∀ (m n x : Nat), Lib.popAux (m + n) x = Lib.popAux m x + Lib.popAux n (x / 2 ^ m)
  | 0, n, x => by simp [Lib.popAux]
  | m + 1, n, x => by
    rw [show m + 1 + n = (m + n) + 1 by omega, popS, popS, popAux_add m n (x / 2), Nat.div_div_eq_div_mul, Nat.pow_succ', Nat.add_assoc]
theorem popAux_mod : ∀ (m x y : Nat), Lib.popAux m (x + 2 ^ m * y) = Lib.popAux m x
  | 0, x, y => rfl
  | m + 1, x, y => by
    rw [popS, popS]
    have e : (x + 2 ^ (m + 1) * y) % 2 = x % 2 := by rw [Nat.pow_succ, Nat.mul_comm (2 ^ m) 2, Nat.mul_assoc]; omega
    have e2 : (x + 2 ^ (m + 1) * y) / 2 = x / 2 + 2 ^ m * y := by rw [Nat.pow_succ, Nat.mul_comm (2 ^ m) 2, Nat.mul_assoc]; omega
    rw [e, e2, popAux_mod m]
theorem ones_bytes (a b c : Nat) (ha : a < 256) (hb : b < 256) (hc : c < 256) : Lib.popAux 64 (a + 256 * (b + 256 * c)) = Lib.popAux 8 a + (Lib.popAux 8 b + Lib.popAux 8 c) := by
  rw [show (64 : Nat) = 8 + (8 + (8 + 40)) from rfl, popAux_add 8, popAux_add 8, popAux_add 8]
  rw [show (256 : Nat) = 2 ^ 8 from rfl, popAux_mod 8, show (a + 2 ^ 8 * (b + 2 ^ 8 * c)) / 2 ^ 8 = b + 2 ^ 8 * c by omega, popAux_mod 8, show (b + 2 ^ 8 * c) / 2 ^ 8 = c by omega, show c / 2 ^ 8 = 0 by omega, popAux_zero]
  rfl
/-- The library's count of x, for x below 2^24. -/
theorem pop_eq (x : Nat) (hx : x < 16777216) (v : Nat) (hv : v = q3 (q2 (q1 x))) :
    v < 16777216 ∧ q1 x < 16777216 ∧ q2 (q1 x) < 16777216 ∧ (v + v / 256 + (v + v / 256) / 65536 + (v + v / 256 + (v + v / 256) / 65536) / 4294967296) % 128 = Lib.popAux 64 x := by
  obtain ⟨a, b, c, ha, hb, hc, rfl⟩ : ∃ a b c : Nat, a < 256 ∧ b < 256 ∧ c < 256 ∧ x = a + 256 * (b + 256 * c) :=
    ⟨x % 256, x / 256 % 256, x / 65536, by omega, by omega, by omega, by omega⟩
  obtain ⟨h, h1, h2⟩ := q_bytes a b c ha hb hc
  rw [ones_bytes a b c ha hb hc]
  have t0 := (b4 ⟨a, ha⟩).2.2; have t1 := (b4 ⟨b, hb⟩).2.2; have t2 := (b4 ⟨c, hc⟩).2.2
  simp only at t0 t1 t2
  rw [h] at hv
  generalize Lib.popAux 8 a = P at *
  generalize Lib.popAux 8 b = Q at *
  generalize Lib.popAux 8 c = R at *
  refine ⟨by omega, h1, h2, ?_⟩
  have d1 : v / 256 = Q + 256 * R := by omega
  rw [d1]
  have d2 : (v + (Q + 256 * R)) / 65536 = R := by omega
  rw [d2]
  have d3 : (v + (Q + 256 * R) + R) / 4294967296 = 0 := by omega
  rw [d3]
  omega

/-- How many numbers below k there are for which p holds. -/
def cntTo (p : Nat → Bool) : Nat → Nat
  | 0 => 0
  | k + 1 => cntTo p k + if p k then 1 else 0
theorem pop_one (f : Nat) : Lib.popAux (f + 1) 1 = 1 := by
  rw [popS, show (1 : Nat) / 2 = 0 from rfl, popAux_zero]
theorem pop_mask (p : Nat → Bool) (k : Nat) (hk : k ≤ 64) : Lib.popAux 64 (maskTo p k) = cntTo p k := by
  induction k with
  | zero => rw [maskTo, popAux_zero]; rfl
  | succ k ih =>
    have hlt := maskTo_lt p k
    have ih := ih (by omega)
    cases hp : p k
    · rw [maskTo_f hp, ih, cntTo, hp]; rfl
    · rw [maskTo_t hp, cntTo, hp, ← ih]
      obtain ⟨r, hr⟩ : ∃ r, 64 = k + (r + 1) := ⟨63 - k, by omega⟩
      rw [hr, popAux_add k, popAux_add k]
      have e1 : Lib.popAux k (maskTo p k + 2 ^ k) = Lib.popAux k (maskTo p k) := by
        have := popAux_mod k (maskTo p k) 1
        rwa [Nat.mul_one] at this
      have e2 : (maskTo p k + 2 ^ k) / 2 ^ k = 1 := Nat.div_eq_of_lt_le (by omega) (by omega)
      have e3 : maskTo p k / 2 ^ k = 0 := Nat.div_eq_of_lt hlt
      rw [e1, e2, e3, pop_one, popAux_zero]
      rfl
theorem cnt_span (p : Nat → Bool) (k : Nat) : (cntTo p k = 0 ∧ loTo p k = -1 ∧ hiTo p k = -1) ∨ (cntTo p k = 1 ∧ 0 ≤ loTo p k ∧ hiTo p k = loTo p k) ∨ (2 ≤ cntTo p k ∧ 0 ≤ loTo p k ∧ loTo p k < hiTo p k) := by
  induction k with
  | zero => exact .inl ⟨rfl, rfl, rfl⟩
  | succ k ih =>
    have hb := loTo_ge p k
    cases hp : p k
    · rw [hiTo_f hp, loTo_f hp hb.1, cntTo, hp]; simpa using ih
    · rw [hiTo_t hp, cntTo, hp]
      simp only [if_true]
      rcases ih with h | h | h
      · rw [loTo_t hp (by omega)]; omega
      · rw [loTo_s (by omega)]; omega
      · rw [loTo_s (by omega)]; omega
theorem cntTo_le (p : Nat → Bool) (k : Nat) : cntTo p k ≤ k := by
  induction k with
  | zero => exact Nat.le_refl _
  | succ k ih => unfold cntTo; split <;> omega
end Go.Proofs.YtifenbamookmiaaDoor
