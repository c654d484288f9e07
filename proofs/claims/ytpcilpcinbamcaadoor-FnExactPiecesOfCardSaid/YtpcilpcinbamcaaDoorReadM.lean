/-
  Arithmetic: a decimal text that Lib.itoa writes reads back, by the model's sum over the digits and by strconv's.
-/
import Derived.Lib.ItoaMem
import Derived.Lib.ParseIntBTie
import Derived.Lib.ParseIntBCases
namespace Go.Proofs.YtpcilpcinbamcaaDoor
set_option linter.unusedSimpArgs false
set_option linter.unusedVariables false

/-- One more byte of the model's sum. -/
def stepN (a : Nat) (b : UInt8) : Nat := if 48 ≤ b.toNat ∧ b.toNat ≤ 57 then 10 * a + (b.toNat - 48) else a
/-- The model's sum over the digits. -/
def accN (l : List UInt8) : Nat := l.foldl stepN 0
theorem accN_snoc (l : List UInt8) (b : UInt8) : accN (l ++ [b]) = stepN (accN l) b := by simp [accN]
theorem accN_grow : ∀ (l : List UInt8) (a : Nat), l.foldl stepN a + 1 ≤ (a + 1) * 10 ^ l.length
  | [], a => by simp
  | b :: r, a => by
    have h := accN_grow r (stepN a b)
    have hs : stepN a b + 1 ≤ (a + 1) * 10 := by
      have := b.toNat_lt
      unfold stepN
      split <;> omega
    have := Nat.mul_le_mul_right (10 ^ r.length) hs
    simp only [List.foldl_cons, List.length_cons, Nat.pow_succ]
    rw [Nat.mul_comm (10 ^ r.length) 10, ← Nat.mul_assoc]
    omega
theorem accN_lt {k : Nat} {l : List UInt8} (h : l.length ≤ k) : accN l < 10 ^ k := by
  have h1 := accN_grow l 0
  have h2 : 10 ^ l.length ≤ 10 ^ k := Nat.pow_le_pow_right (by omega) h
  unfold accN
  omega

theorem digit_nat {u : Nat} (h : u < 10) : (UInt8.ofNat (48 + u)).toNat = 48 + u := by
  simp [UInt8.toNat_ofNat']; omega
theorem step_digit (a : Nat) {u : Nat} (h : u < 10) : stepN a (UInt8.ofNat (48 + u)) = 10 * a + u := by
  unfold stepN
  rw [digit_nat h, if_pos (by omega)]; omega
theorem accN_digits (u : Nat) : accN (Lib.decDigits u) = u := by
  induction u using Nat.strongRecOn with
  | _ u ih =>
    rw [Lib.decDigits]
    split
    · next h => show stepN 0 _ = u; rw [step_digit 0 h]; omega
    · next h => rw [accN_snoc, ih (u / 10) (by omega), step_digit _ (by omega)]; omega
theorem accN_minus (l : List UInt8) : accN (45 :: l) = accN l := by
  have : stepN 0 45 = 0 := by decide
  simp [accN, this]

theorem decDigits_ne (u : Nat) : Lib.decDigits u ≠ [] := by
  rw [Lib.decDigits]; split <;> simp
theorem decDigits_mem (u : Nat) : ∀ b ∈ Lib.decDigits u, 48 ≤ b.toNat ∧ b.toNat ≤ 57 := by
  induction u using Nat.strongRecOn with
  | _ u ih =>
    rw [Lib.decDigits]
    split
    · next h => intro b hb; simp only [List.mem_singleton] at hb; subst hb; rw [digit_nat h]; omega
    · next h =>
      intro b hb
      rcases List.mem_append.1 hb with hb | hb
      · exact ih _ (by omega) b hb
      · simp only [List.mem_singleton] at hb; subst hb; rw [digit_nat (by omega)]; omega

theorem parseU_snoc (M : Nat) : ∀ (l : List UInt8) (acc v : Nat) (b : UInt8), Lib.parseUintM M acc l = .ok v → 48 ≤ b.toNat → b.toNat ≤ 57 → v < 1844674407370955162 → v * 10 + (b.toNat - 48) ≤ M → Lib.parseUintM M acc (l ++ [b]) = .ok (v * 10 + (b.toNat - 48)) := by
  intro l
  induction l with
  | nil =>
    intro acc v b h h1 h2 h3 h4
    simp only [Lib.parseUintM] at h
    injection h with h; subst h
    simp only [List.nil_append, Lib.parseUintM]
    rw [if_pos ⟨h1, h2⟩, if_neg (by omega), if_neg (by omega)]
  | cons c r ih =>
    intro acc v b h h1 h2 h3 h4
    simp only [Lib.parseUintM, List.cons_append] at h ⊢
    split at h
    · next hd =>
      rw [if_pos hd]
      split at h
      · cases h
      · next ho =>
        rw [if_neg ho]
        split at h
        · cases h
        · next hm => rw [if_neg hm]; exact ih _ v b h h1 h2 h3 h4
    · cases h
theorem parseU_digits (M : Nat) (u : Nat) (hu : u ≤ 9000000000000000000) (hM : u ≤ M) : Lib.parseUintM M 0 (Lib.decDigits u) = .ok u := by
  induction u using Nat.strongRecOn with
  | _ u ih =>
    rw [Lib.decDigits]
    split
    · next h =>
      simp only [Lib.parseUintM]
      rw [digit_nat h, if_pos (by omega), if_neg (by omega), if_neg (by omega)]
      simp
    · next h =>
      have e := parseU_snoc M (Lib.decDigits (u / 10)) 0 (u / 10) (UInt8.ofNat (48 + u % 10)) (ih (u / 10) (by omega) (by omega) (by omega))
        (by rw [digit_nat (by omega)]; omega) (by rw [digit_nat (by omega)]; omega) (by omega) (by rw [digit_nat (by omega)]; omega)
      rw [e, digit_nat (by omega)]
      congr 1; omega

theorem itoa_acc (m : Int) : accN (Lib.itoa m) = m.natAbs := by
  unfold Lib.itoa
  split
  · rw [accN_minus, accN_digits]
  · rw [accN_digits]; omega
theorem itoa_head (m : Int) : (Lib.itoa m).head? = some 45 ↔ m < 0 := by
  unfold Lib.itoa
  split
  · next h => simp [h]
  · next h =>
    constructor
    · intro e
      have hm := decDigits_mem m.toNat 45 (List.mem_of_mem_head? (by rw [e]; rfl))
      exact absurd hm.1 (by decide)
    · intro e; exact absurd e h
theorem itoa_ne (m : Int) : Lib.itoa m ≠ [] := by
  unfold Lib.itoa
  split
  · simp
  · exact decDigits_ne _
theorem itoa_parse (m : Int) (h1 : -1000000000 ≤ m) (h2 : m ≤ 1000000000) : Lib.parseIntB 64 (Lib.itoa m) = .ok m := by
  have hp : (2 : Nat) ^ (64 - 1) = 9223372036854775808 := by decide
  have hq : (2 : Nat) ^ 64 - 1 = 18446744073709551615 := by decide
  unfold Lib.itoa
  split
  · next h =>
    rw [Lib.parseIntB_minus, Lib.parseUintB, if_neg (decDigits_ne _), parseU_digits _ _ (by omega) (by omega)]
    simp only [Lib.signedC, hp]
    rw [if_neg (by omega)]
    congr 1; omega
  · next h =>
    have hu := parseU_digits (2 ^ 64 - 1) m.toNat (by omega) (by omega)
    have hm := decDigits_mem m.toNat
    revert hu hm
    cases hd : Lib.decDigits m.toNat with
    | nil => exact absurd hd (decDigits_ne _)
    | cons c r =>
      intro hu hm
      have hc := hm c (by simp)
      rw [Lib.parseIntB_plain _ _ _ (by omega) (by omega), Lib.parseUintB, if_neg (by simp), hu]
      simp only [Lib.signlessC, hp]
      rw [if_neg (by omega)]
      congr 1; omega
theorem decDigits_len (k u : Nat) (h : u < 10 ^ (k + 1)) : (Lib.decDigits u).length ≤ k + 1 := by
  induction k generalizing u with
  | zero => rw [Lib.decDigits, dif_pos (by simpa using h)]; simp
  | succ k ih =>
    rw [Lib.decDigits]
    split
    · simp
    · have := ih (u / 10) (by rw [Nat.div_lt_iff_lt_mul (by omega), ← Nat.pow_succ]; exact h)
      simp; omega
theorem itoa_len (m : Int) (h1 : -1000000000 ≤ m) (h2 : m ≤ 1000000000) : (Lib.itoa m).length ≤ 11 := by
  unfold Lib.itoa
  split
  · have := decDigits_len 9 m.natAbs (by omega); simp; omega
  · have := decDigits_len 9 m.toNat (by omega); omega
/-- The text is that of the number m, within the bounds. -/
def IsNum (s : ByteArray) (m : Int) : Prop := -1000000000 ≤ m ∧ m ≤ 1000000000 ∧ s.data.toList = Lib.itoa m
end Go.Proofs.YtpcilpcinbamcaaDoor
