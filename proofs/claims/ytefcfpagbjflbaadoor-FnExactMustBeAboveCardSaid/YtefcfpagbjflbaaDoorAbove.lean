/-
  The spans of nets; when one net must be above another one, of two ways to say it.
-/
import Derived.Test.YtefcfpagbjflbaaDoorStackP
import Derived.Test.YtefcfpagbjflbaaDoorMbaS
namespace Go.Proofs.YtefcfpagbjflbaaDoor
set_option linter.unusedSimpArgs false
set_option linter.unusedVariables false
open Go.ChangeShapes Go.WideShapes Go.ChangeAt Go.RowKit

theorem lo_hi_has {p : Nat → Bool} : ∀ {n k : Nat}, k < n → p k = true → 0 ≤ loTo p n ∧ loTo p n ≤ k ∧ (k : Int) ≤ hiTo p n
  | 0, k, h, _ => by omega
  | n + 1, k, h, hp => by
    by_cases e : k = n
    · subst e
      rw [hiTo_t hp]
      have := loTo_ge p k
      by_cases h0 : loTo p k < 0
      · rw [loTo_t hp h0]; omega
      · rw [loTo_s h0]; omega
    · obtain ⟨a, b, c⟩ := lo_hi_has (n := n) (by omega) hp
      rw [loTo_s (by omega)]
      refine ⟨a, b, ?_⟩
      cases hn : p n
      · rw [hiTo_f hn]; exact c
      · rw [hiTo_t hn]; omega
/-- The ends of a net's span. -/
def netL (T B : List Int) (n k : Nat) : Nat := (loTo (hasP T B (k : Int)) n).toNat
def netH (T B : List Int) (n k : Nat) : Nat := (hiTo (hasP T B (k : Int)) n).toNat
def netN (k : Nat) : Nat := k
theorem net_span {T B : List Int} {n k : Nat} (h : isNetB T B n k = true) :
    1 ≤ k ∧ netL T B n k < netH T B n k ∧ netH T B n k < n ∧ loTo (hasP T B (k : Int)) n = netL T B n k ∧ hiTo (hasP T B (k : Int)) n = netH T B n k := by
  have h1 : 1 ≤ k := by
    rcases Nat.eq_zero_or_pos k with e | e
    · subst e; rw [isNetB_zero] at h; cases h
    · exact e
  rw [isNetB_span h1, Bool.and_eq_true, decide_eq_true_eq, decide_eq_true_eq] at h
  have h2 := hiTo_ge (hasP T B (k : Int)) n
  unfold netL netH
  omega
theorem abB_nets {T B : List Int} {n a b : Nat} (ha : isNetB T B n a = true) (hb : isNetB T B n b = true) :
    abB T B netN (netL T B n) (netH T B n) a b = (decide (a ≠ b) && colIn T B (a : Int) (b : Int) 0 n) := by
  obtain ⟨a1, a2, a3, a4, a5⟩ := net_span ha
  obtain ⟨b1, b2, b3, b4, b5⟩ := net_span hb
  unfold abB apB netN comF comM
  cases hab : decide (a ≠ b)
  · simp
  · rw [Bool.true_and, Bool.true_and, Bool.eq_iff_iff]
    simp only [Bool.and_eq_true, decide_eq_true_eq, colIn_iff]
    constructor
    · rintro ⟨_, k, hk, h1, h2⟩
      exact ⟨max (netL T B n a) (netL T B n b) + k, by omega, by rw [Nat.zero_add]; exact h1, by rw [Nat.zero_add]; exact h2⟩
    · rintro ⟨k, hk, h1, h2⟩
      rw [Nat.zero_add] at h1 h2
      obtain ⟨_, p1, p2⟩ := lo_hi_has (p := hasP T B (a : Int)) hk (by unfold hasP; rw [decide_eq_true h1, Bool.true_or])
      obtain ⟨_, q1, q2⟩ := lo_hi_has (p := hasP T B (b : Int)) hk (by unfold hasP; rw [decide_eq_true h2, Bool.or_true])
      rw [a4] at p1; rw [a5] at p2; rw [b4] at q1; rw [b5] at q2
      refine ⟨⟨by omega, by omega⟩, k - max (netL T B n a) (netL T B n b), by omega, ?_, ?_⟩
      · rw [show max (netL T B n a) (netL T B n b) + (k - max (netL T B n a) (netL T B n b)) = k by omega]; exact h1
      · rw [show max (netL T B n a) (netL T B n b) + (k - max (netL T B n a) (netL T B n b)) = k by omega]; exact h2
theorem testBit_mask (p : Nat → Bool) (k n : Nat) : (maskTo p k).testBit n = (decide (n < k) && p n) := by
  rw [Nat.testBit_eq_decide_div_mod_eq, mask_bit]
  cases decide (n < k) && p n <;> rfl
/-- Is the number in the set of nets? -/
theorem has_net {T B : List Int} {n : Nat} (y : Int) : (decide (0 ≤ y) && (netsM T B n).testBit y.toNat) = isNetI T B n y := by
  unfold netsM
  rw [testBit_mask, Bool.eq_iff_iff]
  simp only [Bool.and_eq_true, decide_eq_true_eq]
  constructor
  · rintro ⟨h0, h1, h2⟩
    have e : y = (y.toNat : Int) := by omega
    rw [e]
    refine isNetI_of ?_
    unfold netsL
    rw [memL_zero, List.mem_filter, List.mem_range]
    exact ⟨h1, h2⟩
  · intro h
    obtain ⟨k, rfl, hk, h1, h13⟩ := isNetI_nat h
    exact ⟨by omega, by simpa using h13, by simpa using (memL_lt hk).2⟩
theorem isNetI_in {T B : List Int} {n : Nat} {x : Int} (h : isNetI T B n x = true) : ∃ k : Nat, x = k ∧ k ∈ netsL T B n ∧ k < 13 ∧ isNetB T B n k = true := by
  obtain ⟨k, rfl, hk, h1, h13⟩ := isNetI_nat h
  exact ⟨k, rfl, hk, h13, (memL_lt hk).2⟩
/-- What the stack of the nets tells of two of them. -/
theorem above_has {T B : List Int} {n : Nat} (x : Int) (y : Nat) (hy : isNetI T B n (y : Int) = true) :
    (decide (0 ≤ x) && abF T B netN (netL T B n) (netH T B n) (doneO (netsL T B n) (netsL T B n).length) y x.toNat) = aboveV T B n x (y : Int) := by
  obtain ⟨k, e, hk, h13, hB⟩ := isNetI_in hy
  obtain rfl : y = k := by omega
  cases hx : isNetI T B n x
  · rw [above_fx hx]
    by_cases h0 : 0 ≤ x
    · rw [decide_eq_true h0, Bool.true_and]
      unfold abF doneO
      rw [List.take_length]
      have : ¬ x.toNat ∈ netsL T B n := fun hm => by
        have := isNetI_of hm
        rw [show ((x.toNat : Nat) : Int) = x by omega] at this
        rw [this] at hx; cases hx
      rw [decide_eq_false this]; simp
    · rw [decide_eq_false h0, Bool.false_and]
  · obtain ⟨j, rfl, hj, j13, hJ⟩ := isNetI_in hx
    have h0 : (0 : Int) ≤ j := by omega
    rw [decide_eq_true h0, Bool.true_and, Int.toNat_natCast]
    unfold abF doneO
    rw [List.take_length, decide_eq_true hj, decide_eq_true hk, Bool.true_and, Bool.true_and, abB_nets hJ hB]
    unfold aboveV
    rw [hx, hy, Bool.true_and, Bool.true_and]
    congr 1
    rw [decide_eq_decide]
    omega
end Go.Proofs.YtefcfpagbjflbaaDoor
