/-
  Contracts: sets of bits: one number's set, has a set a number.
-/
import Derived.Test.YtifenbamookmiaaDoorPts
import Derived.Laws.Bits64b
import Derived.Laws.BitsAllLaws
namespace Go.Proofs.YtifenbamookmiaaDoor
set_option linter.unusedSimpArgs false
set_option linter.unusedVariables false
open Go.ChangeShapes Go.WideShapes Go.ChangeAt Go.RowKit

theorem bitsetOf_any (k : Nat) (hk : k < 64) (w : World) :
    Calls Tryd.prog 72 #[.int .i64 k] w fun e w' => e = .returned (.int .u64 ((2 ^ k : Nat) : Int)) ∧ w' = w := by
  have hw : IntKind.u64.wrap ((2 : Int) ^ k) = ((2 ^ k : Nat) : Int) := by
    have h64 : 2 ^ (k + 1) ≤ 18446744073709551616 := Nat.pow_le_pow_right (n := 2) (i := k + 1) (j := 64) (by omega) (by omega)
    rw [Nat.pow_succ] at h64
    have e : (2 : Int) ^ k = ((2 ^ k : Nat) : Int) := by simp
    rw [e, IntKind.wrap_u64]
    omega
  have HW := Lib.hid hw
  clear hw
  go_enter Tryd.func72, Tryd.ntmps72
  go_wp2
  go_ret
  exact ⟨by rw [HW.out]; rfl, rfl⟩

theorem bit_and (v k : Nat) (hv : v < 18446744073709551616) : (bits .and .u64 ((v : Int) / 2 ^ min k 64) 1 == 1) = v.testBit k := by
  have e : (v : Int) / 2 ^ min k 64 = ((v / 2 ^ min k 64 : Nat) : Int) := by simp
  have h1 := bits_and_u64_nat (v / 2 ^ min k 64) 1 (Nat.lt_of_le_of_lt (Nat.div_le_self _ _) hv) (by omega)
  rw [Nat.and_one_is_mod] at h1
  rw [e]
  have h2 : bits .and .u64 ((v / 2 ^ min k 64 : Nat) : Int) 1 = ((v / 2 ^ min k 64 % 2 : Nat) : Int) := h1
  rw [h2, Nat.testBit_eq_decide_div_mod_eq]
  have h3 : v / 2 ^ min k 64 = v / 2 ^ k := by
    rcases Nat.lt_or_ge k 64 with h | h
    · rw [Nat.min_eq_left (by omega)]
    · rw [Nat.min_eq_right h, Nat.div_eq_of_lt (show v < 2 ^ 64 from hv), Nat.div_eq_of_lt (Nat.lt_of_lt_of_le (show v < 2 ^ 64 from hv) (Nat.pow_le_pow_right (by omega) h))]
  rw [h3]
  generalize v / 2 ^ k % 2 = r
  rw [Bool.eq_iff_iff, beq_iff_eq, decide_eq_true_eq]
  omega
set_option maxRecDepth 100000 in
set_option maxHeartbeats 800000 in
theorem bhas_any (v : Nat) (hv : v < 18446744073709551616) (n : Int) (b : Bool) (HI : Hid ((decide (0 ≤ n) && v.testBit n.toNat) = b)) (w : World) :
    Calls Tryd.prog 71 #[.int .u64 v, .int .i64 n] w fun e w' => e = .returned (.bool b) ∧ w' = w := by
  by_cases h0 : 0 ≤ n
  · obtain ⟨k, rfl⟩ : ∃ k : Nat, n = k := ⟨n.toNat, by omega⟩
    have hk0 : (0 : Int) ≤ k := by omega
    have hR : (bits .and .u64 ((v : Int) / 2 ^ min k 64) 1 == 1) = b := by
      rw [bit_and v k hv, ← HI.out, decide_eq_true hk0]; rfl
    have HR := Lib.hid hR
    clear hR
    go_enter Tryd.func71, Tryd.ntmps71
    go_wp2
    go_ret
    exact ⟨retB (by rw [HR.out]), rfl⟩
  · have hb : b = false := by rw [← HI.out, decide_eq_false h0]; rfl
    subst hb
    have hd : decide (0 ≤ n) = false := decide_eq_false h0
    go_enter Tryd.func71, Tryd.ntmps71
    go_wp2
    go_ret
    exact ⟨rfl, rfl⟩

/-- What is in one set and not in another one. -/
theorem bits_less (a b : Nat) (ha : a < 18446744073709551616) (hb : b < 18446744073709551616) :
    ∃ v : Nat, bits .andNot .u64 (a : Int) (b : Int) = (v : Int) ∧ v < 18446744073709551616 ∧ ∀ m, v.testBit m = (a.testBit m && !b.testBit m) := by
  refine ⟨_, u64_andNot_nat a b ha hb, Nat.lt_of_le_of_lt Nat.and_le_left ha, fun m => ?_⟩
  rw [Nat.testBit_and]
  have h := Nat.testBit_two_pow_sub_succ (n := 64) (x := b) hb m
  rw [show (18446744073709551615 : Nat) - b = 2 ^ 64 - (b + 1) by omega, h]
  by_cases hm : m < 64
  · simp [hm]
  · have : a.testBit m = false := Nat.testBit_lt_two_pow (Nat.lt_of_lt_of_le ha (Nat.pow_le_pow_right (n := 2) (i := 64) (by omega) (by omega)))
    simp [this]
theorem bits_join (a b : Nat) (ha : a < 18446744073709551616) (hb : b < 18446744073709551616) :
    ∃ v : Nat, bits .or .u64 (a : Int) (b : Int) = (v : Int) ∧ v < 18446744073709551616 ∧ ∀ m, v.testBit m = (a.testBit m || b.testBit m) :=
  ⟨_, bits_or_u64_nat a b ha hb, Nat.or_lt_two_pow (n := 64) ha hb, fun m => Nat.testBit_or _ _ _⟩
theorem pow_lt64 {k : Nat} (h : k < 64) : 2 ^ k < 18446744073709551616 := Nat.pow_lt_pow_right (a := 2) (m := k) (n := 64) (by omega) h
theorem pow_bit (k m : Nat) : (2 ^ k).testBit m = decide (m = k) := by rw [Nat.testBit_two_pow]; exact decide_eq_decide.2 eq_comm
end Go.Proofs.YtifenbamookmiaaDoor
