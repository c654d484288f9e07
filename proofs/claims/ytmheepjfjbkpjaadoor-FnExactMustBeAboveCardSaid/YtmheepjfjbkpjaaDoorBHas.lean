/-
  Contract: has a set of bits a number?
-/
import Derived.Test.YtmheepjfjbkpjaaDoorStackA
namespace Go.Proofs.YtmheepjfjbkpjaaDoor
set_option linter.unusedSimpArgs false
set_option linter.unusedVariables false
open Go.ChangeShapes Go.WideShapes Go.ChangeAt Go.RowKit

theorem bit_and (v k : Nat) (hv : v < 18446744073709551616) : (bits .and .u64 ((v : Int) / 2 ^ min k 64) 1 == 1) = v.testBit k := by
  have e : (v : Int) / 2 ^ min k 64 = ((v / 2 ^ min k 64 : Nat) : Int) := by simp
  have h1 := bits_and_u64_nat (v / 2 ^ min k 64) 1 (Nat.lt_of_le_of_lt (Nat.div_le_self _ _) hv) (by omega)
  rw [Nat.and_one_is_mod] at h1
  rw [e]
  have h2 : bits .and .u64 ((v / 2 ^ min k 64 : Nat) : Int) 1 = ((v / 2 ^ min k 64 % 2 : Nat) : Int) := h1
  rw [h2, Nat.testBit_eq_decide_div_mod_eq]
  have h3 : v / 2 ^ min k 64 = v / 2 ^ k := by
    rcases Nat.lt_or_ge k 64 with h | h
    · rw [Nat.min_eq_left (by omega)]
    · rw [Nat.min_eq_right h, Nat.div_eq_of_lt (show v < 2 ^ 64 from hv), Nat.div_eq_of_lt (Nat.lt_of_lt_of_le (show v < 2 ^ 64 from hv) (Nat.pow_le_pow_right (by omega) h))]
  rw [h3]
  generalize v / 2 ^ k % 2 = r
  rw [Bool.eq_iff_iff, beq_iff_eq, decide_eq_true_eq]
  omega
set_option maxRecDepth 100000 in
set_option maxHeartbeats 800000 in
theorem bhas_any (v : Nat) (hv : v < 18446744073709551616) (n : Int) (b : Bool) (HI : Hid ((decide (0 ≤ n) && v.testBit n.toNat) = b)) (w : World) :
    Calls Tryd.prog 36 #[.int .u64 v, .int .i64 n] w fun e w' => e = .returned (.bool b) ∧ w' = w := by
  by_cases h0 : 0 ≤ n
  · obtain ⟨k, rfl⟩ : ∃ k : Nat, n = k := ⟨n.toNat, by omega⟩
    have hk0 : (0 : Int) ≤ k := by omega
    have hR : (bits .and .u64 ((v : Int) / 2 ^ min k 64) 1 == 1) = b := by
      rw [bit_and v k hv, ← HI.out, decide_eq_true hk0]; rfl
    have HR := Lib.hid hR
    clear hR
    go_enter Tryd.func36, Tryd.ntmps36
    go_wp2
    go_ret
    exact ⟨retB (by rw [HR.out]), rfl⟩
  · have hb : b = false := by rw [← HI.out, decide_eq_false h0]; rfl
    subst hb
    have hd : decide (0 ≤ n) = false := decide_eq_false h0
    go_enter Tryd.func36, Tryd.ntmps36
    go_wp2
    go_ret
    exact ⟨rfl, rfl⟩
end Go.Proofs.YtmheepjfjbkpjaaDoor
