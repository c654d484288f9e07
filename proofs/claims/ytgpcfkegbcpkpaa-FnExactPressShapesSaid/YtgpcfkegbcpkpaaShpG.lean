/-
  The rules of shapes (no walk).
-/
import Derived.Test.YtgpcfkegbcpkpaaShpA
import Derived.Test.YtgpcfkegbcpkpaaRulO
import Derived.Test.YtgpcfkegbcpkpaaLstI
namespace Go.Proofs.Ytgpcfkegbcpkpaa
set_option linter.unusedSimpArgs false
set_option linter.unusedVariables false

/-- A shape that begins before another one, and faces it. -/
def faB (s o : R4) : Bool := decide (s.1 < o.1) && meetB s.2.1 s.2.2.2 o.2.1 o.2.2.2
def rowR (ss : List R4) (a : Int) (i : Nat) : Nat → List R3
  | 0 => []
  | j + 1 => if faB (ss.getD i r40) (ss.getD j r40) = true then rowR ss a i j ++ [((i : Int), (j : Int), (ss.getD i r40).2.2.1 + a)] else rowR ss a i j
def allR (ss : List R4) (a : Int) : Nat → List R3
  | 0 => []
  | i + 1 => allR ss a i ++ rowR ss a i ss.length
theorem rowR_t {ss : List R4} {a : Int} {i j : Nat} (h : faB (ss.getD i r40) (ss.getD j r40) = true) : rowR ss a i (j + 1) = rowR ss a i j ++ [((i : Int), (j : Int), (ss.getD i r40).2.2.1 + a)] := by rw [rowR, if_pos h]
theorem rowR_f {ss : List R4} {a : Int} {i j : Nat} (h : faB (ss.getD i r40) (ss.getD j r40) = false) : rowR ss a i (j + 1) = rowR ss a i j := by rw [rowR, if_neg (by rw [h]; simp)]
theorem rowR_len (ss : List R4) (a : Int) (i : Nat) : ∀ j, (rowR ss a i j).length ≤ j
  | 0 => Nat.le_refl _
  | j + 1 => by
    have := rowR_len ss a i j
    unfold rowR; split <;> simp <;> omega
theorem allR_len (ss : List R4) (a : Int) : ∀ i, (allR ss a i).length ≤ i * ss.length
  | 0 => by simp [allR]
  | i + 1 => by
    have h1 := allR_len ss a i
    have h2 := rowR_len ss a i ss.length
    simp only [allR, List.length_append]
    rw [Nat.succ_mul]
    omega
/-- The press of shapes. -/
def shpO (ss : List R4) (a : Int) : Option (List R3) := if arS ss = true ∧ inB a 0 1000 = true ∧ prB (ss.length : Int) (allR ss a ss.length) = true then some (allR ss a ss.length) else none
theorem arS_facts {ss : List R4} (h : arS ss = true) : (1 ≤ ss.length ∧ ss.length ≤ 12) ∧ ∀ k, k < ss.length → shB (ss.getD k r40) = true := by
  unfold arS at h
  simp only [Bool.and_eq_true, decide_eq_true_eq] at h
  exact ⟨h.2, shs_v h.1⟩
end Go.Proofs.Ytgpcfkegbcpkpaa
