/-
  Contracts: spec's l01Value: the number with a text.
-/
import Derived.Test.YtpcilpcinbamcaaDoorReadM
import Derived.Test.YtpcilpcinbamcaaDoorText
namespace Go.Proofs.YtpcilpcinbamcaaDoor
set_option linter.unusedSimpArgs false
set_option linter.unusedVariables false
open Go.ChangeShapes Go.WideShapes Go.ChangeAt Go.RowKit

/-- What l01Value has before it compares. -/
def valM (s : ByteArray) : Int := if s.size ≤ 11 then (if s.data.toList.head? = some 45 then -(accN s.data.toList : Int) else accN s.data.toList) else 0
/-- The text of n is s. -/
def isTx (n : Int) (s : ByteArray) : Bool := decide ((⟨(Lib.itoa n).toArray⟩ : ByteArray) = s)
theorem take_next (s : ByteArray) (k : Nat) (h : k < s.size) : s.data.toList.take (k + 1) = s.data.toList.take k ++ [s[k]] := by
  rw [List.take_succ_eq_append_getElem (by simpa using h)]; rfl
theorem accN_next (s : ByteArray) (k : Nat) (h : k < s.size) : accN (s.data.toList.take (k + 1)) = stepN (accN (s.data.toList.take k)) s[k] := by rw [take_next s k h, accN_snoc]

theorem tx_ne {a b : ByteArray} (h : a ≠ b) : (a.toList == b.toList) = false := by
  rw [beq_eq_false_iff_ne]
  intro e
  rw [ByteArray.toList_eq, ByteArray.toList_eq] at e
  exact h (by cases a; cases b; simp only [ByteArray.mk.injEq]; exact Array.ext' e)

theorem num_facts {s : ByteArray} {m : Int} (h : IsNum s m) : 0 < s.size ∧ s.size ≤ 11 ∧ (⟨(Lib.itoa m).toArray⟩ : ByteArray) = s ∧ accN s.data.toList = m.natAbs ∧ (s.data.toList.head? = some 45 ↔ m < 0) := by
  obtain ⟨h1, h2, h3⟩ := h
  have hsz : s.size = (Lib.itoa m).length := by rw [← h3, Array.length_toList]; rfl
  have hp := List.length_pos_iff.2 (itoa_ne m)
  refine ⟨by omega, by have := itoa_len m h1 h2; omega, ?_, by rw [h3, itoa_acc], by rw [h3, itoa_head]⟩
  rw [← h3]

/-- A text of no number falls at the comparison. -/
theorem bad_of_none {s : ByteArray} (h : ∀ m, ¬ IsNum s m) (n : Int) : (itmB n && isTx n s) = false := by
  cases hi : itmB n
  · rfl
  · rw [Bool.true_and]
    unfold itmB inB at hi
    simp at hi
    exact decide_eq_false fun e => h n ⟨by omega, by omega, by rw [← e]⟩
end Go.Proofs.YtpcilpcinbamcaaDoor
