/-
  Contract: spec's l03Is: is a channel valid?
-/
import Derived.Test.YtifenbamookmiaaDoorChan
import Derived.Deep.DeepCutAuto
namespace Go.Proofs.YtifenbamookmiaaDoor
set_option linter.unusedSimpArgs false
set_option linter.unusedVariables false
open Go.ChangeShapes Go.WideShapes Go.ChangeAt Go.RowKit

/-- The box of a channel. -/
structure ChAt (w : World) (b : Nat) (A A' : Option Addr) (n n' c c' : Nat) : Prop where
  lt : b < w.heap.size
  c0 : w.cell? ⟨b, 0, none⟩ = some (.slice A n c)
  c1 : w.cell? ⟨b, 1, none⟩ = some (.slice A' n' c')
theorem ChAt.to {w w1 : World} {b : Nat} {A A' : Option Addr} {n n' c c' : Nat} (h : ChAt w b A A' n n' c c') (hb : Below w.heap.size w w1) : ChAt w1 b A A' n n' c c' :=
  ⟨Nat.lt_of_lt_of_le h.lt hb.size, (hb.cell (p := ⟨b, 0, none⟩) h.lt).trans h.c0, (hb.cell (p := ⟨b, 1, none⟩) h.lt).trans h.c1⟩
theorem CntAt.new (w : World) (cs : Array Value) (t : TypeId) (hz : cs.size = 13) (h0 : ∀ j, j < 13 → cs[j]? = some (.int .i64 0)) : CntAt (w.alloc (.cells cs t)) w.heap.size t [] :=
  ⟨cs, heap_alloc_new w _, hz, fun j hj => by rw [h0 j hj]; rfl⟩
theorem zero13 : ∀ j, j < 13 → (blankN 13)[j]? = some (.int .i64 0) := by
  intro j hj
  simp [blankN, madeCells, hj, Nat.mod_one]
theorem cnt_le (L : List Int) (n : Int) (hL : L.length ≤ 48) : 0 ≤ (L.count n : Int) ∧ (L.count n : Int) ≤ 48 := by
  have := List.count_le_length (a := n) (l := L)
  omega
theorem formB_f {T B : List Int} (h : ¬ (1 ≤ T.length ∧ T.length ≤ 24 ∧ B.length = T.length)) : chanB T B = false := by
  unfold chanB formB; rw [decide_eq_false h]; rfl
theorem chanB_in {T B : List Int} (h : (pinsTo T B T.length).all inNet = false) : chanB T B = false := by
  unfold chanB; rw [h]; simp
theorem chanB_one {T B : List Int} (h : single (pinsTo T B T.length) = true) : chanB T B = false := by
  unfold chanB; rw [h]; simp
theorem chanB_t {T B : List Int} (h : 1 ≤ T.length ∧ T.length ≤ 24 ∧ B.length = T.length) (h1 : (pinsTo T B T.length).all inNet = true) (h2 : single (pinsTo T B T.length) = false) : chanB T B = true := by
  unfold chanB formB; rw [decide_eq_true h, h1, h2]; rfl
theorem inNet_nat {n : Int} (h : inNet n = true) : ∃ j : Nat, j < 13 ∧ n = (j : Int) := by
  unfold inNet inB at h
  have := of_decide_eq_true h
  exact ⟨n.toNat, by omega, by omega⟩
theorem single_at {L : List Int} {j : Nat} (h1 : 1 ≤ j) (h13 : j < 13) (h : L.count (j : Int) = 1) : single L = true := by
  unfold single
  rw [List.any_eq_true]
  exact ⟨j - 1, by simp; omega, by rw [show j - 1 + 1 = j by omega, h]; rfl⟩
theorem single_no {L : List Int} (h : ∀ j : Nat, 1 ≤ j → j < 13 → L.count (j : Int) ≠ 1) : single L = false := by
  unfold single
  rw [List.any_eq_false]
  intro k hk
  simp at hk
  simpa using h (k + 1) (by omega) (by omega)
/-- No one of the numbers 1 .. k - 1 is in L once. -/
def NoOne (L : List Int) (k : Nat) : Prop := ∀ j : Nat, 1 ≤ j → j < k → L.count (j : Int) ≠ 1

end Go.Proofs.YtifenbamookmiaaDoor
