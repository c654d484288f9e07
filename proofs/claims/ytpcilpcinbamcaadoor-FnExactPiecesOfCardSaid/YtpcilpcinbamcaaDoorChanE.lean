/-
  Contracts: ValidChannel; what the last comparison of a law over a channel keeps.
-/
import Derived.Test.YtpcilpcinbamcaaDoorChanI
namespace Go.Proofs.YtpcilpcinbamcaaDoor
set_option linter.unusedSimpArgs false
set_option linter.unusedVariables false
open Go.ChangeShapes Go.WideShapes Go.ChangeAt Go.RowKit

theorem chanB_form {T B : List Int} (h : chanB T B = true) : 1 ≤ T.length ∧ T.length ≤ 24 ∧ B.length = T.length := by
  unfold chanB formB at h
  simp only [Bool.and_eq_true, decide_eq_true_eq] at h
  exact h.1.1
/-- Two boxes, and nothing has turned below: so behind a call that only makes memory. -/
theorem keepE {w0 wr wr' : World} {x a : Nat} {X0 X1 A0 A1 : Value} (h : wr.cell? ⟨x, 0, none⟩ = some X0 ∧ wr.cell? ⟨x, 1, none⟩ = some X1 ∧ wr.cell? ⟨a, 0, none⟩ = some A0 ∧ wr.cell? ⟨a, 1, none⟩ = some A1 ∧ Below w0.heap.size w0 wr ∧ w0.heap.size ≤ wr.heap.size)
    (hs : Below wr.heap.size wr wr') :
    wr'.cell? ⟨x, 0, none⟩ = some X0 ∧ wr'.cell? ⟨x, 1, none⟩ = some X1 ∧ wr'.cell? ⟨a, 0, none⟩ = some A0 ∧ wr'.cell? ⟨a, 1, none⟩ = some A1 ∧ Below w0.heap.size w0 wr' ∧ w0.heap.size ≤ wr'.heap.size := by
  obtain ⟨h0, h1, h2, h3, hb, hz⟩ := h
  have l1 : x < wr.heap.size := World.block_lt_of_cell? wr _ h0
  have l2 : a < wr.heap.size := World.block_lt_of_cell? wr _ h2
  exact ⟨(hs.cell (p := ⟨x, 0, none⟩) l1).trans h0, (hs.cell (p := ⟨x, 1, none⟩) l1).trans h1, (hs.cell (p := ⟨a, 0, none⟩) l2).trans h2, (hs.cell (p := ⟨a, 1, none⟩) l2).trans h3, hb.trans (hs.mono hz), Nat.le_trans hz hs.size⟩
theorem drewE {w0 wr : World} {x a : Nat} {X0 X1 A0 A1 : Value} (h : wr.cell? ⟨x, 0, none⟩ = some X0 ∧ wr.cell? ⟨x, 1, none⟩ = some X1 ∧ wr.cell? ⟨a, 0, none⟩ = some A0 ∧ wr.cell? ⟨a, 1, none⟩ = some A1 ∧ Below w0.heap.size w0 wr ∧ w0.heap.size ≤ wr.heap.size) :
    wr.drew.cell? ⟨x, 0, none⟩ = some X0 ∧ wr.drew.cell? ⟨x, 1, none⟩ = some X1 ∧ wr.drew.cell? ⟨a, 0, none⟩ = some A0 ∧ wr.drew.cell? ⟨a, 1, none⟩ = some A1 ∧ Below w0.heap.size w0 wr.drew ∧ w0.heap.size ≤ wr.drew.heap.size := by
  obtain ⟨h0, h1, h2, h3, hb, hz⟩ := h
  exact ⟨h0, h1, h2, h3, hb.drew, hz⟩
theorem fifthE {a b c d e : Prop} {w0 wr : World} (h : a ∧ b ∧ c ∧ d ∧ Below w0.heap.size w0 wr ∧ e) : Below w0.heap.size w0 wr := h.2.2.2.2.1
end Go.Proofs.YtpcilpcinbamcaaDoor
