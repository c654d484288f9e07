/-
  Contract: the program's check of a path.
-/
import Derived.Test.YtepamhdopmfkfaaPath
namespace Go.Proofs.Ytepamhdopmfkfaa
set_option linter.unusedSimpArgs false
set_option linter.unusedVariables false
open Go.ChangeShapes Go.WideShapes Go.ChangeAt Go.RowKit

theorem smOf2 {a b d e : Prop} {w : World} {mb : Nat} {l : List (Int × Int)} (h : a ∧ b ∧ SetMap w mb l ∧ d ∧ e) : SetMap w mb l := h.2.2.1
theorem smOf4 {a b c f d e : Prop} {w : World} {mb : Nat} {l : List (Int × Int)} (h : a ∧ b ∧ c ∧ f ∧ SetMap w mb l ∧ d ∧ e) : SetMap w mb l := h.2.2.2.2.1
theorem pathI_at {ps : List (Int × Int)} {n : Nat} (h : pathI ps n = false) (hs : n ≤ ps.length) : isPathB ps = false := by
  unfold isPathB; rw [pathS_len, pathI_bad ps n ps.length hs h]; simp

theorem keepM {N : Nat} {w wr wr' : World} {b1 o1 b2 o2 mb : Nat} {X Y X' Y' : Value} {l : List (Int × Int)}
    (h : wr.cell? ⟨b1, o1, none⟩ = some X ∧ wr.cell? ⟨b1, o1 + 1, none⟩ = some Y ∧ wr.cell? ⟨b2, o2, none⟩ = some X' ∧ wr.cell? ⟨b2, o2 + 1, none⟩ = some Y' ∧ SetMap wr mb l ∧ Below N w wr ∧ N ≤ wr.heap.size)
    (hs : Below wr.heap.size wr wr') :
    wr'.cell? ⟨b1, o1, none⟩ = some X ∧ wr'.cell? ⟨b1, o1 + 1, none⟩ = some Y ∧ wr'.cell? ⟨b2, o2, none⟩ = some X' ∧ wr'.cell? ⟨b2, o2 + 1, none⟩ = some Y' ∧ SetMap wr' mb l ∧ Below N w wr' ∧ N ≤ wr'.heap.size := by
  obtain ⟨h0, h1, h2, h3, hM, hb, hz⟩ := h
  obtain ⟨a0, a1, a2, a3, a4, a5⟩ := keep4 ⟨h0, h1, h2, h3, hb, hz⟩ hs
  exact ⟨a0, a1, a2, a3, hM.to hs, a4, a5⟩

end Go.Proofs.Ytepamhdopmfkfaa
