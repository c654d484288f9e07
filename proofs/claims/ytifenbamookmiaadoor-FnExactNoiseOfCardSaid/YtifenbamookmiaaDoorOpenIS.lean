/-
  Slices of slices of numbers as arguments.
-/
import Derived.Test.YtifenbamookmiaaDoorIS
namespace Go.Proofs.YtifenbamookmiaaDoor
set_option linter.unusedSimpArgs false
set_option linter.unusedVariables false
open Go.ChangeShapes Go.WideShapes Go.ChangeAt Go.RowKit


variable {H : Type} {enc : TypeId × Value → H}
theorem open_intss_trod {w : World} {v : Value} {n : Nat} {y : DataW H × List MemPlace} (hf : DataW.trod enc Tryd.prog w 0 (fun _ => true) true n 22 [v] = some y) : ∃ (A : Option Addr) (Ls : List SlI) (c : Nat), v = .slice A Ls.length c ∧ RowsIn w A Ls c := by
  rcases Go.Deep.open_slice1 Tryd.underlying22 (by kernel_rfl) hf with ⟨hcs, _⟩ | ⟨a, l, c, m, n, V, D, Pl, hcs, _, hl, hm, hmm, _, hx⟩
  · injection hcs with hcs
    exact ⟨none, [], 0, by simpa using hcs, fun h => by simp at h, fun i h => by simp at h, by simp, by simp⟩
  · injection hcs with hcs
    subst hcs
    simp only [if_true] at hmm
    subst hmm
    have each : ∀ i, i < l → ∃ z : SlI, V i = .slice z.1 z.2.1.length z.2.2 ∧ (IntsAt w w.heap.size z.1 z.2.1 ∧ (∀ n ∈ z.2.1, Fits n)) ∧ z.2.1.length ≤ z.2.2 ∧ z.2.2 ≤ maxLen := fun i hi => open_ints_z (hx i (by omega)).2
    obtain ⟨z, hz⟩ := Go.Deep.choose_lt each
    have e : ∀ i, i < l → ((List.range l).map z).getD i si0 = z i := fun i hi => by simp [List.getD_eq_getElem?_getD, hi]
    refine ⟨some a, (List.range l).map z, m, by simp, ?_, fun i hi => ?_, by simpa using hl, hm⟩
    rotate_left
    · simp at hi
      rw [e i hi]
      exact (hz i hi).2.1.2
    intro h0
    simp at h0
    obtain ⟨b, off, spot⟩ := a
    have hc0 := (hx 0 (by omega)).1
    have hspot : spot = none := by simpa [Addr.add] using World.cell?_spot hc0
    subst hspot
    refine ⟨b, off, rfl, World.block_lt_of_cell? w ⟨b, off, none⟩ (by simpa [Addr.add] using hc0), fun i hi => ?_⟩
    simp at hi
    rw [e i hi]
    obtain ⟨h1, h2, h3, h4⟩ := hz i hi
    have h5 := (hx i (by omega)).1
    rw [add_plain] at h5
    exact ⟨by rw [h5, h1], h2.1, h3, h4⟩
end Go.Proofs.YtifenbamookmiaaDoor
