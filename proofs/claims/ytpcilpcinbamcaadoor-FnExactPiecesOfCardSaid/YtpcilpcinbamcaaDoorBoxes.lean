/-
  What loops over a set of nets hold: boxes, and the worlds that keep them.
-/
import Derived.Test.YtpcilpcinbamcaaDoorNets
import Derived.Test.YtpcilpcinbamcaaDoorEach
import Derived.Test.YtpcilpcinbamcaaDoorMarkI
import Derived.Stop.RegionWithIn
namespace Go.Proofs.YtpcilpcinbamcaaDoor
set_option linter.unusedSimpArgs false
set_option linter.unusedVariables false
open Go.ChangeShapes Go.WideShapes Go.ChangeAt Go.RowKit Go.Shelf

theorem netsL_len (T B : List Int) (n : Nat) : (netsL T B n).length ≤ 13 := memL_len _ _ _
attribute [local go_sem] Oper.semAt_some
/-- What the loop over the nets holds. -/
def DCells (N : Nat) (V C : Value) (f : Nat → Int) (k : Nat) (W : World) : Prop :=
  W.cell? ⟨N, 0, none⟩ = some V ∧ W.cell? ⟨N + 1, 0, none⟩ = some C ∧ W.cell? ⟨N + 1 + 1, 0, none⟩ = some (.int .i64 (f k)) ∧ W.frozen? ⟨N + 1 + 1, 0, none⟩ = false
theorem DCells.own (N : Nat) (V C : Value) (f : Nat → Int) : Own (DCells N V C f) := fun s A B row hs hg hr =>
  ⟨cell_kept hs.1 hg hr, cell_kept hs.2.1 hg hr, cell_kept hs.2.2.1 hg hr, (frozen_kept hs.2.2.1 hg hr).trans hs.2.2.2⟩

theorem keepsFrom_below {B : Nat} {W W' : World} (h : Below W.heap.size W W') : KeepsFrom B W W' :=
  ⟨h.size, fun k o _ hk _ => (h.block k (Array.getElem?_eq_some_iff.1 hk).1).trans hk⟩
theorem new_cell (w : World) (v : Value) (t : TypeId) : (w.alloc (.cells #[v] t)).cell? ⟨w.heap.size, 0, none⟩ = some v := by simp
theorem new_frozen (w : World) (v : Value) (t : TypeId) : (w.alloc (.cells #[v] t)).frozen? ⟨w.heap.size, 0, none⟩ = false := by simp
theorem three_boxes (w : World) (V C D : Value) (s t u : TypeId) :
    (((w.alloc (.cells #[V] s)).alloc (.cells #[C] t)).alloc (.cells #[D] u)).cell? ⟨w.heap.size, 0, none⟩ = some V ∧
    (((w.alloc (.cells #[V] s)).alloc (.cells #[C] t)).alloc (.cells #[D] u)).cell? ⟨w.heap.size + 1, 0, none⟩ = some C ∧
    (((w.alloc (.cells #[V] s)).alloc (.cells #[C] t)).alloc (.cells #[D] u)).cell? ⟨w.heap.size + 1 + 1, 0, none⟩ = some D ∧
    (((w.alloc (.cells #[V] s)).alloc (.cells #[C] t)).alloc (.cells #[D] u)).frozen? ⟨w.heap.size + 1 + 1, 0, none⟩ = false := by
  have a0 := new_cell w V s
  have a1 := new_cell (w.alloc (.cells #[V] s)) C t
  have a2 := new_cell ((w.alloc (.cells #[V] s)).alloc (.cells #[C] t)) D u
  have a3 := new_frozen ((w.alloc (.cells #[V] s)).alloc (.cells #[C] t)) D u
  have b1 : Below (w.alloc (.cells #[V] s)).heap.size (w.alloc (.cells #[V] s)) ((w.alloc (.cells #[V] s)).alloc (.cells #[C] t)) := (Below.refl _ _).alloc (Nat.le_refl _) _
  have b2 : Below ((w.alloc (.cells #[V] s)).alloc (.cells #[C] t)).heap.size ((w.alloc (.cells #[V] s)).alloc (.cells #[C] t)) (((w.alloc (.cells #[V] s)).alloc (.cells #[C] t)).alloc (.cells #[D] u)) := (Below.refl _ _).alloc (Nat.le_refl _) _
  have e0 := (b2.cell (p := ⟨w.heap.size, 0, none⟩) (by simp; omega)).trans ((b1.cell (p := ⟨w.heap.size, 0, none⟩) (by simp)).trans a0)
  have e1 := (b2.cell (p := ⟨(w.alloc (.cells #[V] s)).heap.size, 0, none⟩) (by simp)).trans a1
  refine ⟨e0, ?_, ?_, ?_⟩
  · simpa only [World.size_alloc] using e1
  · simpa only [World.size_alloc] using a2
  · simpa only [World.size_alloc] using a3

end Go.Proofs.YtpcilpcinbamcaaDoor
