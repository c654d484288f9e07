/-
  Contracts: what is required, and the panic where it is not so; blocks as a whole.
-/
import Derived.Test.YtifenbamookmiaaDoorPts
import Derived.Tactics2
import Derived.Defers
import Derived.Recover
import Derived.Laws.Pointers
import Derived.Laws.Rows
import Derived.WalkLawsBesides
namespace Go.Proofs.YtifenbamookmiaaDoor
set_option linter.unusedSimpArgs false
set_option linter.unusedVariables false
open Go.ChangeShapes Go.WideShapes Go.ChangeAt Go.RowKit

/-- A panic with a value of some type, not recovered. -/
def Pan (e : Ending) : Prop := ∃ u pv, e = .panicked [{ v := .iface u pv, recovered := false }]
theorem require_yes (w : World) : Calls Tryd.prog 48 #[.bool true] w fun e w' => e = .returned (.tuple #[]) ∧ w' = w := by
  go_enter Tryd.func48, Tryd.ntmps48
  go_wp2
  go_end0
  exact ⟨rfl, rfl⟩
theorem require_no (w : World) : Calls Tryd.prog 48 #[.bool false] w fun e w' => Pan e ∧ w' = w := by
  go_enter Tryd.func48, Tryd.ntmps48
  go_wp2
  exact ⟨rfl, ⟨_, _, rfl⟩, rfl⟩

/-- A block holds these cells, none of them frozen. -/
def Blk (w : World) (g : Nat) (vs : Array Value) (t : TypeId) : Prop := w.heap[g]? = some (.cells vs t (0, 0))
theorem Blk.new (w : World) (vs : Array Value) (t : TypeId) : Blk (w.alloc (.cells vs t)) w.heap.size vs t := by unfold Blk World.alloc; simp
theorem Blk.lt {w : World} {g : Nat} {vs : Array Value} {t : TypeId} (h : Blk w g vs t) : g < w.heap.size := by
  rcases Nat.lt_or_ge g w.heap.size with hl | hl
  · exact hl
  · rw [Blk, Array.getElem?_eq_none (by omega)] at h; cases h
theorem Blk.keep {w w' : World} {g : Nat} {vs : Array Value} {t : TypeId} (h : Blk w g vs t) (hk : w'.heap[g]? = w.heap[g]?) : Blk w' g vs t := hk.trans h
theorem Blk.alloc {w : World} {g : Nat} {vs : Array Value} {t : TypeId} (h : Blk w g vs t) (o : Obj) : Blk (w.alloc o) g vs t := (Below.heap_alloc w o g h.lt).trans h
theorem Blk.to {w w1 : World} {g : Nat} {vs : Array Value} {t : TypeId} (h : Blk w g vs t) (hb : Below w.heap.size w w1) : Blk w1 g vs t := h.keep (hb.block g h.lt)
theorem Blk.far {w : World} {g : Nat} {vs : Array Value} {t : TypeId} (h : Blk w g vs t) {p : Addr} (hp : g ≠ p.block) (u : Value) : Blk (w.setCell p u) g vs t := (Below.heap_setCell w p u g hp).trans h
theorem Blk.set {w : World} {g : Nat} {vs : Array Value} {t : TypeId} (h : Blk w g vs t) (i : Nat) (v : Value) : Blk (w.setCell ⟨g, i, none⟩ v) g (vs.setIfInBounds i v) t := heap_setCell_same w g i vs t v h
theorem Blk.cell {w : World} {g : Nat} {vs : Array Value} {t : TypeId} (h : Blk w g vs t) (i : Nat) {v : Value} (hv : vs[i]? = some v) : w.cell? ⟨g, i, none⟩ = some v := by simp [World.cell?, show w.heap[g]? = _ from h, hv]
theorem Blk.frozen {w : World} {g : Nat} {vs : Array Value} {t : TypeId} (h : Blk w g vs t) (i : Nat) : w.frozen? ⟨g, i, none⟩ = false := by simp [World.frozen?, show w.heap[g]? = _ from h]

/-- Two blocks beside one another may have turned, no other one. -/
def Twin (B : Nat) (w w' : World) : Prop := w'.heap.size = w.heap.size ∧ ∀ b, b ≠ B → b ≠ B + 1 → w'.heap[b]? = w.heap[b]?
theorem Twin.refl (B : Nat) (w : World) : Twin B w w := ⟨rfl, fun _ _ _ => rfl⟩
theorem Twin.set {B : Nat} {w w' : World} (h : Twin B w w') {p : Addr} (hp : p.block = B ∨ p.block = B + 1) (v : Value) : Twin B w (w'.setCell p v) :=
  ⟨by simpa using h.1, fun b h1 h2 => (Below.heap_setCell w' p v b (by rcases hp with hp | hp <;> rw [hp] <;> assumption)).trans (h.2 b h1 h2)⟩
end Go.Proofs.YtifenbamookmiaaDoor
