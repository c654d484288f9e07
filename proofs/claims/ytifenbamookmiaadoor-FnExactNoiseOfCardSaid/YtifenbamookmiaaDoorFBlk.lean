/-
  Blocks of truth values.
-/
import Derived.Test.YtifenbamookmiaaDoorIS
namespace Go.Proofs.YtifenbamookmiaaDoor
set_option linter.unusedSimpArgs false
set_option linter.unusedVariables false
open Go.ChangeShapes Go.WideShapes Go.ChangeAt Go.RowKit

def upd (f : Nat → Bool) (i : Nat) : Nat → Bool := fun j => if j = i then true else f j
/-- Block g holds n truth values. -/
def FBlk (w : World) (g n : Nat) (f : Nat → Bool) : Prop :=
  ∃ cs, w.heap[g]? = some (.cells cs 4 (0, 0)) ∧ cs.size = n ∧ ∀ i, i < n → cs[i]? = some (.bool (f i))
theorem FBlk.lt {w : World} {g n : Nat} {f : Nat → Bool} (h : FBlk w g n f) : g < w.heap.size := by
  obtain ⟨cs, h, _⟩ := h
  rcases Nat.lt_or_ge g w.heap.size with hlt | hge
  · exact hlt
  · rw [Array.getElem?_eq_none hge] at h; cases h
theorem FBlk.keep {w w' : World} {g n : Nat} {f : Nat → Bool} (h : FBlk w g n f) (hk : w'.heap[g]? = w.heap[g]?) : FBlk w' g n f := by
  obtain ⟨cs, h0, h1⟩ := h
  exact ⟨cs, hk.trans h0, h1⟩
theorem FBlk.to {w w1 : World} {g n : Nat} {f : Nat → Bool} (h : FBlk w g n f) (hb : Below w.heap.size w w1) : FBlk w1 g n f := h.keep (hb.block g h.lt)
theorem FBlk.at_ {w : World} {g n : Nat} {f : Nat → Bool} (h : FBlk w g n f) {i : Nat} (hi : i < n) : w.cell? ⟨g, i, none⟩ = some (.bool (f i)) := by
  obtain ⟨cs, h0, _, h2⟩ := h
  rw [cell_of_row w g _ cs _ _ h0]
  exact h2 i hi
theorem FBlk.frozen {w : World} {g n : Nat} {f : Nat → Bool} (h : FBlk w g n f) (i : Nat) : w.frozen? ⟨g, i, none⟩ = false := by
  obtain ⟨cs, h0, _⟩ := h
  simp [World.frozen?, h0]
theorem FBlk.set_ {w : World} {g n : Nat} {f : Nat → Bool} (h : FBlk w g n f) {i : Nat} (hi : i < n) : FBlk (w.setCell ⟨g, i, none⟩ (.bool true)) g n (upd f i) := by
  obtain ⟨cs, h0, h1, h2⟩ := h
  refine ⟨cs.setIfInBounds i (.bool true), by simp [World.setCell, Array.getElem?_modify, h0], by simpa using h1, fun j hj => ?_⟩
  unfold upd
  by_cases e : j = i
  · subst e
    simp only [Array.getElem?_setIfInBounds_self, h1]
    rw [if_pos hj]
    simp
  · rw [Array.getElem?_setIfInBounds_ne (Ne.symm e), if_neg e]
    exact h2 j hj
theorem infoF : (Tryd.prog.info? 4).map (fun i => (i.zero, i.size, i.bytes)) = some (some (.bool false), 1, 1) := by kernel_rfl
def blankF (n : Nat) : Array Value := madeCells #[.bool false] n
theorem run_mkbools (n : Nat) (h : n ≤ 1048576) (w : World) :
    (Instr.makeSlice 84 (.int .i64 (n : Int)) (.int .i64 (n : Int))).run Tryd.prog w = .ok (.slice (some ⟨w.heap.size, 0, none⟩) n n) (w.alloc (.cells (blankF n) 4)) := by
  obtain ⟨i, hi, hzz⟩ := Option.map_eq_some_iff.1 infoF
  simp only [Prod.mk.injEq] at hzz
  obtain ⟨hz, hs, hb⟩ := hzz
  have := run_make (P := Tryd.prog) w 84 4 i _ Tryd.underlying84 hi hz .i64 .i64 n n (by omega) (by omega) (by rw [hb]; omega) (by omega)
  rw [this, hs, Nat.mul_one]
  rfl
theorem FBlk.new (w : World) (n : Nat) : FBlk (w.alloc (.cells (blankF n) 4)) w.heap.size n (fun _ => false) :=
  ⟨blankF n, heap_alloc_new w _, by simp [blankF, size_madeCells], fun i hi => by simp [blankF, madeCells, hi, Nat.mod_one]⟩
end Go.Proofs.YtifenbamookmiaaDoor
