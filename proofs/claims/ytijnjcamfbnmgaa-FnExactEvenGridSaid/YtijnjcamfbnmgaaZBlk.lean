/-
  Blocks of numbers that are set one by one.
-/
import Derived.Test.YtijnjcamfbnmgaaFBlk
namespace Go.Proofs.Ytijnjcamfbnmgaa
set_option linter.unusedSimpArgs false
set_option linter.unusedVariables false
open Go.ChangeShapes Go.WideShapes Go.ChangeAt Go.RowKit

def updI (f : Nat → Int) (i : Nat) (v : Int) : Nat → Int := fun j => if j = i then v else f j
/-- Block g holds n numbers. -/
def ZBlk (w : World) (g n : Nat) (f : Nat → Int) : Prop :=
  ∃ cs, w.heap[g]? = some (.cells cs 2 (0, 0)) ∧ cs.size = n ∧ ∀ i, i < n → cs[i]? = some (.int .i64 (f i))
theorem ZBlk.lt {w : World} {g n : Nat} {f : Nat → Int} (h : ZBlk w g n f) : g < w.heap.size := by
  obtain ⟨cs, h, _⟩ := h
  rcases Nat.lt_or_ge g w.heap.size with hlt | hge
  · exact hlt
  · rw [Array.getElem?_eq_none hge] at h; cases h
theorem ZBlk.keep {w w' : World} {g n : Nat} {f : Nat → Int} (h : ZBlk w g n f) (hk : w'.heap[g]? = w.heap[g]?) : ZBlk w' g n f := by
  obtain ⟨cs, h0, h1⟩ := h
  exact ⟨cs, hk.trans h0, h1⟩
theorem ZBlk.to {w w1 : World} {g n : Nat} {f : Nat → Int} (h : ZBlk w g n f) (hb : Below w.heap.size w w1) : ZBlk w1 g n f := h.keep (hb.block g h.lt)
theorem ZBlk.at_ {w : World} {g n : Nat} {f : Nat → Int} (h : ZBlk w g n f) {i : Nat} (hi : i < n) : w.cell? ⟨g, i, none⟩ = some (.int .i64 (f i)) := by
  obtain ⟨cs, h0, _, h2⟩ := h
  rw [cell_of_row w g _ cs _ _ h0]
  exact h2 i hi
theorem ZBlk.frozen {w : World} {g n : Nat} {f : Nat → Int} (h : ZBlk w g n f) (i : Nat) : w.frozen? ⟨g, i, none⟩ = false := by
  obtain ⟨cs, h0, _⟩ := h
  simp [World.frozen?, h0]
theorem ZBlk.set_ {w : World} {g n : Nat} {f : Nat → Int} (h : ZBlk w g n f) {i : Nat} (hi : i < n) (v : Int) : ZBlk (w.setCell ⟨g, i, none⟩ (.int .i64 v)) g n (updI f i v) := by
  obtain ⟨cs, h0, h1, h2⟩ := h
  refine ⟨cs.setIfInBounds i (.int .i64 v), by simp [World.setCell, Array.getElem?_modify, h0], by simpa using h1, fun j hj => ?_⟩
  unfold updI
  by_cases e : j = i
  · subst e
    simp only [Array.getElem?_setIfInBounds_self, h1]
    rw [if_pos hj]
    simp
  · rw [Array.getElem?_setIfInBounds_ne (Ne.symm e), if_neg e]
    exact h2 j hj
theorem infoZ64 : (Try.prog.info? 2).map (fun i => (i.zero, i.size, i.bytes)) = some (some (.int .i64 0), 1, 8) := by kernel_rfl
def blankZ (n : Nat) : Array Value := madeCells #[.int .i64 0] n
theorem run_mkzs (n : Nat) (h : n ≤ 1048576) (w : World) :
    (Instr.makeSlice 38 (.int .i64 (n : Int)) (.int .i64 (n : Int))).run Try.prog w = .ok (.slice (some ⟨w.heap.size, 0, none⟩) n n) (w.alloc (.cells (blankZ n) 2)) := by
  obtain ⟨i, hi, hzz⟩ := Option.map_eq_some_iff.1 infoZ64
  simp only [Prod.mk.injEq] at hzz
  obtain ⟨hz, hs, hb⟩ := hzz
  have := run_make (P := Try.prog) w 38 2 i _ Try.underlying38 hi hz .i64 .i64 n n (by omega) (by omega) (by rw [hb]; omega) (by omega)
  rw [this, hs, Nat.mul_one]
  rfl
theorem ZBlk.new (w : World) (n : Nat) : ZBlk (w.alloc (.cells (blankZ n) 2)) w.heap.size n (fun _ => 0) :=
  ⟨blankZ n, heap_alloc_new w _, by simp [blankZ, size_madeCells], fun i hi => by simp [blankZ, madeCells, hi, Nat.mod_one]⟩
end Go.Proofs.Ytijnjcamfbnmgaa
