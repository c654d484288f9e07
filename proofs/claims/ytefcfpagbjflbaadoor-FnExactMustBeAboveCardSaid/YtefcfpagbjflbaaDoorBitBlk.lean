/-
  Blocks of sets of bits.
-/
import Derived.Test.YtefcfpagbjflbaaDoorBits
import Derived.Test.YtefcfpagbjflbaaDoorDist
import Derived.Laws.MakeOwn
import Derived.Laws.Rows
import Derived.LoopTactic
namespace Go.Proofs.YtefcfpagbjflbaaDoor
set_option linter.unusedSimpArgs false
set_option linter.unusedVariables false
open Go.ChangeShapes Go.WideShapes Go.ChangeAt Go.RowKit

/-- Block g holds m sets: the one at i has j where F i j. -/
def BitBlk (w : World) (g m : Nat) (F : Nat → Nat → Bool) : Prop :=
  ∃ cs, w.heap[g]? = some (.cells cs 88 (0, 0)) ∧ cs.size = m ∧ ∀ i, i < m → ∃ v : Nat, v < 18446744073709551616 ∧ cs[i]? = some (.int .u64 v) ∧ ∀ j, v.testBit j = F i j
theorem BitBlk.lt {w : World} {g m : Nat} {F : Nat → Nat → Bool} (h : BitBlk w g m F) : g < w.heap.size := by
  obtain ⟨cs, h, _⟩ := h
  rcases Nat.lt_or_ge g w.heap.size with hlt | hge
  · exact hlt
  · rw [Array.getElem?_eq_none hge] at h; cases h
theorem BitBlk.keep {w w' : World} {g m : Nat} {F : Nat → Nat → Bool} (h : BitBlk w g m F) (hk : w'.heap[g]? = w.heap[g]?) : BitBlk w' g m F := by
  obtain ⟨cs, h0, h1⟩ := h
  exact ⟨cs, hk.trans h0, h1⟩
theorem BitBlk.to {w w1 : World} {g m : Nat} {F : Nat → Nat → Bool} (h : BitBlk w g m F) (hb : Below w.heap.size w w1) : BitBlk w1 g m F := h.keep (hb.block g h.lt)
theorem BitBlk.at_ {w : World} {g m : Nat} {F : Nat → Nat → Bool} (h : BitBlk w g m F) {i : Nat} (hi : i < m) :
    ∃ v : Nat, v < 18446744073709551616 ∧ w.cell? ⟨g, i, none⟩ = some (.int .u64 v) ∧ ∀ j, v.testBit j = F i j := by
  obtain ⟨cs, h0, _, h2⟩ := h
  obtain ⟨v, h3, h4, h5⟩ := h2 i hi
  exact ⟨v, h3, by rw [cell_of_row w g _ cs _ _ h0]; exact h4, h5⟩
theorem BitBlk.frozen {w : World} {g m : Nat} {F : Nat → Nat → Bool} (h : BitBlk w g m F) (i : Nat) : w.frozen? ⟨g, i, none⟩ = false := by
  obtain ⟨cs, h0, _⟩ := h
  simp [World.frozen?, h0]
theorem BitBlk.eq {w : World} {g m : Nat} {F G : Nat → Nat → Bool} (h : BitBlk w g m F) (e : ∀ i j, i < m → F i j = G i j) : BitBlk w g m G := by
  obtain ⟨cs, h0, h1, h2⟩ := h
  refine ⟨cs, h0, h1, fun i hi => ?_⟩
  obtain ⟨v, h3, h4, h5⟩ := h2 i hi
  exact ⟨v, h3, h4, fun j => (h5 j).trans (e i j hi)⟩
/-- One more in the set at i. -/
def addB (F : Nat → Nat → Bool) (i y : Nat) (i' j : Nat) : Bool := F i' j || (decide (i' = i) && decide (j = y))
theorem testBit_add (v y j : Nat) : (v ||| 2 ^ y).testBit j = (v.testBit j || decide (j = y)) := by
  rw [Nat.testBit_or, Nat.testBit_two_pow]
  congr 1
  rw [decide_eq_decide]
  exact eq_comm
theorem BitBlk.set {w : World} {g m : Nat} {F : Nat → Nat → Bool} (h : BitBlk w g m F) {i y v : Nat} (hi : i < m) (hy : y < 64) (hc : w.cell? ⟨g, i, none⟩ = some (.int .u64 v)) :
    BitBlk (w.setCell ⟨g, i, none⟩ (.int .u64 ((v ||| 2 ^ y : Nat) : Int))) g m (addB F i y) := by
  obtain ⟨cs, h0, h1, h2⟩ := h
  have hv := (cell_of_row w g i cs _ _ h0).symm.trans hc
  refine ⟨cs.setIfInBounds i (.int .u64 ((v ||| 2 ^ y : Nat) : Int)), ?_, by simpa using h1, ?_⟩
  · simp [World.setCell, Array.getElem?_modify, h0]
  · intro i' hi'
    obtain ⟨v', h3, h4, h5⟩ := h2 i' hi'
    by_cases e : i' = i
    · subst e
      rw [hv] at h4
      have e2 : v' = v := by
        have := Option.some.inj h4
        injection this with _ h
        omega
      subst e2
      refine ⟨v' ||| 2 ^ y, ?_, ?_, ?_⟩
      · have : 2 ^ y < 2 ^ 64 := Nat.pow_lt_pow_right (by omega) hy
        exact Nat.or_lt_two_pow (n := 64) h3 this
      · rw [Array.getElem?_setIfInBounds_self, if_pos (by omega)]
      · intro j
        rw [testBit_add, h5]
        simp [addB]
    · exact ⟨v', h3, by rw [Array.getElem?_setIfInBounds_ne (by omega)]; exact h4, fun j => by rw [h5]; simp [addB, e]⟩
def zeros (m : Nat) : Array Value := madeCells #[.int .u64 0] m
theorem infoBits : (Tryd.prog.info? 88).map (fun i => (i.zero, i.size, i.bytes)) = some (some (.int .u64 0), 1, 8) := by kernel_rfl
theorem run_mkbits (m : Nat) (h : m ≤ 1048576) (w : World) :
    (Instr.makeSlice 84 (.int .i64 (m : Int)) (.int .i64 (m : Int))).run Tryd.prog w = .ok (.slice (some ⟨w.heap.size, 0, none⟩) m m) (w.alloc (.cells (zeros m) 88)) := by
  obtain ⟨i, hi, hzz⟩ := Option.map_eq_some_iff.1 infoBits
  simp only [Prod.mk.injEq] at hzz
  obtain ⟨hz, hs, hb⟩ := hzz
  have := run_make (P := Tryd.prog) w 84 88 i _ Tryd.underlying84 hi hz .i64 .i64 m m (by omega) (by omega) (by rw [hb]; omega) (by omega)
  rw [this, hs, Nat.mul_one]
  rfl
theorem zeros_at {m i : Nat} (hi : i < m) : (zeros m)[i]? = some (.int .u64 (0 : Nat)) := by
  simp [zeros, madeCells, hi, Nat.mod_one]
theorem BitBlk.new (w : World) (m : Nat) : BitBlk (w.alloc (.cells (zeros m) 88)) w.heap.size m (fun _ _ => false) :=
  ⟨zeros m, heap_alloc_new w _, by simp [zeros, size_madeCells], fun i hi => ⟨0, by omega, zeros_at hi, fun j => Nat.zero_testBit j⟩⟩

end Go.Proofs.YtefcfpagbjflbaaDoor
