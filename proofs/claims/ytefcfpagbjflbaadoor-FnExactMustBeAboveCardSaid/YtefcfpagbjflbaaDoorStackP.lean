/-
  Blocks of sets of bits and of pieces; which pairs of pieces have been looked at.
-/
import Derived.Test.YtefcfpagbjflbaaDoorStackA
import Derived.Test.YtefcfpagbjflbaaDoorBitBlk
namespace Go.Proofs.YtefcfpagbjflbaaDoor
set_option linter.unusedSimpArgs false
set_option linter.unusedVariables false
open Go.ChangeShapes Go.WideShapes Go.ChangeAt Go.RowKit

/-- Block g holds pieces at the numbers below m for which p holds. -/
def PcBlk (w : World) (g m : Nat) (p : Nat → Bool) (N L H : Nat → Nat) : Prop :=
  ∃ cs, w.heap[g]? = some (.cells cs 170 (0, 0)) ∧ cs.size = m * 3 ∧ ∀ i, i < m → p i = true → cs[i * 3]? = some (.int .i64 (N i : Nat)) ∧ cs[i * 3 + 1]? = some (.int .i64 (L i : Nat)) ∧ cs[i * 3 + 2]? = some (.int .i64 (H i : Nat))
theorem PcBlk.lt {w : World} {g m : Nat} {p : Nat → Bool} {N L H : Nat → Nat} (h : PcBlk w g m p N L H) : g < w.heap.size := by
  obtain ⟨cs, h, _⟩ := h
  rcases Nat.lt_or_ge g w.heap.size with hlt | hge
  · exact hlt
  · rw [Array.getElem?_eq_none hge] at h; cases h
theorem PcBlk.keep {w w' : World} {g m : Nat} {p : Nat → Bool} {N L H : Nat → Nat} (h : PcBlk w g m p N L H) (hk : w'.heap[g]? = w.heap[g]?) : PcBlk w' g m p N L H := by
  obtain ⟨cs, h0, h1⟩ := h
  exact ⟨cs, hk.trans h0, h1⟩
theorem PcBlk.to {w w1 : World} {g m : Nat} {p : Nat → Bool} {N L H : Nat → Nat} (h : PcBlk w g m p N L H) (hb : Below w.heap.size w w1) : PcBlk w1 g m p N L H := h.keep (hb.block g h.lt)
theorem PcBlk.at_ {w : World} {g m : Nat} {p : Nat → Bool} {N L H : Nat → Nat} (h : PcBlk w g m p N L H) {i : Nat} (hi : i < m) (hp : p i = true) :
    w.cell? ⟨g, i * 3, none⟩ = some (.int .i64 (N i : Nat)) ∧ w.cell? ⟨g, i * 3 + 1, none⟩ = some (.int .i64 (L i : Nat)) ∧ w.cell? ⟨g, i * 3 + 2, none⟩ = some (.int .i64 (H i : Nat)) := by
  obtain ⟨cs, h0, _, h2⟩ := h
  rw [cell_of_row w g _ cs _ _ h0, cell_of_row w g _ cs _ _ h0, cell_of_row w g _ cs _ _ h0]
  exact h2 i hi hp
theorem PcBlk.frozen {w : World} {g m : Nat} {p : Nat → Bool} {N L H : Nat → Nat} (h : PcBlk w g m p N L H) (i : Nat) : w.frozen? ⟨g, i, none⟩ = false := by
  obtain ⟨cs, h0, _⟩ := h
  simp [World.frozen?, h0]
theorem PcBlk.there {w : World} {g m : Nat} {p : Nat → Bool} {N L H : Nat → Nat} (h : PcBlk w g m p N L H) {i : Nat} (hi : i < m * 3) : ∃ v, w.cell? ⟨g, i, none⟩ = some v := by
  obtain ⟨cs, h0, h1, _⟩ := h
  rw [cell_of_row w g _ cs _ _ h0]
  exact ⟨cs[i], by simp [h1, hi]⟩
/-- One more piece. -/
theorem PcBlk.set {w : World} {g m : Nat} {p : Nat → Bool} {N L H : Nat → Nat} (h : PcBlk w g m p N L H) {i : Nat} (hi : i < m) :
    PcBlk (((w.setCell ⟨g, i * 3, none⟩ (.int .i64 (N i : Nat))).setCell ⟨g, i * 3 + 1, none⟩ (.int .i64 (L i : Nat))).setCell ⟨g, i * 3 + 2, none⟩ (.int .i64 (H i : Nat))) g m (fun j => p j || decide (j = i)) N L H := by
  obtain ⟨cs, h0, h1, h2⟩ := h
  refine ⟨((cs.setIfInBounds (i * 3) (.int .i64 (N i : Nat))).setIfInBounds (i * 3 + 1) (.int .i64 (L i : Nat))).setIfInBounds (i * 3 + 2) (.int .i64 (H i : Nat)), ?_, by simpa using h1, ?_⟩
  · simp [World.setCell, Array.getElem?_modify, h0]
  · intro j hj hp
    by_cases e : j = i
    · subst e
      refine ⟨?_, ?_, ?_⟩
      · rw [Array.getElem?_setIfInBounds_ne (by omega), Array.getElem?_setIfInBounds_ne (by omega), Array.getElem?_setIfInBounds_self, if_pos (by omega)]
      · rw [Array.getElem?_setIfInBounds_ne (by omega), Array.getElem?_setIfInBounds_self, if_pos (by simp; omega)]
      · rw [Array.getElem?_setIfInBounds_self, if_pos (by simp; omega)]
    · have hp' : p j = true := by simpa [e] using hp
      obtain ⟨a, b, c⟩ := h2 j hj hp'
      refine ⟨?_, ?_, ?_⟩
      · rw [Array.getElem?_setIfInBounds_ne (by omega), Array.getElem?_setIfInBounds_ne (by omega), Array.getElem?_setIfInBounds_ne (by omega)]; exact a
      · rw [Array.getElem?_setIfInBounds_ne (by omega), Array.getElem?_setIfInBounds_ne (by omega), Array.getElem?_setIfInBounds_ne (by omega)]; exact b
      · rw [Array.getElem?_setIfInBounds_ne (by omega), Array.getElem?_setIfInBounds_ne (by omega), Array.getElem?_setIfInBounds_ne (by omega)]; exact c
def blankP (m : Nat) : Array Value := madeCells #[.int .i64 0, .int .i64 0, .int .i64 0] (m * 3)
theorem infoP : (Tryd.prog.info? 170).map (fun i => (i.zero, i.size, i.bytes)) = some (some (.agg #[.int .i64 0, .int .i64 0, .int .i64 0]), 3, 24) := by kernel_rfl
theorem run_mkpcs (m : Nat) (h : m ≤ 1048576) (w : World) :
    (Instr.makeSlice 147 (.int .i64 (m : Int)) (.int .i64 (m : Int))).run Tryd.prog w = .ok (.slice (some ⟨w.heap.size, 0, none⟩) m m) (w.alloc (.cells (blankP m) 170)) := by
  obtain ⟨i, hi, hzz⟩ := Option.map_eq_some_iff.1 infoP
  simp only [Prod.mk.injEq] at hzz
  obtain ⟨hz, hs, hb⟩ := hzz
  have := run_make (P := Tryd.prog) w 147 170 i _ Tryd.underlying147 hi hz .i64 .i64 m m (by omega) (by omega) (by rw [hb]; omega) (by omega)
  rw [this, hs]
  rfl
theorem PcBlk.new (w : World) (m : Nat) (N L H : Nat → Nat) : PcBlk (w.alloc (.cells (blankP m) 170)) w.heap.size m (fun _ => false) N L H :=
  ⟨blankP m, heap_alloc_new w _, by simp [blankP, size_madeCells], fun i hi h => by cases h⟩

/-- Are two pieces apart: of different nets, with columns in common? -/
def apB (N L H : Nat → Nat) (i j : Nat) : Bool := decide (N i ≠ N j) && (decide (L i ≤ H j) && decide (L j ≤ H i))
/-- Must the first one be above the second one? -/
def abB (T B : List Int) (N L H : Nat → Nat) (i j : Nat) : Bool := apB N L H i j && colIn T B (N i : Nat) (N j : Nat) (comF (L i) (L j)) (comM (L i) (H i) (L j) (H j))
/-- The pairs (i, j) that have been looked at, k rounds over the numbers xs. -/
def doneO (xs : List Nat) (k i j : Nat) : Bool := decide (i ∈ xs.take k) && decide (j ∈ xs)
/-- .. and d rounds of the one over x. -/
def doneI (xs : List Nat) (k x d i j : Nat) : Bool := doneO xs k i j || (decide (i = x) && decide (j ∈ xs.take d))
theorem doneI_zero (xs : List Nat) (k x i j : Nat) : doneI xs k x 0 i j = doneO xs k i j := by simp [doneI]
theorem doneI_all {xs : List Nat} {k x : Nat} (hx : xs[k]? = some x) (i j : Nat) : doneI xs k x xs.length i j = doneO xs (k + 1) i j := by
  unfold doneI doneO
  rw [List.take_length, List.take_add_one, hx, Bool.eq_iff_iff]
  simp only [Bool.or_eq_true, Bool.and_eq_true, decide_eq_true_eq, List.mem_append, Option.toList_some, List.mem_singleton]
  constructor
  · rintro (⟨a, b⟩ | ⟨a, b⟩)
    · exact ⟨.inl a, b⟩
    · exact ⟨.inr a, b⟩
  · rintro ⟨a | a, b⟩
    · exact .inl ⟨a, b⟩
    · exact .inr ⟨a, b⟩
theorem doneI_step {xs : List Nat} {k x d y : Nat} (hy : xs[d]? = some y) (i j : Nat) : doneI xs k x (d + 1) i j = (doneI xs k x d i j || (decide (i = x) && decide (j = y))) := by
  unfold doneI
  rw [List.take_add_one, hy, Bool.or_assoc]
  congr 1
  rw [← Bool.and_or_distrib_left]
  congr 1
  rw [Bool.eq_iff_iff]
  simp [List.mem_append]
theorem doneO_zero (xs : List Nat) (i j : Nat) : doneO xs 0 i j = false := by simp [doneO]
/-- The sets of those that are apart. -/
def apF (N L H : Nat → Nat) (D : Nat → Nat → Bool) (i j : Nat) : Bool := D i j && apB N L H i j
/-- The sets of those above. -/
def abF (T B : List Int) (N L H : Nat → Nat) (D : Nat → Nat → Bool) (j i : Nat) : Bool := D i j && abB T B N L H i j
theorem apF_same {N L H : Nat → Nat} {D D' : Nat → Nat → Bool} {x y : Nat} (hD : ∀ i j, D' i j = (D i j || (decide (i = x) && decide (j = y)))) (h : apB N L H x y = false) (i j : Nat) : apF N L H D i j = apF N L H D' i j := by
  unfold apF
  rw [hD]
  by_cases e : i = x
  · by_cases e2 : j = y
    · subst e; subst e2; rw [h]; simp
    · simp [e2]
  · simp [e]
theorem apF_add {N L H : Nat → Nat} {D D' : Nat → Nat → Bool} {x y : Nat} (hD : ∀ i j, D' i j = (D i j || (decide (i = x) && decide (j = y)))) (h : apB N L H x y = true) (i j : Nat) : addB (apF N L H D) x y i j = apF N L H D' i j := by
  unfold apF addB
  rw [hD]
  by_cases e : i = x
  · by_cases e2 : j = y
    · subst e; subst e2; rw [h]; simp
    · simp [e2]
  · simp [e]
theorem abF_same {T B : List Int} {N L H : Nat → Nat} {D D' : Nat → Nat → Bool} {x y : Nat} (hD : ∀ i j, D' i j = (D i j || (decide (i = x) && decide (j = y)))) (h : abB T B N L H x y = false) (j i : Nat) : abF T B N L H D j i = abF T B N L H D' j i := by
  unfold abF
  rw [hD]
  by_cases e : i = x
  · by_cases e2 : j = y
    · subst e; subst e2; rw [h]; simp
    · simp [e2]
  · simp [e]
theorem abF_add {T B : List Int} {N L H : Nat → Nat} {D D' : Nat → Nat → Bool} {x y : Nat} (hD : ∀ i j, D' i j = (D i j || (decide (i = x) && decide (j = y)))) (h : abB T B N L H x y = true) (j i : Nat) : addB (abF T B N L H D) y x j i = abF T B N L H D' j i := by
  unfold abF addB
  rw [hD]
  by_cases e : i = x
  · by_cases e2 : j = y
    · subst e; subst e2; rw [h]; simp
    · simp [e2]
  · simp [e]
end Go.Proofs.YtefcfpagbjflbaaDoor
