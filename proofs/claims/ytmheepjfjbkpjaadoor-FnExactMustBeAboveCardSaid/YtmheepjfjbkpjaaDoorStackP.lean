/-
  Blocks of sets of bits and of pieces; which pairs of pieces have been looked at.
-/
import Derived.Test.YtmheepjfjbkpjaaDoorStackA
namespace Go.Proofs.YtmheepjfjbkpjaaDoor
set_option linter.unusedSimpArgs false
set_option linter.unusedVariables false
open Go.ChangeShapes Go.WideShapes Go.ChangeAt Go.RowKit

/-- Block g holds m sets: the one at i has j where F i j. -/
def BitBlk (w : World) (g m : Nat) (F : Nat → Nat → Bool) : Prop :=
  ∃ cs, w.heap[g]? = some (.cells cs 56 (0, 0)) ∧ cs.size = m ∧ ∀ i, i < m → ∃ v : Nat, v < 18446744073709551616 ∧ cs[i]? = some (.int .u64 v) ∧ ∀ j, v.testBit j = F i j
theorem BitBlk.lt {w : World} {g m : Nat} {F : Nat → Nat → Bool} (h : BitBlk w g m F) : g < w.heap.size := by
  obtain ⟨cs, h, _⟩ := h
  rcases Nat.lt_or_ge g w.heap.size with hlt | hge
  · exact hlt
  · rw [Array.getElem?_eq_none hge] at h; cases h
theorem BitBlk.keep {w w' : World} {g m : Nat} {F : Nat → Nat → Bool} (h : BitBlk w g m F) (hk : w'.heap[g]? = w.heap[g]?) : BitBlk w' g m F := by
  obtain ⟨cs, h0, h1⟩ := h
  exact ⟨cs, hk.trans h0, h1⟩
theorem BitBlk.to {w w1 : World} {g m : Nat} {F : Nat → Nat → Bool} (h : BitBlk w g m F) (hb : Below w.heap.size w w1) : BitBlk w1 g m F := h.keep (hb.block g h.lt)
theorem BitBlk.at_ {w : World} {g m : Nat} {F : Nat → Nat → Bool} (h : BitBlk w g m F) {i : Nat} (hi : i < m) :
    ∃ v : Nat, v < 18446744073709551616 ∧ w.cell? ⟨g, i, none⟩ = some (.int .u64 v) ∧ ∀ j, v.testBit j = F i j := by
  obtain ⟨cs, h0, _, h2⟩ := h
  obtain ⟨v, h3, h4, h5⟩ := h2 i hi
  exact ⟨v, h3, by rw [cell_of_row w g _ cs _ _ h0]; exact h4, h5⟩
theorem BitBlk.frozen {w : World} {g m : Nat} {F : Nat → Nat → Bool} (h : BitBlk w g m F) (i : Nat) : w.frozen? ⟨g, i, none⟩ = false := by
  obtain ⟨cs, h0, _⟩ := h
  simp [World.frozen?, h0]
theorem BitBlk.eq {w : World} {g m : Nat} {F G : Nat → Nat → Bool} (h : BitBlk w g m F) (e : ∀ i j, i < m → F i j = G i j) : BitBlk w g m G := by
  obtain ⟨cs, h0, h1, h2⟩ := h
  refine ⟨cs, h0, h1, fun i hi => ?_⟩
  obtain ⟨v, h3, h4, h5⟩ := h2 i hi
  exact ⟨v, h3, h4, fun j => (h5 j).trans (e i j hi)⟩
/-- One more in the set at i. -/
def addB (F : Nat → Nat → Bool) (i y : Nat) (i' j : Nat) : Bool := F i' j || (decide (i' = i) && decide (j = y))
theorem testBit_add (v y j : Nat) : (v ||| 2 ^ y).testBit j = (v.testBit j || decide (j = y)) := by
  rw [Nat.testBit_or, Nat.testBit_two_pow]
  congr 1
  rw [decide_eq_decide]
  exact eq_comm
theorem BitBlk.set {w : World} {g m : Nat} {F : Nat → Nat → Bool} (h : BitBlk w g m F) {i y v : Nat} (hi : i < m) (hy : y < 64) (hc : w.cell? ⟨g, i, none⟩ = some (.int .u64 v)) :
    BitBlk (w.setCell ⟨g, i, none⟩ (.int .u64 ((v ||| 2 ^ y : Nat) : Int))) g m (addB F i y) := by
  obtain ⟨cs, h0, h1, h2⟩ := h
  have hv := (cell_of_row w g i cs _ _ h0).symm.trans hc
  refine ⟨cs.setIfInBounds i (.int .u64 ((v ||| 2 ^ y : Nat) : Int)), ?_, by simpa using h1, ?_⟩
  · simp [World.setCell, Array.getElem?_modify, h0]
  · intro i' hi'
    obtain ⟨v', h3, h4, h5⟩ := h2 i' hi'
    by_cases e : i' = i
    · subst e
      rw [hv] at h4
      have e2 : v' = v := by
        have := Option.some.inj h4
        injection this with _ h
        omega
      subst e2
      refine ⟨v' ||| 2 ^ y, ?_, ?_, ?_⟩
      · have : 2 ^ y < 2 ^ 64 := Nat.pow_lt_pow_right (by omega) hy
        exact Nat.or_lt_two_pow (n := 64) h3 this
      · rw [Array.getElem?_setIfInBounds_self, if_pos (by omega)]
      · intro j
        rw [testBit_add, h5]
        simp [addB]
    · exact ⟨v', h3, by rw [Array.getElem?_setIfInBounds_ne (by omega)]; exact h4, fun j => by rw [h5]; simp [addB, e]⟩
def zeros (m : Nat) : Array Value := madeCells #[.int .u64 0] m
theorem infoBits : (Tryd.prog.info? 56).map (fun i => (i.zero, i.size, i.bytes)) = some (some (.int .u64 0), 1, 8) := by kernel_rfl
theorem run_mkbits (m : Nat) (h : m ≤ 1048576) (w : World) :
    (Instr.makeSlice 57 (.int .i64 (m : Int)) (.int .i64 (m : Int))).run Tryd.prog w = .ok (.slice (some ⟨w.heap.size, 0, none⟩) m m) (w.alloc (.cells (zeros m) 56)) := by
  obtain ⟨i, hi, hzz⟩ := Option.map_eq_some_iff.1 infoBits
  simp only [Prod.mk.injEq] at hzz
  obtain ⟨hz, hs, hb⟩ := hzz
  have := run_make (P := Tryd.prog) w 57 56 i _ Tryd.underlying57 hi hz .i64 .i64 m m (by omega) (by omega) (by rw [hb]; omega) (by omega)
  rw [this, hs, Nat.mul_one]
  rfl
theorem zeros_at {m i : Nat} (hi : i < m) : (zeros m)[i]? = some (.int .u64 (0 : Nat)) := by
  simp [zeros, madeCells, hi, Nat.mod_one]
theorem BitBlk.new (w : World) (m : Nat) : BitBlk (w.alloc (.cells (zeros m) 56)) w.heap.size m (fun _ _ => false) :=
  ⟨zeros m, heap_alloc_new w _, by simp [zeros, size_madeCells], fun i hi => ⟨0, by omega, zeros_at hi, fun j => Nat.zero_testBit j⟩⟩

/-- Block g holds pieces at the numbers below m for which p holds. -/
def PcBlk (w : World) (g m : Nat) (p : Nat → Bool) (N L H : Nat → Nat) : Prop :=
  ∃ cs, w.heap[g]? = some (.cells cs 82 (0, 0)) ∧ cs.size = m * 3 ∧ ∀ i, i < m → p i = true → cs[i * 3]? = some (.int .i64 (N i : Nat)) ∧ cs[i * 3 + 1]? = some (.int .i64 (L i : Nat)) ∧ cs[i * 3 + 2]? = some (.int .i64 (H i : Nat))
theorem PcBlk.lt {w : World} {g m : Nat} {p : Nat → Bool} {N L H : Nat → Nat} (h : PcBlk w g m p N L H) : g < w.heap.size := by
  obtain ⟨cs, h, _⟩ := h
  rcases Nat.lt_or_ge g w.heap.size with hlt | hge
  · exact hlt
  · rw [Array.getElem?_eq_none hge] at h; cases h
theorem PcBlk.keep {w w' : World} {g m : Nat} {p : Nat → Bool} {N L H : Nat → Nat} (h : PcBlk w g m p N L H) (hk : w'.heap[g]? = w.heap[g]?) : PcBlk w' g m p N L H := by
  obtain ⟨cs, h0, h1⟩ := h
  exact ⟨cs, hk.trans h0, h1⟩
theorem PcBlk.to {w w1 : World} {g m : Nat} {p : Nat → Bool} {N L H : Nat → Nat} (h : PcBlk w g m p N L H) (hb : Below w.heap.size w w1) : PcBlk w1 g m p N L H := h.keep (hb.block g h.lt)
theorem PcBlk.at_ {w : World} {g m : Nat} {p : Nat → Bool} {N L H : Nat → Nat} (h : PcBlk w g m p N L H) {i : Nat} (hi : i < m) (hp : p i = true) :
    w.cell? ⟨g, i * 3, none⟩ = some (.int .i64 (N i : Nat)) ∧ w.cell? ⟨g, i * 3 + 1, none⟩ = some (.int .i64 (L i : Nat)) ∧ w.cell? ⟨g, i * 3 + 2, none⟩ = some (.int .i64 (H i : Nat)) := by
  obtain ⟨cs, h0, _, h2⟩ := h
  rw [cell_of_row w g _ cs _ _ h0, cell_of_row w g _ cs _ _ h0, cell_of_row w g _ cs _ _ h0]
  exact h2 i hi hp
theorem PcBlk.frozen {w : World} {g m : Nat} {p : Nat → Bool} {N L H : Nat → Nat} (h : PcBlk w g m p N L H) (i : Nat) : w.frozen? ⟨g, i, none⟩ = false := by
  obtain ⟨cs, h0, _⟩ := h
  simp [World.frozen?, h0]
theorem PcBlk.there {w : World} {g m : Nat} {p : Nat → Bool} {N L H : Nat → Nat} (h : PcBlk w g m p N L H) {i : Nat} (hi : i < m * 3) : ∃ v, w.cell? ⟨g, i, none⟩ = some v := by
  obtain ⟨cs, h0, h1, _⟩ := h
  rw [cell_of_row w g _ cs _ _ h0]
  exact ⟨cs[i], by simp [h1, hi]⟩
/-- One more piece. -/
theorem PcBlk.set {w : World} {g m : Nat} {p : Nat → Bool} {N L H : Nat → Nat} (h : PcBlk w g m p N L H) {i : Nat} (hi : i < m) :
    PcBlk (((w.setCell ⟨g, i * 3, none⟩ (.int .i64 (N i : Nat))).setCell ⟨g, i * 3 + 1, none⟩ (.int .i64 (L i : Nat))).setCell ⟨g, i * 3 + 2, none⟩ (.int .i64 (H i : Nat))) g m (fun j => p j || decide (j = i)) N L H := by
  obtain ⟨cs, h0, h1, h2⟩ := h
  refine ⟨((cs.setIfInBounds (i * 3) (.int .i64 (N i : Nat))).setIfInBounds (i * 3 + 1) (.int .i64 (L i : Nat))).setIfInBounds (i * 3 + 2) (.int .i64 (H i : Nat)), ?_, by simpa using h1, ?_⟩
  · simp [World.setCell, Array.getElem?_modify, h0]
  · intro j hj hp
    by_cases e : j = i
    · subst e
      refine ⟨?_, ?_, ?_⟩
      · rw [Array.getElem?_setIfInBounds_ne (by omega), Array.getElem?_setIfInBounds_ne (by omega), Array.getElem?_setIfInBounds_self, if_pos (by omega)]
      · rw [Array.getElem?_setIfInBounds_ne (by omega), Array.getElem?_setIfInBounds_self, if_pos (by simp; omega)]
      · rw [Array.getElem?_setIfInBounds_self, if_pos (by simp; omega)]
    · have hp' : p j = true := by simpa [e] using hp
      obtain ⟨a, b, c⟩ := h2 j hj hp'
      refine ⟨?_, ?_, ?_⟩
      · rw [Array.getElem?_setIfInBounds_ne (by omega), Array.getElem?_setIfInBounds_ne (by omega), Array.getElem?_setIfInBounds_ne (by omega)]; exact a
      · rw [Array.getElem?_setIfInBounds_ne (by omega), Array.getElem?_setIfInBounds_ne (by omega), Array.getElem?_setIfInBounds_ne (by omega)]; exact b
      · rw [Array.getElem?_setIfInBounds_ne (by omega), Array.getElem?_setIfInBounds_ne (by omega), Array.getElem?_setIfInBounds_ne (by omega)]; exact c
def blankP (m : Nat) : Array Value := madeCells #[.int .i64 0, .int .i64 0, .int .i64 0] (m * 3)
theorem infoP : (Tryd.prog.info? 82).map (fun i => (i.zero, i.size, i.bytes)) = some (some (.agg #[.int .i64 0, .int .i64 0, .int .i64 0]), 3, 24) := by kernel_rfl
theorem run_mkpcs (m : Nat) (h : m ≤ 1048576) (w : World) :
    (Instr.makeSlice 77 (.int .i64 (m : Int)) (.int .i64 (m : Int))).run Tryd.prog w = .ok (.slice (some ⟨w.heap.size, 0, none⟩) m m) (w.alloc (.cells (blankP m) 82)) := by
  obtain ⟨i, hi, hzz⟩ := Option.map_eq_some_iff.1 infoP
  simp only [Prod.mk.injEq] at hzz
  obtain ⟨hz, hs, hb⟩ := hzz
  have := run_make (P := Tryd.prog) w 77 82 i _ Tryd.underlying77 hi hz .i64 .i64 m m (by omega) (by omega) (by rw [hb]; omega) (by omega)
  rw [this, hs]
  rfl
theorem PcBlk.new (w : World) (m : Nat) (N L H : Nat → Nat) : PcBlk (w.alloc (.cells (blankP m) 82)) w.heap.size m (fun _ => false) N L H :=
  ⟨blankP m, heap_alloc_new w _, by simp [blankP, size_madeCells], fun i hi h => by cases h⟩

/-- Are two pieces apart: of different nets, with columns in common? -/
def apB (N L H : Nat → Nat) (i j : Nat) : Bool := decide (N i ≠ N j) && (decide (L i ≤ H j) && decide (L j ≤ H i))
/-- Must the first one be above the second one? -/
def abB (T B : List Int) (N L H : Nat → Nat) (i j : Nat) : Bool := apB N L H i j && colIn T B (N i : Nat) (N j : Nat) (comF (L i) (L j)) (comM (L i) (H i) (L j) (H j))
/-- The pairs (i, j) that have been looked at, k rounds over the numbers xs. -/
def doneO (xs : List Nat) (k i j : Nat) : Bool := decide (i ∈ xs.take k) && decide (j ∈ xs)
/-- .. and d rounds of the one over x. -/
def doneI (xs : List Nat) (k x d i j : Nat) : Bool := doneO xs k i j || (decide (i = x) && decide (j ∈ xs.take d))
theorem doneI_zero (xs : List Nat) (k x i j : Nat) : doneI xs k x 0 i j = doneO xs k i j := by simp [doneI]
theorem doneI_all {xs : List Nat} {k x : Nat} (hx : xs[k]? = some x) (i j : Nat) : doneI xs k x xs.length i j = doneO xs (k + 1) i j := by
  unfold doneI doneO
  rw [List.take_length, List.take_add_one, hx, Bool.eq_iff_iff]
  simp only [Bool.or_eq_true, Bool.and_eq_true, decide_eq_true_eq, List.mem_append, Option.toList_some, List.mem_singleton]
  constructor
  · rintro (⟨a, b⟩ | ⟨a, b⟩)
    · exact ⟨.inl a, b⟩
    · exact ⟨.inr a, b⟩
  · rintro ⟨a | a, b⟩
    · exact .inl ⟨a, b⟩
    · exact .inr ⟨a, b⟩
theorem doneI_step {xs : List Nat} {k x d y : Nat} (hy : xs[d]? = some y) (i j : Nat) : doneI xs k x (d + 1) i j = (doneI xs k x d i j || (decide (i = x) && decide (j = y))) := by
  unfold doneI
  rw [List.take_add_one, hy, Bool.or_assoc]
  congr 1
  rw [← Bool.and_or_distrib_left]
  congr 1
  rw [Bool.eq_iff_iff]
  simp [List.mem_append]
theorem doneO_zero (xs : List Nat) (i j : Nat) : doneO xs 0 i j = false := by simp [doneO]
/-- The sets of those that are apart. -/
def apF (N L H : Nat → Nat) (D : Nat → Nat → Bool) (i j : Nat) : Bool := D i j && apB N L H i j
/-- The sets of those above. -/
def abF (T B : List Int) (N L H : Nat → Nat) (D : Nat → Nat → Bool) (j i : Nat) : Bool := D i j && abB T B N L H i j
theorem apF_same {N L H : Nat → Nat} {D D' : Nat → Nat → Bool} {x y : Nat} (hD : ∀ i j, D' i j = (D i j || (decide (i = x) && decide (j = y)))) (h : apB N L H x y = false) (i j : Nat) : apF N L H D i j = apF N L H D' i j := by
  unfold apF
  rw [hD]
  by_cases e : i = x
  · by_cases e2 : j = y
    · subst e; subst e2; rw [h]; simp
    · simp [e2]
  · simp [e]
theorem apF_add {N L H : Nat → Nat} {D D' : Nat → Nat → Bool} {x y : Nat} (hD : ∀ i j, D' i j = (D i j || (decide (i = x) && decide (j = y)))) (h : apB N L H x y = true) (i j : Nat) : addB (apF N L H D) x y i j = apF N L H D' i j := by
  unfold apF addB
  rw [hD]
  by_cases e : i = x
  · by_cases e2 : j = y
    · subst e; subst e2; rw [h]; simp
    · simp [e2]
  · simp [e]
theorem abF_same {T B : List Int} {N L H : Nat → Nat} {D D' : Nat → Nat → Bool} {x y : Nat} (hD : ∀ i j, D' i j = (D i j || (decide (i = x) && decide (j = y)))) (h : abB T B N L H x y = false) (j i : Nat) : abF T B N L H D j i = abF T B N L H D' j i := by
  unfold abF
  rw [hD]
  by_cases e : i = x
  · by_cases e2 : j = y
    · subst e; subst e2; rw [h]; simp
    · simp [e2]
  · simp [e]
theorem abF_add {T B : List Int} {N L H : Nat → Nat} {D D' : Nat → Nat → Bool} {x y : Nat} (hD : ∀ i j, D' i j = (D i j || (decide (i = x) && decide (j = y)))) (h : abB T B N L H x y = true) (j i : Nat) : addB (abF T B N L H D) y x j i = abF T B N L H D' j i := by
  unfold abF addB
  rw [hD]
  by_cases e : i = x
  · by_cases e2 : j = y
    · subst e; subst e2; rw [h]; simp
    · simp [e2]
  · simp [e]
end Go.Proofs.YtmheepjfjbkpjaaDoor
