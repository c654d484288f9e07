/-
  Ways: the points to which steps lead; the model's list of them.
-/
import Derived.Test.YtepamhdopmfkfaaMazeS
namespace Go.Proofs.Ytepamhdopmfkfaa
set_option linter.unusedSimpArgs false
set_option linter.unusedVariables false
open Go.ChangeShapes Go.WideShapes Go.ChangeAt Go.RowKit

/-- A text's byte. -/
def ltr (s : ByteArray) (k : Nat) : Int := if h : k < s.size then (s[k].toNat : Int) else 0
theorem ltr_at {s : ByteArray} {k : Nat} (h : k < s.size) : ltr s k = (s[k].toNat : Int) := by unfold ltr; rw [dif_pos h]
/-- Where a step by a letter leads from an open cell, if to one. -/
def goOn (M : Mz) (q : Int × Int) (c : Int) : Option (Int × Int) :=
  if wayI c < 0 then none else if openB M (stepW q.1 q.2 (wayI c)).1 (stepW q.1 q.2 (wayI c)).2 = true then some (stepW q.1 q.2 (wayI c)) else none
/-- Where the first steps lead. -/
def posTo (M : Mz) (p : Int × Int) (s : ByteArray) : Nat → Option (Int × Int)
  | 0 => some p
  | k + 1 => match posTo M p s k with
    | none => none
    | some q => goOn M q (ltr s k)
theorem posTo_none {M : Mz} {p : Int × Int} {s : ByteArray} {k n : Nat} (h : posTo M p s k = none) (hk : k ≤ n) : posTo M p s n = none := by
  induction n with
  | zero => obtain rfl : k = 0 := by omega
            exact h
  | succ n ih =>
    by_cases e : k = n + 1
    · subst e; exact h
    · unfold posTo; rw [ih (by omega)]
theorem posTo_step {M : Mz} {p q : Int × Int} {s : ByteArray} {k : Nat} (h : posTo M p s k = some q) : posTo M p s (k + 1) = goOn M q (ltr s k) := by
  unfold posTo; rw [h]
theorem goOn_bad {M : Mz} {q : Int × Int} {c : Int} (h : wayI c < 0) : goOn M q c = none := by unfold goOn; rw [if_pos h]
theorem goOn_shut {M : Mz} {q : Int × Int} {c : Int} (h : ¬ wayI c < 0) (ho : openB M (stepW q.1 q.2 (wayI c)).1 (stepW q.1 q.2 (wayI c)).2 = false) : goOn M q c = none := by unfold goOn; rw [if_neg h, ho]; rfl
theorem goOn_yes {M : Mz} {q : Int × Int} {c : Int} (h : ¬ wayI c < 0) (ho : openB M (stepW q.1 q.2 (wayI c)).1 (stepW q.1 q.2 (wayI c)).2 = true) : goOn M q c = some (stepW q.1 q.2 (wayI c)) := by unfold goOn; rw [if_neg h, if_pos ho]
theorem goOn_open {M : Mz} {q r : Int × Int} {c : Int} (h : goOn M q c = some r) : openB M r.1 r.2 = true := by
  unfold goOn at h
  split at h
  · cases h
  · split at h
    · next ho => injection h with h; subst h; exact ho
    · cases h
theorem posTo_open {M : Mz} {p q : Int × Int} {s : ByteArray} (hp : openB M p.1 p.2 = true) : ∀ {k : Nat}, posTo M p s k = some q → openB M q.1 q.2 = true
  | 0, h => by injection h with h; subst h; exact hp
  | k + 1, h => by
    unfold posTo at h
    cases hk : posTo M p s k with
    | none => rw [hk] at h; cases h
    | some r => rw [hk] at h; exact goOn_open h
theorem posTo_le {M : Mz} {p q : Int × Int} {s : ByteArray} {n : Nat} (h : posTo M p s n = some q) {k : Nat} (hk : k ≤ n) : ∃ r, posTo M p s k = some r := by
  cases e : posTo M p s k with
  | none => rw [posTo_none e hk] at h; cases h
  | some r => exact ⟨r, rfl⟩
theorem open_lo {M : Mz} (hM : MzOk M) {x y : Int} (h : openB M x y = true) : (0 ≤ x ∧ x ≤ 11) ∧ (0 ≤ y ∧ y ≤ 11) := by
  obtain ⟨i, j, rfl, rfl, hi, hj, _⟩ := openB_pt h
  have := hM.h12; have := hM.w12
  omega
/-- The points of the first steps, the first point among them. -/
def posD (M : Mz) (p : Int × Int) (s : ByteArray) (i : Nat) : Int × Int := (posTo M p s i).getD (0, 0)
def cellsL (M : Mz) (p : Int × Int) (s : ByteArray) (k : Nat) : List (Int × Int) := (List.range (k + 1)).map (posD M p s)
theorem cellsL_len (M : Mz) (p : Int × Int) (s : ByteArray) (k : Nat) : (cellsL M p s k).length = k + 1 := by simp [cellsL]
theorem cellsL_at {M : Mz} {p : Int × Int} {s : ByteArray} {k i : Nat} (h : i ≤ k) : (cellsL M p s k).getD i (0, 0) = posD M p s i := by
  simp [cellsL, List.getD_eq_getElem?_getD, show i < k + 1 by omega]
theorem cellsL_snoc {M : Mz} {p q : Int × Int} {s : ByteArray} {k : Nat} (h : posTo M p s (k + 1) = some q) : cellsL M p s (k + 1) = cellsL M p s k ++ [q] := by
  unfold cellsL
  rw [List.range_succ, List.map_append]
  simp [posD, h]

/-- A variable that holds a point. -/
def PtBox (w : World) (G : Nat) (p : Int × Int) : Prop := w.heap[G]? = some (.cells #[.int .i64 p.1, .int .i64 p.2] 33 (0, 0))
theorem PtBox.lt {w : World} {G : Nat} {p : Int × Int} (h : PtBox w G p) : G < w.heap.size := (Array.getElem?_eq_some_iff.1 h).1
theorem PtBox.c0 {w : World} {G : Nat} {p : Int × Int} (h : PtBox w G p) : w.cell? ⟨G, 0, none⟩ = some (.int .i64 p.1) := by simp [World.cell?, show w.heap[G]? = _ from h]
theorem PtBox.c1 {w : World} {G : Nat} {p : Int × Int} (h : PtBox w G p) : w.cell? ⟨G, 1, none⟩ = some (.int .i64 p.2) := by simp [World.cell?, show w.heap[G]? = _ from h]
theorem PtBox.fr {w : World} {G : Nat} {p : Int × Int} (h : PtBox w G p) (o : Nat) : w.frozen? ⟨G, o, none⟩ = false := by simp [World.frozen?, show w.heap[G]? = _ from h]
theorem PtBox.keep {w w' : World} {G : Nat} {p : Int × Int} (h : PtBox w G p) (hk : w'.heap[G]? = w.heap[G]?) : PtBox w' G p := hk.trans h
theorem PtBox.to {w w1 : World} {G : Nat} {p : Int × Int} (h : PtBox w G p) (hb : Below w.heap.size w w1) : PtBox w1 G p := h.keep (hb.block G h.lt)
theorem PtBox.new (w : World) (x y : Int) : PtBox (w.alloc (.cells #[.int .i64 x, .int .i64 y] 33)) w.heap.size (x, y) := heap_alloc_new w _
theorem PtBox.set_ {w : World} {G : Nat} {p : Int × Int} (h : PtBox w G p) (x y : Int) : PtBox ((w.setCell ⟨G, 0, none⟩ (.int .i64 x)).setCell ⟨G, 1, none⟩ (.int .i64 y)) G (x, y) := by
  unfold PtBox at h ⊢
  simp [World.setCell, Array.getElem?_modify, h]
theorem OwnQ.far {w : World} {base G : Nat} {v : Value} {L : List (Int × Int)} (h : OwnQ w base v L) (hne : v.ownBlock ≠ some G) (o : Nat) (u : Value) : OwnQ (w.setCell ⟨G, o, none⟩ u) base v L := by
  refine ⟨h.1, ?_⟩
  rcases h.2 with hn | ⟨g, cap, cur, rfl, hb, hgg, rest⟩
  · exact .inl hn
  · refine .inr ⟨g, cap, cur, rfl, hb, ?_, rest⟩
    rw [Below.heap_setCell w ⟨G, o, none⟩ u g (fun e => hne (by simp [Value.ownBlock]; exact e))]
    exact hgg

theorem OwnQ.one (w : World) (base : Nat) (x y : Int) (hB : base ≤ w.heap.size) : OwnQ (w.alloc (.cells #[.int .i64 x, .int .i64 y] 33)) base (.slice (some ⟨w.heap.size, 0, none⟩) 1 1) [(x, y)] :=
  ⟨rfl, .inr ⟨w.heap.size, 1, #[.int .i64 x, .int .i64 y], rfl, hB, heap_alloc_new w _, Nat.le_refl _, by unfold maxLen; omega, rfl, rfl⟩⟩
theorem OwnQ.alloc {w : World} {base : Nat} {v : Value} {L : List (Int × Int)} (h : OwnQ w base v L) (o : Obj) : OwnQ (w.alloc o) base v L := World.ownsRow.alloc h o
/-- What the model's list of a way's points comes to. -/
def CellsRes (M : Mz) (p : Int × Int) (s : ByteArray) (w : World) (e : Ending) (w' : World) : Prop :=
  ((∃ q v, posTo M p s s.size = some q ∧ e = .returned (.tuple #[v, .bool true]) ∧ OwnQ w' w.heap.size v (cellsL M p s s.size)) ∨ (posTo M p s s.size = none ∧ ∃ v, e = .returned (.tuple #[v, .bool false]))) ∧ Below w.heap.size w w'
theorem stepW_lo {x y k : Int} (hx : 0 ≤ x ∧ x ≤ 11) (hy : 0 ≤ y ∧ y ≤ 11) : (-1 ≤ (stepW x y k).1 ∧ (stepW x y k).1 ≤ 12) ∧ (-1 ≤ (stepW x y k).2 ∧ (stepW x y k).2 ≤ 12) := by
  unfold stepW; split <;> (try split) <;> (try split) <;> (simp only []; omega)
end Go.Proofs.Ytepamhdopmfkfaa
