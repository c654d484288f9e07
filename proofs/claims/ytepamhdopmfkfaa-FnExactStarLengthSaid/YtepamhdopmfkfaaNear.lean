/-
  Contracts of both NearestPoint.
-/
import Derived.Test.YtepamhdopmfkfaaSlices
namespace Go.Proofs.Ytepamhdopmfkfaa.fnExactNearestPoint
set_option linter.unusedSimpArgs false
set_option linter.unusedVariables false
open Go.ChangeShapes Go.WideShapes Go.ChangeAt Go.RowKit

/-- The index of the nearest one of the first k points. -/
def nearI (ps : List (Int × Int)) (x y : Int) : Nat → Nat
  | 0 => 0
  | k + 1 => if farI (ps.getD k (0, 0)).1 (ps.getD k (0, 0)).2 x y < farI (ps.getD (nearI ps x y k) (0, 0)).1 (ps.getD (nearI ps x y k) (0, 0)).2 x y then k else nearI ps x y k
theorem nearI_le (ps : List (Int × Int)) (x y : Int) (k n : Nat) (h0 : 0 < n) (h : k ≤ n) : nearI ps x y k < n := by
  induction k with
  | zero => exact h0
  | succ k ih => unfold nearI; have := ih (by omega); split <;> omega
theorem nearI_one (ps : List (Int × Int)) (x y : Int) : nearI ps x y 1 = 0 := by simp [nearI]

def okNear (ps : List (Int × Int)) (x y : Int) : Bool := arePts ps && decide (0 < ps.length) && isPt x y
def nearV (ps : List (Int × Int)) (x y : Int) : Value := .tuple #[.int .i64 (if okNear ps x y = true then (nearI ps x y ps.length : Int) else 0), .bool (okNear ps x y)]
theorem nearV_f {ps : List (Int × Int)} {x y : Int} (h : okNear ps x y = false) : nearV ps x y = .tuple #[.int .i64 0, .bool false] := by simp [nearV, h]
theorem nearV_t {ps : List (Int × Int)} {x y : Int} (h : okNear ps x y = true) : nearV ps x y = .tuple #[.int .i64 (nearI ps x y ps.length), .bool true] := by simp [nearV, h]

/-- Six cells, and nothing has turned below N: so behind a call that only makes memory. -/
theorem keep6 {N : Nat} {w wr wr' : World} {b1 o1 b2 o2 b3 o3 : Nat} {X Y X' Y' X'' Y'' : Value}
    (h : wr.cell? ⟨b1, o1, none⟩ = some X ∧ wr.cell? ⟨b1, o1 + 1, none⟩ = some Y ∧ wr.cell? ⟨b2, o2, none⟩ = some X' ∧ wr.cell? ⟨b2, o2 + 1, none⟩ = some Y' ∧ Below N w wr ∧ N ≤ wr.heap.size ∧ wr.cell? ⟨b3, o3, none⟩ = some X'' ∧ wr.cell? ⟨b3, o3 + 1, none⟩ = some Y'')
    (hs : Below wr.heap.size wr wr') :
    wr'.cell? ⟨b1, o1, none⟩ = some X ∧ wr'.cell? ⟨b1, o1 + 1, none⟩ = some Y ∧ wr'.cell? ⟨b2, o2, none⟩ = some X' ∧ wr'.cell? ⟨b2, o2 + 1, none⟩ = some Y' ∧ Below N w wr' ∧ N ≤ wr'.heap.size ∧ wr'.cell? ⟨b3, o3, none⟩ = some X'' ∧ wr'.cell? ⟨b3, o3 + 1, none⟩ = some Y'' := by
  obtain ⟨h0, h1, h2, h3, hb, hz, h4, h5⟩ := h
  have l1 : b1 < wr.heap.size := World.block_lt_of_cell? wr _ h0
  have l2 : b2 < wr.heap.size := World.block_lt_of_cell? wr _ h2
  have l3 : b3 < wr.heap.size := World.block_lt_of_cell? wr _ h4
  exact ⟨(hs.cell (p := ⟨b1, o1, none⟩) l1).trans h0, (hs.cell (p := ⟨b1, o1 + 1, none⟩) l1).trans h1, (hs.cell (p := ⟨b2, o2, none⟩) l2).trans h2, (hs.cell (p := ⟨b2, o2 + 1, none⟩) l2).trans h3,
    hb.trans (hs.mono hz), Nat.le_trans hz hs.size, (hs.cell (p := ⟨b3, o3, none⟩) l3).trans h4, (hs.cell (p := ⟨b3, o3 + 1, none⟩) l3).trans h5⟩
theorem eighth {a b c d e f g : Prop} {N : Nat} {w wr : World} (h : a ∧ b ∧ c ∧ d ∧ Below N w wr ∧ e ∧ f ∧ g) : f ∧ g := h.2.2.2.2.2.2

theorem keep2 {N : Nat} {w wr wr' : World} {b1 o1 : Nat} {X Y : Value}
    (h : wr.cell? ⟨b1, o1, none⟩ = some X ∧ wr.cell? ⟨b1, o1 + 1, none⟩ = some Y ∧ Below N w wr ∧ N < wr.heap.size) (hs : Below wr.heap.size wr wr') :
    wr'.cell? ⟨b1, o1, none⟩ = some X ∧ wr'.cell? ⟨b1, o1 + 1, none⟩ = some Y ∧ Below N w wr' ∧ N < wr'.heap.size := by
  obtain ⟨h0, h1, hb, hz⟩ := h
  have l1 : b1 < wr.heap.size := World.block_lt_of_cell? wr _ h0
  exact ⟨(hs.cell (p := ⟨b1, o1, none⟩) l1).trans h0, (hs.cell (p := ⟨b1, o1 + 1, none⟩) l1).trans h1, hb.trans (hs.mono (Nat.le_of_lt hz)), Nat.lt_of_lt_of_le hz hs.size⟩
theorem third {a b e : Prop} {N : Nat} {w wr : World} (h : a ∧ b ∧ Below N w wr ∧ e) : Below N w wr := h.2.2.1
theorem have2 {w wr : World} {x y : Int} (h : wr.cell? ⟨w.heap.size, 0, none⟩ = some (.int .i64 x) ∧ wr.cell? ⟨w.heap.size, 0 + 1, none⟩ = some (.int .i64 y) ∧ Below w.heap.size w wr ∧ w.heap.size < wr.heap.size) :
    wr.cell? ⟨w.heap.size, 0, none⟩ = some (.int .i64 x) ∧ wr.cell? ⟨w.heap.size, 0 + 1, none⟩ = some (.int .i64 y) ∧ Below w.heap.size w wr ∧ w.heap.size < wr.heap.size := h

end Go.Proofs.Ytepamhdopmfkfaa.fnExactNearestPoint
