/-
  Contract: impl's columnsOf: the columns of a channel, and whether it is valid.
-/
import Derived.Test.YtifenbamookmiaaDoorChanS
import Derived.StillTailTactics
namespace Go.Proofs.YtifenbamookmiaaDoor
set_option linter.unusedSimpArgs false
set_option linter.unusedVariables false
open Go.ChangeShapes Go.WideShapes Go.ChangeAt Go.RowKit

/-- An index, or less than 0 where there is none. -/
def IdxOk (i : Int) (ns : List Int) (v : Int) : Prop := 0 ≤ i ↔ v ∈ ns
def blankC (n : Nat) : Array Value := madeCells #[.int .i64 0, .int .i64 0] (n * 2)
/-- How often each of the numbers 1 to 12 is in L. -/
def cnts (L : List Int) : List Int := (List.range 12).map fun k => (L.count ((k + 1 : Nat) : Int) : Int)
theorem cnts_one (L : List Int) : (cnts L).contains 1 = single L := by
  unfold cnts single
  rw [Bool.eq_iff_iff, List.contains_iff_mem, List.mem_map, List.any_eq_true]
  constructor
  · rintro ⟨k, hk, e⟩
    exact ⟨k, hk, by rw [beq_iff_eq]; omega⟩
  · rintro ⟨k, hk, e⟩
    rw [beq_iff_eq] at e
    exact ⟨k, hk, by omega⟩
theorem CntAt.tail {w : World} {g : Nat} {t : TypeId} {L : List Int} (h : CntAt w g t L) : IntsAt w w.heap.size (some ⟨g, 1, none⟩) (cnts L) := fun _ =>
  ⟨g, 1, rfl, h.lt, fun i hi => by
    have hi' : i < 12 := by simpa [cnts] using hi
    rw [h.at_ (j := 1 + i) (by omega)]
    simp [cnts, List.getD_eq_getElem?_getD, hi', Nat.add_comm]⟩

theorem ChAt.keep {w w1 : World} {b : Nat} {A A' : Option Addr} {n n' c c' : Nat} (h : ChAt w b A A' n n' c c') (hk : w1.heap[b]? = w.heap[b]?) (hz : w.heap.size ≤ w1.heap.size) : ChAt w1 b A A' n n' c c' :=
  ⟨Nat.lt_of_lt_of_le h.lt hz, (World.cell?_of_block (a := ⟨b, 0, none⟩) hk).trans h.c0, (World.cell?_of_block (a := ⟨b, 1, none⟩) hk).trans h.c1⟩
theorem ChAt.new (w : World) (A A' : Option Addr) (n n' c c' : Nat) (t : TypeId) : ChAt (w.alloc (.cells #[.slice A n c, .slice A' n' c'] t)) w.heap.size A A' n n' c c' :=
  ⟨by simp, by simp, by simp⟩
/-- A new box of two numbers. -/
structure TwoAt (w : World) (g : Nat) (x y : Int) : Prop where
  lt : g < w.heap.size
  c0 : w.cell? ⟨g, 0, none⟩ = some (.int .i64 x)
  c1 : w.cell? ⟨g, 1, none⟩ = some (.int .i64 y)
theorem TwoAt.new (w : World) (x y : Int) (t : TypeId) : TwoAt (w.alloc (.cells #[.int .i64 x, .int .i64 y] t)) w.heap.size x y :=
  ⟨by simp, by simp, by simp⟩
theorem TwoAt.keep {w w1 : World} {g : Nat} {x y : Int} (h : TwoAt w g x y) (hk : w1.heap[g]? = w.heap[g]?) (hz : w.heap.size ≤ w1.heap.size) : TwoAt w1 g x y :=
  ⟨Nat.lt_of_lt_of_le h.lt hz, (World.cell?_of_block (a := ⟨g, 0, none⟩) hk).trans h.c0, (World.cell?_of_block (a := ⟨g, 1, none⟩) hk).trans h.c1⟩
/-- The first j of two numbers. -/
def two (x y : Int) : Nat → List Int
  | 0 => []
  | 1 => [x]
  | _ => [x, y]

end Go.Proofs.YtifenbamookmiaaDoor
