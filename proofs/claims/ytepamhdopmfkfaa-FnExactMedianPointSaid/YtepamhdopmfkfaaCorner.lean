/-
  Contracts: the corners of a path, both.
-/
import Derived.Test.YtepamhdopmfkfaaBendFns
import Derived.OwnWalk
import Derived.Laws.OwnMore
namespace Go.Proofs.Ytepamhdopmfkfaa
set_option linter.unusedSimpArgs false
set_option linter.unusedVariables false
open Go.ChangeShapes Go.WideShapes Go.ChangeAt Go.RowKit

/-- The cells of points. -/
def cellsP (l : List (Int × Int)) : List Value := l.flatMap fun p => [.int .i64 p.1, .int .i64 p.2]
theorem cellsP_snoc (l : List (Int × Int)) (p : Int × Int) : cellsP (l ++ [p]) = cellsP l ++ [.int .i64 p.1, .int .i64 p.2] := by simp [cellsP]
theorem cellsP_len (l : List (Int × Int)) : (cellsP l).length = l.length * 2 := by
  induction l with
  | nil => rfl
  | cons p l ih => simp only [cellsP, List.flatMap_cons, List.length_append, List.length_cons, List.length_nil] at ih ⊢; omega

/-- The list has a corner at i. -/
def cornB (ps : List (Int × Int)) (i : Nat) : Bool := decide (i = 0) || (decide (i + 1 = ps.length) || bendB ps i)
def cornL (ps : List (Int × Int)) : Nat → List (Int × Int)
  | 0 => []
  | k + 1 => cornL ps k ++ (if cornB ps k = true then [ps.getD k (0, 0)] else [])
theorem cornL_le (ps : List (Int × Int)) : ∀ k, (cornL ps k).length ≤ k
  | 0 => Nat.le_refl _
  | k + 1 => by have := cornL_le ps k; unfold cornL; split <;> simp <;> omega
theorem cornL_t {ps : List (Int × Int)} {k : Nat} (h : cornB ps k = true) : cornL ps (k + 1) = cornL ps k ++ [ps.getD k (0, 0)] := by show cornL ps k ++ (if cornB ps k = true then [ps.getD k (0, 0)] else []) = _; rw [h]; rfl
theorem cornL_f {ps : List (Int × Int)} {k : Nat} (h : cornB ps k = false) : cornL ps (k + 1) = cornL ps k := by show cornL ps k ++ (if cornB ps k = true then [ps.getD k (0, 0)] else []) = _; rw [h]; simp

theorem infoPtO : (Try.prog.info? 33).map (fun i => (i.zero, i.size, i.bytes)) = some (some (.agg #[.int .i64 0, .int .i64 0]), 2, 16) := infoPt

theorem bl_alloc' {a b : World} {B : Nat} (h : Below B a b) (hB : B ≤ b.heap.size) {o : Obj} : Below B a (b.alloc o) := h.alloc hB o
/-- A slice of the call's own holds the points L. -/
def OwnL (w : World) (base : Nat) (v : Value) (L : List (Int × Int)) : Prop := w.ownsRow base 33 2 v L.length (cellsP L)
def OwnPost (L : List (Int × Int)) (w : World) (e : Ending) (w' : World) : Prop := ∃ v, e = .returned v ∧ OwnL w' w.heap.size v L ∧ Below w.heap.size w w'
theorem OwnL.snoc {w : World} {base : Nat} {v : Value} {L : List (Int × Int)} {x y : Int} (h : w.ownsRow base 33 2 v (L.length + 1) (cellsP L ++ [.int .i64 x, .int .i64 y])) : OwnL w base v (L ++ [(x, y)]) := by
  unfold OwnL; rw [cellsP_snoc]; simpa using h
theorem below_own {a w w' : World} {base : Nat} {e : TypeId} {size n : Nat} {v : Value} {xs : List Value} (hb : Below base a w) (ho : w.ownsRow base e size v n xs) (hg : w.grownBy w' v.ownBlock) (hB : base ≤ w.heap.size) : Below base a w' :=
  Below.grown hb hg hB fun k hk => (ho.lt k hk).1

theorem own_to {w w1 : World} {base : Nat} {v : Value} {L : List (Int × Int)} (h : OwnL w base v L) (hb : Below w.heap.size w w1) : OwnL w1 base v L :=
  World.ownsRow.kept (row := none) h ⟨hb.os, hb.tape, hb.output, hb.size, fun i hi _ => hb.block i hi⟩ (by
    rcases h.2 with ⟨rfl, _⟩ | ⟨g, cap, cur, rfl, _⟩
    · exact .inl rfl
    · exact .inr (by simp [Value.ownBlock]))

theorem append_pt {ops : Array Oper} {rest : List Oper} {o : Oper} {a : Act} {Q : Exit → Act → World → Prop} (hgd : o.guard = none) (s x : Operand)
    (ho : o.op = .call { callee := .builtin .append, args := #[s, x], argTypes := #[25, 25] }) (w : World) (base : Nat) (v : Value) (L : List (Int × Int)) (X Y : Int)
    (hs : a.eval s = v) (hown : OwnL w base v L) (B0 : Nat) (hB0 : B0 = w.heap.size) (hx : a.eval x = .slice (some ⟨B0, 0, none⟩) 1 1) (hL : L.length ≤ 1000000) (hbase : base ≤ w.heap.size)
    (h : ∀ v' w', OwnL w' base v' (L ++ [(X, Y)]) → (∀ a0, Below base a0 w → Below base a0 w') → wpList Try.prog ops Q rest (a.put o.dst v') w') :
    wpList Try.prog ops Q (o :: rest) a (w.alloc (.cells #[.int .i64 X, .int .i64 Y] 33)) := by
  subst hB0
  obtain ⟨i0, hi0, hz0, hz1, hz2⟩ := info_parts infoPtO
  have hown' : (w.alloc (.cells #[.int .i64 X, .int .i64 Y] 33)).ownsRow base 33 2 v L.length (cellsP L) := World.ownsRow.alloc hown _
  refine wpList_append_own _ hgd s x _ ho base 33 i0 _ 2 16 Try.underlying25 hi0 hz0 hz1 hz2 rfl (by decide) v L.length (cellsP L) hs hown' ⟨w.heap.size, 0, none⟩ 1 1 [.int .i64 X, .int .i64 Y] hx rfl ?_ ?_ ?_ ?_ ?_ ?_
  · intro j u hu
    rcases j with _ | _ | j
    · simp at hu; subst hu; simp [Addr.add]
    · simp at hu; subst hu; simp [Addr.add]
    · simp at hu
  · intro u hu
    simp at hu
    rcases hu with rfl | rfl <;> rfl
  · unfold maxLen; omega
  · omega
  · simp; omega
  · intro v' w' h1 h2 _
    exact h v' w' (OwnL.snoc h1) fun a0 hb => below_own (bl_alloc' hb hbase) hown' h2 (by simp; omega)

end Go.Proofs.Ytepamhdopmfkfaa
