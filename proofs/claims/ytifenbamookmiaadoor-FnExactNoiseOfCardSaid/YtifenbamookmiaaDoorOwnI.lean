/-
  A slice of numbers of the call's own, appended to.
-/
import Derived.Test.YtifenbamookmiaaDoorNums
import Derived.OwnWalk
import Derived.Laws.OwnMore
namespace Go.Proofs.YtifenbamookmiaaDoor
set_option linter.unusedSimpArgs false
set_option linter.unusedVariables false
open Go.ChangeShapes Go.WideShapes Go.ChangeAt Go.RowKit

/-- The cells of numbers. -/
def cellsI (l : List Int) : List Value := l.map fun n => .int .i64 n
theorem cellsI_snoc (l : List Int) (n : Int) : cellsI (l ++ [n]) = cellsI l ++ [.int .i64 n] := by simp [cellsI]
theorem cellsI_at {l : List Int} {i : Nat} (h : i < l.length) : (cellsI l)[i]? = some (.int .i64 (l.getD i 0)) := by
  simp [cellsI, List.getD_eq_getElem?_getD, h]
/-- A slice of the call's own holds the numbers L. -/
def OwnI (w : World) (base : Nat) (v : Value) (L : List Int) : Prop := w.ownsRow base 2 1 v L.length (cellsI L)
theorem OwnI.snoc {w : World} {base : Nat} {v : Value} {L : List Int} {x : Int} (h : w.ownsRow base 2 1 v (L.length + 1) (cellsI L ++ [.int .i64 x])) : OwnI w base v (L ++ [x]) := by
  unfold OwnI; rw [cellsI_snoc]; simpa using h
theorem OwnI.to {w w1 : World} {base : Nat} {v : Value} {L : List Int} (h : OwnI w base v L) (hb : Below w.heap.size w w1) : OwnI w1 base v L :=
  World.ownsRow.kept (row := none) h ⟨hb.os, hb.tape, hb.output, hb.size, fun i hi _ => hb.block i hi⟩ (by
    rcases h.2 with ⟨rfl, _⟩ | ⟨g, cap, cur, rfl, _⟩
    · exact .inl rfl
    · exact .inr (by simp [Value.ownBlock]))
theorem OwnI.empty (w : World) (base : Nat) (hB : base ≤ w.heap.size) : OwnI (w.alloc (.cells #[] 2)) base (.slice (some ⟨w.heap.size, 0, none⟩) 0 0) [] :=
  ⟨rfl, .inr ⟨w.heap.size, 0, #[], rfl, hB, heap_alloc_new w _, Nat.le_refl _, Nat.zero_le _, rfl, rfl⟩⟩
theorem OwnI.ints {w : World} {B : Nat} {v : Value} {L : List Int} (h : OwnI w B v L) : ∃ A c, v = .slice A L.length c ∧ IntsAt w w.heap.size A L ∧ L.length ≤ c := by
  rcases h.2 with ⟨rfl, h0⟩ | ⟨g, cap, cur, rfl, hB, hh, hn, _, hs, ht⟩
  · exact ⟨none, 0, by rw [h0], fun h1 => by omega, by omega⟩
  · refine ⟨_, _, rfl, fun _ => ⟨g, 0, rfl, ?_, fun i hi => ?_⟩, hn⟩
    · rcases Nat.lt_or_ge g w.heap.size with hlt | hge
      · exact hlt
      · rw [Array.getElem?_eq_none hge] at hh; cases hh
    · rw [cell_of_row w g _ cur _ _ hh, Nat.zero_add]
      have key : cur[i]? = (cellsI L)[i]? := by
        rw [← ht, List.getElem?_take, if_pos (by omega), Array.getElem?_toList]
      rw [key]; exact cellsI_at hi

theorem belowAlloc {a b : World} {B : Nat} (h : Below B a b) (hB : B ≤ b.heap.size) {o : Obj} : Below B a (b.alloc o) := h.alloc hB o
theorem infoIO : (Tryd.prog.info? 2).map (fun i => (i.zero, i.size, i.bytes)) = some (some (.int .i64 0), 1, 8) := infoI
theorem append_int {ops : Array Oper} {rest : List Oper} {o : Oper} {a : Act} {Q : Exit → Act → World → Prop} (hgd : o.guard = none) (s x : Operand)
    (ho : o.op = .call { callee := .builtin .append, args := #[s, x], argTypes := #[25, 25] }) (w : World) (base : Nat) (v : Value) (L : List Int) (X : Int)
    (hs : a.eval s = v) (hown : OwnI w base v L) (B0 : Nat) (hB0 : B0 = w.heap.size) (hx : a.eval x = .slice (some ⟨B0, 0, none⟩) 1 1) (hL : L.length ≤ 1000000) (hbase : base ≤ w.heap.size)
    (h : ∀ v' w', OwnI w' base v' (L ++ [X]) → (∀ a0, Below base a0 w → Below base a0 w') → wpList Tryd.prog ops Q rest (a.put o.dst v') w') :
    wpList Tryd.prog ops Q (o :: rest) a (w.alloc (.cells #[.int .i64 X] 2)) := by
  subst hB0
  obtain ⟨i0, hi0, hz0, hz1, hz2⟩ := info_parts infoIO
  have hown' : (w.alloc (.cells #[.int .i64 X] 2)).ownsRow base 2 1 v L.length (cellsI L) := World.ownsRow.alloc hown _
  refine wpList_append_own _ hgd s x _ ho base 2 i0 _ 1 8 Tryd.underlying25 hi0 hz0 hz1 hz2 rfl (by decide) v L.length (cellsI L) hs hown' ⟨w.heap.size, 0, none⟩ 1 1 [.int .i64 X] hx rfl ?_ ?_ ?_ ?_ ?_ ?_
  · intro j u hu
    rcases j with _ | j
    · simp at hu; subst hu; simp [Addr.add]
    · simp at hu
  · intro u hu
    simp at hu
    subst hu; rfl
  · unfold maxLen; omega
  · omega
  · simp; omega
  · intro v' w' h1 h2 _
    exact h v' w' (OwnI.snoc h1) fun a0 hb => Below.grown (belowAlloc hb hbase) h2 (by simp; omega) fun k hk => (hown'.lt k hk).1
end Go.Proofs.YtifenbamookmiaaDoor
