/-
  A slice of points of the call's own, appended to.
-/
import Derived.Test.YtdpamieheefhdaaOwnI
import Derived.Maps.AppendAt
namespace Go.Proofs.Ytdpamieheefhdaa
set_option linter.unusedSimpArgs false
set_option linter.unusedVariables false
open Go.ChangeShapes Go.WideShapes Go.ChangeAt Go.RowKit

/-- The cells of points. -/
def cellsQ (l : List (Int × Int)) : List Value := l.flatMap fun p => [.int .i64 p.1, .int .i64 p.2]
theorem cellsQ_snoc (l : List (Int × Int)) (p : Int × Int) : cellsQ (l ++ [p]) = cellsQ l ++ [.int .i64 p.1, .int .i64 p.2] := by simp [cellsQ]
/-- A slice of the call's own holds the points L. -/
def OwnQ (w : World) (base : Nat) (v : Value) (L : List (Int × Int)) : Prop := w.ownsRow base 37 2 v L.length (cellsQ L)
theorem OwnQ.snoc {w : World} {base : Nat} {v : Value} {L : List (Int × Int)} {x y : Int} (h : w.ownsRow base 37 2 v (L.length + 1) (cellsQ L ++ [.int .i64 x, .int .i64 y])) : OwnQ w base v (L ++ [(x, y)]) := by
  unfold OwnQ; rw [cellsQ_snoc]; simpa using h
theorem OwnQ.to {w w1 : World} {base : Nat} {v : Value} {L : List (Int × Int)} (h : OwnQ w base v L) (hb : Below w.heap.size w w1) : OwnQ w1 base v L :=
  World.ownsRow.kept (row := none) h ⟨hb.os, hb.tape, hb.output, hb.size, fun i hi _ => hb.block i hi⟩ (by
    rcases h.2 with ⟨rfl, _⟩ | ⟨g, cap, cur, rfl, _⟩
    · exact .inl rfl
    · exact .inr (by simp [Value.ownBlock]))
theorem OwnQ.empty (w : World) (base : Nat) (hB : base ≤ w.heap.size) : OwnQ (w.alloc (.cells #[] 37)) base (.slice (some ⟨w.heap.size, 0, none⟩) 0 0) [] :=
  ⟨rfl, .inr ⟨w.heap.size, 0, #[], rfl, hB, heap_alloc_new w _, Nat.le_refl _, Nat.zero_le _, rfl, rfl⟩⟩
theorem OwnQ.nil_ (w : World) (base : Nat) : OwnQ w base (.slice none 0 0) [] := ⟨rfl, .inl ⟨rfl, rfl⟩⟩
theorem infoQ : (Try.prog.info? 37).map (fun i => (i.zero, i.size, i.bytes)) = some (some (.agg #[.int .i64 0, .int .i64 0]), 2, 16) := by kernel_rfl
theorem append_ptq {ops : Array Oper} {rest : List Oper} {o : Oper} {a : Act} {Q : Exit → Act → World → Prop} (hgd : o.guard = none) (s x : Operand)
    (ho : o.op = .call { callee := .builtin .append, args := #[s, x], argTypes := #[32, 32] }) (w : World) (base : Nat) (v : Value) (L : List (Int × Int)) (X Y : Int)
    (hs : a.eval s = v) (hown : OwnQ w base v L) (B0 : Nat) (hB0 : B0 = w.heap.size) (hx : a.eval x = .slice (some ⟨B0, 0, none⟩) 1 1) (hL : L.length ≤ 4000000) (hbase : base ≤ w.heap.size)
    (h : ∀ v' w', OwnQ w' base v' (L ++ [(X, Y)]) → (∀ a0, Below base a0 w → Below base a0 w') → (∀ i, i < w.heap.size → v.ownBlock ≠ some i → w'.heap[i]? = w.heap[i]?) → (v'.ownBlock = v.ownBlock ∨ ∃ g, v'.ownBlock = some g ∧ w.heap.size ≤ g) → w.heap.size ≤ w'.heap.size → wpList Try.prog ops Q rest (a.put o.dst v') w') :
    wpList Try.prog ops Q (o :: rest) a (w.alloc (.cells #[.int .i64 X, .int .i64 Y] 37)) := by
  subst hB0
  obtain ⟨i0, hi0, hz0, hz1, hz2⟩ := info_parts infoQ
  have hown' : (w.alloc (.cells #[.int .i64 X, .int .i64 Y] 37)).ownsRow base 37 2 v L.length (cellsQ L) := World.ownsRow.alloc hown _
  refine wpList_append_own_at _ hgd s x _ ho base 37 i0 _ 2 16 Try.underlying32 hi0 hz0 hz1 hz2 rfl (by decide) v L.length (cellsQ L) hs hown' ⟨w.heap.size, 0, none⟩ 1 1 [.int .i64 X, .int .i64 Y] hx rfl ?_ ?_ ?_ ?_ ?_ ?_
  · intro j u hu
    rcases j with _ | _ | j
    · simp at hu; subst hu; simp [Addr.add]
    · simp at hu; subst hu; simp [Addr.add]
    · simp at hu
  · intro u hu
    simp at hu
    rcases hu with rfl | rfl <;> rfl
  · unfold maxLen; omega
  · omega
  · simp; omega
  · intro v' w' h1 h2 _ h5
    refine h v' w' (OwnQ.snoc h1) (fun a0 hb => Below.grown (hb.alloc hbase _) h2 (by simp; omega) fun k hk => (hown'.lt k hk).1) (fun i hi hne => ?_) ?_ ?_
    · have := h2.block i (by simp; omega) (Ne.symm hne)
      rw [this, World.alloc]
      simp [Array.getElem?_push, Nat.ne_of_lt hi]
    · rcases h5 with h5 | h5
      · exact .inl h5
      · exact .inr ⟨_, h5, by simp⟩
    · have := h2.size
      simp at this; omega
theorem cellsQ_at {l : List (Int × Int)} : ∀ {i : Nat}, i < l.length → (cellsQ l)[2 * i]? = some (.int .i64 (l.getD i (0, 0)).1) ∧ (cellsQ l)[2 * i + 1]? = some (.int .i64 (l.getD i (0, 0)).2) := by
  induction l with
  | nil => intro i h; simp at h
  | cons p l ih =>
    intro i h
    cases i with
    | zero => exact ⟨rfl, rfl⟩
    | succ i =>
      have := ih (i := i) (by simp at h; omega)
      have e : cellsQ (p :: l) = .int .i64 p.1 :: .int .i64 p.2 :: cellsQ l := rfl
      rw [e, show 2 * (i + 1) = (2 * i + 1) + 1 by omega]
      simp only [List.getElem?_cons_succ, List.getD_cons_succ]
      exact this
theorem cellsQ_len (l : List (Int × Int)) : (cellsQ l).length = 2 * l.length := by
  induction l with
  | nil => rfl
  | cons p l ih => simp [cellsQ] at ih ⊢; omega
theorem OwnQ.pts {w : World} {B : Nat} {v : Value} {L : List (Int × Int)} (h : OwnQ w B v L) : ∃ A c, v = .slice A L.length c ∧ PtsAt w w.heap.size A L ∧ L.length ≤ c := by
  rcases h.2 with ⟨rfl, h0⟩ | ⟨g, cap, cur, rfl, hB, hh, hn, _, hs, ht⟩
  · exact ⟨none, 0, by rw [h0], fun h1 => by omega, by omega⟩
  · refine ⟨_, _, rfl, fun _ => ⟨g, 0, rfl, ?_, fun i hi => ?_⟩, hn⟩
    · rcases Nat.lt_or_ge g w.heap.size with hlt | hge
      · exact hlt
      · rw [Array.getElem?_eq_none hge] at hh; cases hh
    · have key : ∀ j, j < 2 * L.length → cur[j]? = (cellsQ L)[j]? := fun j hj => by
        rw [← ht, List.getElem?_take, if_pos (by omega), Array.getElem?_toList]
      obtain ⟨k0, k1⟩ := cellsQ_at hi
      rw [cell_of_row w g _ cur _ _ hh, cell_of_row w g _ cur _ _ hh]
      rw [show 0 + i * 2 = 2 * i by omega, show 2 * i + 1 = 2 * i + 1 from rfl, key _ (by omega), key _ (by omega)]
      exact ⟨k0, k1⟩
end Go.Proofs.Ytdpamieheefhdaa
