/-
  A slice of joints of the call's own, appended to.
-/
import Derived.Test.YtdoheipnfdbioaaDoorOwnI
import Derived.Maps.AppendAt
namespace Go.Proofs.YtdoheipnfdbioaaDoor
set_option linter.unusedSimpArgs false
set_option linter.unusedVariables false
open Go.ChangeShapes Go.WideShapes Go.ChangeAt Go.RowKit

/-- The cells of joints. -/
def cellsT (l : List (Int × Int)) : List Value := l.flatMap fun p => [.int .u64 p.1, .int .i64 p.2]
theorem cellsT_snoc (l : List (Int × Int)) (p : Int × Int) : cellsT (l ++ [p]) = cellsT l ++ [.int .u64 p.1, .int .i64 p.2] := by simp [cellsT]
/-- A slice of the call's own holds the joints L. -/
def OwnT (w : World) (base : Nat) (v : Value) (L : List (Int × Int)) : Prop := w.ownsRow base 95 2 v L.length (cellsT L)
theorem OwnT.snoc {w : World} {base : Nat} {v : Value} {L : List (Int × Int)} {x y : Int} (h : w.ownsRow base 95 2 v (L.length + 1) (cellsT L ++ [.int .u64 x, .int .i64 y])) : OwnT w base v (L ++ [(x, y)]) := by
  unfold OwnT; rw [cellsT_snoc]; simpa using h
theorem OwnT.to {w w1 : World} {base : Nat} {v : Value} {L : List (Int × Int)} (h : OwnT w base v L) (hb : Below w.heap.size w w1) : OwnT w1 base v L :=
  World.ownsRow.kept (row := none) h ⟨hb.os, hb.tape, hb.output, hb.size, fun i hi _ => hb.block i hi⟩ (by
    rcases h.2 with ⟨rfl, _⟩ | ⟨g, cap, cur, rfl, _⟩
    · exact .inl rfl
    · exact .inr (by simp [Value.ownBlock]))
theorem OwnT.empty (w : World) (base : Nat) (hB : base ≤ w.heap.size) : OwnT (w.alloc (.cells #[] 95)) base (.slice (some ⟨w.heap.size, 0, none⟩) 0 0) [] :=
  ⟨rfl, .inr ⟨w.heap.size, 0, #[], rfl, hB, heap_alloc_new w _, Nat.le_refl _, Nat.zero_le _, rfl, rfl⟩⟩
theorem OwnT.nil_ (w : World) (base : Nat) : OwnT w base (.slice none 0 0) [] := ⟨rfl, .inl ⟨rfl, rfl⟩⟩
theorem infoT : (Tryd.prog.info? 95).map (fun i => (i.zero, i.size, i.bytes)) = some (some (.agg #[.int .u64 0, .int .i64 0]), 2, 16) := by kernel_rfl
theorem append_jt {ops : Array Oper} {rest : List Oper} {o : Oper} {a : Act} {Q : Exit → Act → World → Prop} (hgd : o.guard = none) (s x : Operand)
    (ho : o.op = .call { callee := .builtin .append, args := #[s, x], argTypes := #[59, 59] }) (w : World) (base : Nat) (v : Value) (L : List (Int × Int)) (X Y : Int)
    (hs : a.eval s = v) (hown : OwnT w base v L) (B0 : Nat) (hB0 : B0 = w.heap.size) (hx : a.eval x = .slice (some ⟨B0, 0, none⟩) 1 1) (hL : L.length ≤ 4000000) (hbase : base ≤ w.heap.size)
    (h : ∀ v' w', OwnT w' base v' (L ++ [(X, Y)]) → (∀ a0, Below base a0 w → Below base a0 w') → (∀ i, i < w.heap.size → v.ownBlock ≠ some i → w'.heap[i]? = w.heap[i]?) → (v'.ownBlock = v.ownBlock ∨ ∃ g, v'.ownBlock = some g ∧ w.heap.size ≤ g) → w.heap.size ≤ w'.heap.size → wpList Tryd.prog ops Q rest (a.put o.dst v') w') :
    wpList Tryd.prog ops Q (o :: rest) a (w.alloc (.cells #[.int .u64 X, .int .i64 Y] 95)) := by
  subst hB0
  obtain ⟨i0, hi0, hz0, hz1, hz2⟩ := info_parts infoT
  have hown' : (w.alloc (.cells #[.int .u64 X, .int .i64 Y] 95)).ownsRow base 95 2 v L.length (cellsT L) := World.ownsRow.alloc hown _
  refine wpList_append_own_at _ hgd s x _ ho base 95 i0 _ 2 16 Tryd.underlying59 hi0 hz0 hz1 hz2 rfl (by decide) v L.length (cellsT L) hs hown' ⟨w.heap.size, 0, none⟩ 1 1 [.int .u64 X, .int .i64 Y] hx rfl ?_ ?_ ?_ ?_ ?_ ?_
  · intro j u hu
    rcases j with _ | _ | j
    · simp at hu; subst hu; simp [Addr.add]
    · simp at hu; subst hu; simp [Addr.add]
    · simp at hu
  · intro u hu
    simp at hu
    rcases hu with rfl | rfl <;> rfl
  · unfold maxLen; omega
  · omega
  · simp; omega
  · intro v' w' h1 h2 _ h5
    refine h v' w' (OwnT.snoc h1) (fun a0 hb => Below.grown (hb.alloc hbase _) h2 (by simp; omega) fun k hk => (hown'.lt k hk).1) (fun i hi hne => ?_) ?_ ?_
    · have := h2.block i (by simp; omega) (Ne.symm hne)
      rw [this, World.alloc]
      simp [Array.getElem?_push, Nat.ne_of_lt hi]
    · rcases h5 with h5 | h5
      · exact .inl h5
      · exact .inr ⟨_, h5, by simp⟩
    · have := h2.size
      simp at this; omega
theorem cellsT_at {l : List (Int × Int)} : ∀ {i : Nat}, i < l.length → (cellsT l)[2 * i]? = some (.int .u64 (l.getD i (0, 0)).1) ∧ (cellsT l)[2 * i + 1]? = some (.int .i64 (l.getD i (0, 0)).2) := by
  induction l with
  | nil => intro i h; simp at h
  | cons p l ih =>
    intro i h
    cases i with
    | zero => exact ⟨rfl, rfl⟩
    | succ i =>
      have := ih (i := i) (by simp at h; omega)
      have e : cellsT (p :: l) = .int .u64 p.1 :: .int .i64 p.2 :: cellsT l := rfl
      rw [e, show 2 * (i + 1) = (2 * i + 1) + 1 by omega]
      simp only [List.getElem?_cons_succ, List.getD_cons_succ]
      exact this
theorem cellsT_len (l : List (Int × Int)) : (cellsT l).length = 2 * l.length := by
  induction l with
  | nil => rfl
  | cons p l ih => simp [cellsT] at ih ⊢; omega
/-- The slice with the address A holds the joints, below B. -/
def JtsAt (w : World) (B : Nat) (A : Option Addr) (L : List (Int × Int)) : Prop :=
  0 < L.length → ∃ b off, A = some ⟨b, off, none⟩ ∧ b < B ∧ ∀ i, i < L.length → w.cell? ⟨b, off + i * 2, none⟩ = some (.int .u64 (L.getD i (0, 0)).1) ∧ w.cell? ⟨b, off + i * 2 + 1, none⟩ = some (.int .i64 (L.getD i (0, 0)).2)
theorem JtsAt.to {w w1 : World} {A : Option Addr} {L : List (Int × Int)} (h : JtsAt w w.heap.size A L) (hb : Below w.heap.size w w1) : JtsAt w1 w1.heap.size A L := fun h0 => by
  obtain ⟨b, off, e, hlt, hc⟩ := h h0
  exact ⟨b, off, e, Nat.lt_of_lt_of_le hlt hb.size, fun i hi => ⟨(hb.cell (p := ⟨b, _, none⟩) hlt).trans (hc i hi).1, (hb.cell (p := ⟨b, _, none⟩) hlt).trans (hc i hi).2⟩⟩
theorem OwnT.pts {w : World} {B : Nat} {v : Value} {L : List (Int × Int)} (h : OwnT w B v L) : ∃ A c, v = .slice A L.length c ∧ JtsAt w w.heap.size A L ∧ L.length ≤ c := by
  rcases h.2 with ⟨rfl, h0⟩ | ⟨g, cap, cur, rfl, hB, hh, hn, _, hs, ht⟩
  · exact ⟨none, 0, by rw [h0], fun h1 => by omega, by omega⟩
  · refine ⟨_, _, rfl, fun _ => ⟨g, 0, rfl, ?_, fun i hi => ?_⟩, hn⟩
    · rcases Nat.lt_or_ge g w.heap.size with hlt | hge
      · exact hlt
      · rw [Array.getElem?_eq_none hge] at hh; cases hh
    · have key : ∀ j, j < 2 * L.length → cur[j]? = (cellsT L)[j]? := fun j hj => by
        rw [← ht, List.getElem?_take, if_pos (by omega), Array.getElem?_toList]
      obtain ⟨k0, k1⟩ := cellsT_at hi
      rw [cell_of_row w g _ cur _ _ hh, cell_of_row w g _ cur _ _ hh]
      rw [show 0 + i * 2 = 2 * i by omega, show 2 * i + 1 = 2 * i + 1 from rfl, key _ (by omega), key _ (by omega)]
      exact ⟨k0, k1⟩
end Go.Proofs.YtdoheipnfdbioaaDoor
