/-
  A slice of points of the call's own, appended to (light: without the corners' texts); the text of a point, in pieces.
-/
import Derived.Test.YtiadoekhhmcokaaDoorSplit
import Derived.Test.YtiadoekhhmcokaaDoorPointI
import Derived.Maps.AppendAt
namespace Go.Proofs.YtiadoekhhmcokaaDoor
set_option linter.unusedSimpArgs false
set_option linter.unusedVariables false
open Go.ChangeShapes Go.WideShapes Go.ChangeAt Go.RowKit

/-- The pieces, joined by marks. -/
def joinM (m : UInt8) : List (List UInt8) → List UInt8
  | [] => []
  | [a] => a
  | a :: b :: t => a ++ m :: joinM m (b :: t)
theorem joinM_addH (m c : UInt8) : ∀ x : List (List UInt8), x ≠ [] → joinM m (addH [c] x) = c :: joinM m x
  | [], h => absurd rfl h
  | [a], _ => by simp [addH, joinM]
  | a :: b :: t, _ => by simp [addH, joinM]
theorem joinM_parts (m : UInt8) : ∀ l : List UInt8, joinM m (parts m l) = l
  | [] => rfl
  | c :: r => by
    have ih := joinM_parts m r
    unfold parts
    split
    · next h =>
      cases hp : parts m r with
      | nil => exact absurd hp (parts_ne m r)
      | cons a t => rw [hp] at ih; simp [joinM, ih, h]
    · rw [joinM_addH m c _ (parts_ne m r), ih]
/-- The text of a point. -/
def ptTx (p : Int × Int) : List UInt8 := Lib.itoa p.1 ++ 46 :: Lib.itoa p.2
theorem parts_app (m : UInt8) : ∀ (a b : List UInt8), (∀ x ∈ a, x ≠ m) → parts m (a ++ m :: b) = a :: parts m b
  | [], b, _ => by simp [parts]
  | c :: a, b, h => by
    rw [List.cons_append, parts, if_neg (h c (by simp)), parts_app m a b (fun x hx => h x (by simp [hx]))]
    simp [addH]
theorem parts_pt (p : Int × Int) : parts 46 (ptTx p) = [Lib.itoa p.1, Lib.itoa p.2] := by
  unfold ptTx
  rw [parts_app 46 _ _ (itoa_no p.1), parts_itoa]
theorem isPtTx_iff (s : ByteArray) (p : Int × Int) : IsPtTx s p.1 p.2 ↔ s.data.toList = ptTx p ∧ isPt p.1 p.2 = true := by
  constructor
  · rintro ⟨h, hp⟩
    refine ⟨?_, hp⟩
    rw [← joinM_parts 46 s.data.toList, h]
    rfl
  · rintro ⟨h, hp⟩
    exact ⟨by rw [h, parts_pt], hp⟩

/-- The cells of points. -/
def cellsQ (l : List (Int × Int)) : List Value := l.flatMap fun p => [.int .i64 p.1, .int .i64 p.2]
theorem cellsQ_snoc (l : List (Int × Int)) (p : Int × Int) : cellsQ (l ++ [p]) = cellsQ l ++ [.int .i64 p.1, .int .i64 p.2] := by simp [cellsQ]
/-- A slice of the call's own holds the points L. -/
def OwnQ (w : World) (base : Nat) (v : Value) (L : List (Int × Int)) : Prop := w.ownsRow base 66 2 v L.length (cellsQ L)
theorem OwnQ.snoc {w : World} {base : Nat} {v : Value} {L : List (Int × Int)} {x y : Int} (h : w.ownsRow base 66 2 v (L.length + 1) (cellsQ L ++ [.int .i64 x, .int .i64 y])) : OwnQ w base v (L ++ [(x, y)]) := by
  unfold OwnQ; rw [cellsQ_snoc]; simpa using h
theorem OwnQ.to {w w1 : World} {base : Nat} {v : Value} {L : List (Int × Int)} (h : OwnQ w base v L) (hb : Below w.heap.size w w1) : OwnQ w1 base v L :=
  World.ownsRow.kept (row := none) h ⟨hb.os, hb.tape, hb.output, hb.size, fun i hi _ => hb.block i hi⟩ (by
    rcases h.2 with ⟨rfl, _⟩ | ⟨g, cap, cur, rfl, _⟩
    · exact .inl rfl
    · exact .inr (by simp [Value.ownBlock]))
theorem OwnQ.empty (w : World) (base : Nat) (hB : base ≤ w.heap.size) : OwnQ (w.alloc (.cells #[] 66)) base (.slice (some ⟨w.heap.size, 0, none⟩) 0 0) [] :=
  ⟨rfl, .inr ⟨w.heap.size, 0, #[], rfl, hB, heap_alloc_new w _, Nat.le_refl _, Nat.zero_le _, rfl, rfl⟩⟩
theorem OwnQ.nil_ (w : World) (base : Nat) : OwnQ w base (.slice none 0 0) [] := ⟨rfl, .inl ⟨rfl, rfl⟩⟩
theorem infoQ : (Tryd.prog.info? 66).map (fun i => (i.zero, i.size, i.bytes)) = some (some (.agg #[.int .i64 0, .int .i64 0]), 2, 16) := by kernel_rfl
theorem append_ptq {ops : Array Oper} {rest : List Oper} {o : Oper} {a : Act} {Q : Exit → Act → World → Prop} (hgd : o.guard = none) (s x : Operand)
    (ho : o.op = .call { callee := .builtin .append, args := #[s, x], argTypes := #[22, 22] }) (w : World) (base : Nat) (v : Value) (L : List (Int × Int)) (X Y : Int)
    (hs : a.eval s = v) (hown : OwnQ w base v L) (B0 : Nat) (hB0 : B0 = w.heap.size) (hx : a.eval x = .slice (some ⟨B0, 0, none⟩) 1 1) (hL : L.length ≤ 1000000) (hbase : base ≤ w.heap.size)
    (h : ∀ v' w', OwnQ w' base v' (L ++ [(X, Y)]) → (∀ a0, Below base a0 w → Below base a0 w') → (∀ i, i < w.heap.size → v.ownBlock ≠ some i → w'.heap[i]? = w.heap[i]?) → (v'.ownBlock = v.ownBlock ∨ ∃ g, v'.ownBlock = some g ∧ w.heap.size ≤ g) → w.heap.size ≤ w'.heap.size → wpList Tryd.prog ops Q rest (a.put o.dst v') w') :
    wpList Tryd.prog ops Q (o :: rest) a (w.alloc (.cells #[.int .i64 X, .int .i64 Y] 66)) := by
  subst hB0
  obtain ⟨i0, hi0, hz0, hz1, hz2⟩ := info_parts infoQ
  have hown' : (w.alloc (.cells #[.int .i64 X, .int .i64 Y] 66)).ownsRow base 66 2 v L.length (cellsQ L) := World.ownsRow.alloc hown _
  refine wpList_append_own_at _ hgd s x _ ho base 66 i0 _ 2 16 Tryd.underlying22 hi0 hz0 hz1 hz2 rfl (by decide) v L.length (cellsQ L) hs hown' ⟨w.heap.size, 0, none⟩ 1 1 [.int .i64 X, .int .i64 Y] hx rfl ?_ ?_ ?_ ?_ ?_ ?_
  · intro j u hu
    rcases j with _ | _ | j
    · simp at hu; subst hu; simp [Addr.add]
    · simp at hu; subst hu; simp [Addr.add]
    · simp at hu
  · intro u hu
    simp at hu
    rcases hu with rfl | rfl <;> rfl
  · unfold maxLen; omega
  · omega
  · simp; omega
  · intro v' w' h1 h2 _ h5
    refine h v' w' (OwnQ.snoc h1) (fun a0 hb => Below.grown (hb.alloc hbase _) h2 (by simp; omega) fun k hk => (hown'.lt k hk).1) (fun i hi hne => ?_) ?_ ?_
    · have := h2.block i (by simp; omega) (Ne.symm hne)
      rw [this, World.alloc]
      simp [Array.getElem?_push, Nat.ne_of_lt hi]
    · rcases h5 with h5 | h5
      · exact .inl h5
      · exact .inr ⟨_, h5, by simp⟩
    · have := h2.size
      simp at this; omega
end Go.Proofs.YtiadoekhhmcokaaDoor
