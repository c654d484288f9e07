/-
  A slice of numbers of the call's own, appended to: what else it leaves.
-/
import Derived.Test.YtifenbamookmiaaDoorOwnI
import Derived.Maps.AppendAt
import Derived.Sort.OwnSortedInts
namespace Go.Proofs.YtifenbamookmiaaDoor
set_option linter.unusedSimpArgs false
set_option linter.unusedVariables false
open Go.ChangeShapes Go.WideShapes Go.ChangeAt Go.RowKit

theorem append_int_j {ops : Array Oper} {rest : List Oper} {o : Oper} {a : Act} {Q : Exit → Act → World → Prop} (hgd : o.guard = none) (s x : Operand)
    (ho : o.op = .call { callee := .builtin .append, args := #[s, x], argTypes := #[25, 25] }) (w : World) (base : Nat) (v : Value) (L : List Int) (X : Int)
    (hs : a.eval s = v) (hown : OwnI w base v L) (B0 : Nat) (hB0 : B0 = w.heap.size) (hx : a.eval x = .slice (some ⟨B0, 0, none⟩) 1 1) (hL : L.length ≤ 1000000) (hbase : base ≤ w.heap.size)
    (h : ∀ v' w', OwnI w' base v' (L ++ [X]) → (∀ a0, Below base a0 w → Below base a0 w') → (∀ i, i < w.heap.size → v.ownBlock ≠ some i → w'.heap[i]? = w.heap[i]?) → (v'.ownBlock = v.ownBlock ∨ ∃ g, v'.ownBlock = some g ∧ w.heap.size ≤ g) → w.heap.size ≤ w'.heap.size → wpList Tryd.prog ops Q rest (a.put o.dst v') w') :
    wpList Tryd.prog ops Q (o :: rest) a (w.alloc (.cells #[.int .i64 X] 2)) := by
  subst hB0
  obtain ⟨i0, hi0, hz0, hz1, hz2⟩ := info_parts infoIO
  have hown' : (w.alloc (.cells #[.int .i64 X] 2)).ownsRow base 2 1 v L.length (cellsI L) := World.ownsRow.alloc hown _
  refine wpList_append_own_at _ hgd s x _ ho base 2 i0 _ 1 8 Tryd.underlying25 hi0 hz0 hz1 hz2 rfl (by decide) v L.length (cellsI L) hs hown' ⟨w.heap.size, 0, none⟩ 1 1 [.int .i64 X] hx rfl ?_ ?_ ?_ ?_ ?_ ?_
  · intro j u hu
    rcases j with _ | j
    · simp at hu; subst hu; simp [Addr.add]
    · simp at hu
  · intro u hu
    simp at hu
    subst hu; rfl
  · unfold maxLen; omega
  · omega
  · simp; omega
  · intro v' w' h1 h2 _ h5
    refine h v' w' (OwnI.snoc h1) (fun a0 hb => Below.grown (belowAlloc hb hbase) h2 (by simp; omega) fun k hk => (hown'.lt k hk).1) (fun i hi hne => ?_) ?_ ?_
    · have := h2.block i (by simp; omega) (Ne.symm hne)
      rw [this, World.alloc]
      simp [Array.getElem?_push, Nat.ne_of_lt hi]
    · rcases h5 with h5 | h5
      · exact .inl h5
      · exact .inr ⟨_, h5, by simp⟩
    · have := h2.size
      simp at this; omega

theorem OwnI.lt {w : World} {B : Nat} {v : Value} {L : List Int} (h : OwnI w B v L) {i : Nat} (e : v.ownBlock = some i) : i < w.heap.size := by
  rcases h.2 with ⟨rfl, _⟩ | ⟨g, cap, cur, rfl, hB, hh, _⟩
  · simp [Value.ownBlock] at e
  · simp [Value.ownBlock] at e
    subst e
    rcases Nat.lt_or_ge g w.heap.size with hlt | hge
    · exact hlt
    · rw [Array.getElem?_eq_none hge] at hh; cases hh
theorem OwnI.keep {w w' : World} {B : Nat} {v : Value} {L : List Int} (h : OwnI w B v L) (hk : ∀ i, v.ownBlock = some i → w'.heap[i]? = w.heap[i]?) : OwnI w' B v L := by
  refine ⟨h.1, ?_⟩
  rcases h.2 with h0 | ⟨g, cap, cur, rfl, hB, hh, r⟩
  · exact .inl h0
  · exact .inr ⟨g, cap, cur, rfl, hB, (hk g (by simp [Value.ownBlock])).trans hh, r⟩
/-- Two slices of the call's own lie in different blocks. -/
def ApartV (u v : Value) : Prop := ∀ i, u.ownBlock = some i → v.ownBlock ≠ some i
theorem ApartV.symm {u v : Value} (h : ApartV u v) : ApartV v u := fun i e k => h i k e
theorem ApartV.nil (v : Value) : ApartV (.slice none 0 0) v := fun i e => by simp [Value.ownBlock] at e
/-- A number is appended to one of two. -/
theorem ApartV.next {w : World} {B : Nat} {u v u' : Value} {L : List Int} (h : ApartV u v) (hv : OwnI w B v L) (hu : u'.ownBlock = u.ownBlock ∨ ∃ g, u'.ownBlock = some g ∧ w.heap.size ≤ g) : ApartV u' v := fun i e k => by
  rcases hu with hu | ⟨g, hg, hz⟩
  · exact h i (hu ▸ e) k
  · rw [hg] at e; injection e with e; subst e
    have := hv.lt k
    omega
theorem OwnI.beside {w w' : World} {B : Nat} {u v : Value} {L : List Int} (hv : OwnI w B v L) (h : ApartV u v) (hk : ∀ i, i < w.heap.size → u.ownBlock ≠ some i → w'.heap[i]? = w.heap[i]?) : OwnI w' B v L :=
  hv.keep fun i e => hk i (hv.lt e) (fun k => h i k e)
theorem OwnI.nil (w : World) (B : Nat) : OwnI w B (.slice none 0 0) [] := ⟨rfl, .inl ⟨rfl, rfl⟩⟩
theorem OwnI.blk {w : World} {B : Nat} {v : Value} {L : List Int} (h : OwnI w B v L) (h0 : 0 < L.length) : ∃ g cap cur, v = .slice (some ⟨g, 0, none⟩) L.length cap ∧ B ≤ g ∧ w.heap[g]? = some (.cells cur 2 (0, 0)) ∧ L.length ≤ cap ∧ cap ≤ maxLen ∧ cur.size = cap * 1 ∧ cur.toList.take (L.length * 1) = cellsI L := by
  rcases h.2 with ⟨rfl, e⟩ | ⟨g, cap, cur, rfl, r⟩
  · omega
  · exact ⟨g, cap, cur, rfl, r⟩
end Go.Proofs.YtifenbamookmiaaDoor
