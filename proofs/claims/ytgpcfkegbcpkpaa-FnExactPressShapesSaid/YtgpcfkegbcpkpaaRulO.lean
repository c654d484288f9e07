/-
  A slice of rules of the call's own, appended to.
-/
import Derived.Test.YtgpcfkegbcpkpaaPushO
import Derived.Test.YtgpcfkegbcpkpaaOwnJ
import Derived.Test.YtgpcfkegbcpkpaaPan
import Derived.Maps.AppendAt
namespace Go.Proofs.Ytgpcfkegbcpkpaa
set_option linter.unusedSimpArgs false
set_option linter.unusedVariables false
open Go.ChangeShapes Go.WideShapes Go.ChangeAt Go.RowKit

def cellsR (l : List R3) : List Value := l.flatMap fun r => [.int .i64 r.1, .int .i64 r.2.1, .int .i64 r.2.2]
theorem cellsR_snoc (l : List R3) (r : R3) : cellsR (l ++ [r]) = cellsR l ++ [.int .i64 r.1, .int .i64 r.2.1, .int .i64 r.2.2] := by simp [cellsR]
/-- A slice of the call's own holds the pieces L. -/
def OwnR (w : World) (base : Nat) (v : Value) (L : List R3) : Prop := w.ownsRow base 60 3 v L.length (cellsR L)
theorem OwnR.snoc {w : World} {base : Nat} {v : Value} {L : List R3} {x y z : Int} (h : w.ownsRow base 60 3 v (L.length + 1) (cellsR L ++ [.int .i64 x, .int .i64 y, .int .i64 z])) : OwnR w base v (L ++ [(x, y, z)]) := by
  unfold OwnR; rw [cellsR_snoc]; simpa using h
theorem OwnR.lt {w : World} {B : Nat} {v : Value} {L : List R3} (h : OwnR w B v L) {i : Nat} (e : v.ownBlock = some i) : i < w.heap.size := by
  rcases h.2 with ⟨rfl, _⟩ | ⟨g, cap, cur, rfl, hB, hh, _⟩
  · simp [Value.ownBlock] at e
  · simp [Value.ownBlock] at e
    subst e
    rcases Nat.lt_or_ge g w.heap.size with hlt | hge
    · exact hlt
    · rw [Array.getElem?_eq_none hge] at hh; cases hh
theorem OwnR.keep {w w' : World} {B : Nat} {v : Value} {L : List R3} (h : OwnR w B v L) (hk : ∀ i, v.ownBlock = some i → w'.heap[i]? = w.heap[i]?) : OwnR w' B v L := by
  refine ⟨h.1, ?_⟩
  rcases h.2 with h0 | ⟨g, cap, cur, rfl, hB, hh, r⟩
  · exact .inl h0
  · exact .inr ⟨g, cap, cur, rfl, hB, (hk g (by simp [Value.ownBlock])).trans hh, r⟩
theorem OwnR.to {w w1 : World} {base : Nat} {v : Value} {L : List R3} (h : OwnR w base v L) (hb : Below w.heap.size w w1) : OwnR w1 base v L := h.keep fun i e => hb.block i (h.lt e)
theorem OwnR.nil_ (w : World) (base : Nat) : OwnR w base (.slice none 0 0) [] := ⟨rfl, .inl ⟨rfl, rfl⟩⟩
theorem cellsR_at : ∀ {l : List R3} {i : Nat}, i < l.length → (cellsR l)[i * 3]? = some (.int .i64 (l.getD i r30).1) ∧ (cellsR l)[i * 3 + 1]? = some (.int .i64 (l.getD i r30).2.1) ∧ (cellsR l)[i * 3 + 2]? = some (.int .i64 (l.getD i r30).2.2)
  | [], i, h => by simp at h
  | r :: l, 0, _ => ⟨rfl, rfl, rfl⟩
  | r :: l, i + 1, h => by
    have ih := cellsR_at (l := l) (i := i) (by simpa using h)
    have e : ∀ j, (cellsR (r :: l))[j + 3]? = (cellsR l)[j]? := fun j => by
      rw [show cellsR (r :: l) = [.int .i64 r.1, .int .i64 r.2.1, .int .i64 r.2.2] ++ cellsR l from rfl, List.getElem?_append_right (by simp)]
      simp
    rw [show (i + 1) * 3 = i * 3 + 3 by omega, show i * 3 + 3 + 1 = i * 3 + 1 + 3 by omega, show i * 3 + 3 + 2 = i * 3 + 2 + 3 by omega, e, e, e]
    simpa using ih
theorem OwnR.cells {w : World} {B : Nat} {v : Value} {L : List R3} (h : OwnR w B v L) : ∃ A c, v = .slice A L.length c ∧ (0 < L.length → ∃ g, A = some ⟨g, 0, none⟩ ∧ g < w.heap.size ∧ ∀ i, i < L.length → w.cell? ⟨g, i * 3, none⟩ = some (.int .i64 (L.getD i r30).1) ∧ w.cell? ⟨g, i * 3 + 1, none⟩ = some (.int .i64 (L.getD i r30).2.1) ∧ w.cell? ⟨g, i * 3 + 2, none⟩ = some (.int .i64 (L.getD i r30).2.2)) := by
  have hlt := fun i e => h.lt (i := i) e
  rcases h.2 with ⟨rfl, h0⟩ | ⟨g, cap, cur, rfl, hB, hh, hn, _, hs, ht⟩
  · exact ⟨none, 0, by rw [h0], fun h1 => by omega⟩
  · refine ⟨_, _, rfl, fun _ => ⟨g, rfl, hlt g (by simp [Value.ownBlock]), fun i hi => ?_⟩⟩
    have key : ∀ j, j < L.length * 3 → cur[j]? = (cellsR L)[j]? := fun j hj => by
      rw [← ht, List.getElem?_take, if_pos (by omega), Array.getElem?_toList]
    obtain ⟨a, b, c⟩ := cellsR_at hi
    refine ⟨?_, ?_, ?_⟩
    · rw [cell_of_row w g _ cur _ _ hh, key _ (by omega)]; exact a
    · rw [cell_of_row w g _ cur _ _ hh, key _ (by omega)]; exact b
    · rw [cell_of_row w g _ cur _ _ hh, key _ (by omega)]; exact c
theorem infoR : (Try.prog.info? 60).map (fun i => (i.zero, i.size, i.bytes)) = some (some (.agg #[.int .i64 0, .int .i64 0, .int .i64 0]), 3, 24) := by kernel_rfl
theorem step_append_ru {ops : Array Oper} {o : Oper} {a : Act} {w : World} {K : Act → World → Prop} {Q : Exit → Act → World → Prop} {E : Prop} (hgd : o.guard = none) (s x : Operand)
    (ho : o.op = .call { callee := .builtin .append, args := #[s, x], argTypes := #[27, 27] }) (base : Nat) (v : Value) (L : List R3) (X Y Z : Int) (g : Nat)
    (hs : a.eval s = v) (hown : OwnR w base v L) (hx : a.eval x = .slice (some ⟨g, 0, none⟩) 1 1) (hg : Blk w g #[.int .i64 X, .int .i64 Y, .int .i64 Z] 60) (hL : L.length ≤ 4000000) (hbase : base ≤ w.heap.size)
    (h : ∀ v' w', OwnR w' base v' (L ++ [(X, Y, Z)]) → w.grownBy w' v.ownBlock → (v'.ownBlock = v.ownBlock ∨ v'.ownBlock = some w.heap.size) → K (a.put o.dst v') w') :
    if Region.wanted o (yielded ops a.tmps) = true then Oper.wp Try.prog o a w K Q else E := by
  obtain ⟨i0, hi0, hz0, hz1, hz2⟩ := info_parts infoR
  refine stepU_append_at hgd s x _ ho base 60 i0 _ 3 24 Try.underlying27 hi0 hz0 hz1 hz2 rfl (by decide) v L.length (cellsR L) hs hown ⟨g, 0, none⟩ 1 1 [.int .i64 X, .int .i64 Y, .int .i64 Z] hx rfl ?_ ?_ ?_ ?_ hbase ?_
  · intro j u hu
    rcases j with _ | _ | _ | j
    · simp at hu; subst hu; simpa [Addr.add] using hg.cell 0 rfl
    · simp at hu; subst hu; simpa [Addr.add] using hg.cell 1 rfl
    · simp at hu; subst hu; simpa [Addr.add] using hg.cell 2 rfl
    · simp at hu
  · intro u hu
    simp at hu
    rcases hu with rfl | rfl | rfl <;> rfl
  · unfold maxLen; omega
  · omega
  · intro v' w' h1 h2 h5
    exact h v' w' (OwnR.snoc h1) h2 h5
theorem append_rul {ops : Array Oper} {rest : List Oper} {o : Oper} {a : Act} {Q : Exit → Act → World → Prop} (hgd : o.guard = none) (s x : Operand)
    (ho : o.op = .call { callee := .builtin .append, args := #[s, x], argTypes := #[27, 27] }) (w : World) (base : Nat) (v : Value) (L : List R3) (X Y Z : Int)
    (hs : a.eval s = v) (hown : OwnR w base v L) (B0 : Nat) (hB0 : B0 = w.heap.size) (hx : a.eval x = .slice (some ⟨B0, 0, none⟩) 1 1) (hL : L.length ≤ 1000000) (hbase : base ≤ w.heap.size)
    (h : ∀ v' w', OwnR w' base v' (L ++ [(X, Y, Z)]) → (∀ a0, Below base a0 w → Below base a0 w') → (∀ i, i < w.heap.size → v.ownBlock ≠ some i → w'.heap[i]? = w.heap[i]?) → (v'.ownBlock = v.ownBlock ∨ ∃ g, v'.ownBlock = some g ∧ w.heap.size ≤ g) → w.heap.size ≤ w'.heap.size → wpList Try.prog ops Q rest (a.put o.dst v') w') :
    wpList Try.prog ops Q (o :: rest) a (w.alloc (.cells #[.int .i64 X, .int .i64 Y, .int .i64 Z] 60)) := by
  subst hB0
  obtain ⟨i0, hi0, hz0, hz1, hz2⟩ := info_parts infoR
  have hown' : (w.alloc (.cells #[.int .i64 X, .int .i64 Y, .int .i64 Z] 60)).ownsRow base 60 3 v L.length (cellsR L) := World.ownsRow.alloc hown _
  refine wpList_append_own_at _ hgd s x _ ho base 60 i0 _ 3 24 Try.underlying27 hi0 hz0 hz1 hz2 rfl (by decide) v L.length (cellsR L) hs hown' ⟨w.heap.size, 0, none⟩ 1 1 [.int .i64 X, .int .i64 Y, .int .i64 Z] hx rfl ?_ ?_ ?_ ?_ ?_ ?_
  · intro j u hu
    rcases j with _ | _ | _ | j
    · simp at hu; subst hu; simp [Addr.add]
    · simp at hu; subst hu; simp [Addr.add]
    · simp at hu; subst hu; simp [Addr.add]
    · simp at hu
  · intro u hu
    simp at hu
    rcases hu with rfl | rfl | rfl <;> rfl
  · unfold maxLen; omega
  · omega
  · simp; omega
  · intro v' w' h1 h2 _ h5
    refine h v' w' (OwnR.snoc h1) (fun a0 hb => Below.grown (belowAlloc hb hbase) h2 (by simp; omega) fun k hk => (hown'.lt k hk).1) (fun i hi hne => ?_) ?_ ?_
    · have := h2.block i (by simp; omega) (Ne.symm hne)
      rw [this, World.alloc]
      simp [Array.getElem?_push, Nat.ne_of_lt hi]
    · rcases h5 with h5 | h5
      · exact .inl h5
      · exact .inr ⟨_, h5, by simp⟩
    · have := h2.size
      simp at this; omega
theorem OwnR.rul {w : World} {B : Nat} {v : Value} {L : List R3} (h : OwnR w B v L) : ∃ A c, v = .slice A L.length c ∧ RulAt w w.heap.size A L := by
  obtain ⟨A, c, e, h1⟩ := h.cells
  refine ⟨A, c, e, fun h0 => ?_⟩
  obtain ⟨g, rfl, hg, hc⟩ := h1 h0
  exact ⟨g, 0, rfl, hg, fun i hi => by simpa using hc i hi⟩
theorem OwnR.ge {w : World} {B : Nat} {v : Value} {L : List R3} (h : OwnR w B v L) {i : Nat} (e : v.ownBlock = some i) : B ≤ i := by
  rcases h.2 with ⟨rfl, _⟩ | ⟨g, cap, cur, rfl, hB, _⟩
  · simp [Value.ownBlock] at e
  · simp [Value.ownBlock] at e
    omega
end Go.Proofs.Ytgpcfkegbcpkpaa
