/-
  A slice of pieces of the call's own, appended to.
-/
import Derived.Test.YtpcilpcinbamcaaDoorPcP
import Derived.Test.YtpcilpcinbamcaaDoorOwnJ
import Derived.Test.YtpcilpcinbamcaaDoorPan
import Derived.Maps.AppendAt
namespace Go.Proofs.YtpcilpcinbamcaaDoor
set_option linter.unusedSimpArgs false
set_option linter.unusedVariables false
open Go.ChangeShapes Go.WideShapes Go.ChangeAt Go.RowKit

def cellsP (l : List (List Int)) : List Value := l.flatMap fun r => [.int .i64 (r.getD 0 0), .int .i64 (r.getD 1 0), .int .i64 (r.getD 2 0)]
theorem cellsP_snoc (l : List (List Int)) (r : List Int) : cellsP (l ++ [r]) = cellsP l ++ [.int .i64 (r.getD 0 0), .int .i64 (r.getD 1 0), .int .i64 (r.getD 2 0)] := by simp [cellsP]
/-- A slice of the call's own holds the pieces L. -/
def OwnP3 (w : World) (base : Nat) (v : Value) (L : List (List Int)) : Prop := w.ownsRow base 50 3 v L.length (cellsP L)
theorem OwnP3.snoc {w : World} {base : Nat} {v : Value} {L : List (List Int)} {x y z : Int} (h : w.ownsRow base 50 3 v (L.length + 1) (cellsP L ++ [.int .i64 x, .int .i64 y, .int .i64 z])) : OwnP3 w base v (L ++ [[x, y, z]]) := by
  unfold OwnP3; rw [cellsP_snoc]; simpa using h
theorem OwnP3.lt {w : World} {B : Nat} {v : Value} {L : List (List Int)} (h : OwnP3 w B v L) {i : Nat} (e : v.ownBlock = some i) : i < w.heap.size := by
  rcases h.2 with ⟨rfl, _⟩ | ⟨g, cap, cur, rfl, hB, hh, _⟩
  · simp [Value.ownBlock] at e
  · simp [Value.ownBlock] at e
    subst e
    rcases Nat.lt_or_ge g w.heap.size with hlt | hge
    · exact hlt
    · rw [Array.getElem?_eq_none hge] at hh; cases hh
theorem OwnP3.keep {w w' : World} {B : Nat} {v : Value} {L : List (List Int)} (h : OwnP3 w B v L) (hk : ∀ i, v.ownBlock = some i → w'.heap[i]? = w.heap[i]?) : OwnP3 w' B v L := by
  refine ⟨h.1, ?_⟩
  rcases h.2 with h0 | ⟨g, cap, cur, rfl, hB, hh, r⟩
  · exact .inl h0
  · exact .inr ⟨g, cap, cur, rfl, hB, (hk g (by simp [Value.ownBlock])).trans hh, r⟩
theorem OwnP3.to {w w1 : World} {base : Nat} {v : Value} {L : List (List Int)} (h : OwnP3 w base v L) (hb : Below w.heap.size w w1) : OwnP3 w1 base v L := h.keep fun i e => hb.block i (h.lt e)
theorem OwnP3.nil_ (w : World) (base : Nat) : OwnP3 w base (.slice none 0 0) [] := ⟨rfl, .inl ⟨rfl, rfl⟩⟩
theorem cellsP_at : ∀ {l : List (List Int)} {i : Nat}, i < l.length → (cellsP l)[i * 3]? = some (.int .i64 ((l.getD i []).getD 0 0)) ∧ (cellsP l)[i * 3 + 1]? = some (.int .i64 ((l.getD i []).getD 1 0)) ∧ (cellsP l)[i * 3 + 2]? = some (.int .i64 ((l.getD i []).getD 2 0))
  | [], i, h => by simp at h
  | r :: l, 0, _ => ⟨rfl, rfl, rfl⟩
  | r :: l, i + 1, h => by
    have ih := cellsP_at (l := l) (i := i) (by simpa using h)
    have e : ∀ j, (cellsP (r :: l))[j + 3]? = (cellsP l)[j]? := fun j => by
      rw [show cellsP (r :: l) = [.int .i64 (r.getD 0 0), .int .i64 (r.getD 1 0), .int .i64 (r.getD 2 0)] ++ cellsP l from rfl, List.getElem?_append_right (by simp)]
      simp
    rw [show (i + 1) * 3 = i * 3 + 3 by omega, show i * 3 + 3 + 1 = i * 3 + 1 + 3 by omega, show i * 3 + 3 + 2 = i * 3 + 2 + 3 by omega, e, e, e]
    simpa using ih
theorem OwnP3.cells {w : World} {B : Nat} {v : Value} {L : List (List Int)} (h : OwnP3 w B v L) : ∃ A c, v = .slice A L.length c ∧ (0 < L.length → ∃ g, A = some ⟨g, 0, none⟩ ∧ g < w.heap.size ∧ ∀ i, i < L.length → w.cell? ⟨g, i * 3, none⟩ = some (.int .i64 ((L.getD i []).getD 0 0)) ∧ w.cell? ⟨g, i * 3 + 1, none⟩ = some (.int .i64 ((L.getD i []).getD 1 0)) ∧ w.cell? ⟨g, i * 3 + 2, none⟩ = some (.int .i64 ((L.getD i []).getD 2 0))) := by
  have hlt := fun i e => h.lt (i := i) e
  rcases h.2 with ⟨rfl, h0⟩ | ⟨g, cap, cur, rfl, hB, hh, hn, _, hs, ht⟩
  · exact ⟨none, 0, by rw [h0], fun h1 => by omega⟩
  · refine ⟨_, _, rfl, fun _ => ⟨g, rfl, hlt g (by simp [Value.ownBlock]), fun i hi => ?_⟩⟩
    have key : ∀ j, j < L.length * 3 → cur[j]? = (cellsP L)[j]? := fun j hj => by
      rw [← ht, List.getElem?_take, if_pos (by omega), Array.getElem?_toList]
    obtain ⟨a, b, c⟩ := cellsP_at hi
    refine ⟨?_, ?_, ?_⟩
    · rw [cell_of_row w g _ cur _ _ hh, key _ (by omega)]; exact a
    · rw [cell_of_row w g _ cur _ _ hh, key _ (by omega)]; exact b
    · rw [cell_of_row w g _ cur _ _ hh, key _ (by omega)]; exact c
theorem infoP3 : (Tryd.prog.info? 50).map (fun i => (i.zero, i.size, i.bytes)) = some (some (.agg #[.int .i64 0, .int .i64 0, .int .i64 0]), 3, 24) := by kernel_rfl
section
variable {P : Program} {w : World}
theorem stepP_append_at {ops : Array Oper} {o : Oper} {a : Act} {K : Act → World → Prop} {Q : Exit → Act → World → Prop} {E : Prop} (hgd : o.guard = none) (s x : Operand) (t : TypeId)
    (ho : o.op = .call { callee := .builtin .append, args := #[s, x], argTypes := #[t, t] })
    (base : Nat) (e : TypeId) (i : TypeInfo) (z : Value) (size bytes : Nat) (ht : P.underlying t = some (.slice e)) (hi : P.info? e = some i) (hz : i.zero = some z)
    (hsize : i.size = size) (hby : i.bytes = bytes) (hzs : z.cells.size = size) (hsz : 0 < size)
    (v : Value) (n : Nat) (xs : List Value) (hs : a.eval s = v) (hown : w.ownsRow base e size v n xs)
    (ad : Addr) (m c : Nat) (news : List Value) (hx : a.eval x = .slice (some ad) m c) (hl : news.length = m * size) (hnews : ∀ j u, news[j]? = some u → w.cell? (ad.add j) = some u) (h1 : ∀ u ∈ news, u.oneCell' = true)
    (h63 : n + m ≤ maxLen) (hbytes : (n + m) * bytes ≤ 140737488355328) (hbase : base ≤ w.heap.size)
    (h : ∀ v' w', w'.ownsRow base e size v' (n + m) (xs ++ news) → w.grownBy w' v.ownBlock → (v'.ownBlock = v.ownBlock ∨ v'.ownBlock = some w.heap.size) → K (a.put o.dst v') w') :
    if Region.wanted o (yielded ops a.tmps) = true then Oper.wp P o a w K Q else E := by
  have hw : Region.wanted o (yielded ops a.tmps) = true := by simp [Region.wanted, hgd]
  rw [if_pos hw]
  obtain ⟨v', w', hr, h2, h3, _, h5⟩ := run_append_own_at (P := P) w base t o.type e i z size bytes ht hi hz hsize hby hzs hsz v n xs hown ad m c news hl hnews h1 h63 hbytes hbase
  unfold Oper.wp execOp
  simp only [ho, resolve, invoke, builtin, Sem.run_bind, Sem.run_pure, Result.andThen_ok, List.map_toArray, List.map_cons, List.map_nil, hs, hx, hr]
  exact h v' w' h2 h3 h5
end
theorem step_append_pc {ops : Array Oper} {o : Oper} {a : Act} {w : World} {K : Act → World → Prop} {Q : Exit → Act → World → Prop} {E : Prop} (hgd : o.guard = none) (s x : Operand)
    (ho : o.op = .call { callee := .builtin .append, args := #[s, x], argTypes := #[45, 45] }) (base : Nat) (v : Value) (L : List (List Int)) (X Y Z : Int) (g : Nat)
    (hs : a.eval s = v) (hown : OwnP3 w base v L) (hx : a.eval x = .slice (some ⟨g, 0, none⟩) 1 1) (hg : Blk w g #[.int .i64 X, .int .i64 Y, .int .i64 Z] 50) (hL : L.length ≤ 4000000) (hbase : base ≤ w.heap.size)
    (h : ∀ v' w', OwnP3 w' base v' (L ++ [[X, Y, Z]]) → w.grownBy w' v.ownBlock → (v'.ownBlock = v.ownBlock ∨ v'.ownBlock = some w.heap.size) → K (a.put o.dst v') w') :
    if Region.wanted o (yielded ops a.tmps) = true then Oper.wp Tryd.prog o a w K Q else E := by
  obtain ⟨i0, hi0, hz0, hz1, hz2⟩ := info_parts infoP3
  refine stepP_append_at hgd s x _ ho base 50 i0 _ 3 24 Tryd.underlying45 hi0 hz0 hz1 hz2 rfl (by decide) v L.length (cellsP L) hs hown ⟨g, 0, none⟩ 1 1 [.int .i64 X, .int .i64 Y, .int .i64 Z] hx rfl ?_ ?_ ?_ ?_ hbase ?_
  · intro j u hu
    rcases j with _ | _ | _ | j
    · simp at hu; subst hu; simpa [Addr.add] using hg.cell 0 rfl
    · simp at hu; subst hu; simpa [Addr.add] using hg.cell 1 rfl
    · simp at hu; subst hu; simpa [Addr.add] using hg.cell 2 rfl
    · simp at hu
  · intro u hu
    simp at hu
    rcases hu with rfl | rfl | rfl <;> rfl
  · unfold maxLen; omega
  · omega
  · intro v' w' h1 h2 h5
    exact h v' w' (OwnP3.snoc h1) h2 h5
end Go.Proofs.YtpcilpcinbamcaaDoor
