/-
  A slice of pushes of the call's own, appended to.
-/
import Derived.Test.YtgpcfkegbcpkpaaRul
import Derived.Test.YtgpcfkegbcpkpaaOwnJ
import Derived.Test.YtgpcfkegbcpkpaaPan
import Derived.Maps.AppendAt
namespace Go.Proofs.Ytgpcfkegbcpkpaa
set_option linter.unusedSimpArgs false
set_option linter.unusedVariables false
open Go.ChangeShapes Go.WideShapes Go.ChangeAt Go.RowKit

def cellsU (l : List R3) : List Value := l.flatMap fun r => [.int .i64 r.1, .int .i64 r.2.1, .int .i64 r.2.2]
theorem cellsU_snoc (l : List R3) (r : R3) : cellsU (l ++ [r]) = cellsU l ++ [.int .i64 r.1, .int .i64 r.2.1, .int .i64 r.2.2] := by simp [cellsU]
/-- A slice of the call's own holds the pieces L. -/
def OwnU (w : World) (base : Nat) (v : Value) (L : List R3) : Prop := w.ownsRow base 138 3 v L.length (cellsU L)
theorem OwnU.snoc {w : World} {base : Nat} {v : Value} {L : List R3} {x y z : Int} (h : w.ownsRow base 138 3 v (L.length + 1) (cellsU L ++ [.int .i64 x, .int .i64 y, .int .i64 z])) : OwnU w base v (L ++ [(x, y, z)]) := by
  unfold OwnU; rw [cellsU_snoc]; simpa using h
theorem OwnU.lt {w : World} {B : Nat} {v : Value} {L : List R3} (h : OwnU w B v L) {i : Nat} (e : v.ownBlock = some i) : i < w.heap.size := by
  rcases h.2 with ⟨rfl, _⟩ | ⟨g, cap, cur, rfl, hB, hh, _⟩
  · simp [Value.ownBlock] at e
  · simp [Value.ownBlock] at e
    subst e
    rcases Nat.lt_or_ge g w.heap.size with hlt | hge
    · exact hlt
    · rw [Array.getElem?_eq_none hge] at hh; cases hh
theorem OwnU.keep {w w' : World} {B : Nat} {v : Value} {L : List R3} (h : OwnU w B v L) (hk : ∀ i, v.ownBlock = some i → w'.heap[i]? = w.heap[i]?) : OwnU w' B v L := by
  refine ⟨h.1, ?_⟩
  rcases h.2 with h0 | ⟨g, cap, cur, rfl, hB, hh, r⟩
  · exact .inl h0
  · exact .inr ⟨g, cap, cur, rfl, hB, (hk g (by simp [Value.ownBlock])).trans hh, r⟩
theorem OwnU.to {w w1 : World} {base : Nat} {v : Value} {L : List R3} (h : OwnU w base v L) (hb : Below w.heap.size w w1) : OwnU w1 base v L := h.keep fun i e => hb.block i (h.lt e)
theorem OwnU.nil_ (w : World) (base : Nat) : OwnU w base (.slice none 0 0) [] := ⟨rfl, .inl ⟨rfl, rfl⟩⟩
theorem cellsU_at : ∀ {l : List R3} {i : Nat}, i < l.length → (cellsU l)[i * 3]? = some (.int .i64 (l.getD i r30).1) ∧ (cellsU l)[i * 3 + 1]? = some (.int .i64 (l.getD i r30).2.1) ∧ (cellsU l)[i * 3 + 2]? = some (.int .i64 (l.getD i r30).2.2)
  | [], i, h => by simp at h
  | r :: l, 0, _ => ⟨rfl, rfl, rfl⟩
  | r :: l, i + 1, h => by
    have ih := cellsU_at (l := l) (i := i) (by simpa using h)
    have e : ∀ j, (cellsU (r :: l))[j + 3]? = (cellsU l)[j]? := fun j => by
      rw [show cellsU (r :: l) = [.int .i64 r.1, .int .i64 r.2.1, .int .i64 r.2.2] ++ cellsU l from rfl, List.getElem?_append_right (by simp)]
      simp
    rw [show (i + 1) * 3 = i * 3 + 3 by omega, show i * 3 + 3 + 1 = i * 3 + 1 + 3 by omega, show i * 3 + 3 + 2 = i * 3 + 2 + 3 by omega, e, e, e]
    simpa using ih
theorem OwnU.cells {w : World} {B : Nat} {v : Value} {L : List R3} (h : OwnU w B v L) : ∃ A c, v = .slice A L.length c ∧ (0 < L.length → ∃ g, A = some ⟨g, 0, none⟩ ∧ g < w.heap.size ∧ ∀ i, i < L.length → w.cell? ⟨g, i * 3, none⟩ = some (.int .i64 (L.getD i r30).1) ∧ w.cell? ⟨g, i * 3 + 1, none⟩ = some (.int .i64 (L.getD i r30).2.1) ∧ w.cell? ⟨g, i * 3 + 2, none⟩ = some (.int .i64 (L.getD i r30).2.2)) := by
  have hlt := fun i e => h.lt (i := i) e
  rcases h.2 with ⟨rfl, h0⟩ | ⟨g, cap, cur, rfl, hB, hh, hn, _, hs, ht⟩
  · exact ⟨none, 0, by rw [h0], fun h1 => by omega⟩
  · refine ⟨_, _, rfl, fun _ => ⟨g, rfl, hlt g (by simp [Value.ownBlock]), fun i hi => ?_⟩⟩
    have key : ∀ j, j < L.length * 3 → cur[j]? = (cellsU L)[j]? := fun j hj => by
      rw [← ht, List.getElem?_take, if_pos (by omega), Array.getElem?_toList]
    obtain ⟨a, b, c⟩ := cellsU_at hi
    refine ⟨?_, ?_, ?_⟩
    · rw [cell_of_row w g _ cur _ _ hh, key _ (by omega)]; exact a
    · rw [cell_of_row w g _ cur _ _ hh, key _ (by omega)]; exact b
    · rw [cell_of_row w g _ cur _ _ hh, key _ (by omega)]; exact c
theorem infoU : (Try.prog.info? 138).map (fun i => (i.zero, i.size, i.bytes)) = some (some (.agg #[.int .i64 0, .int .i64 0, .int .i64 0]), 3, 24) := by kernel_rfl
section
variable {P : Program} {w : World}
theorem stepU_append_at {ops : Array Oper} {o : Oper} {a : Act} {K : Act → World → Prop} {Q : Exit → Act → World → Prop} {E : Prop} (hgd : o.guard = none) (s x : Operand) (t : TypeId)
    (ho : o.op = .call { callee := .builtin .append, args := #[s, x], argTypes := #[t, t] })
    (base : Nat) (e : TypeId) (i : TypeInfo) (z : Value) (size bytes : Nat) (ht : P.underlying t = some (.slice e)) (hi : P.info? e = some i) (hz : i.zero = some z)
    (hsize : i.size = size) (hby : i.bytes = bytes) (hzs : z.cells.size = size) (hsz : 0 < size)
    (v : Value) (n : Nat) (xs : List Value) (hs : a.eval s = v) (hown : w.ownsRow base e size v n xs)
    (ad : Addr) (m c : Nat) (news : List Value) (hx : a.eval x = .slice (some ad) m c) (hl : news.length = m * size) (hnews : ∀ j u, news[j]? = some u → w.cell? (ad.add j) = some u) (h1 : ∀ u ∈ news, u.oneCell' = true)
    (h63 : n + m ≤ maxLen) (hbytes : (n + m) * bytes ≤ 140737488355328) (hbase : base ≤ w.heap.size)
    (h : ∀ v' w', w'.ownsRow base e size v' (n + m) (xs ++ news) → w.grownBy w' v.ownBlock → (v'.ownBlock = v.ownBlock ∨ v'.ownBlock = some w.heap.size) → K (a.put o.dst v') w') :
    if Region.wanted o (yielded ops a.tmps) = true then Oper.wp P o a w K Q else E := by
  have hw : Region.wanted o (yielded ops a.tmps) = true := by simp [Region.wanted, hgd]
  rw [if_pos hw]
  obtain ⟨v', w', hr, h2, h3, _, h5⟩ := run_append_own_at (P := P) w base t o.type e i z size bytes ht hi hz hsize hby hzs hsz v n xs hown ad m c news hl hnews h1 h63 hbytes hbase
  unfold Oper.wp execOp
  simp only [ho, resolve, invoke, builtin, Sem.run_bind, Sem.run_pure, Result.andThen_ok, List.map_toArray, List.map_cons, List.map_nil, hs, hx, hr]
  exact h v' w' h2 h3 h5
end
theorem step_append_pu {ops : Array Oper} {o : Oper} {a : Act} {w : World} {K : Act → World → Prop} {Q : Exit → Act → World → Prop} {E : Prop} (hgd : o.guard = none) (s x : Operand)
    (ho : o.op = .call { callee := .builtin .append, args := #[s, x], argTypes := #[136, 136] }) (base : Nat) (v : Value) (L : List R3) (X Y Z : Int) (g : Nat)
    (hs : a.eval s = v) (hown : OwnU w base v L) (hx : a.eval x = .slice (some ⟨g, 0, none⟩) 1 1) (hg : Blk w g #[.int .i64 X, .int .i64 Y, .int .i64 Z] 138) (hL : L.length ≤ 4000000) (hbase : base ≤ w.heap.size)
    (h : ∀ v' w', OwnU w' base v' (L ++ [(X, Y, Z)]) → w.grownBy w' v.ownBlock → (v'.ownBlock = v.ownBlock ∨ v'.ownBlock = some w.heap.size) → K (a.put o.dst v') w') :
    if Region.wanted o (yielded ops a.tmps) = true then Oper.wp Try.prog o a w K Q else E := by
  obtain ⟨i0, hi0, hz0, hz1, hz2⟩ := info_parts infoU
  refine stepU_append_at hgd s x _ ho base 138 i0 _ 3 24 Try.underlying136 hi0 hz0 hz1 hz2 rfl (by decide) v L.length (cellsU L) hs hown ⟨g, 0, none⟩ 1 1 [.int .i64 X, .int .i64 Y, .int .i64 Z] hx rfl ?_ ?_ ?_ ?_ hbase ?_
  · intro j u hu
    rcases j with _ | _ | _ | j
    · simp at hu; subst hu; simpa [Addr.add] using hg.cell 0 rfl
    · simp at hu; subst hu; simpa [Addr.add] using hg.cell 1 rfl
    · simp at hu; subst hu; simpa [Addr.add] using hg.cell 2 rfl
    · simp at hu
  · intro u hu
    simp at hu
    rcases hu with rfl | rfl | rfl <;> rfl
  · unfold maxLen; omega
  · omega
  · intro v' w' h1 h2 h5
    exact h v' w' (OwnU.snoc h1) h2 h5
theorem OwnU.rul {w : World} {B : Nat} {v : Value} {L : List R3} (h : OwnU w B v L) : ∃ A c, v = .slice A L.length c ∧ RulAt w w.heap.size A L := by
  obtain ⟨A, c, e, h1⟩ := h.cells
  refine ⟨A, c, e, fun h0 => ?_⟩
  obtain ⟨g, rfl, hg, hc⟩ := h1 h0
  exact ⟨g, 0, rfl, hg, fun i hi => by simpa using hc i hi⟩
theorem OwnU.ge {w : World} {B : Nat} {v : Value} {L : List R3} (h : OwnU w B v L) {i : Nat} (e : v.ownBlock = some i) : B ≤ i := by
  rcases h.2 with ⟨rfl, _⟩ | ⟨g, cap, cur, rfl, hB, _⟩
  · simp [Value.ownBlock] at e
  · simp [Value.ownBlock] at e
    omega
end Go.Proofs.Ytgpcfkegbcpkpaa
