/-
  An append to a slice of the call's own, as one step of a region; joints.
-/
import Derived.Test.YtdoheipnfdbioaaDoorOwnT
import Derived.Test.YtdoheipnfdbioaaDoorPan
namespace Go.Proofs.YtdoheipnfdbioaaDoor
set_option linter.unusedSimpArgs false
set_option linter.unusedVariables false
open Go.ChangeShapes Go.WideShapes Go.ChangeAt Go.RowKit

section
variable {P : Program} {w : World}
theorem stepA_append_at {ops : Array Oper} {o : Oper} {a : Act} {K : Act → World → Prop} {Q : Exit → Act → World → Prop} {E : Prop} (hgd : o.guard = none) (s x : Operand) (t : TypeId)
    (ho : o.op = .call { callee := .builtin .append, args := #[s, x], argTypes := #[t, t] })
    (base : Nat) (e : TypeId) (i : TypeInfo) (z : Value) (size bytes : Nat) (ht : P.underlying t = some (.slice e)) (hi : P.info? e = some i) (hz : i.zero = some z)
    (hsize : i.size = size) (hby : i.bytes = bytes) (hzs : z.cells.size = size) (hsz : 0 < size)
    (v : Value) (n : Nat) (xs : List Value) (hs : a.eval s = v) (hown : w.ownsRow base e size v n xs)
    (ad : Addr) (m c : Nat) (news : List Value) (hx : a.eval x = .slice (some ad) m c) (hl : news.length = m * size) (hnews : ∀ j u, news[j]? = some u → w.cell? (ad.add j) = some u) (h1 : ∀ u ∈ news, u.oneCell' = true)
    (h63 : n + m ≤ maxLen) (hbytes : (n + m) * bytes ≤ 140737488355328) (hbase : base ≤ w.heap.size)
    (h : ∀ v' w', w'.ownsRow base e size v' (n + m) (xs ++ news) → w.grownBy w' v.ownBlock → (v'.ownBlock = v.ownBlock ∨ v'.ownBlock = some w.heap.size) → K (a.put o.dst v') w') :
    if Region.wanted o (yielded ops a.tmps) = true then Oper.wp P o a w K Q else E := by
  have hw : Region.wanted o (yielded ops a.tmps) = true := by simp [Region.wanted, hgd]
  rw [if_pos hw]
  obtain ⟨v', w', hr, h2, h3, _, h5⟩ := run_append_own_at (P := P) w base t o.type e i z size bytes ht hi hz hsize hby hzs hsz v n xs hown ad m c news hl hnews h1 h63 hbytes hbase
  unfold Oper.wp execOp
  simp only [ho, resolve, invoke, builtin, Sem.run_bind, Sem.run_pure, Result.andThen_ok, List.map_toArray, List.map_cons, List.map_nil, hs, hx, hr]
  exact h v' w' h2 h3 h5
end

theorem OwnT.mk_ {w : World} {base : Nat} {v : Value} {L : List (Int × Int)} {x y : Int} (h : w.ownsRow base 95 2 v (L.length + 1) (cellsT L ++ [.int .u64 x, .int .i64 y])) : OwnT w base v (L ++ [(x, y)]) := OwnT.snoc h
/-- A store elsewhere. -/
theorem OwnT.apart {w : World} {base : Nat} {v : Value} {L : List (Int × Int)} (h : OwnT w base v L) {g i : Nat} {u : Value} (hg : v.ownBlock ≠ some g) : OwnT (w.setCell ⟨g, i, none⟩ u) base v L := by
  refine ⟨h.1, ?_⟩
  rcases h.2 with ⟨rfl, h0⟩ | ⟨b, cap, cur, rfl, hB, hh, rest⟩
  · exact .inl ⟨rfl, h0⟩
  · refine .inr ⟨b, cap, cur, rfl, hB, (Below.heap_setCell w _ _ b ?_).trans hh, rest⟩
    intro e
    exact hg (by simp [Value.ownBlock, e])
theorem step_append_jt {ops : Array Oper} {o : Oper} {a : Act} {w : World} {K : Act → World → Prop} {Q : Exit → Act → World → Prop} {E : Prop} (hgd : o.guard = none) (s x : Operand)
    (ho : o.op = .call { callee := .builtin .append, args := #[s, x], argTypes := #[59, 59] }) (base : Nat) (v : Value) (L : List (Int × Int)) (X Y : Int) (g : Nat)
    (hs : a.eval s = v) (hown : OwnT w base v L) (hx : a.eval x = .slice (some ⟨g, 0, none⟩) 1 1) (hg : Blk w g #[.int .u64 X, .int .i64 Y] 95) (hL : L.length ≤ 4000000) (hbase : base ≤ w.heap.size)
    (h : ∀ v' w', OwnT w' base v' (L ++ [(X, Y)]) → w.grownBy w' v.ownBlock → (v'.ownBlock = v.ownBlock ∨ v'.ownBlock = some w.heap.size) → K (a.put o.dst v') w') :
    if Region.wanted o (yielded ops a.tmps) = true then Oper.wp Tryd.prog o a w K Q else E := by
  obtain ⟨i0, hi0, hz0, hz1, hz2⟩ := info_parts infoT
  refine stepA_append_at hgd s x _ ho base 95 i0 _ 2 16 Tryd.underlying59 hi0 hz0 hz1 hz2 rfl (by decide) v L.length (cellsT L) hs hown ⟨g, 0, none⟩ 1 1 [.int .u64 X, .int .i64 Y] hx rfl ?_ ?_ ?_ ?_ hbase ?_
  · intro j u hu
    rcases j with _ | _ | j
    · simp at hu; subst hu; simpa [Addr.add] using hg.cell 0 rfl
    · simp at hu; subst hu; simpa [Addr.add] using hg.cell 1 rfl
    · simp at hu
  · intro u hu
    simp at hu
    rcases hu with rfl | rfl <;> rfl
  · unfold maxLen; omega
  · omega
  · intro v' w' h1 h2 h5
    exact h v' w' (OwnT.snoc h1) h2 h5
end Go.Proofs.YtdoheipnfdbioaaDoor
