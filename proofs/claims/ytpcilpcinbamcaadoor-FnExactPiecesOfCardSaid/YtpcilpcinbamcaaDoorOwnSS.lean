/-
  A slice of slices of numbers of the call's own, appended to; two of them in a struct variable.
-/
import Derived.Test.YtpcilpcinbamcaaDoorOwnJ
import Derived.Test.YtpcilpcinbamcaaDoorIS
import Derived.Test.YtpcilpcinbamcaaDoorPan
namespace Go.Proofs.YtpcilpcinbamcaaDoor
set_option linter.unusedSimpArgs false
set_option linter.unusedVariables false
open Go.ChangeShapes Go.WideShapes Go.ChangeAt Go.RowKit

def slV (z : SlI) : Value := .slice z.1 z.2.1.length z.2.2
/-- A slice of the call's own holds these slices. -/
def OwnSS (w : World) (base : Nat) (v : Value) (Ms : List SlI) : Prop := w.ownsRow base 22 1 v Ms.length (Ms.map slV)
theorem OwnSS.snoc {w : World} {base : Nat} {v : Value} {Ms : List SlI} {z : SlI} (h : w.ownsRow base 22 1 v (Ms.length + 1) (Ms.map slV ++ [slV z])) : OwnSS w base v (Ms ++ [z]) := by
  unfold OwnSS; rw [List.map_append]; simpa using h
theorem OwnSS.empty (w : World) (base : Nat) (hB : base ≤ w.heap.size) : OwnSS (w.alloc (.cells #[] 22)) base (.slice (some ⟨w.heap.size, 0, none⟩) 0 0) [] :=
  ⟨rfl, .inr ⟨w.heap.size, 0, #[], rfl, hB, heap_alloc_new w _, Nat.le_refl _, Nat.zero_le _, rfl, rfl⟩⟩
theorem OwnSS.lt {w : World} {B : Nat} {v : Value} {L : List SlI} (h : OwnSS w B v L) {i : Nat} (e : v.ownBlock = some i) : i < w.heap.size := by
  rcases h.2 with ⟨rfl, _⟩ | ⟨g, cap, cur, rfl, hB, hh, _⟩
  · simp [Value.ownBlock] at e
  · simp [Value.ownBlock] at e
    subst e
    rcases Nat.lt_or_ge g w.heap.size with hlt | hge
    · exact hlt
    · rw [Array.getElem?_eq_none hge] at hh; cases hh
theorem OwnSS.keep {w w' : World} {B : Nat} {v : Value} {L : List SlI} (h : OwnSS w B v L) (hk : ∀ i, v.ownBlock = some i → w'.heap[i]? = w.heap[i]?) : OwnSS w' B v L := by
  refine ⟨h.1, ?_⟩
  rcases h.2 with h0 | ⟨g, cap, cur, rfl, hB, hh, r⟩
  · exact .inl h0
  · exact .inr ⟨g, cap, cur, rfl, hB, (hk g (by simp [Value.ownBlock])).trans hh, r⟩
theorem OwnSS.to {w w1 : World} {base : Nat} {v : Value} {L : List SlI} (h : OwnSS w base v L) (hb : Below w.heap.size w w1) : OwnSS w1 base v L := h.keep fun i e => hb.block i (h.lt e)
theorem OwnSS.outer {w : World} {B : Nat} {v : Value} {Ms : List SlI} (h : OwnSS w B v Ms) : ∃ A c, v = .slice A Ms.length c ∧ (0 < Ms.length → ∃ g, A = some ⟨g, 0, none⟩ ∧ g < w.heap.size ∧ ∀ i, i < Ms.length → w.cell? ⟨g, i, none⟩ = some (slV (Ms.getD i si0))) := by
  have hlt := fun i e => h.lt (i := i) e
  rcases h.2 with ⟨rfl, h0⟩ | ⟨g, cap, cur, rfl, hB, hh, hn, _, hs, ht⟩
  · exact ⟨none, 0, by rw [h0], fun h1 => by omega⟩
  · refine ⟨_, _, rfl, fun _ => ⟨g, rfl, hlt g (by simp [Value.ownBlock]), fun i hi => ?_⟩⟩
    rw [cell_of_row w g _ cur _ _ hh]
    have key : cur[i]? = (Ms.map slV)[i]? := by
      rw [← ht, List.getElem?_take, if_pos (by omega), Array.getElem?_toList]
    rw [key, List.getElem?_map, List.getD_eq_getElem?_getD, List.getElem?_eq_getElem hi]; rfl
theorem append_ss {ops : Array Oper} {rest : List Oper} {o : Oper} {a : Act} {Q : Exit → Act → World → Prop} (hgd : o.guard = none) (s x : Operand)
    (ho : o.op = .call { callee := .builtin .append, args := #[s, x], argTypes := #[26, 26] }) (w : World) (base : Nat) (v : Value) (L : List SlI) (z : SlI)
    (hs : a.eval s = v) (hown : OwnSS w base v L) (B0 : Nat) (hB0 : B0 = w.heap.size) (hx : a.eval x = .slice (some ⟨B0, 0, none⟩) 1 1) (hL : L.length ≤ 1000000) (hbase : base ≤ w.heap.size)
    (h : ∀ v' w', OwnSS w' base v' (L ++ [z]) → (∀ a0, Below base a0 w → Below base a0 w') → (∀ i, i < w.heap.size → v.ownBlock ≠ some i → w'.heap[i]? = w.heap[i]?) → (v'.ownBlock = v.ownBlock ∨ ∃ g, v'.ownBlock = some g ∧ w.heap.size ≤ g) → w.heap.size ≤ w'.heap.size → wpList Tryd.prog ops Q rest (a.put o.dst v') w') :
    wpList Tryd.prog ops Q (o :: rest) a (w.alloc (.cells #[.slice z.1 z.2.1.length z.2.2] 22)) := by
  subst hB0
  obtain ⟨i0, hi0, hz0, hz1, hz2⟩ := info_parts infoZI
  have hown' : (w.alloc (.cells #[slV z] 22)).ownsRow base 22 1 v L.length (L.map slV) := World.ownsRow.alloc hown _
  refine wpList_append_own_at _ hgd s x _ ho base 22 i0 _ 1 24 Tryd.underlying26 hi0 hz0 hz1 hz2 rfl (by decide) v L.length (L.map slV) hs hown' ⟨w.heap.size, 0, none⟩ 1 1 [slV z] hx rfl ?_ ?_ ?_ ?_ ?_ ?_
  · intro j u hu
    rcases j with _ | j
    · simp at hu; subst hu; simp [Addr.add, slV]
    · simp at hu
  · intro u hu
    simp at hu
    subst hu; rfl
  · unfold maxLen; omega
  · omega
  · simp; omega
  · intro v' w' h1 h2 _ h5
    refine h v' w' (OwnSS.snoc h1) (fun a0 hb => Below.grown (hb.alloc hbase _) h2 (by simp; omega) fun k hk => (hown'.lt k hk).1) (fun i hi hne => ?_) ?_ ?_
    · have := h2.block i (by simp; omega) (Ne.symm hne)
      rw [this, World.alloc]
      simp [Array.getElem?_push, Nat.ne_of_lt hi]
    · rcases h5 with h5 | h5
      · exact .inl h5
      · exact .inr ⟨_, h5, by simp⟩
    · have := h2.size
      simp at this; omega
/-- A row that lies apart from two slices and a block. -/
structure RowW (W : World) (z : SlI) (vA vU : Value) (G : Nat) : Prop where
  nums : IntsAt W W.heap.size z.1 z.2.1
  off : ∀ b o, z.1 = some ⟨b, o, none⟩ → vA.ownBlock ≠ some b ∧ vU.ownBlock ≠ some b ∧ G < b ∧ b < W.heap.size
  cap1 : z.2.1.length ≤ z.2.2
  cap2 : z.2.2 ≤ maxLen
theorem RowW.swap {W : World} {z : SlI} {vA vU : Value} {G : Nat} (h : RowW W z vA vU G) : RowW W z vU vA G := ⟨h.nums, fun b o e => by obtain ⟨h1, h2, h3, h4⟩ := h.off b o e; exact ⟨h2, h1, h3, h4⟩, h.cap1, h.cap2⟩
theorem RowW.to {W W1 : World} {z : SlI} {vA vU : Value} {G : Nat} (h : RowW W z vA vU G) (hb : Below W.heap.size W W1) : RowW W1 z vA vU G :=
  ⟨h.nums.to hb, fun b o e => by obtain ⟨h1, h2, h3, h4⟩ := h.off b o e; exact ⟨h1, h2, h3, Nat.lt_of_lt_of_le h4 hb.size⟩, h.cap1, h.cap2⟩
/-- What an append to the first one and its store leave of a row. -/
theorem RowW.next {W w' : World} {z : SlI} {vA vU v' : Value} {G o : Nat} (h : RowW W z vA vU G) (hk : ∀ i, i < W.heap.size → vA.ownBlock ≠ some i → w'.heap[i]? = W.heap[i]?) (hob : v'.ownBlock = vA.ownBlock ∨ ∃ g, v'.ownBlock = some g ∧ W.heap.size ≤ g) (hz : W.heap.size ≤ w'.heap.size) :
    RowW (w'.setCell ⟨G, o, none⟩ v') z v' vU G := by
  have hs : (w'.setCell ⟨G, o, none⟩ v').heap.size = w'.heap.size := by simp [World.setCell]
  refine ⟨fun h0 => ?_, fun b o2 e => ?_, h.cap1, h.cap2⟩
  · obtain ⟨b, o2, e, hb, hc⟩ := h.nums h0
    obtain ⟨h1, h2, h3, h4⟩ := h.off b o2 e
    refine ⟨b, o2, e, by rw [hs]; omega, fun i hi => ?_⟩
    have hh : (w'.setCell ⟨G, o, none⟩ v').heap[b]? = W.heap[b]? := (Below.heap_setCell _ _ _ _ (by dsimp only; omega)).trans (hk b h4 h1)
    exact (World.cell?_of_block (a := ⟨b, o2 + i, none⟩) hh).trans (hc i hi)
  · obtain ⟨h1, h2, h3, h4⟩ := h.off b o2 e
    refine ⟨fun k => ?_, h2, h3, by rw [hs]; omega⟩
    rcases hob with hob | ⟨g, hg, hgz⟩
    · exact h1 (hob ▸ k)
    · rw [hg] at k; injection k with k; omega
theorem blk_none {v v' : Value} {W : World} {b : Nat} (h : v.ownBlock ≠ some b) (hb : b < W.heap.size) (hob : v'.ownBlock = v.ownBlock ∨ ∃ g, v'.ownBlock = some g ∧ W.heap.size ≤ g) : v'.ownBlock ≠ some b := fun k => by
  rcases hob with hob | ⟨g, hg, hgz⟩
  · exact h (hob ▸ k)
  · rw [hg] at k; injection k with k; omega
theorem OwnSS.ge {w : World} {B : Nat} {v : Value} {L : List SlI} (h : OwnSS w B v L) {i : Nat} (e : v.ownBlock = some i) : B ≤ i := by
  rcases h.2 with ⟨rfl, _⟩ | ⟨g, cap, cur, rfl, hB, hh, _⟩
  · simp [Value.ownBlock] at e
  · simp [Value.ownBlock] at e
    omega
/-- All of it lies from N on. -/
def AbvI (N : Nat) (A : Option Addr) (Ls : List SlI) : Prop := (∀ b o, A = some ⟨b, o, none⟩ → N ≤ b) ∧ ∀ i, i < Ls.length → ∀ b o, (Ls.getD i si0).1 = some ⟨b, o, none⟩ → N ≤ b
theorem AbvI.mono {N N' : Nat} {A : Option Addr} {Ls : List SlI} (h : AbvI N A Ls) (hN : N' ≤ N) : AbvI N' A Ls := ⟨fun b o e => Nat.le_trans hN (h.1 b o e), fun i hi b o e => Nat.le_trans hN (h.2 i hi b o e)⟩
theorem ISAt.low {W : World} {B N : Nat} {A : Option Addr} {Ls : List SlI} (h : ISAt W B A Ls) (ha : AbvI N A Ls) {p : Addr} (hp : p.block < N) (v : Value) : ISAt (W.setCell p v) B A Ls := fun h0 => by
  obtain ⟨b, off, e, hb, hc⟩ := h h0
  have hbN := ha.1 b off e
  refine ⟨b, off, e, hb, fun i hi => ?_⟩
  obtain ⟨c1, c2, c3, c4⟩ := hc i hi
  refine ⟨(World.cell?_of_block (a := ⟨b, off + i, none⟩) (Below.heap_setCell _ _ _ _ (by dsimp only; omega))).trans c1, fun h1 => ?_, c3, c4⟩
  obtain ⟨b2, o2, e2, hb2, hc2⟩ := c2 h1
  have := ha.2 i hi b2 o2 e2
  exact ⟨b2, o2, e2, hb2, fun j hj => (World.cell?_of_block (a := ⟨b2, o2 + j, none⟩) (Below.heap_setCell _ _ _ _ (by dsimp only; omega))).trans (hc2 j hj)⟩
/-- A slice of numbers that was made from S on is such a row. -/
theorem OwnI.rowW {W : World} {S : Nat} {v : Value} {L : List Int} {vA vU : Value} {G : Nat} (h : OwnI W S v L) (hA : ∀ i, vA.ownBlock = some i → i < S) (hU : ∀ i, vU.ownBlock = some i → i < S) (hG : G < S) : ∃ A c, v = .slice A L.length c ∧ RowW W (A, L, c) vA vU G := by
  have hlt := fun i e => h.lt (i := i) e
  obtain ⟨A, c, e, hI, hc⟩ := h.ints
  refine ⟨A, c, e, hI, fun b o eb => ?_, hc, ?_⟩
  · rcases h.2 with ⟨e2, _⟩ | ⟨g, cap, cur, e2, hB, _⟩
    · rw [e] at e2; injection e2 with e2; dsimp only at eb; rw [e2] at eb; cases eb
    · have e3 := e2
      rw [e] at e2; injection e2 with e2
      dsimp only at eb
      rw [e2] at eb; injection eb with eb; injection eb with eb
      subst eb
      exact ⟨fun k => by have := hA g k; omega, fun k => by have := hU g k; omega, by omega, hlt g (by rw [e3]; simp [Value.ownBlock])⟩
  · rcases h.2 with ⟨e2, _⟩ | ⟨g, cap, cur, e2, _, _, _, hm, _⟩
    · rw [e] at e2; injection e2 with _ _ e2; dsimp only; unfold maxLen; omega
    · rw [e] at e2; injection e2 with _ _ e2; dsimp only; omega
end Go.Proofs.YtpcilpcinbamcaaDoor
