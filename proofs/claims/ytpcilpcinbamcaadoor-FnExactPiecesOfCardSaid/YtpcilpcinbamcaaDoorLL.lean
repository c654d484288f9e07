/-
  A slice of lists of numbers of the call's own that is appended to, each list in a block of its own.
-/
import Derived.Test.YtpcilpcinbamcaaDoorOwnSS
import Derived.Test.YtpcilpcinbamcaaDoorMarkLL
namespace Go.Proofs.YtpcilpcinbamcaaDoor
set_option linter.unusedSimpArgs false
set_option linter.unusedVariables false
open Go.ChangeShapes Go.WideShapes Go.ChangeAt Go.RowKit

/-- Block g holds just these numbers. -/
def LBlk (w : World) (g : Nat) (L : List Int) : Prop := ∃ cs, w.heap[g]? = some (.cells cs 2 (0, 0)) ∧ cs.size = L.length ∧ ∀ i, i < L.length → cs[i]? = some (.int .i64 (L.getD i 0))
theorem LBlk.lt {w : World} {g : Nat} {L : List Int} (h : LBlk w g L) : g < w.heap.size := by
  obtain ⟨cs, h, _⟩ := h
  rcases Nat.lt_or_ge g w.heap.size with hlt | hge
  · exact hlt
  · rw [Array.getElem?_eq_none hge] at h; cases h
theorem LBlk.keep {w w' : World} {g : Nat} {L : List Int} (h : LBlk w g L) (hk : w'.heap[g]? = w.heap[g]?) : LBlk w' g L := by
  obtain ⟨cs, h0, h1⟩ := h
  exact ⟨cs, hk.trans h0, h1⟩
theorem LBlk.nums {w : World} {g : Nat} {L : List Int} (h : LBlk w g L) : IntsAt w w.heap.size (some ⟨g, 0, none⟩) L := fun _ => by
  have hl := h.lt
  obtain ⟨cs, h0, _, h2⟩ := h
  exact ⟨g, 0, rfl, hl, fun i hi => by rw [Nat.zero_add, cell_of_row w g _ cs _ _ h0]; exact h2 i hi⟩
theorem LBlk.three (w : World) (a b c : Int) : LBlk (w.alloc (.cells #[.int .i64 a, .int .i64 b, .int .i64 c] 2)) w.heap.size [a, b, c] :=
  ⟨_, heap_alloc_new w _, rfl, fun i hi => by
    obtain rfl | rfl | rfl : i = 0 ∨ i = 1 ∨ i = 2 := by simp at hi; omega
    all_goals rfl⟩
/-- Row i: its block. -/
def RowAt (W : World) (N : Nat) (v : Value) (z : SlI) : Prop := ∃ g, z.1 = some ⟨g, 0, none⟩ ∧ N ≤ g ∧ LBlk W g z.2.1 ∧ v.ownBlock ≠ some g ∧ z.2.2 = z.2.1.length ∧ z.2.1.length ≤ 1048576
structure LLOwn (W : World) (N : Nat) (v : Value) (Ms : List SlI) : Prop where
  ow : OwnSS W N v Ms
  row : ∀ i, i < Ms.length → RowAt W N v (Ms.getD i si0)
  dist : ∀ i j, i < j → j < Ms.length → pI Ms i ≠ pI Ms j
theorem LLOwn.nil (W : World) (N : Nat) : LLOwn W N (.slice none 0 0) [] := ⟨⟨rfl, .inl ⟨rfl, rfl⟩⟩, fun i hi => by simp at hi, fun i j _ hj => by simp at hj⟩
theorem LLOwn.empty (w : World) (N : Nat) (hB : N ≤ w.heap.size) : LLOwn (w.alloc (.cells #[] 22)) N (.slice (some ⟨w.heap.size, 0, none⟩) 0 0) [] := ⟨OwnSS.empty w N hB, fun i hi => by simp at hi, fun i j _ hj => by simp at hj⟩
theorem LLOwn.keep {W W' : World} {N : Nat} {v : Value} {Ms : List SlI} (h : LLOwn W N v Ms) (hk : ∀ i, i < W.heap.size → N ≤ i → W'.heap[i]? = W.heap[i]?) : LLOwn W' N v Ms :=
  ⟨h.ow.keep fun i e => hk i (h.ow.lt e) (h.ow.ge e), fun i hi => by
    obtain ⟨g, e, hN, hL, r⟩ := h.row i hi
    exact ⟨g, e, hN, hL.keep (hk g hL.lt hN), r⟩, h.dist⟩
theorem LLOwn.to {W W' : World} {N : Nat} {v : Value} {Ms : List SlI} (h : LLOwn W N v Ms) (hb : Below W.heap.size W W') : LLOwn W' N v Ms := h.keep fun i hi _ => hb.block i hi
theorem LLOwn.low {W W' : World} {N N' : Nat} {v : Value} {Ms : List SlI} (h : LLOwn W N v Ms) (hN : N' ≤ N) : LLOwn W N' v Ms :=
  ⟨⟨h.ow.1, by rcases h.ow.2 with e | ⟨g, cap, cur, e, hB, r⟩; exact .inl e; exact .inr ⟨g, cap, cur, e, Nat.le_trans hN hB, r⟩⟩, fun i hi => by
    obtain ⟨g, e, hg, r⟩ := h.row i hi
    exact ⟨g, e, Nat.le_trans hN hg, r⟩, h.dist⟩
theorem getD_snoc {Ms : List SlI} {z : SlI} {i : Nat} (hi : i < (Ms ++ [z]).length) : (i < Ms.length ∧ (Ms ++ [z]).getD i si0 = Ms.getD i si0) ∨ (i = Ms.length ∧ (Ms ++ [z]).getD i si0 = z) := by
  rw [List.length_append] at hi
  simp only [List.length_singleton] at hi
  by_cases e : i = Ms.length
  · exact .inr ⟨e, by subst e; simp [List.getD_eq_getElem?_getD]⟩
  · have hlt : i < Ms.length := by omega
    exact .inl ⟨hlt, by simp [List.getD_eq_getElem?_getD, List.getElem?_append_left hlt]⟩
/-- A new list is made and appended. -/
theorem LLOwn.app {W w' : World} {N : Nat} {v v' : Value} {Ms : List SlI} {a b c : Int} (h : LLOwn W N v Ms) (hN : N ≤ W.heap.size)
    (ho : OwnSS w' N v' (Ms ++ [(some ⟨W.heap.size, 0, none⟩, [a, b, c], 3)])) (hk : ∀ i, i < (W.alloc (.cells #[.int .i64 a, .int .i64 b, .int .i64 c] 2)).heap.size → v.ownBlock ≠ some i → w'.heap[i]? = (W.alloc (.cells #[.int .i64 a, .int .i64 b, .int .i64 c] 2)).heap[i]?)
    (hob : v'.ownBlock = v.ownBlock ∨ ∃ g, v'.ownBlock = some g ∧ (W.alloc (.cells #[.int .i64 a, .int .i64 b, .int .i64 c] 2)).heap.size ≤ g) : LLOwn w' N v' (Ms ++ [(some ⟨W.heap.size, 0, none⟩, [a, b, c], 3)]) := by
  have hsz : (W.alloc (.cells #[.int .i64 a, .int .i64 b, .int .i64 c] 2)).heap.size = W.heap.size + 1 := World.size_alloc _ _
  rw [hsz] at hob
  have hown : ∀ g, g < W.heap.size + 1 → v.ownBlock ≠ some g → v'.ownBlock ≠ some g := fun g hg hv k => by
    rcases hob with hob | ⟨g2, hg2, hz⟩
    · exact hv (hob ▸ k)
    · rw [hg2] at k; injection k with k; omega
  have hnew : v.ownBlock ≠ some W.heap.size := fun k => by have := h.ow.lt k; omega
  refine ⟨ho, fun i hi => ?_, fun i j hij hj => ?_⟩
  · rcases getD_snoc hi with ⟨hlt, e⟩ | ⟨_, e⟩
    · rw [e]
      obtain ⟨g, e1, hg, hL, hv, r⟩ := h.row i hlt
      have hgl := hL.lt
      exact ⟨g, e1, hg, hL.keep ((hk g (by rw [hsz]; omega) hv).trans (Below.heap_alloc W _ g hgl)), hown g (by omega) hv, r⟩
    · rw [e]
      exact ⟨W.heap.size, rfl, hN, (LBlk.three W a b c).keep (hk W.heap.size (by rw [hsz]; omega) hnew), hown _ (by omega) hnew, rfl, by simp⟩
  · unfold pI
    have hi : i < (Ms ++ [((some ⟨W.heap.size, 0, none⟩, [a, b, c], 3) : SlI)]).length := by omega
    have hlen : (Ms ++ [((some ⟨W.heap.size, 0, none⟩, [a, b, c], 3) : SlI)]).length = Ms.length + 1 := by simp
    rcases getD_snoc hi with ⟨hlt, e⟩ | ⟨h2, e⟩
    · rcases getD_snoc hj with ⟨hlj, e2⟩ | ⟨_, e2⟩
      · rw [e, e2]; exact h.dist i j hij hlj
      · rw [e, e2]
        obtain ⟨g, e1, _, hL, _⟩ := h.row i hlt
        have hgl := hL.lt
        rw [e1]
        intro k
        injection k with k; injection k with k
        omega
    · rw [hlen] at hj; omega
theorem LLOwn.isat {W : World} {N : Nat} {v : Value} {Ms : List SlI} (h : LLOwn W N v Ms) : ∃ A c, v = .slice A Ms.length c ∧ ISAt W W.heap.size A Ms ∧ OutAt W A Ms ∧ RowsOwn W N Ms ∧ (∀ b o, A = some ⟨b, o, none⟩ → N ≤ b) ∧ ∀ i, i < Ms.length → nI Ms i ≤ 1048576 := by
  obtain ⟨A, c, e, ho⟩ := h.ow.outer
  have hge : ∀ b o, A = some ⟨b, o, none⟩ → v.ownBlock = some b := fun b o e2 => by rw [e, e2]; rfl
  refine ⟨A, c, e, fun h0 => ?_, fun h0 => ?_, ⟨fun i hi h0 => ?_, fun i j hij hj _ _ => h.dist i j hij hj⟩, fun b o e2 => h.ow.ge (hge b o e2), fun i hi => ?_⟩
  · obtain ⟨g, eg, hg, hc⟩ := ho h0
    refine ⟨g, 0, eg, hg, fun i hi => ?_⟩
    obtain ⟨gi, e1, _, hL, _, hcap, hl⟩ := h.row i hi
    exact ⟨by rw [Nat.zero_add]; exact hc i hi, by rw [e1]; exact hL.nums, by rw [hcap]; exact Nat.le_refl _, by rw [hcap]; unfold maxLen; omega⟩
  · obtain ⟨g, eg, hg, hc⟩ := ho h0
    refine ⟨g, 0, eg, fun i hi => by rw [Nat.zero_add]; exact hc i hi, fun i hi _ e2 => ?_⟩
    obtain ⟨gi, e1, _, hL, hv, _⟩ := h.row i hi
    unfold pI at e2
    rw [e1] at e2
    injection e2 with e2; injection e2 with e2
    subst e2
    exact hv (hge _ 0 eg)
  · obtain ⟨gi, e1, hN, ⟨cs, h0', h1, _⟩, _, _⟩ := h.row i hi
    exact ⟨gi, e1, hN, cs, h0', by unfold nI; rw [h1]; exact Nat.le_refl _⟩
  · obtain ⟨gi, _, _, _, _, _, hl⟩ := h.row i hi
    exact hl
end Go.Proofs.YtpcilpcinbamcaaDoor
