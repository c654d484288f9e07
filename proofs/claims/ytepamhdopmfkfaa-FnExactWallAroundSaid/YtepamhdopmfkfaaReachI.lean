/-
  The model's search: what it holds between two rounds (no walk).
-/
import Derived.Test.YtepamhdopmfkfaaReachP
namespace Go.Proofs.Ytepamhdopmfkfaa
set_option linter.unusedSimpArgs false
set_option linter.unusedVariables false
open Go.ChangeShapes Go.WideShapes Go.ChangeAt Go.RowKit

def idxN (M : Mz) (i j : Nat) : Nat := j * wid M + i
theorem idxN_lt {M : Mz} {i j : Nat} (hi : i < wid M) (hj : j < M.length) : idxN M i j < M.length * wid M := by
  unfold idxN
  have : (j + 1) * wid M ≤ M.length * wid M := Nat.mul_le_mul_right _ (by omega)
  rw [Nat.succ_mul] at this
  omega
theorem idxN_inj {M : Mz} {i j i' j' : Nat} (hi : i < wid M) (hi' : i' < wid M) (h : idxN M i j = idxN M i' j') : i = i' ∧ j = j' := by
  unfold idxN at h
  have hw : 0 < wid M := by omega
  have h1 : (j * wid M + i) / wid M = j := by rw [Nat.add_comm, Nat.add_mul_div_right _ _ hw, Nat.div_eq_of_lt hi]; omega
  have h2 : (j' * wid M + i') / wid M = j' := by rw [Nat.add_comm, Nat.add_mul_div_right _ _ hw, Nat.div_eq_of_lt hi']; omega
  have : j = j' := by rw [← h1, ← h2, h]
  subst this
  omega
/-- What holds when the first i points of the list, and k neighbours of the next one, have been looked at. -/
structure RInv (M : Mz) (p : Pt) (L : List Pt) (f : Nat → Bool) (i k : Nat) : Prop where
  reach : ∀ q ∈ L, Reach M p q
  mem : ∀ x y : Nat, x < wid M → y < M.length → (f (idxN M x y) = true ↔ ((x : Int), (y : Int)) ∈ L)
  count : cnt f (M.length * wid M) = L.length
  first : p ∈ L
  done : ∀ j, j < i → ∀ m, m < 4 → openB M (nb (L.getD j (0, 0)) m).1 (nb (L.getD j (0, 0)) m).2 = true → nb (L.getD j (0, 0)) m ∈ L
  here : ∀ m, m < k → openB M (nb (L.getD i (0, 0)) m).1 (nb (L.getD i (0, 0)) m).2 = true → nb (L.getD i (0, 0)) m ∈ L
theorem RInv.len {M : Mz} {p : Pt} {L : List Pt} {f : Nat → Bool} {i k : Nat} (h : RInv M p L f i k) : L.length ≤ M.length * wid M := by
  rw [← h.count]; exact cnt_le _ _
theorem RInv.skip {M : Mz} {p : Pt} {L : List Pt} {f : Nat → Bool} {i k : Nat} (h : RInv M p L f i k) (hk : openB M (nb (L.getD i (0, 0)) k).1 (nb (L.getD i (0, 0)) k).2 = true → nb (L.getD i (0, 0)) k ∈ L) : RInv M p L f i (k + 1) :=
  ⟨h.reach, h.mem, h.count, h.first, h.done, fun m hm ho => by
    by_cases e : m = k
    · subst e; exact hk ho
    · exact h.here m (by omega) ho⟩
theorem getD_app {L : List Pt} {r : Pt} {j : Nat} (h : j < L.length) : (L ++ [r]).getD j (0, 0) = L.getD j (0, 0) := by
  simp [List.getD_eq_getElem?_getD, List.getElem?_append_left h]
theorem RInv.add {M : Mz} {p : Pt} {L : List Pt} {f : Nat → Bool} {i k x y : Nat} (h : RInv M p L f i k) (hi : i < L.length) (hk : k < 4) (hr : nb (L.getD i (0, 0)) k = ((x : Int), (y : Int))) (hx : x < wid M) (hy : y < M.length)
    (ho : openB M (x : Int) (y : Int) = true) (hf : f (idxN M x y) = false) : RInv M p (L ++ [((x : Int), (y : Int))]) (upd f (idxN M x y)) i (k + 1) := by
  have hmem : L.getD i (0, 0) ∈ L := by
    rw [List.getD_eq_getElem?_getD, List.getElem?_eq_getElem hi]
    exact List.getElem_mem hi
  refine ⟨fun q hq => ?_, fun x' y' hx' hy' => ?_, ?_, List.mem_append_left _ h.first, fun j hj m hm => ?_, fun m hm => ?_⟩
  · rcases List.mem_append.1 hq with hq | hq
    · exact h.reach q hq
    · rw [List.mem_singleton.1 hq, ← hr]
      exact .step (h.reach _ hmem) hk (by rw [hr]; exact ho)
  · unfold upd
    by_cases e : idxN M x' y' = idxN M x y
    · obtain ⟨e1, e2⟩ := idxN_inj hx' hx e
      subst e1; subst e2
      simp
    · rw [if_neg e, h.mem x' y' hx' hy', List.mem_append]
      constructor
      · exact .inl
      · rintro (h1 | h1)
        · exact h1
        · have := List.mem_singleton.1 h1
          simp at this
          exact absurd (by rw [show x' = x by omega, show y' = y by omega]) e
  · rw [cnt_upd hf (idxN_lt hx hy), h.count]; simp
  · rw [getD_app (by omega)]
    intro ho'
    exact List.mem_append_left _ (h.done j hj m hm ho')
  · rw [getD_app hi]
    intro ho'
    by_cases e : m = k
    · subst e; rw [hr]; simp
    · exact List.mem_append_left _ (h.here m (by omega) ho')
theorem RInv.next {M : Mz} {p : Pt} {L : List Pt} {f : Nat → Bool} {i : Nat} (h : RInv M p L f i 4) : RInv M p L f (i + 1) 0 :=
  ⟨h.reach, h.mem, h.count, h.first, fun j hj m hm ho => by
    by_cases e : j = i
    · subst e; exact h.here m hm ho
    · exact h.done j (by omega) m hm ho, fun m hm => by omega⟩
theorem RInv.end_ {M : Mz} {p : Pt} {L : List Pt} {f : Nat → Bool} (h : RInv M p L f L.length 0) (x y : Nat) (hx : x < wid M) (hy : y < M.length) : f (idxN M x y) = reachB M p ((x : Int), (y : Int)) := by
  rw [Bool.eq_iff_iff, h.mem x y hx hy, reachB_iff]
  constructor
  · exact h.reach _
  · intro hr
    refine Reach.closed (S := fun q => q ∈ L) h.first (fun q hq m hm ho => ?_) hr
    obtain ⟨j, hj, hjq⟩ := List.getElem_of_mem hq
    have e : L.getD j (0, 0) = q := by simp [List.getD_eq_getElem?_getD, hj, hjq]
    have := h.done j hj m hm
    rw [e] at this
    exact this ho
theorem RInv.start {M : Mz} {i j : Nat} (hi : i < wid M) (hj : j < M.length) : RInv M ((i : Int), (j : Int)) [((i : Int), (j : Int))] (upd (fun _ => false) (idxN M i j)) 0 0 := by
  refine ⟨fun q hq => by rw [List.mem_singleton.1 hq]; exact .refl, fun x y hx hy => ?_, ?_, by simp, fun j hj => by omega, fun m hm => by omega⟩
  · unfold upd
    by_cases e : idxN M x y = idxN M i j
    · obtain ⟨e1, e2⟩ := idxN_inj hx hi e
      subst e1; subst e2; simp
    · rw [if_neg e]
      simp
      intro e1 e2
      exact e (by rw [show x = i by omega, show y = j by omega])
  · rw [cnt_upd rfl (idxN_lt hi hj)]
    have : ∀ n, cnt (fun _ => false) n = 0 := fun n => by
      induction n with
      | zero => rfl
      | succ n ih => simp [cnt, ih]
    rw [this]; rfl
theorem nb_in {M : Mz} {q : Pt} {k : Nat} (h : openB M (nb q k).1 (nb q k).2 = true) : ∃ x y : Nat, nb q k = ((x : Int), (y : Int)) ∧ x < wid M ∧ y < M.length := by
  obtain ⟨x, y, h1, h2, hx, hy, _⟩ := openB_pt h
  exact ⟨x, y, by rw [← h1, ← h2], hx, hy⟩
end Go.Proofs.Ytepamhdopmfkfaa
