/-
  Plain mathematics: points in order, each once.
-/
import Derived.Test.YtepamhdopmfkfaaThroughS
namespace Go.Proofs.Ytepamhdopmfkfaa
set_option linter.unusedSimpArgs false
set_option linter.unusedVariables false
open Go.ChangeShapes Go.WideShapes Go.ChangeAt Go.RowKit

/-- p comes before q. -/
def ltB (p q : Pt) : Bool := decide (p.1 < q.1) || (decide (p.1 = q.1) && decide (p.2 < q.2))
theorem ltB_iff {p q : Pt} : ltB p q = true ↔ p.1 < q.1 ∨ (p.1 = q.1 ∧ p.2 < q.2) := by unfold ltB; simp
theorem ltB_irr (p : Pt) : ltB p p = false := by
  cases h : ltB p p
  · rfl
  · rw [ltB_iff] at h; omega
theorem ltB_trans {p q r : Pt} (h : ltB p q = true) (k : ltB q r = true) : ltB p r = true := by
  rw [ltB_iff] at *; omega
theorem ltB_tot {p q : Pt} (h : ltB p q = false) (hne : p ≠ q) : ltB q p = true := by
  rw [ltB_iff]
  have h' : ¬ (p.1 < q.1 ∨ (p.1 = q.1 ∧ p.2 < q.2)) := by rw [← ltB_iff, h]; simp
  by_cases e : p.1 = q.1
  · have e2 : p.2 ≠ q.2 := fun e2 => hne (Prod.ext e e2)
    omega
  · omega
/-- In order, each once. -/
def ordL (l : List Pt) : Prop := l.Pairwise fun p q => ltB p q = true
theorem ord_unique : ∀ (l m : List Pt), ordL l → ordL m → (∀ x, x ∈ l ↔ x ∈ m) → l = m
  | [], [], _, _, _ => rfl
  | [], b :: m, _, _, h => by have := (h b).2 (by simp); simp at this
  | a :: l, [], _, _, h => by have := (h a).1 (by simp); simp at this
  | a :: l, b :: m, hl, hm, h => by
    unfold ordL at hl hm
    rw [List.pairwise_cons] at hl hm
    have hab : a = b := by
      rcases List.mem_cons.1 ((h a).1 (by simp)) with e | e
      · exact e
      · rcases List.mem_cons.1 ((h b).2 (by simp)) with e' | e'
        · exact e'.symm
        · have h1 := hl.1 b e'
          have h2 := hm.1 a e
          rw [ltB_iff] at h1 h2
          omega
    subst hab
    have ih := ord_unique l m hl.2 hm.2 (fun x => by
      constructor
      · intro hx
        rcases List.mem_cons.1 ((h x).1 (List.mem_cons_of_mem _ hx)) with e | e
        · subst e; have := hl.1 x hx; rw [ltB_irr] at this; cases this
        · exact e
      · intro hx
        rcases List.mem_cons.1 ((h x).2 (List.mem_cons_of_mem _ hx)) with e | e
        · subst e; have := hm.1 x hx; rw [ltB_irr] at this; cases this
        · exact e)
    rw [ih]
/-- p laid at a place of L. -/
def insAt (L : List Pt) (p : Pt) (k : Nat) : List Pt := L.take k ++ p :: L.drop k
theorem mem_insAt {L : List Pt} {p x : Pt} {k : Nat} : x ∈ insAt L p k ↔ x = p ∨ x ∈ L := by
  unfold insAt
  have : x ∈ L ↔ x ∈ L.take k ∨ x ∈ L.drop k := by rw [← List.mem_append, List.take_append_drop]
  rw [List.mem_append, List.mem_cons, this]
  constructor
  · rintro (h | h | h)
    · exact .inr (.inl h)
    · exact .inl h
    · exact .inr (.inr h)
  · rintro (h | h | h)
    · exact .inr (.inl h)
    · exact .inl h
    · exact .inr (.inr h)
theorem ord_insAt {L : List Pt} {p : Pt} {k : Nat} (h : ordL L) (h1 : ∀ x ∈ L.take k, ltB x p = true) (h2 : ∀ x ∈ L.drop k, ltB p x = true) : ordL (insAt L p k) := by
  unfold ordL insAt at *
  have hL := h
  rw [← List.take_append_drop k L, List.pairwise_append] at hL
  rw [List.pairwise_append, List.pairwise_cons]
  refine ⟨hL.1, ⟨h2, hL.2.1⟩, ?_⟩
  intro x hx y hy
  rcases List.mem_cons.1 hy with e | e
  · subst e; exact h1 x hx
  · exact hL.2.2 x hx y e
theorem mem_takeD {L : List Pt} {x : Pt} {k : Nat} (h : x ∈ L.take k) : ∃ i, i < k ∧ i < L.length ∧ L.getD i (0, 0) = x := by
  obtain ⟨i, hi, e⟩ := List.mem_iff_getElem.1 h
  rw [List.length_take] at hi
  refine ⟨i, by omega, by omega, ?_⟩
  rw [List.getElem_take] at e
  simp [List.getD_eq_getElem?_getD, show i < L.length by omega, e]
theorem mem_dropD {L : List Pt} {x : Pt} {k : Nat} (h : x ∈ L.drop k) : ∃ i, k ≤ i ∧ i < L.length ∧ L.getD i (0, 0) = x := by
  obtain ⟨i, hi, e⟩ := List.mem_iff_getElem.1 h
  rw [List.length_drop] at hi
  refine ⟨k + i, by omega, by omega, ?_⟩
  rw [List.getElem_drop] at e
  simp [List.getD_eq_getElem?_getD, show k + i < L.length by omega, e]
theorem ord_at {L : List Pt} (h : ordL L) {i j : Nat} (hij : i < j) (hj : j < L.length) : ltB (L.getD i (0, 0)) (L.getD j (0, 0)) = true := by
  have := List.pairwise_iff_getElem.1 h i j (by omega) hj hij
  simpa [List.getD_eq_getElem?_getD, hj, show i < L.length by omega] using this
/-- The place found: all before it come before p, and it does not, or is the end. -/
theorem ord_ins {L : List Pt} {p : Pt} {k : Nat} (h : ordL L) (hp : p ∉ L) (hk : k ≤ L.length) (h1 : ∀ i, i < k → ltB (L.getD i (0, 0)) p = true) (h2 : k = L.length ∨ ltB (L.getD k (0, 0)) p = false) : ordL (insAt L p k) := by
  refine ord_insAt h ?_ ?_
  · intro x hx
    obtain ⟨i, hi, _, rfl⟩ := mem_takeD hx
    exact h1 i hi
  · intro x hx
    obtain ⟨i, hi, hil, rfl⟩ := mem_dropD hx
    rcases h2 with e | e
    · omega
    · have hkl : k < L.length := by omega
      have hne : L.getD k (0, 0) ≠ p := fun e2 => hp (by rw [← e2]; simp [List.getD_eq_getElem?_getD, hkl])
      have hkp := ltB_tot e hne
      by_cases hik : i = k
      · subst hik; exact hkp
      · exact ltB_trans hkp (ord_at h (by omega) hil)
theorem mem_take_succ {l : List Pt} {k : Nat} (hk : k < l.length) (x : Pt) : x ∈ l.take (k + 1) ↔ x ∈ l.take k ∨ x = l.getD k (0, 0) := by
  rw [take_snocP l k hk]; simp
/-- The list without what equals the one before it. -/
def ddL (l : List Pt) : Nat → List Pt
  | 0 => []
  | k + 1 => if k ≠ 0 ∧ l.getD k (0, 0) = l.getD (k - 1) (0, 0) then ddL l k else ddL l k ++ [l.getD k (0, 0)]
theorem ddL_skip {d : List Pt} {k : Nat} (h0 : k ≠ 0) (h : d.getD k (0, 0) = d.getD (k - 1) (0, 0)) : ddL d (k + 1) = ddL d k := by
  show (if k ≠ 0 ∧ d.getD k (0, 0) = d.getD (k - 1) (0, 0) then ddL d k else ddL d k ++ [d.getD k (0, 0)]) = _
  rw [if_pos ⟨h0, h⟩]
theorem ddL_keep' {d : List Pt} {k : Nat} (h : ¬ (k ≠ 0 ∧ d.getD k (0, 0) = d.getD (k - 1) (0, 0))) : ddL d (k + 1) = ddL d k ++ [d.getD k (0, 0)] := by
  show (if k ≠ 0 ∧ d.getD k (0, 0) = d.getD (k - 1) (0, 0) then ddL d k else ddL d k ++ [d.getD k (0, 0)]) = _
  rw [if_neg h]
theorem ddL_le (l : List Pt) : ∀ k, (ddL l k).length ≤ k
  | 0 => Nat.le_refl _
  | k + 1 => by
    have ih := ddL_le l k
    by_cases hh : k ≠ 0 ∧ l.getD k (0, 0) = l.getD (k - 1) (0, 0)
    · rw [ddL_skip hh.1 hh.2]; omega
    · rw [ddL_keep' hh]; simp; omega
theorem ddL_mem (l : List Pt) : ∀ k, k ≤ l.length → ∀ x, x ∈ ddL l k ↔ x ∈ l.take k
  | 0, _, x => by simp [ddL]
  | k + 1, h, x => by
    have ih := ddL_mem l k (by omega)
    rw [mem_take_succ (by omega), ← ih x]
    by_cases hh : k ≠ 0 ∧ l.getD k (0, 0) = l.getD (k - 1) (0, 0)
    · rw [ddL_skip hh.1 hh.2]
      constructor
      · exact .inl
      · rintro (h1 | h1)
        · exact h1
        · rw [ih x, h1, hh.2]
          have h3 := hh.1
          have h2 : k - 1 < (l.take k).length := by simp; omega
          have : (l.take k)[k - 1] = l.getD (k - 1) (0, 0) := by simp [List.getD_eq_getElem?_getD, show k - 1 < l.length by omega]
          rw [← this]; exact List.getElem_mem h2
    · rw [ddL_keep' hh, List.mem_append, List.mem_singleton]
theorem ddL_ord {l : List Pt} (hs : ∀ i j, i < j → j < l.length → ltB (l.getD j (0, 0)) (l.getD i (0, 0)) = false) : ∀ k, k ≤ l.length → ordL (ddL l k)
  | 0, _ => List.Pairwise.nil
  | k + 1, h => by
    have ih := ddL_ord hs k (by omega)
    by_cases hh : k ≠ 0 ∧ l.getD k (0, 0) = l.getD (k - 1) (0, 0)
    · rw [ddL_skip hh.1 hh.2]; exact ih
    · rw [ddL_keep' hh]
      unfold ordL at ih ⊢
      rw [List.pairwise_append]
      refine ⟨ih, List.pairwise_singleton _ _, ?_⟩
      intro x hx y hy
      rw [List.mem_singleton] at hy
      subst hy
      rw [ddL_mem l k (by omega)] at hx
      obtain ⟨i, hi, hil, rfl⟩ := mem_takeD hx
      have hk0 : k ≠ 0 := by omega
      have hkk : l.getD k (0, 0) ≠ l.getD (k - 1) (0, 0) := fun e => hh ⟨hk0, e⟩
      have h1 := ltB_tot (hs (k - 1) k (by omega) (by omega)) hkk
      by_cases e : i = k - 1
      · subst e; exact h1
      · have h2 := hs i (k - 1) (by omega) (by omega)
        by_cases e2 : l.getD i (0, 0) = l.getD (k - 1) (0, 0)
        · rw [e2]; exact h1
        · exact ltB_trans (ltB_tot h2 (fun e3 => e2 e3.symm)) h1
/-- The points of ps up to k, inserted one after another. -/
def Ins (ps : List Pt) (k : Nat) (L : List Pt) : Prop := ordL L ∧ ∀ x, x ∈ L ↔ x ∈ ps.take k
theorem Ins.zero (ps : List Pt) : Ins ps 0 [] := ⟨List.Pairwise.nil, fun x => by simp⟩
theorem Ins.skip {ps L : List Pt} {k : Nat} (h : Ins ps k L) (hk : k < ps.length) (hm : ps.getD k (0, 0) ∈ L) : Ins ps (k + 1) L := by
  refine ⟨h.1, fun x => ?_⟩
  rw [mem_take_succ hk, ← h.2 x]
  constructor
  · exact .inl
  · rintro (h1 | h1)
    · exact h1
    · rw [h1]; exact hm
theorem Ins.put {ps L : List Pt} {k a : Nat} (h : Ins ps k L) (hk : k < ps.length) (hm : ps.getD k (0, 0) ∉ L) (ha : a ≤ L.length) (h1 : ∀ i, i < a → ltB (L.getD i (0, 0)) (ps.getD k (0, 0)) = true) (h2 : a = L.length ∨ ltB (L.getD a (0, 0)) (ps.getD k (0, 0)) = false) : Ins ps (k + 1) (insAt L (ps.getD k (0, 0)) a) := by
  refine ⟨ord_ins h.1 hm ha h1 h2, fun x => ?_⟩
  rw [mem_take_succ hk, mem_insAt, h.2 x]
  constructor
  · rintro (e | e)
    · exact .inr e
    · exact .inl e
  · rintro (e | e)
    · exact .inr e
    · exact .inl e
/-- The sorted list: what both come to. -/
theorem ins_dd {ps L d : List Pt} (h : Ins ps ps.length L) (hs : ∀ i j, i < j → j < d.length → ltB (d.getD j (0, 0)) (d.getD i (0, 0)) = false) (hm : ∀ x, x ∈ d ↔ x ∈ ps) : L = ddL d d.length := by
  refine ord_unique _ _ h.1 (ddL_ord hs _ (Nat.le_refl _)) fun x => ?_
  rw [h.2 x, List.take_length, ddL_mem d _ (Nat.le_refl _), List.take_length, hm]
end Go.Proofs.Ytepamhdopmfkfaa
