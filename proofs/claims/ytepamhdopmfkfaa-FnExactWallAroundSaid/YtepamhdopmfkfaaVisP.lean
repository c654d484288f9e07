/-
  What the program's visiting of cells holds (no walk).
-/
import Derived.Test.YtepamhdopmfkfaaReachI
import Derived.Test.YtepamhdopmfkfaaNbs
namespace Go.Proofs.Ytepamhdopmfkfaa
set_option linter.unusedSimpArgs false
set_option linter.unusedVariables false
open Go.ChangeShapes Go.WideShapes Go.ChangeAt Go.RowKit

/-- What a visit of a cell makes of the list of cells. -/
structure VPost (M : Mz) (l : List Pt) (p : Pt) (l' : List Pt) : Prop where
  sub : ∀ q ∈ l, q ∈ l'
  len : l.length ≤ l'.length
  reach : ∀ q ∈ l', q ∈ l ∨ (openB M p.1 p.2 = true ∧ Reach M p q)
  here : openB M p.1 p.2 = true → p ∈ l'
  closed : ∀ q ∈ l', q ∉ l → ∀ m, m < 4 → openB M (nb q m).1 (nb q m).2 = true → nb q m ∈ l'
  nodup : l'.Nodup
  opn : ∀ q ∈ l', openB M q.1 q.2 = true
/-- The same after the first k neighbours. -/
structure VInv (M : Mz) (l : List Pt) (p : Pt) (lk : List Pt) (k : Nat) : Prop where
  sub : ∀ q ∈ l, q ∈ lk
  len : l.length + 1 ≤ lk.length
  self : p ∈ lk
  reach : ∀ q ∈ lk, q ∈ l ∨ Reach M p q
  closed : ∀ q ∈ lk, q ∉ l → q ≠ p → ∀ m, m < 4 → openB M (nb q m).1 (nb q m).2 = true → nb q m ∈ lk
  here : ∀ m, m < k → openB M (nb p m).1 (nb p m).2 = true → nb p m ∈ lk
  nodup : lk.Nodup
  opn : ∀ q ∈ lk, openB M q.1 q.2 = true
theorem VPost.same {M : Mz} {l : List Pt} {p : Pt} (hn : l.Nodup) (ho : ∀ q ∈ l, openB M q.1 q.2 = true) (h : openB M p.1 p.2 = true → p ∈ l) : VPost M l p l :=
  ⟨fun _ h => h, Nat.le_refl _, fun _ h => .inl h, h, fun q hq hn => absurd hq hn, hn, ho⟩
theorem VInv.start {M : Mz} {l : List Pt} {p : Pt} (hn : l.Nodup) (ho : ∀ q ∈ l, openB M q.1 q.2 = true) (hp : p ∉ l) (hpo : openB M p.1 p.2 = true) : VInv M l p (l ++ [p]) 0 := by
  refine ⟨fun _ h => List.mem_append_left _ h, by simp, by simp, fun q hq => ?_, fun q hq hq' hne => ?_, fun m hm => by omega, ?_, fun q hq => ?_⟩
  · rcases List.mem_append.1 hq with h | h
    · exact .inl h
    · rw [List.mem_singleton.1 h]; exact .inr .refl
  · rcases List.mem_append.1 hq with h | h
    · exact absurd h hq'
    · exact absurd (List.mem_singleton.1 h) hne
  · rw [List.nodup_append]
    exact ⟨hn, by simp, fun a ha b hb e => hp (by rw [← List.mem_singleton.1 hb, ← e]; exact ha)⟩
  · rcases List.mem_append.1 hq with h | h
    · exact ho q h
    · rw [List.mem_singleton.1 h]; exact hpo
theorem VInv.step {M : Mz} {l lk l' : List Pt} {p : Pt} {k : Nat} (h : VInv M l p lk k) (hk : k < 4) (hv : VPost M lk (nb p k) l') : VInv M l p l' (k + 1) := by
  refine ⟨fun q hq => hv.sub q (h.sub q hq), Nat.le_trans h.len hv.len, hv.sub _ h.self, fun q hq => ?_, fun q hq hq' hne m hm ho => ?_, fun m hm ho => ?_, hv.nodup, hv.opn⟩
  · rcases hv.reach q hq with h1 | ⟨h1, h2⟩
    · exact h.reach q h1
    · exact .inr ((Reach.step .refl hk h1).trans h2)
  · by_cases hlk : q ∈ lk
    · exact hv.sub _ (h.closed q hlk hq' hne m hm ho)
    · exact hv.closed q hq hlk m hm ho
  · by_cases e : m = k
    · subst e; exact hv.here ho
    · exact hv.sub _ (h.here m (by omega) ho)
theorem VInv.end_ {M : Mz} {l lk : List Pt} {p : Pt} (hpo : openB M p.1 p.2 = true) (h : VInv M l p lk 4) : VPost M l p lk :=
  ⟨h.sub, by have := h.len; omega, fun q hq => (h.reach q hq).imp id (fun r => ⟨hpo, r⟩), fun _ => h.self, fun q hq hq' m hm ho => by
    by_cases e : q = p
    · subst e; exact h.here m hm ho
    · exact h.closed q hq hq' e m hm ho, h.nodup, h.opn⟩
/-- All that is reached, and nothing else. -/
theorem VPost.all {M : Mz} {p : Pt} {l' : List Pt} (hpo : openB M p.1 p.2 = true) (h : VPost M [] p l') (q : Pt) : q ∈ l' ↔ Reach M p q := by
  constructor
  · intro hq
    rcases h.reach q hq with h1 | h1
    · cases h1
    · exact h1.2
  · intro hr
    exact Reach.closed (S := fun q => q ∈ l') (h.here hpo) (fun q hq m hm ho => h.closed q hq (by simp) m hm ho) hr
/-- Open cells that differ are few. -/
theorem open_few {M : Mz} (h12 : M.length ≤ 12) (w12 : wid M ≤ 12) : ∀ {l : List Pt}, l.Nodup → (∀ q ∈ l, openB M q.1 q.2 = true) → l.length ≤ 144 := by
  intro l hn ho
  have key : ∀ l : List Pt, l.Nodup → (∀ q ∈ l, openB M q.1 q.2 = true) → ∃ f : Nat → Bool, cnt f (M.length * wid M) = l.length ∧ ∀ j, f j = true → ∃ x y : Nat, ((x : Int), (y : Int)) ∈ l ∧ x < wid M ∧ y < M.length ∧ idxN M x y = j := by
    intro l
    induction l with
    | nil =>
      intro _ _
      refine ⟨fun _ => false, ?_, fun j hj => by cases hj⟩
      have : ∀ n, cnt (fun _ => false) n = 0 := fun n => by
        induction n with
        | zero => rfl
        | succ n ih => simp [cnt, ih]
      rw [this]; rfl
    | cons q l ih =>
      intro hn ho
      obtain ⟨hq, hn'⟩ := List.nodup_cons.1 hn
      obtain ⟨f, hf, hj⟩ := ih hn' (fun q h => ho q (List.mem_cons_of_mem _ h))
      obtain ⟨x, y, hx, hy, hx', hy', _⟩ := openB_pt (ho q (by simp))
      have hqe : q = ((x : Int), (y : Int)) := Prod.ext hx hy
      have h0 : f (idxN M x y) = false := by
        cases hc : f (idxN M x y)
        · rfl
        · obtain ⟨x2, y2, hm, h2x, h2y, he⟩ := hj _ hc
          obtain ⟨rfl, rfl⟩ := idxN_inj h2x hx' he
          exact absurd (hqe ▸ hm) hq
      refine ⟨upd f (idxN M x y), by rw [cnt_upd h0 (idxN_lt hx' hy'), hf]; rfl, fun j hjt => ?_⟩
      unfold upd at hjt
      by_cases e : j = idxN M x y
      · exact ⟨x, y, by rw [← hqe]; simp, hx', hy', e.symm⟩
      · rw [if_neg e] at hjt
        obtain ⟨x2, y2, hm, h2x, h2y, he⟩ := hj j hjt
        exact ⟨x2, y2, List.mem_cons_of_mem _ hm, h2x, h2y, he⟩
  obtain ⟨f, hf, _⟩ := key l hn ho
  have h1 := cnt_le f (M.length * wid M)
  have h2 : M.length * wid M ≤ 12 * 12 := Nat.mul_le_mul h12 w12
  omega
end Go.Proofs.Ytepamhdopmfkfaa
