/-
  Groups of segments and their two sides, said over an adjacency; when layers are a layering (no walk).
-/
import Derived.Test.YtdoheipnfdbioaaDoorLayS
import Derived.Test.YtdoheipnfdbioaaDoorBitBlk
import Derived.Test.YtdoheipnfdbioaaDoorMaskB
namespace Go.Proofs.YtdoheipnfdbioaaDoor
set_option linter.unusedSimpArgs false
set_option linter.unusedVariables false
open Go.ChangeShapes Go.WideShapes Go.ChangeAt Go.RowKit

/-- Which segments cross, by the first m lists. -/
def adjT (C : List (List Int)) : Nat → Nat → Nat → Bool
  | 0 => fun _ _ => false
  | m + 1 => addB (addB (adjT C m) (cx C m) (cy C m)) (cy C m) (cx C m)
theorem adjT_succ (C : List (List Int)) (m : Nat) : adjT C (m + 1) = addB (addB (adjT C m) (cx C m) (cy C m)) (cy C m) (cx C m) := rfl
theorem adjT_iff {C : List (List Int)} {i k : Nat} : ∀ {m : Nat}, adjT C m i k = true ↔ ∃ j, j < m ∧ ((cx C j = i ∧ cy C j = k) ∨ (cy C j = i ∧ cx C j = k))
  | 0 => by simp [adjT]
  | m + 1 => by
    rw [adjT_succ]
    unfold addB
    simp only [Bool.or_eq_true, Bool.and_eq_true, decide_eq_true_eq, adjT_iff (m := m)]
    constructor
    · rintro ((⟨j, hj, h⟩ | ⟨h1, h2⟩) | ⟨h1, h2⟩)
      · exact ⟨j, by omega, h⟩
      · exact ⟨m, by omega, .inl ⟨h1.symm, h2.symm⟩⟩
      · exact ⟨m, by omega, .inr ⟨h1.symm, h2.symm⟩⟩
    · rintro ⟨j, hj, h⟩
      by_cases e : j = m
      · subst e
        rcases h with ⟨h1, h2⟩ | ⟨h1, h2⟩
        · exact .inl (.inr ⟨h1.symm, h2.symm⟩)
        · exact .inr ⟨h1.symm, h2.symm⟩
      · exact .inl (.inl ⟨j, by omega, h⟩)
/-- An adjacency of n segments. -/
structure Adj (n : Nat) (A : Nat → Nat → Bool) : Prop where
  sym : ∀ i k, A i k = true → A k i = true
  lt : ∀ i k, A i k = true → i < n ∧ k < n
theorem adj_of {n : Nat} {C J : List (List Int)} {F : List Int} (ok : WvOk n C J F) : Adj n (adjT C C.length) := by
  refine ⟨fun i k h => ?_, fun i k h => ?_⟩
  · obtain ⟨j, hj, h⟩ := adjT_iff.1 h
    exact adjT_iff.2 ⟨j, hj, h.elim (fun h => .inr ⟨h.2, h.1⟩) (fun h => .inl ⟨h.2, h.1⟩)⟩
  · obtain ⟨j, hj, h⟩ := adjT_iff.1 h
    obtain ⟨_, _, _, h1, h2⟩ := ok.c2 j hj
    rcases h with h | h <;> omega

section
open Classical
variable (A : Nat → Nat → Bool)
/-- Closed: what crosses one side lies on the other. -/
def Clo2 (s : Nat) (E O : Nat → Bool) : Prop := E s = true ∧ ∀ i k, A i k = true → (E i = true → O k = true) ∧ (O i = true → E k = true)
def Clo1 (s : Nat) (S : Nat → Bool) : Prop := S s = true ∧ ∀ i k, A i k = true → S i = true → S k = true
noncomputable def evB (s k : Nat) : Bool := decide (∀ E O, Clo2 A s E O → E k = true)
noncomputable def odB (s k : Nat) : Bool := decide (∀ E O, Clo2 A s E O → O k = true)
noncomputable def cmpB (s k : Nat) : Bool := decide (∀ S, Clo1 A s S → S k = true)
end
section
variable {n : Nat} {A : Nat → Nat → Bool}
theorem evB_iff {s k : Nat} : evB A s k = true ↔ ∀ E O, Clo2 A s E O → E k = true := by unfold evB; simp
theorem odB_iff {s k : Nat} : odB A s k = true ↔ ∀ E O, Clo2 A s E O → O k = true := by unfold odB; simp
theorem cmpB_iff {s k : Nat} : cmpB A s k = true ↔ ∀ S, Clo1 A s S → S k = true := by unfold cmpB; simp
theorem col_closed (s : Nat) : Clo2 A s (evB A s) (odB A s) :=
  ⟨evB_iff.2 fun _ _ h => h.1, fun i k h => ⟨fun hi => odB_iff.2 fun E O hc => (hc.2 i k h).1 (evB_iff.1 hi E O hc), fun hi => evB_iff.2 fun E O hc => (hc.2 i k h).2 (odB_iff.1 hi E O hc)⟩⟩
theorem cmp_closed (s : Nat) : Clo1 A s (cmpB A s) := ⟨cmpB_iff.2 fun _ h => h.1, fun i k h hi => cmpB_iff.2 fun S hc => hc.2 i k h (cmpB_iff.1 hi S hc)⟩
theorem cmp_or (s k : Nat) : cmpB A s k = (evB A s k || odB A s k) := by
  rw [Bool.eq_iff_iff, Bool.or_eq_true]
  constructor
  · intro h
    have := cmpB_iff.1 h (fun x => evB A s x || odB A s x) ⟨by show (evB A s s || odB A s s) = true; rw [(col_closed (A := A) s).1]; rfl, fun i k h hi => by
      rw [Bool.or_eq_true] at hi ⊢
      exact hi.elim (fun hi => .inr (((col_closed s).2 i k h).1 hi)) (fun hi => .inl (((col_closed s).2 i k h).2 hi))⟩
    simpa using this
  · intro h
    rw [cmpB_iff]
    intro S hc
    have h2 : Clo2 A s S S := ⟨hc.1, fun i k h => ⟨hc.2 i k h, hc.2 i k h⟩⟩
    exact h.elim (fun h => evB_iff.1 h S S h2) (fun h => odB_iff.1 h S S h2)
theorem cmp_refl (s : Nat) : cmpB A s s = true := (cmp_closed s).1
theorem cmp_trans {a b c : Nat} (h : cmpB A a b = true) (h2 : cmpB A b c = true) : cmpB A a c = true :=
  cmpB_iff.2 fun S hc => cmpB_iff.1 h2 S ⟨cmpB_iff.1 h S hc, hc.2⟩
theorem cmp_sym (hA : Adj n A) {a b : Nat} (h : cmpB A a b = true) : cmpB A b a = true :=
  cmpB_iff.1 h (fun x => cmpB A x a) ⟨cmp_refl a, fun i k hik hi => cmp_trans ((cmp_closed k).2 k i (hA.sym i k hik) (cmp_refl k)) hi⟩
theorem cmp_lt (hA : Adj n A) {s k : Nat} (hs : s < n) (h : cmpB A s k = true) : k < n := by
  have := cmpB_iff.1 h (fun x => decide (x < n)) ⟨by simpa using hs, fun i k hik _ => by simpa using (hA.lt i k hik).2⟩
  simpa using this
theorem evB_lt (hA : Adj n A) {s k : Nat} (hs : s < n) (h : evB A s k = true) : k < n := cmp_lt hA hs (by rw [cmp_or, h]; rfl)
theorem odB_lt (hA : Adj n A) {s k : Nat} (hs : s < n) (h : odB A s k = true) : k < n := cmp_lt hA hs (by rw [cmp_or, h]; simp)
/-- No earlier segment is in its group. -/
noncomputable def leadB (A : Nat → Nat → Bool) (s : Nat) : Bool := (List.range s).all fun j => !cmpB A j s
theorem leadB_iff {s : Nat} : leadB A s = true ↔ ∀ j, j < s → cmpB A j s = false := by simp [leadB]
theorem lead_exists (i : Nat) : ∃ s, s ≤ i ∧ leadB A s = true ∧ cmpB A s i = true := by
  induction i using Nat.strongRecOn with
  | _ i ih =>
    cases h : leadB A i
    · have : ∃ j, j < i ∧ cmpB A j i = true := by
        apply Classical.byContradiction
        intro hn
        have : leadB A i = true := leadB_iff.2 fun j hj => by
          cases e : cmpB A j i
          · rfl
          · exact (hn ⟨j, hj, e⟩).elim
        rw [h] at this; cases this
      obtain ⟨j, hj, hc⟩ := this
      obtain ⟨s, h1, h2, h3⟩ := ih j hj
      exact ⟨s, by omega, h2, cmp_trans h3 hc⟩
    · exact ⟨i, Nat.le_refl _, h, cmp_refl i⟩

/-- Do layers L keep, in the group of s, what crosses and what is fixed? -/
def sideOk (F : List Int) (L side : Nat → Bool) (A : Nat → Nat → Bool) (s : Nat) : Prop :=
  (∀ k, cmpB A s k = true → L k = side k) ∧ (∀ k, side k = true → ¬ F.getD k 0 = 0) ∧ ∀ k, cmpB A s k = true → side k = false → ¬ F.getD k 0 = 1
def groupOk (F : List Int) (L : Nat → Bool) (A : Nat → Nat → Bool) (s : Nat) : Prop :=
  (∀ k, ¬ (evB A s k = true ∧ odB A s k = true)) ∧ (sideOk F L (odB A s) A s ∨ sideOk F L (evB A s) A s)
/-- Is L a layering, said over segments? -/
def layP (F : List Int) (L : Nat → Bool) (A : Nat → Nat → Bool) (n : Nat) : Prop :=
  (∀ i k, A i k = true → L i ≠ L k) ∧ ∀ i, i < n → (F.getD i 0 = 0 → L i = false) ∧ (F.getD i 0 = 1 → L i = true)
theorem lay_groups (hA : Adj n A) {F : List Int} {L : Nat → Bool} : layP F L A n ↔ ∀ s, s < n → leadB A s = true → groupOk F L A s := by
  constructor
  · rintro ⟨h1, h2⟩ s hs _
    have key : ∀ b : Bool, L s = b → (∀ k, evB A s k = true → L k = b) ∧ ∀ k, odB A s k = true → L k = !b := by
      intro b hb
      have hc : Clo2 A s (fun k => L k == b) (fun k => L k == !b) := ⟨by simpa using hb, fun i k hik => by
        have := h1 i k hik
        constructor <;> intro hi <;> simp at hi ⊢ <;> cases hLi : L i <;> cases hLk : L k <;> cases b <;> simp_all⟩
      exact ⟨fun k hk => by simpa using evB_iff.1 hk _ _ hc, fun k hk => by simpa using odB_iff.1 hk _ _ hc⟩
    obtain ⟨k1, k2⟩ := key (L s) rfl
    have dis : ∀ k, ¬ (evB A s k = true ∧ odB A s k = true) := fun k ⟨a, b⟩ => by
      have := k1 k a; have := k2 k b; cases h : L s <;> simp_all
    refine ⟨dis, ?_⟩
    cases hLs : L s
    · left
      rw [hLs] at k1 k2
      refine ⟨fun k hk => ?_, fun k hk h0 => ?_, fun k hk hk2 h0 => ?_⟩
      · rw [cmp_or, Bool.or_eq_true] at hk
        cases ho : odB A s k
        · rcases hk with h | h
          · exact k1 k h
          · rw [ho] at h; cases h
        · exact k2 k ho
      · have := k2 k hk
        rw [(h2 k (odB_lt hA hs hk)).1 h0] at this; cases this
      · rw [cmp_or, hk2, Bool.or_false] at hk
        have := k1 k hk
        rw [(h2 k (evB_lt hA hs hk)).2 h0] at this; cases this
    · right
      rw [hLs] at k1 k2
      refine ⟨fun k hk => ?_, fun k hk h0 => ?_, fun k hk hk2 h0 => ?_⟩
      · rw [cmp_or, Bool.or_eq_true] at hk
        cases he : evB A s k
        · rcases hk with h | h
          · rw [he] at h; cases h
          · exact k2 k h
        · exact k1 k he
      · have := k1 k hk
        rw [(h2 k (evB_lt hA hs hk)).1 h0] at this; cases this
      · rw [cmp_or, hk2, Bool.false_or] at hk
        have := k2 k hk
        rw [(h2 k (odB_lt hA hs hk)).2 h0] at this; cases this
  · intro h
    refine ⟨fun i k hik => ?_, fun i hi => ?_⟩
    · obtain ⟨s, h1, h2, h3⟩ := lead_exists (A := A) i
      have hlt := hA.lt i k hik
      obtain ⟨hd, hs⟩ := h s (by omega) h2
      have hk := (cmp_closed s).2 i k hik h3
      have hcl := (col_closed (A := A) s).2 i k hik
      have di := hd i
      have dk := hd k
      rcases hs with ⟨hs, _⟩ | ⟨hs, _⟩
      · rw [hs i h3, hs k hk]
        rw [cmp_or, Bool.or_eq_true] at h3
        rcases h3 with h3 | h3
        · rw [hcl.1 h3]
          cases e : odB A s i
          · simp
          · exact (di ⟨h3, e⟩).elim
        · rw [h3]
          cases e : odB A s k
          · simp
          · exact (dk ⟨hcl.2 h3, e⟩).elim
      · rw [hs i h3, hs k hk]
        rw [cmp_or, Bool.or_eq_true] at h3
        rcases h3 with h3 | h3
        · rw [h3]
          cases e : evB A s k
          · simp
          · exact (dk ⟨e, hcl.1 h3⟩).elim
        · rw [hcl.2 h3]
          cases e : evB A s i
          · simp
          · exact (di ⟨e, h3⟩).elim
    · obtain ⟨s, h1, h2, h3⟩ := lead_exists (A := A) i
      obtain ⟨hd, hs⟩ := h s (by omega) h2
      rcases hs with ⟨hs, f0, f1⟩ | ⟨hs, f0, f1⟩
      · refine ⟨fun e => ?_, fun e => ?_⟩
        · rw [hs i h3]; exact Bool.eq_false_iff.2 (fun hh => f0 i hh e)
        · rw [hs i h3]
          cases hh : odB A s i
          · exact (f1 i h3 hh e).elim
          · rfl
      · refine ⟨fun e => ?_, fun e => ?_⟩
        · rw [hs i h3]; exact Bool.eq_false_iff.2 (fun hh => f0 i hh e)
        · rw [hs i h3]
          cases hh : evB A s i
          · exact (f1 i h3 hh e).elim
          · rfl
end
end Go.Proofs.YtdoheipnfdbioaaDoor
