/-
  When layers are a layering, said over groups (no walk).
-/
import Derived.Test.YtdoheipnfdbioaaDoorLaysO
namespace Go.Proofs.YtdoheipnfdbioaaDoor
set_option linter.unusedSimpArgs false
set_option linter.unusedVariables false
open Go.ChangeShapes Go.WideShapes Go.ChangeAt Go.RowKit

def fixP (F : List Int) (l : Int) (k : Nat) : Bool := decide (F.getD k 0 = l)
def oneP (X : List Int) (k : Nat) : Bool := decide (X.getD k 0 = 1)
theorem delB_iff {n : Nat} {p0 p1 a b c : Nat → Bool} : delB n p0 p1 a b c = false ↔ (∀ j, j < n → c j = true → p0 j = false) ∧ ∀ j, j < n → (a j || b j) = true → c j = false → p1 j = false := by
  unfold delB
  simp only [Bool.or_eq_false_iff, Bool.not_eq_false', decide_eq_true_eq]
  constructor
  · rintro ⟨h1, h2⟩
    refine ⟨fun j hj hc => by have := h1 j hj; rw [hc] at this; simpa using this, fun j hj ha hc => by have := h2 j hj; rw [ha, hc] at this; simpa using this⟩
  · rintro ⟨h1, h2⟩
    refine ⟨fun j hj => ?_, fun j hj => ?_⟩
    · cases hc : c j
      · rfl
      · rw [h1 j hj hc]; rfl
    · cases ha : (a j || b j)
      · rfl
      · cases hc : c j
        · rw [h2 j hj ha hc]; rfl
        · simp
theorem kept2_mem {v0 v1 : Nat} {d0 d1 : Bool} {x : Int} : x ∈ kept2 v0 v1 d0 d1 ↔ (d0 = false ∧ x = (v0 : Int)) ∨ (d1 = false ∧ x = (v1 : Int)) := by
  unfold kept2
  cases d0 <;> cases d1 <;> simp
theorem mem_lays {n : Nat} {A : Nat → Nat → Bool} (hA : Adj n A) {F : List Int} {L : Nat → Bool} {s : Nat} (hs : s < n) :
    (maskTo (fun k => L k && (evB A s k || odB A s k)) n : Int) ∈ laysL n (fixP F 0) (fixP F 1) (evB A s) (odB A s) ↔ groupOk F L A s := by
  have side : ∀ S : Nat → Bool, (∀ k, S k = true → cmpB A s k = true) → ((maskTo (fun k => L k && (evB A s k || odB A s k)) n : Int) = (maskTo S n : Int) ↔ ∀ k, cmpB A s k = true → L k = S k) := by
    intro S hS
    constructor
    · intro h k hk
      have h1 := mask_inj (show maskTo (fun k => L k && (evB A s k || odB A s k)) n = maskTo S n by omega) k (cmp_lt hA hs hk)
      rw [← cmp_or, hk, Bool.and_true] at h1
      exact h1
    · intro h
      rw [mask_congr (q := S) (fun k _ => ?_)]
      rw [← cmp_or]
      cases hc : cmpB A s k
      · cases hk : S k
        · simp
        · rw [hS k hk] at hc; cases hc
      · rw [h k hc]; simp
  have dl : ∀ S : Nat → Bool, (∀ k, S k = true → cmpB A s k = true) → (delB n (fixP F 0) (fixP F 1) (evB A s) (odB A s) S = false ↔ (∀ k, S k = true → ¬ F.getD k 0 = 0) ∧ ∀ k, cmpB A s k = true → S k = false → ¬ F.getD k 0 = 1) := by
    intro S hS
    rw [delB_iff]
    constructor
    · rintro ⟨h1, h2⟩
      exact ⟨fun k hk h0 => by have := h1 k (cmp_lt hA hs (hS k hk)) hk; unfold fixP at this; exact of_decide_eq_false this h0, fun k hk hk2 h0 => by
        have := h2 k (cmp_lt hA hs hk) (by rw [← cmp_or]; exact hk) hk2; unfold fixP at this; exact of_decide_eq_false this h0⟩
    · rintro ⟨h1, h2⟩
      exact ⟨fun k _ hk => decide_eq_false (h1 k hk), fun k _ hk hk2 => decide_eq_false (h2 k (by rw [cmp_or]; exact hk) hk2)⟩
  have hO : ∀ k, odB A s k = true → cmpB A s k = true := fun k h => by rw [cmp_or, h]; simp
  have hE : ∀ k, evB A s k = true → cmpB A s k = true := fun k h => by rw [cmp_or, h]; rfl
  unfold laysL groupOk sideOk
  by_cases hd : ∀ j, j < n → (evB A s j && odB A s j) = false
  · rw [if_pos hd, kept2_mem, side _ hO, side _ hE, dl _ hO, dl _ hE]
    constructor
    · intro h
      refine ⟨fun k ⟨h1, h2⟩ => (by have := hd k (evB_lt hA hs h1); rw [h1, h2] at this; cases this), ?_⟩
      rcases h with ⟨h1, h2⟩ | ⟨h1, h2⟩
      · exact .inl ⟨h2, h1.1, h1.2⟩
      · exact .inr ⟨h2, h1.1, h1.2⟩
    · rintro ⟨_, h⟩
      rcases h with ⟨h1, h2, h3⟩ | ⟨h1, h2, h3⟩
      · exact .inl ⟨⟨h2, h3⟩, h1⟩
      · exact .inr ⟨⟨h2, h3⟩, h1⟩
  · rw [if_neg hd]
    constructor
    · intro h; cases h
    · rintro ⟨h, _⟩
      exact (hd fun j _ => by
        cases h1 : evB A s j
        · rfl
        · cases h2 : odB A s j
          · rfl
          · exact (h j ⟨h1, h2⟩).elim).elim
theorem lay_iff {n : Nat} {C J : List (List Int)} {F X : List Int} (ok : WvOk n C J F) :
    layB n C F X = true ↔ X.length = n ∧ (∀ i, i < n → inB (X.getD i 0) 0 1 = true) ∧ layP F (oneP X) (adjT C C.length) n := by
  unfold layB layP
  simp only [Bool.and_eq_true, decide_eq_true_eq, okTo_iff]
  constructor
  · rintro ⟨h1, h2, h3⟩
    have hl : X.length = n := by omega
    have hin : ∀ i, i < n → inB (X.getD i 0) 0 1 = true := fun i hi => by
      have := h2 i (by omega)
      unfold lyFix at this
      rw [Bool.and_eq_true] at this
      exact this.1
    have hin' : ∀ i, i < n → X.getD i 0 = 0 ∨ X.getD i 0 = 1 := fun i hi => by
      have : 0 ≤ X.getD i 0 ∧ X.getD i 0 ≤ 1 := of_decide_eq_true (hin i hi)
      omega
    have cr : ∀ j, j < C.length → oneP X (cx C j) ≠ oneP X (cy C j) := fun j hj e => by
      have := h3 j hj
      obtain ⟨_, _, _, hlt, hn⟩ := ok.c2 j hj
      unfold lyCr at this
      have a := hin' (cx C j) (by omega)
      have b := hin' (cy C j) hn
      have e2 : X.getD (cx C j) 0 = 1 ↔ X.getD (cy C j) 0 = 1 := decide_eq_decide.1 e
      rw [Bool.not_eq_true'] at this
      have t2 := of_decide_eq_false this
      omega
    refine ⟨hl, hin, fun i k h e => ?_, fun i hi => ?_⟩
    · obtain ⟨j, hj, h⟩ := adjT_iff.1 h
      rcases h with ⟨rfl, rfl⟩ | ⟨rfl, rfl⟩
      · exact cr j hj e
      · exact cr j hj e.symm
    · have := h2 i (by omega)
      unfold lyFix at this
      rw [Bool.and_eq_true, Bool.or_eq_true, decide_eq_true_eq, decide_eq_true_eq] at this
      obtain ⟨_, h⟩ := this
      unfold oneP
      refine ⟨fun e => ?_, fun e => ?_⟩
      · exact decide_eq_false (by omega)
      · exact decide_eq_true (by omega)
  · rintro ⟨hl, hin, h1, h2⟩
    refine ⟨by omega, fun i hi => ?_, fun j hj => ?_⟩
    · unfold lyFix
      rw [hin i (by omega)]
      have hi' : 0 ≤ X.getD i 0 ∧ X.getD i 0 ≤ 1 := of_decide_eq_true (hin i (by omega))
      have hf := ok.fix i (by omega)
      obtain ⟨g0, g1⟩ := h2 i (by omega)
      unfold oneP at g0 g1
      rw [Bool.true_and, Bool.or_eq_true, decide_eq_true_eq, decide_eq_true_eq]
      by_cases e : F.getD i 0 = 0
      · have := of_decide_eq_false (g0 e); omega
      · by_cases e1 : F.getD i 0 = 1
        · have := of_decide_eq_true (g1 e1); omega
        · omega
    · have := h1 (cx C j) (cy C j) (adjT_iff.2 ⟨j, hj, .inl ⟨rfl, rfl⟩⟩)
      unfold lyCr
      rw [Bool.not_eq_true']
      refine decide_eq_false fun e => this ?_
      unfold oneP
      rw [e]
/-- The layers are a layering if they are as many, all 0 or 1, and each group has one of its layers. -/
theorem lay_leads {n : Nat} {C J : List (List Int)} {F X : List Int} (ok : WvOk n C J F) :
    layB n C F X = true ↔ X.length = n ∧ (∀ i, i < n → inB (X.getD i 0) 0 1 = true) ∧ ∀ s ∈ leads (adjT C C.length) n, (maskTo (fun k => oneP X k && (evB (adjT C C.length) s k || odB (adjT C C.length) s k)) n : Int) ∈ laysL n (fixP F 0) (fixP F 1) (evB (adjT C C.length) s) (odB (adjT C C.length) s) := by
  rw [lay_iff ok, lay_groups (adj_of ok)]
  have hml : ∀ s, s ∈ leads (adjT C C.length) n ↔ s < n ∧ leadB (adjT C C.length) s = true := fun s => by unfold leads; simp
  constructor
  · rintro ⟨h1, h2, h3⟩
    exact ⟨h1, h2, fun s hs => (mem_lays (adj_of ok) ((hml s).1 hs).1).2 (h3 s ((hml s).1 hs).1 ((hml s).1 hs).2)⟩
  · rintro ⟨h1, h2, h3⟩
    exact ⟨h1, h2, fun s hs hl => (mem_lays (adj_of ok) hs).1 (h3 s ((hml s).2 ⟨hs, hl⟩))⟩
end Go.Proofs.YtdoheipnfdbioaaDoor
