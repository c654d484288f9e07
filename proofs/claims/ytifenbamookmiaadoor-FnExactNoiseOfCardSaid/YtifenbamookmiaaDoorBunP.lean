/-
  Bundles, orders and layouts: what is valid, said over lists (no walk).
-/
import Derived.Test.YtifenbamookmiaaDoorMazeP
namespace Go.Proofs.YtifenbamookmiaaDoor
set_option linter.unusedSimpArgs false
set_option linter.unusedVariables false
open Go.ChangeShapes Go.WideShapes Go.ChangeAt Go.RowKit

theorem int_ne {m n : Nat} (h : ¬ m = n) : ((m : Int) != (n : Int)) = true := bne_iff_ne.2 (by omega)
theorem int_eq {m n : Nat} (h : m = n) : ((m : Int) != (n : Int)) = false := by subst h; exact bne_self_eq_false _
theorem nat_ne {m n : Nat} (h : ¬ m = n) : (m != n) = true := bne_iff_ne.2 h
theorem nat_eq {m n : Nat} (h : m = n) : (m != n) = false := by subst h; exact bne_self_eq_false _
/-- The weight of two wires. -/
def wtI (B : Mz) (i k : Nat) : Int := (B.getD i []).getD k 0
def lenB (B : Mz) (i : Nat) : Bool := decide ((B.getD i []).length = B.length)
def cellB (B : Mz) (i k : Nat) : Bool := inB (wtI B i k) 0 1000 && (decide (wtI B i k = wtI B k i) && decide (wtI B i i = 0))
def cellsB (B : Mz) (i : Nat) : Bool := okTo (cellB B i) B.length
/-- Is a bundle valid? -/
def bnB (B : Mz) : Bool := inB (B.length : Int) 1 9 && (okTo (lenB B) B.length && okTo (cellsB B) B.length)
structure BnOk (B : Mz) : Prop where
  h1 : 1 ≤ B.length
  h9 : B.length ≤ 9
  row : ∀ i, i < B.length → (B.getD i []).length = B.length
  w0 : ∀ i k, i < B.length → k < B.length → 0 ≤ wtI B i k ∧ wtI B i k ≤ 1000
  sym : ∀ i k, i < B.length → k < B.length → wtI B i k = wtI B k i
  diag : ∀ i, i < B.length → wtI B i i = 0
theorem bnB_iff {B : Mz} : bnB B = true ↔ BnOk B := by
  simp only [bnB, Bool.and_eq_true, okTo_iff, lenB, cellB, cellsB, decide_eq_true_eq, inB]
  constructor
  · rintro ⟨⟨h1, h9⟩, hr, hc⟩
    exact ⟨by omega, by omega, hr, fun i k hi hk => (hc i hi k hk).1, fun i k hi hk => (hc i hi k hk).2.1, fun i hi => (hc i hi i hi).2.2⟩
  · intro h
    have h1 := h.h1; have h9 := h.h9
    exact ⟨⟨by omega, by omega⟩, h.row, fun i hi k hk => ⟨h.w0 i k hi hk, h.sym i k hi hk, h.diag i hi⟩⟩
def wtB (R : List Int) (x : Nat) : Bool := inB (R.getD x 0) 0 1000
def wtsB (R : List Int) : Bool := okTo (wtB R) R.length
theorem bnB_f {B : Mz} (h : ¬ BnOk B) : bnB B = false := Bool.eq_false_iff.2 fun e => h (bnB_iff.1 e)
theorem wtI_held (Ls : List SlI) (i k : Nat) : wtI (heldI Ls) i k = (Ls.getD i si0).2.1.getD k 0 := by unfold wtI; rw [heldI_at]

/-- A map of the first m numbers to different ones of the first n. -/
theorem pigeon : ∀ (n m : Nat) (f : Nat → Nat), (∀ i, i < m → f i < n) → (∀ i k, i < k → k < m → f i ≠ f k) → m ≤ n := by
  intro n
  induction n with
  | zero =>
    intro m f h _
    rcases Nat.eq_zero_or_pos m with h0 | h0
    · omega
    · have := h 0 h0; omega
  | succ n ih =>
    intro m f h hd
    by_cases hx : ∃ i0, i0 < m ∧ f i0 = n
    · obtain ⟨i0, hi0, he⟩ := hx
      have := ih (m - 1) (fun i => f (if i < i0 then i else i + 1)) (fun i hi => by
        have h1 := h (if i < i0 then i else i + 1) (by split <;> omega)
        have h2 : f (if i < i0 then i else i + 1) ≠ n := by
          split
          · have := hd i i0 (by assumption) hi0; omega
          · have := hd i0 (i + 1) (by omega) (by omega); omega
        show f _ < n
        omega) (fun i k hik hk => by
          show f _ ≠ f _
          split
          · split
            · exact hd i k hik (by omega)
            · exact hd i (k + 1) (by omega) (by omega)
          · split
            · omega
            · exact hd (i + 1) (k + 1) (by omega) (by omega))
      omega
    · have := ih m f (fun i hi => by
        have h1 := h i hi
        have h2 : f i ≠ n := fun e => hx ⟨i, hi, e⟩
        omega) hd
      omega
/-- .. each of which is reached, if there are as many. -/
theorem pigeon_all {n : Nat} {f : Nat → Nat} (h : ∀ i, i < n → f i < n) (hd : ∀ i k, i < k → k < n → f i ≠ f k) (j : Nat) (hj : j < n) : ∃ i, i < n ∧ f i = j := by
  by_cases hx : ∃ i, i < n ∧ f i = j
  · exact hx
  · have := pigeon (n - 1) n (fun i => if j < f i then f i - 1 else f i) (fun i hi => by
      have h1 := h i hi
      have h2 : f i ≠ j := fun e => hx ⟨i, hi, e⟩
      show (if j < f i then f i - 1 else f i) < n - 1
      split <;> omega) (fun i k hik hk => by
        have h1 := hd i k hik hk
        have h2 : f i ≠ j := fun e => hx ⟨i, by omega, e⟩
        have h3 : f k ≠ j := fun e => hx ⟨k, hk, e⟩
        show (if j < f i then f i - 1 else f i) ≠ (if j < f k then f k - 1 else f k)
        split <;> split <;> omega)
    omega

/-- Is x none of the first i? -/
def newB (L : List Int) (i : Nat) (x : Int) : Bool := okTo (fun t => decide (L.getD t 0 ≠ x)) i
theorem newB_iff {L : List Int} {i : Nat} {x : Int} : newB L i x = true ↔ ∀ t, t < i → L.getD t 0 ≠ x := by simp [newB, okTo_iff]
theorem newB_next (L : List Int) (i : Nat) (x : Int) : newB L (i + 1) x = (newB L i x && decide (L.getD i 0 ≠ x)) := rfl
/-- One step of an order of n wires. -/
def stepB (n : Nat) (L : List Int) (i : Nat) : Bool := inB (L.getD i 0) 0 ((n : Int) - 1) && newB L i (L.getD i 0)
/-- Is this an order of n wires? -/
def orB (n : Nat) (L : List Int) : Bool := decide (L.length = n) && okTo (stepB n L) n
structure OrOk (n : Nat) (L : List Int) : Prop where
  len : L.length = n
  rng : ∀ i, i < n → 0 ≤ L.getD i 0 ∧ L.getD i 0 < n
  dis : ∀ i k, i < k → k < n → L.getD i 0 ≠ L.getD k 0
theorem steps_iff {n m : Nat} {L : List Int} : okTo (stepB n L) m = true ↔ (∀ i, i < m → 0 ≤ L.getD i 0 ∧ L.getD i 0 < n) ∧ ∀ i k, i < k → k < m → L.getD i 0 ≠ L.getD k 0 := by
  simp only [okTo_iff, stepB, Bool.and_eq_true, inB, decide_eq_true_eq, newB_iff]
  constructor
  · intro h
    exact ⟨fun i hi => by have := (h i hi).1; omega, fun i k hik hk => (h k hk).2 i hik⟩
  · intro h i hi
    exact ⟨by have := h.1 i hi; omega, fun t ht => h.2 t i ht hi⟩
theorem orB_iff {n : Nat} {L : List Int} : orB n L = true ↔ OrOk n L := by
  unfold orB
  rw [Bool.and_eq_true, decide_eq_true_eq, steps_iff]
  exact ⟨fun ⟨a, b, c⟩ => ⟨a, b, c⟩, fun h => ⟨h.len, h.rng, h.dis⟩⟩
theorem orB_f {n : Nat} {L : List Int} (h : ¬ OrOk n L) : orB n L = false := Bool.eq_false_iff.2 fun e => h (orB_iff.1 e)
theorem orB_len {n : Nat} {L : List Int} (h : ¬ L.length = n) : orB n L = false := orB_f fun o => h o.len
theorem steps_len {n m : Nat} {L : List Int} (h : okTo (stepB n L) m = true) : m ≤ n := by
  obtain ⟨h1, h2⟩ := steps_iff.1 h
  exact pigeon n m (fun i => (L.getD i 0).toNat) (fun i hi => by have := h1 i hi; omega) (fun i k hik hk => by
    have := h2 i k hik hk
    have a := h1 i (by omega)
    have b := h1 k hk
    show (L.getD i 0).toNat ≠ (L.getD k 0).toNat
    omega)
/-- Each wire is among those of an order. -/
theorem OrOk.all {n : Nat} {L : List Int} (h : OrOk n L) (j : Nat) (hj : j < n) : ∃ i, i < n ∧ L.getD i 0 = (j : Int) := by
  obtain ⟨i, hi, e⟩ := pigeon_all (f := fun i => (L.getD i 0).toNat) (fun i hi => by have := h.rng i hi; omega) (fun i k hik hk => by
    have := h.dis i k hik hk
    have a := h.rng i (by omega)
    have b := h.rng k hk
    show (L.getD i 0).toNat ≠ (L.getD k 0).toNat
    omega) j hj
  have e : (L.getD i 0).toNat = j := e
  exact ⟨i, hi, by have := h.rng i hi; omega⟩
/-- The wires that are left after the first i of an order. -/
def leftP (L : List Int) (i j : Nat) : Bool := newB L i (j : Int)
/-- The program's way: each is left, and none is left behind the last one. -/
theorem orB_left {n : Nat} {L : List Int} (h : okTo (stepB n L) L.length = true) : orB n L = decide (∀ j, j < n → leftP L L.length j = false) := by
  obtain ⟨h1, h2⟩ := steps_iff.1 h
  have hl := steps_len h
  by_cases hx : ∀ j, j < n → leftP L L.length j = false
  · rw [decide_eq_true hx, orB_iff]
    have hn : n ≤ L.length := by
      have hy : ∀ j, ∃ i, j < n → i < L.length ∧ L.getD i 0 = (j : Int) := fun j => by
        by_cases hj : j < n
        · have := hx j hj
          by_cases he : ∃ i, i < L.length ∧ L.getD i 0 = (j : Int)
          · obtain ⟨i, hi⟩ := he; exact ⟨i, fun _ => hi⟩
          · have : leftP L L.length j = true := newB_iff.2 fun t ht e => he ⟨t, ht, e⟩
            rw [hx j hj] at this; cases this
        · exact ⟨0, fun h => absurd h hj⟩
      let f : Nat → Nat := fun j => Classical.choose (hy j)
      have hf : ∀ j, j < n → f j < L.length ∧ L.getD (f j) 0 = (j : Int) := fun j => Classical.choose_spec (hy j)
      exact pigeon L.length n f (fun j hj => (hf j hj).1) (fun i k hik hk e => by
        have a := (hf i (by omega)).2
        have b := (hf k hk).2
        rw [e] at a
        omega)
    have e : L.length = n := by omega
    exact ⟨e, fun i hi => h1 i (by omega), fun i k hik hk => h2 i k hik (by omega)⟩
  · rw [decide_eq_false hx]
    refine orB_f fun o => hx fun j hj => ?_
    obtain ⟨i, hi, e⟩ := o.all j hj
    have hl := o.len
    cases hq : leftP L L.length j
    · rfl
    · exact absurd e (newB_iff.1 hq i (by omega))
theorem orB_step {n k : Nat} {L : List Int} (hk : k < L.length) (h : stepB n L k = false) : orB n L = false := by
  by_cases hl : L.length = n
  · unfold orB; rw [okTo_bad (by omega) h]; simp
  · exact orB_len hl

/-- Shields, one after another. -/
def shdB (n : Nat) (S : List Int) (i : Nat) : Bool := inB (S.getD i 0) 1 ((n : Int) - 1) && okTo (fun t => decide (S.getD t 0 < S.getD i 0)) i
def shB (n : Nat) (S : List Int) : Bool := okTo (shdB n S) S.length
/-- Is this a layout? -/
def loB (B : Mz) (L S : List Int) : Bool := bnB B && (orB B.length L && shB B.length S)
/-- The coupling at a place k from 1 on. -/
def cplAt (B : Mz) (L S : List Int) (k : Nat) : Int := if S.contains (k : Int) then 0 else wtI B (L.getD (k - 1) 0).toNat (L.getD k 0).toNat
/-- .. of the places below k. -/
def cplTo (B : Mz) (L S : List Int) : Nat → Int
  | 0 => 0
  | 1 => 0
  | k + 2 => cplTo B L S (k + 1) + cplAt B L S (k + 1)
end Go.Proofs.YtifenbamookmiaaDoor
