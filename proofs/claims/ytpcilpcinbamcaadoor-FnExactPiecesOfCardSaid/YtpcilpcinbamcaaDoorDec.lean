/-
  Contracts: the model's decimal text.
-/
import Derived.Test.YtpcilpcinbamcaaDoorNums
import Derived.OwnWalk
import Derived.Laws.OwnMore
import Derived.Laws.IdiomStrings
import Derived.Lib.ItoaNum
namespace Go.Proofs.YtpcilpcinbamcaaDoor
set_option linter.unusedSimpArgs false
set_option linter.unusedVariables false
open Go.ChangeShapes Go.WideShapes Go.ChangeAt Go.RowKit

/-- The cells of bytes. -/
def cellsB (l : List Int) : List Value := l.map fun n => .int .u8 n
theorem cellsB_snoc (l : List Int) (n : Int) : cellsB (l ++ [n]) = cellsB l ++ [.int .u8 n] := by simp [cellsB]
theorem cellsB_at {l : List Int} {i : Nat} (h : i < l.length) : (cellsB l)[i]? = some (.int .u8 (l.getD i 0)) := by
  simp [cellsB, List.getD_eq_getElem?_getD, h]
/-- A slice of the call's own holds the bytes L. -/
def OwnB (w : World) (base : Nat) (v : Value) (L : List Int) : Prop := w.ownsRow base 5 1 v L.length (cellsB L)
theorem OwnB.empty (w : World) (base : Nat) (hB : base ≤ w.heap.size) : OwnB (w.alloc (.cells #[] 5)) base (.slice (some ⟨w.heap.size, 0, none⟩) 0 0) [] :=
  ⟨rfl, .inr ⟨w.heap.size, 0, #[], rfl, hB, heap_alloc_new w _, Nat.le_refl _, Nat.zero_le _, rfl, rfl⟩⟩
theorem OwnB.form {w : World} {B : Nat} {v : Value} {L : List Int} (h : OwnB w B v L) : ∃ A c, v = .slice A L.length c ∧ L.length ≤ c := by
  rcases h.2 with ⟨rfl, h0⟩ | ⟨g, cap, cur, rfl, hB, hh, hn, _⟩
  · exact ⟨none, 0, by rw [h0], by omega⟩
  · exact ⟨_, _, rfl, hn⟩
theorem infoB : (Tryd.prog.info? 5).map (fun i => (i.zero, i.size, i.bytes)) = some (some (.int .u8 0), 1, 1) := by kernel_rfl
/-- The digits of u, as bytes' numbers. -/
def digs (u : Nat) : List Int := (Lib.decDigits u).map fun b => (b.toNat : Int)
theorem digs_small {u : Nat} (h : u < 10) : digs u = [((48 + u : Nat) : Int)] := by
  unfold digs
  rw [Lib.decDigits, dif_pos h]
  simp [UInt8.toNat_ofNat']
  omega
theorem digs_big {u : Nat} (h : ¬ u < 10) : digs u = digs (u / 10) ++ [((48 + u % 10 : Nat) : Int)] := by
  unfold digs
  rw [Lib.decDigits, dif_neg h, List.map_append]
  simp [UInt8.toNat_ofNat']
  omega
/-- So far D has been written, from the last digit on; u is left of m. -/
def DecTo (m : Nat) (D : List Int) (u : Nat) : Prop := u = m / 10 ^ D.length ∧ ((D = [] ∧ u = m) ∨ (D ≠ [] ∧ digs m = (if u = 0 then [] else digs u) ++ D.reverse))
theorem DecTo.step {m u : Nat} {D : List Int} (h : DecTo m D u) (hu : D = [] ∨ u ≠ 0) : DecTo m (D ++ [((48 + u % 10 : Nat) : Int)]) (u / 10) := by
  obtain ⟨h0, h1⟩ := h
  refine ⟨?_, .inr ⟨by simp, ?_⟩⟩
  · rw [h0, Nat.div_div_eq_div_mul, List.length_append]; simp [Nat.pow_succ]
  · rw [List.reverse_append]
    simp only [List.reverse_cons, List.reverse_nil, List.nil_append, List.singleton_append]
    have key : digs u = (if u / 10 = 0 then [] else digs (u / 10)) ++ [((48 + u % 10 : Nat) : Int)] := by
      by_cases h10 : u < 10
      · rw [digs_small h10, if_pos (by omega), show u % 10 = u by omega]; rfl
      · rw [digs_big h10, if_neg (by omega)]
    rcases h1 with ⟨hD, hm⟩ | ⟨hD, hm⟩
    · subst hD; subst hm; simpa using key
    · have hu0 : u ≠ 0 := by rcases hu with h | h
                             · exact absurd h hD
                             · exact h
      rw [hm, if_neg hu0, key]; simp
theorem DecTo.len {m u : Nat} {D : List Int} (h : DecTo m D u) (hu : D = [] ∨ u ≠ 0) (hm : m < 10 ^ 20) : D.length ≤ 20 := by
  rcases hu with hD | hu
  · rw [hD]; simp
  · rcases Nat.lt_or_ge 20 D.length with hk | hk
    · exfalso
      have : 10 ^ 20 ≤ 10 ^ D.length := Nat.pow_le_pow_right (by omega) (by omega)
      exact hu (by rw [h.1]; exact Nat.div_eq_of_lt (by omega))
    · exact hk
def lenB : Value → Nat
  | .slice _ n _ => n
  | _ => 0
def mes (v r : Value) : Nat := 2 * (intOf r).natAbs + (1 - lenB v)

theorem digs_len {u : Nat} (h : u < 10 ^ 20) : (digs u).length ≤ 20 := by
  have key : ∀ (k u : Nat), u < 10 ^ (k + 1) → (digs u).length ≤ k + 1 := by
    intro k
    induction k with
    | zero => intro u hu; rw [digs_small (by simpa using hu)]; simp
    | succ k ih =>
      intro u hu
      by_cases h10 : u < 10
      · rw [digs_small h10]; simp
      · rw [digs_big h10, List.length_append]
        have : u / 10 < 10 ^ (k + 1) := by rw [Nat.div_lt_iff_lt_mul (by omega), ← Nat.pow_succ]; exact hu
        have := ih (u / 10) this
        simp; omega
  exact key 19 u h
/-- A list whose first j items have changed places with its last j ones. -/
def revTo (L : List Int) (j : Nat) : List Int := (List.range L.length).map fun i => if i < j ∨ L.length ≤ i + j then L.getD (L.length - 1 - i) 0 else L.getD i 0
theorem revTo_len (L : List Int) (j : Nat) : (revTo L j).length = L.length := by simp [revTo]
theorem revTo_at {L : List Int} {j i : Nat} (h : i < L.length) : (revTo L j).getD i 0 = if i < j ∨ L.length ≤ i + j then L.getD (L.length - 1 - i) 0 else L.getD i 0 := by
  simp [revTo, List.getD_eq_getElem?_getD, h]
theorem ext_getD {l m : List Int} (hl : l.length = m.length) (h : ∀ i, i < l.length → l.getD i 0 = m.getD i 0) : l = m := by
  apply List.ext_getElem hl
  intro i h1 h2
  have := h i h1
  simpa [List.getD_eq_getElem?_getD, h1, h2] using this
theorem revTo_zero (L : List Int) : revTo L 0 = L := ext_getD (revTo_len L 0) fun i hi => by
  rw [revTo_len] at hi
  rw [revTo_at hi, if_neg (by omega)]
theorem set_getD {L : List Int} {k i : Nat} {x : Int} (hi : i < L.length) : (L.set k x).getD i 0 = if i = k then x else L.getD i 0 := by
  by_cases e : i = k
  · subst e; simp [List.getD_eq_getElem?_getD, hi]
  · rw [if_neg e]; simp [List.getD_eq_getElem?_getD, List.getElem?_set_ne (fun h => e h.symm)]
theorem revTo_next {L : List Int} {j : Nat} (h : 2 * j + 1 < L.length) : revTo L (j + 1) = ((revTo L j).set j ((revTo L j).getD (L.length - 1 - j) 0)).set (L.length - 1 - j) ((revTo L j).getD j 0) := by
  refine ext_getD (by simp [revTo_len]) fun i hi => ?_
  rw [revTo_len] at hi
  rw [set_getD (by simp [revTo_len]; exact hi), set_getD (by rw [revTo_len]; exact hi), revTo_at hi, revTo_at hi, revTo_at (by omega), revTo_at (by omega)]
  by_cases e1 : i = L.length - 1 - j
  · rw [if_pos e1, if_neg (by omega : ¬ (j < j ∨ L.length ≤ j + j)), if_pos (by omega)]
    rw [show L.length - 1 - i = j by omega]
  · rw [if_neg e1]
    by_cases e2 : i = j
    · rw [if_pos e2, if_pos (by omega), if_neg (by omega), e2]
    · rw [if_neg e2]
      by_cases e3 : i < j ∨ L.length ≤ i + j
      · rw [if_pos e3, if_pos (by omega)]
      · rw [if_neg e3, if_neg (by omega)]
theorem revTo_end {L : List Int} {j : Nat} (h : L.length ≤ 2 * j + 1) : revTo L j = L.reverse := by
  refine ext_getD (by simp [revTo_len]) fun i hi => ?_
  rw [revTo_len] at hi
  have e : L.reverse.getD i 0 = L.getD (L.length - 1 - i) 0 := by
    simp [List.getD_eq_getElem?_getD, List.getElem?_reverse hi]
  rw [revTo_at hi, e]
  split
  · rfl
  · rw [show L.length - 1 - i = i by omega]

theorem OwnB.block {w : World} {B : Nat} {v : Value} {L : List Int} (h : OwnB w B v L) (h0 : 0 < L.length) : ∃ g c, v = .slice (some ⟨g, 0, none⟩) L.length c ∧ B ≤ g := by
  rcases h.2 with ⟨rfl, hz⟩ | ⟨g, cap, cur, rfl, hB, _⟩
  · omega
  · exact ⟨g, cap, rfl, hB⟩
theorem OwnB.cellAt {w : World} {B g n c : Nat} {L : List Int} (h : OwnB w B (.slice (some ⟨g, 0, none⟩) n c) L) {i : Nat} (hi : i < L.length) : w.cell? ⟨g, i, none⟩ = some (.int .u8 (L.getD i 0)) ∧ w.frozen? ⟨g, i, none⟩ = false := by
  rcases h.2 with ⟨e, _⟩ | ⟨g', cap, cur, e, hB, hh, hn, _, hs, ht⟩
  · cases e
  · cases e
    refine ⟨?_, by simp [World.frozen?, hh]⟩
    rw [cell_of_row w g _ cur _ _ hh]
    have : cur[i]? = (cellsB L)[i]? := by
      rw [← ht, List.getElem?_take, if_pos (by omega), Array.getElem?_toList]
    rw [this]; exact cellsB_at hi
theorem cellsB_set (L : List Int) (i : Nat) (x : Int) : cellsB (L.set i x) = (cellsB L).set i (.int .u8 x) := by
  simp [cellsB, List.map_set]
theorem OwnB.set_ {w : World} {B g n c : Nat} {L : List Int} (h : OwnB w B (.slice (some ⟨g, 0, none⟩) n c) L) {i : Nat} (x : Int) : OwnB (w.setCell ⟨g, i, none⟩ (.int .u8 x)) B (.slice (some ⟨g, 0, none⟩) n c) (L.set i x) := by
  obtain ⟨hl, h2⟩ := h
  rcases h2 with ⟨e, _⟩ | ⟨g', cap, cur, e, hB, hh, hn, hm, hs, ht⟩
  · cases e
  · refine ⟨by rw [cellsB_set, List.length_set, List.length_set]; exact hl, .inr ⟨g', cap, cur.setIfInBounds i (.int .u8 x), by rw [List.length_set]; exact e, hB, ?_, by rw [List.length_set]; exact hn, hm, by simpa using hs, ?_⟩⟩
    · have eg : g' = g := by cases e; rfl
      subst eg
      simp [World.setCell, Array.getElem?_modify, hh]
    · rw [Array.toList_setIfInBounds, List.take_set, List.length_set, ht, cellsB_set]
theorem OwnB.swap {w : World} {B g n c : Nat} {L : List Int} (h : OwnB w B (.slice (some ⟨g, 0, none⟩) n c) L) {i k : Nat} (hne : i ≠ k) (hi : i < L.length) (hk : k < L.length) :
    OwnB ((w.setCell ⟨g, i, none⟩ (.int .u8 (L.getD k 0))).setCell ⟨g, k, none⟩ (.int .u8 (L.getD i 0))) B (.slice (some ⟨g, 0, none⟩) n c) ((L.set i (L.getD k 0)).set k (L.getD i 0)) :=
  (h.set_ _).set_ _

end Go.Proofs.YtpcilpcinbamcaaDoor
