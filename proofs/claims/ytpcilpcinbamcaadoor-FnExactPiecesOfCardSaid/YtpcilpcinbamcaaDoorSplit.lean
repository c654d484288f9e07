/-
  The pieces of a text between marks: by the first mark, and byte by byte.
-/
import Derived.Lib.CutLaws
namespace Go.Proofs.YtpcilpcinbamcaaDoor
set_option linter.unusedSimpArgs false
set_option linter.unusedVariables false

/-- p ahead of the first piece. -/
def addH (p : List UInt8) : List (List UInt8) → List (List UInt8)
  | [] => [p]
  | h :: t => (p ++ h) :: t
/-- The pieces between the marks. -/
def parts (m : UInt8) : List UInt8 → List (List UInt8)
  | [] => [[]]
  | c :: r => if c = m then [] :: parts m r else addH [c] (parts m r)
theorem addH_addH (a b : List UInt8) (x : List (List UInt8)) : addH a (addH b x) = addH (a ++ b) x := by
  cases x <;> simp [addH]
theorem addH_nil {x : List (List UInt8)} (h : x ≠ []) : addH [] x = x := by
  cases x with
  | nil => exact absurd rfl h
  | cons a t => simp [addH]
theorem parts_ne (m : UInt8) (l : List UInt8) : parts m l ≠ [] := by
  cases l with
  | nil => simp [parts]
  | cons c r =>
    unfold parts
    split
    · simp
    · cases parts m r <;> simp [addH]
theorem parts_miss (m : UInt8) : ∀ l : List UInt8, Lib.indexByte l m = -1 → parts m l = [l]
  | [], _ => rfl
  | b :: l, h => by
    unfold Lib.indexByte at h
    split at h
    · simp at h
    · rename_i hb
      have hbm : ¬ b = m := fun e => hb (beq_iff_eq.2 e)
      split at h
      · rename_i hl
        unfold parts
        rw [if_neg hbm, parts_miss m l (beq_iff_eq.1 hl)]
        simp [addH]
      · have := Lib.indexByte_ge l m
        omega
theorem parts_hit (m : UInt8) : ∀ (l : List UInt8) (i : Nat), Lib.indexByte l m = i → parts m l = l.take i :: parts m (l.drop (i + 1)) ∧ i < l.length
  | [], i, h => by simp [Lib.indexByte] at h
  | b :: l, i, h => by
    unfold Lib.indexByte at h
    split at h
    · rename_i hb
      have : i = 0 := by omega
      subst this
      refine ⟨?_, by simp⟩
      rw [parts, if_pos (beq_iff_eq.1 hb)]
      simp
    · rename_i hb
      have hbm : ¬ b = m := fun e => hb (beq_iff_eq.2 e)
      split at h
      · omega
      · have hge := Lib.indexByte_ge l m
        rename_i hl
        have hne : Lib.indexByte l m ≠ -1 := fun e => hl (beq_iff_eq.2 e)
        obtain ⟨j, rfl⟩ : ∃ j, i = j + 1 := ⟨i - 1, by omega⟩
        obtain ⟨e, hlt⟩ := parts_hit m l j (by omega)
        refine ⟨?_, by simp; omega⟩
        rw [parts, if_neg hbm, e]
        simp [addH]
theorem indexByte_or (l : List UInt8) (m : UInt8) : Lib.indexByte l m = -1 ∨ ∃ i : Nat, Lib.indexByte l m = i := by
  have := Lib.indexByte_ge l m
  by_cases h : Lib.indexByte l m = -1
  · exact .inl h
  · exact .inr ⟨(Lib.indexByte l m).toNat, by omega⟩

/-- The pieces so far, from place f on at place k. -/
def SplitAt (m : UInt8) (l : List UInt8) (O : List (List UInt8)) (f k : Nat) : Prop := O ++ addH ((l.drop f).take (k - f)) (parts m (l.drop k)) = parts m l
theorem SplitAt.start (m : UInt8) (l : List UInt8) : SplitAt m l [] 0 0 := by
  unfold SplitAt
  simp [addH_nil (parts_ne m l)]
theorem piece_next {l : List UInt8} {f k : Nat} (hf : f ≤ k) (hk : k < l.length) : (l.drop f).take (k + 1 - f) = (l.drop f).take (k - f) ++ [l[k]] := by
  have hlt : k - f < (l.drop f).length := by simp; omega
  rw [show k + 1 - f = (k - f) + 1 by omega, List.take_succ_eq_append_getElem hlt]
  simp [show f + (k - f) = k by omega]
theorem SplitAt.other {m : UInt8} {l : List UInt8} {O : List (List UInt8)} {f k : Nat} (h : SplitAt m l O f k) (hf : f ≤ k) (hk : k < l.length) (hc : ¬ l[k] = m) : SplitAt m l O f (k + 1) := by
  unfold SplitAt at h ⊢
  rw [List.drop_eq_getElem_cons hk, parts, if_neg hc, addH_addH, ← piece_next hf hk] at h
  exact h
theorem SplitAt.mark {m : UInt8} {l : List UInt8} {O : List (List UInt8)} {f k : Nat} (h : SplitAt m l O f k) (hk : k < l.length) (hc : l[k] = m) : SplitAt m l (O ++ [(l.drop f).take (k - f)]) (k + 1) (k + 1) := by
  unfold SplitAt at h ⊢
  rw [List.drop_eq_getElem_cons hk, parts, if_pos hc] at h
  simp only [Nat.sub_self, List.take_zero, addH_nil (parts_ne m _)]
  simpa [addH] using h
theorem SplitAt.last {m : UInt8} {l : List UInt8} {O : List (List UInt8)} {f : Nat} (h : SplitAt m l O f l.length) : O ++ [(l.drop f).take (l.length - f)] = parts m l := by
  unfold SplitAt at h
  rw [List.drop_length] at h
  simpa [parts, addH] using h
theorem parts_len (m : UInt8) (l : List UInt8) : (parts m l).length ≤ l.length + 1 := by
  induction l with
  | nil => simp [parts]
  | cons c r ih =>
    unfold parts
    split
    · simp; omega
    · cases h : parts m r with
      | nil => simp [addH]
      | cons a t => rw [h] at ih; simp [addH] at ih ⊢; omega
end Go.Proofs.YtpcilpcinbamcaaDoor
