/-
  Contracts: both SortPoints.
-/
import Derived.Test.YtepamhdopmfkfaaSortB
import Derived.Test.YtepamhdopmfkfaaSortS
import Derived.Test.YtepamhdopmfkfaaSortSh
namespace Go.Proofs.Ytepamhdopmfkfaa
set_option linter.unusedSimpArgs false
set_option linter.unusedVariables false
open Go.ChangeShapes Go.WideShapes Go.ChangeAt Go.RowKit Go.Sort Go.Lib

def encP (x : Pt) : List Value := [.int .i64 x.1, .int .i64 x.2]
theorem ltOf_cfP (x y : Pt) : ltOf cfP x y = ltB x y := cfP_lt x y
theorem swoP : SWO (ltOf cfP) where
  irrefl x := by rw [ltOf_cfP]; exact ltB_irr x
  trans x y z h1 h2 := by rw [ltOf_cfP] at *; exact ltB_trans h1 h2
  ntrans x y z h1 h2 := by
    rw [ltOf_cfP] at *
    cases h : ltB x z
    · rfl
    · exfalso
      rw [ltB_iff] at h
      have h1' : ¬ (x.1 < y.1 ∨ (x.1 = y.1 ∧ x.2 < y.2)) := by rw [← ltB_iff, h1]; simp
      have h2' : ¬ (y.1 < z.1 ∨ (y.1 = z.1 ∧ y.2 < z.2)) := by rw [← ltB_iff, h2]; simp
      omega
theorem totP (x y : Pt) (h1 : ltOf cfP x y = false) (h2 : ltOf cfP y x = false) : x = y := by
  rw [ltOf_cfP] at *
  by_cases e : x = y
  · exact e
  · rw [ltB_tot h1 e] at h2; cases h2
/-- The points in order. -/
def srtD (ps : List Pt) : List Pt := ps.mergeSort fun x y => !(ltOf cfP) y x
/-- The points in order, each once. -/
def srtL (ps : List Pt) : List Pt := ddL (srtD ps) (srtD ps).length
theorem srtD_len (ps : List Pt) : (srtD ps).length = ps.length := (List.mergeSort_perm ps _).length_eq
theorem srtL_le (ps : List Pt) : (srtL ps).length ≤ ps.length := by
  have := ddL_le (srtD ps) (srtD ps).length
  rw [srtD_len] at this
  unfold srtL; rw [srtD_len]; exact this
theorem ins_srt {ps L : List Pt} (h : Ins ps ps.length L) : L = srtL ps := by
  refine ins_dd h ?_ fun x => (List.mergeSort_perm ps _).mem_iff
  intro i j hij hj
  have hp := List.pairwise_mergeSort (le := fun x y : Pt => !(ltOf cfP) y x) (fun a b c h1 h2 => by
      simp only [Bool.not_eq_true', ltOf_cfP] at *
      exact (by have := swoP.ntrans c b a (by rw [ltOf_cfP]; exact h2) (by rw [ltOf_cfP]; exact h1); rwa [ltOf_cfP] at this))
    (fun a b => by
      simp only [ltOf_cfP]
      cases h : ltB b a
      · rfl
      · cases h2 : ltB a b
        · rfl
        · have := ltB_trans h h2; rw [ltB_irr] at this; cases this) ps
  have := List.pairwise_iff_getElem.1 hp i j (by show i < (srtD ps).length; omega) hj hij
  rw [Bool.not_eq_true', ltOf_cfP] at this
  have e1 : (srtD ps).getD i (0, 0) = (srtD ps)[i]'(by omega) := by simp [List.getD_eq_getElem?_getD, show i < (srtD ps).length by omega]
  have e2 : (srtD ps).getD j (0, 0) = (srtD ps)[j]'hj := by simp [List.getD_eq_getElem?_getD, hj]
  rw [e1, e2]; exact this

theorem flatP_at (D : List Pt) {i : Nat} (hi : i < D.length) : (flatK encP 2 D.toArray)[i * 2]! = .int .i64 (D.getD i (0, 0)).1 ∧ (flatK encP 2 D.toArray)[i * 2 + 1]! = .int .i64 (D.getD i (0, 0)).2 := by
  have e : D.toArray[i]! = D.getD i (0, 0) := by
    rw [getElem!_pos D.toArray i (by simpa using hi)]
    simp [List.getD_eq_getElem?_getD, hi]
  constructor
  · rw [get_flatK _ _ _ _ (by simp; omega), show i * 2 / 2 = i by omega, show i * 2 % 2 = 0 by omega, e]; rfl
  · rw [get_flatK _ _ _ _ (by simp; omega), show (i * 2 + 1) / 2 = i by omega, show (i * 2 + 1) % 2 = 1 by omega, e]; rfl
theorem PBlk2.holds {w : World} {g : Nat} {L : List Pt} (h : PBlk2 w g L L.length) : HoldsK encP 2 w g 0 L.toArray := by
  intro j hj
  have hj' : j < L.length * 2 := by simpa using hj
  refine ⟨?_, h.frozen _⟩
  obtain ⟨e0, e1⟩ := flatP_at L (i := j / 2) (by omega)
  obtain ⟨c0, c1⟩ := h.at_ (i := j / 2) (by omega) (by omega)
  rcases Nat.mod_two_eq_zero_or_one j with hm | hm
  · have e : j = j / 2 * 2 := by omega
    rw [← e] at e0 c0
    rw [Nat.zero_add, c0, e0]; rfl
  · have e : j = j / 2 * 2 + 1 := by omega
    rw [← e] at e1 c1
    rw [Nat.zero_add, c1, e1]; rfl
theorem sortW_heap (w : World) (g n : Nat) (D : Array Pt) (os : Array Obj) {i : Nat} (hi : i < w.heap.size) (hne : i ≠ g) : (sortWorldK encP 2 w g 0 n D os).heap[i]? = w.heap[i]? := by
  unfold sortWorldK putRowK putRow grow mapBlock
  simp only
  rw [Array.getElem?_append_left (by simpa [Sort.ahead] using hi), Array.getElem?_modify, if_neg (Ne.symm hne)]
  rfl
theorem sortW_blk {w : World} {g n : Nat} {L D : List Pt} (os : Array Obj) (h : PBlk2 w g L L.length) (hD : D.length = L.length) : PBlk2 (sortWorldK encP 2 w g 0 n D.toArray os) g D D.length := by
  have hl := h.lt
  obtain ⟨cs, h0, h1, _⟩ := h
  refine ⟨putCells id 0 (flatK encP 2 D.toArray) cs, ?_, by simp [putCells]; omega, fun i hi hi2 => ?_⟩
  · unfold sortWorldK putRowK putRow grow mapBlock
    simp only
    rw [Array.getElem?_append_left (by simpa [Sort.ahead] using hl), Array.getElem?_modify, if_pos rfl]
    show (w.heap[g]?).map _ = _
    rw [h0]; rfl
  · obtain ⟨e0, e1⟩ := flatP_at D hi2
    have a0 : i * 2 < cs.size := by omega
    have a1 : i * 2 + 1 < cs.size := by omega
    constructor
    · simp only [putCells, Array.getElem?_mapIdx, Array.getElem?_eq_getElem a0, Option.map_some]
      rw [if_pos (by simp; omega), Nat.sub_zero, e0]; rfl
    · simp only [putCells, Array.getElem?_mapIdx, Array.getElem?_eq_getElem a1, Option.map_some]
      rw [if_pos (by simp; omega), Nat.sub_zero, e1]; rfl
theorem sortW_below {w0 w : World} {B g n : Nat} (D : Array Pt) (os : Array Obj) (h : Below B w0 w) (hB : B ≤ g) (hz : B ≤ w.heap.size) : Below B w0 (sortWorldK encP 2 w g 0 n D os) :=
  ⟨h.os, h.tape, h.output, by show _ ≤ (w.heap.modify g _ ++ os).size; rw [Array.size_append, Array.size_modify]; have := h.size; omega, fun k hk => by rw [sortW_heap w g n D os (by omega) (by omega)]; exact h.block k hk⟩

def sortRes (ps : List Pt) : List Pt := if arePts ps = true then srtL ps else []
theorem sortRes_f {ps : List Pt} (h : arePts ps = false) : sortRes ps = [] := by simp [sortRes, h]
theorem sortRes_t {ps : List Pt} (h : arePts ps = true) : sortRes ps = srtL ps := by simp [sortRes, h]
theorem pts24 {ps : List Pt} (h : arePts ps = true) : ps.length ≤ 24 := by
  unfold arePts at h
  rw [Bool.and_eq_true, decide_eq_true_eq] at h
  exact h.2

end Go.Proofs.Ytepamhdopmfkfaa
