/-
  Rounds over the rules of a valid press: what the first of them do, and bounds (no walk).
-/
import Derived.Test.YtgpcfkegbcpkpaaPlac
namespace Go.Proofs.Ytgpcfkegbcpkpaa
set_option linter.unusedSimpArgs false
set_option linter.unusedVariables false
open Go.ChangeShapes Go.WideShapes Go.ChangeAt Go.RowKit

/-- No place below 0, none above M. -/
def Bd (ds : List Int) (M : Int) : Prop := ∀ i, 0 ≤ ds.getD i 0 ∧ ds.getD i 0 ≤ M
theorem Bd.mono {ds : List Int} {M N : Int} (h : Bd ds M) (hN : M ≤ N) : Bd ds N := fun i => ⟨(h i).1, Int.le_trans (h i).2 hN⟩
theorem Bd.rlx {ds : List Int} {M : Int} (h : Bd ds M) (r : R3) (hr : r.2.2 ≤ 1000) (hM : 0 ≤ M) : Bd (rlx ds r) (M + 1000) := fun i => by
  refine ⟨Int.le_trans (h i).1 (rlx_ge ds r i), ?_⟩
  rw [rlx_at]
  split
  · have := (h r.1.toNat).2
    unfold atP
    omega
  · have := (h i).2; omega
theorem Bd.zer (n : Nat) : Bd (zer n) 0 := fun i => by rw [zer_at]; omega
theorem take_snoc3 (rs : List R3) (k : Nat) (h : k < rs.length) : rs.take (k + 1) = rs.take k ++ [rs.getD k r30] := by
  rw [List.take_succ_eq_append_getElem h]; simp [List.getD_eq_getElem?_getD, h]
theorem pass_next (rs : List R3) (ds : List Int) {k : Nat} (h : k < rs.length) : passR (rs.take (k + 1)) ds = rlx (passR (rs.take k) ds) (rs.getD k r30) := by
  rw [take_snoc3 rs k h, passR_app]; rfl
theorem grew_next (rs : List R3) (ds : List Int) {k : Nat} (h : k < rs.length) : grew (rs.take (k + 1)) ds = (grew (rs.take k) ds || tst (passR (rs.take k) ds) (rs.getD k r30)) := by
  rw [take_snoc3 rs k h, grew_app]; simp [grew]
theorem rlx_t {ds : List Int} {r : R3} {X Y : Nat} (hX : r.1 = (X : Int)) (hY : r.2.1 = (Y : Int)) (h : ds.getD Y 0 < ds.getD X 0 + r.2.2) : tst ds r = true ∧ rlx ds r = ds.set Y (ds.getD X 0 + r.2.2) := by
  have h1 : tst ds r = true := decide_eq_true (by unfold atP; rw [hX, hY]; exact h)
  refine ⟨h1, ?_⟩
  unfold rlx
  rw [if_pos h1]
  unfold atP
  rw [hX, hY]
  rfl
theorem rlx_f {ds : List Int} {r : R3} {X Y : Nat} (hX : r.1 = (X : Int)) (hY : r.2.1 = (Y : Int)) (h : ¬ ds.getD Y 0 < ds.getD X 0 + r.2.2) : tst ds r = false ∧ rlx ds r = ds := by
  have h1 : tst ds r = false := decide_eq_false (by unfold atP; rw [hX, hY]; exact h)
  exact ⟨h1, by unfold rlx; rw [h1]; rfl⟩
theorem run_more {rs : List R3} {k : Nat} {ds : List Int} (h : grew rs ds = true) : runR rs (k + 1) ds = runR rs k (passR rs ds) := by rw [runR, if_pos h]
theorem run_stop {rs : List R3} {k : Nat} {ds : List Int} (h : grew rs ds = false) : runR rs (k + 1) ds = some (passR rs ds) := by rw [runR, if_neg (by rw [h]; simp)]
theorem NBlk.upd {w : World} {g : Nat} {ds : List Int} (h : NBlk w g ds ds.length) {Y : Nat} (hY : Y < ds.length) (v : Int) : NBlk (w.setCell ⟨g, Y, none⟩ (.int .i64 v)) g (ds.set Y v) (ds.set Y v).length := by
  obtain ⟨cs, h0, h1, h2⟩ := h
  refine ⟨cs.setIfInBounds Y (.int .i64 v), ?_, by simpa using h1, ?_⟩
  · simp [World.setCell, Array.getElem?_modify, h0]
  · intro i hi hl
    have hi' : i < ds.length := by simpa using hl
    rcases Nat.lt_trichotomy i Y with hlt | rfl | hgt
    · rw [Array.getElem?_setIfInBounds_ne (by omega), h2 i hi' hi', at_set, if_neg (by omega)]
    · simp only [Array.getElem?_setIfInBounds_self, h1]
      rw [if_pos hY, at_set, if_pos ⟨rfl, hY⟩]
    · rw [Array.getElem?_setIfInBounds_ne (by omega), h2 i hi' hi', at_set, if_neg (by omega)]
theorem NBlk.zer (w : World) (n : Nat) : NBlk (w.alloc (.cells (blankN n) 2)) w.heap.size (zer n) (zer n).length := by
  refine ⟨blankN n, heap_alloc_new w _, by simp [blankN, size_madeCells, Go.Proofs.Ytgpcfkegbcpkpaa.zer], fun i hi hl => ?_⟩
  have hi' : i < n := by simpa [Go.Proofs.Ytgpcfkegbcpkpaa.zer] using hi
  rw [zer_at]
  simp [blankN, madeCells, hi', Nat.mod_one]
/-- The least places of a press. -/
def lstP (n : Int) (rs : List R3) : Option (List Int) := if prB n rs = true then runR rs (n.toNat + 1) (zer n.toNat) else none
end Go.Proofs.Ytgpcfkegbcpkpaa
