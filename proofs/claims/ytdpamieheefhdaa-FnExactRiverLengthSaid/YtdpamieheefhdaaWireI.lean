/-
  Contract: the program's wire of a pin.
-/
import Derived.Test.YtdpamieheefhdaaMirrored
namespace Go.Proofs.Ytdpamieheefhdaa
set_option linter.unusedSimpArgs false
set_option linter.unusedVariables false
open Go.ChangeShapes Go.WideShapes Go.ChangeAt Go.RowKit Go.Shelf Go.Sort

theorem rAt_in {T B : List Int} {n i : Nat} (ha : AscB B n) (hbT : ∀ j, 0 ≤ T.getD j 0 ∧ T.getD j 0 ≤ 99) (hbB : ∀ j, 0 ≤ B.getD j 0 ∧ B.getD j 0 ≤ 99) (h : B.getD i 0 ≤ T.getD i 0) (k : Nat) : 0 ≤ rAt T B n i k ∧ rAt T B n i k ≤ 99 := by
  have h1 := rAt_ge ha h k
  have h2 := rAt_le (n := n) h k
  have h3 := hbT i
  have h4 := hbB i
  omega
theorem getD_out {L : List Int} {j : Nat} (h : L.length ≤ j) : L.getD j 0 = 0 := by rw [List.getD_eq_getElem?_getD, List.getElem?_eq_none h]; rfl
theorem mirL_in {T : List Int} (h : ∀ j, 0 ≤ T.getD j 0 ∧ T.getD j 0 ≤ 99) (j : Nat) : 0 ≤ (mirL T).getD j 0 ∧ (mirL T).getD j 0 ≤ 99 := by
  rcases Nat.lt_or_ge j T.length with hj | hj
  · rw [mirL_row T j hj]
    have := h (T.length - 1 - j)
    omega
  · rw [getD_out (by rw [mirL_len]; exact hj)]; omega
set_option maxRecDepth 100000 in
set_option maxHeartbeats 1600000 in
/-- A wire to the right, or straight up. -/
theorem wireR_any (T B : List Int) (n i t bT oT bB oB c c' : Nat) (w : World) (hn : n ≤ 20) (ht : t ≤ 20) (hi : i < n) (hbT : ∀ j, 0 ≤ T.getD j 0 ∧ T.getD j 0 ≤ 99) (hbB : ∀ j, 0 ≤ B.getD j 0 ∧ B.getD j 0 ≤ 99)
    (hT : bT < w.heap.size ∧ ∀ j, j < n → w.cell? ⟨bT, oT + j, none⟩ = some (.int .i64 (T.getD j 0))) (hB : bB < w.heap.size ∧ ∀ j, j < n → w.cell? ⟨bB, oB + j, none⟩ = some (.int .i64 (B.getD j 0)))
    (ha : AscB B n) (hle : B.getD i 0 ≤ T.getD i 0) :
    Calls Try.prog 39 #[.agg #[.slice (some ⟨bT, oT, none⟩) n c, .slice (some ⟨bB, oB, none⟩) n c'], .int .i64 t, .int .i64 i] w (OwnPost (wireP T B n i t) w) := by
  have hb1 : Below w.heap.size w (w.alloc (.cells #[.slice (some ⟨bT, oT, none⟩) n c, .slice (some ⟨bB, oB, none⟩) n c'] 60)) := by (repeat (first | assumption | exact Below.refl _ _ | (refine bl_alloc ?_ _) | (refine Below.drew ?_) | (refine bl_drewN ?_ _) | (refine bl_set ?_ (by first | (simp; done) | omega | (simp; omega)) _) | (refine bl_trans ?_ (by assumption)) | (refine bl_step ?_ (by assumption) (by first | omega | exact Below.size (by assumption) | (simp; omega) | (simp; exact Below.size (by assumption))))))
  have hb2 : ∀ q, Below w.heap.size w ((w.alloc (.cells #[.slice (some ⟨bT, oT, none⟩) n c, .slice (some ⟨bB, oB, none⟩) n c'] 60)).drewN q) := fun q => by (repeat (first | assumption | exact Below.refl _ _ | (refine bl_alloc ?_ _) | (refine Below.drew ?_) | (refine bl_drewN ?_ _) | (refine bl_set ?_ (by first | (simp; done) | omega | (simp; omega)) _) | (refine bl_trans ?_ (by assumption)) | (refine bl_step ?_ (by assumption) (by first | omega | exact Below.size (by assumption) | (simp; omega) | (simp; exact Below.size (by assumption))))))
  have hw := fun q => wireToRight_any T B n i t bT oT bB oB c c' ((w.alloc (.cells #[.slice (some ⟨bT, oT, none⟩) n c, .slice (some ⟨bB, oB, none⟩) n c'] 60)).drewN q) hn ht hi hbT hbB ⟨Nat.lt_of_lt_of_le hT.1 (hb2 q).size, fun j hj => ((hb2 q).cell (p := ⟨bT, oT + j, none⟩) hT.1).trans (hT.2 j hj)⟩ ⟨Nat.lt_of_lt_of_le hB.1 (hb2 q).size, fun j hj => ((hb2 q).cell (p := ⟨bB, oB + j, none⟩) hB.1).trans (hB.2 j hj)⟩ (fun j _ => rAt_in ha hbT hbB hle j)
  simp only [wlkL_stops t hi ha hle] at hw
  have HW := Lib.hid hw
  have hz2 := fun q => (hb2 q).size
  have HB2 := Lib.hid hb2
  clear hw
  have t0 := (hb1.cell (p := ⟨bT, oT + i, none⟩) hT.1).trans (hT.2 i hi)
  have s0 := (hb1.cell (p := ⟨bB, oB + i, none⟩) hB.1).trans (hB.2 i hi)
  have hiI : (i : Int) < (n : Int) := by omega
  have hi0 : (0 : Int) ≤ (i : Int) := by omega
  clear hT hB hbT hbB ha
  generalize T.getD i 0 = xt at *
  generalize B.getD i 0 = xb at *
  have hd : decide (xb ≤ xt) = true := by simp [hle]
  go_enter Try.func39, Try.ntmps39
  go_wp2_with fail
  go_quiet (fail)
  go_wp2_with fail
  refine (HW.out _).mono ?_
  rintro e w2 ⟨v, rfl, hO, hb⟩
  go_wp2_with fail
  go_ret
  exact ⟨v, rfl, OwnL.lowR hO (HB2.out _).size, (HB2.out _).trans (hb.mono (HB2.out _).size)⟩
end Go.Proofs.Ytdpamieheefhdaa
