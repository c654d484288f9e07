/-
  Proved: for every list of points, the program's BoxOf answers as the model's and leaves the list alone. No condition.
-/
import Derived.Test.YtmdfiggchiefkaaBoxI
namespace Go.Proofs.Ytmdfiggchiefkaa.fnExactBoxOf
open Go.ChangeShapes Go.WideShapes Go.ChangeAt Go.RowKit

set_option maxRecDepth 100000 in
set_option maxHeartbeats 400000 in
theorem walk (A : Option Addr) (ps : List (Int × Int)) (c : Nat) (w : World) (h : PtsAt w w.heap.size A ps ∧ (∀ q ∈ ps, Fits q.1 ∧ Fits q.2) ∧ ps.length ≤ c ∧ c ≤ maxLen) :
    Calls Try.prog 8 #[.slice A ps.length c] w fun e w' => e = .returned (.bool true) ∧ Below w.heap.size w w' := by
  obtain ⟨hp, _, hlc, hc⟩ := h
  by_cases hl : ps.length ≤ 1048576
  · obtain ⟨x1, y1, x2, y2, b, hv⟩ : ∃ x1 y1 x2 y2 b, boxV ps = .tuple #[.agg #[.int .i64 x1, .int .i64 y1], .agg #[.int .i64 x2, .int .i64 y2], .bool b] := ⟨_, _, _, _, _, rfl⟩
    have H := Lib.hid hv
    clear hv
    have hl' : ¬ (1048576 - (ps.length : Int)) < 0 := by omega
    go_enter Try.func8, Try.ntmps8
    go_wp2_with fail
    refine (szPointS_any _ _ _ _ hl).mono ?_
    rintro e w1 ⟨rfl, rfl⟩
    go_wp2_with fail
    refine (toPointS_new _ _ _ _ hp hl).mono ?_
    rintro e w1 ⟨g1, rfl, hB1, hb1, _⟩
    go_wp2_with fail
    refine (BoxOfS_any _ _ _ _ hB1.pts hl).mono ?_
    rintro e w2 ⟨rfl, hb2⟩
    rw [H.out]
    have hb2' := bl_trans hb1 hb2
    go_wp2_with fail
    have hb2'' : Below w.heap.size w ((w2.alloc (.cells #[.int .i64 x1, .int .i64 y1] 34)).alloc (.cells #[.int .i64 x2, .int .i64 y2] 34)) := by (repeat (first | assumption | exact Below.refl _ _ | (refine bl_alloc ?_ _) | (refine Below.drew ?_) | (refine bl_drewN ?_ _) | (refine bl_set ?_ (by simp) _) | (refine bl_trans ?_ (by assumption)) | (refine bl_step ?_ (by assumption) (by first | omega | exact Below.size (by assumption) | (simp; omega) | (simp; exact Below.size (by assumption))))))
    refine (toPointS_new _ _ _ _ (hp.to hb2'') hl).mono ?_
    rintro e w3 ⟨g3, rfl, hB3, hb3, _⟩
    have o1 : One w3 w2.heap.size x1 y1 := ((heap_alloc_at (w := w2) x1 y1 rfl).alloc _).to hb3
    have o2 : One w3 (w2.heap.size + 1) x2 y2 := One.to (heap_alloc_at _ _ (by simp)) hb3
    have hb3' := bl_trans hb2'' hb3
    clear hb3
    go_wp2_with fail
    refine (BoxOfI_any _ _ _ _ hB3.pts hl).mono ?_
    rintro e w4 ⟨rfl, hb4⟩
    rw [H.out]
    replace o1 := o1.to hb4
    replace o2 := o2.to hb4
    have hB4 := hB3.to hb4
    have hb4' := bl_trans hb3' hb4
    clear hb4 hb3' hB3
    obtain ⟨a0, a1, _, _⟩ := o1.cells
    obtain ⟨a2, a3, _, _⟩ := o2.cells
    have n1 := o1.lt
    have n2 := o2.lt
    go_wp2_with fail
    have o1' := (o1.alloc (.cells #[.int .i64 x1, .int .i64 y1] 34)).alloc (.cells #[.int .i64 x2, .int .i64 y2] 34)
    have o2' := (o2.alloc (.cells #[.int .i64 x1, .int .i64 y1] 34)).alloc (.cells #[.int .i64 x2, .int .i64 y2] 34)
    have o3 : One ((w4.alloc (.cells #[.int .i64 x1, .int .i64 y1] 34)).alloc (.cells #[.int .i64 x2, .int .i64 y2] 34)) w4.heap.size x1 y1 := (heap_alloc_at (w := w4) x1 y1 rfl).alloc _
    have o4 : One ((w4.alloc (.cells #[.int .i64 x1, .int .i64 y1] 34)).alloc (.cells #[.int .i64 x2, .int .i64 y2] 34)) (w4.heap.size + 1) x2 y2 := heap_alloc_at _ _ (by simp)
    have hB5 : PBlk ((w4.alloc (.cells #[.int .i64 x1, .int .i64 y1] 34)).alloc (.cells #[.int .i64 x2, .int .i64 y2] 34)) g3 ps ps.length := hB4.to (by (repeat (first | assumption | exact Below.refl _ _ | (refine bl_alloc ?_ _) | (refine Below.drew ?_) | (refine bl_drewN ?_ _) | (refine bl_set ?_ (by simp) _) | (refine bl_trans ?_ (by assumption)) | (refine bl_step ?_ (by assumption) (by first | omega | exact Below.size (by assumption) | (simp; omega) | (simp; exact Below.size (by assumption)))))))
    have hb5 : Below w.heap.size w ((w4.alloc (.cells #[.int .i64 x1, .int .i64 y1] 34)).alloc (.cells #[.int .i64 x2, .int .i64 y2] 34)) := by (repeat (first | assumption | exact Below.refl _ _ | (refine bl_alloc ?_ _) | (refine Below.drew ?_) | (refine bl_drewN ?_ _) | (refine bl_set ?_ (by simp) _) | (refine bl_trans ?_ (by assumption)) | (refine bl_step ?_ (by assumption) (by first | omega | exact Below.size (by assumption) | (simp; omega) | (simp; exact Below.size (by assumption))))))
    clear a0 a1 a2 a3 n1 n2 o1 o2 hB4 hb4'
    refine (eqPoint_same _ _ _).mono ?_
    rintro e w6 ⟨rfl, hb6⟩
    have p2 := o2'.to hb6
    have p4 := o4.to hb6
    have hB6 := hB5.to hb6
    have hb6' := bl_trans hb5 hb6
    clear hb6 o1' o2' o3 o4 hB5 hb5
    obtain ⟨a2, a3, _, _⟩ := p2.cells
    obtain ⟨a4, a5, _, _⟩ := p4.cells
    go_wp2_with fail
    refine (eqPoint_same _ _ _).mono ?_
    rintro e w7 ⟨rfl, hb7⟩
    have hB7 := hB6.to hb7
    have hb7' := bl_trans hb6' hb7
    clear hb7 hB6 a2 a3 a4 a5
    go_wp2_with fail
    refine (toPointS_new _ _ _ _ (hp.to hb7') hl).mono ?_
    rintro e w8 ⟨g8, rfl, hB8, hb8, _⟩
    have hb8' := bl_trans hb7' hb8
    go_wp2_with fail
    refine (eqPointS_same _ _ _ _ _ _ (hB7.to hb8).pts hB8.pts hl).mono ?_
    rintro e w9 ⟨rfl, hb9⟩
    have hb9' := bl_trans hb8' hb9
    go_wp2
    go_ret
    exact ⟨rfl, hb9'⟩
  · have hs : ((-1 : Int) < 0) := by omega
    go_enter Try.func8, Try.ntmps8
    go_wp2_with fail
    refine (szPointS_big _ _ _ _ (by omega) (Nat.le_trans hlc hc)).mono ?_
    rintro e w1 ⟨rfl, rfl⟩
    go_wp2
    go_ret
    exact ⟨rfl, Below.refl _ _⟩
end Go.Proofs.Ytmdfiggchiefkaa.fnExactBoxOf
