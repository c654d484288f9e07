/-
  Contracts: the point of the middle X and the middle Y of three, as the program has it.
-/
import Derived.Test.YtepamhdopmfkfaaMedP
namespace Go.Proofs.Ytepamhdopmfkfaa
set_option linter.unusedSimpArgs false
set_option linter.unusedVariables false
open Go.ChangeShapes Go.WideShapes Go.ChangeAt Go.RowKit Go.Shelf
open Go.Proofs.Ytepamhdopmfkfaa.fnExactBoxOf

theorem tri_pts (w : World) (ax ay bx by_ cx cy : Int) : PtsAt (w.alloc (.cells #[.int .i64 ax, .int .i64 ay, .int .i64 bx, .int .i64 by_, .int .i64 cx, .int .i64 cy] 33)) (w.alloc (.cells #[.int .i64 ax, .int .i64 ay, .int .i64 bx, .int .i64 by_, .int .i64 cx, .int .i64 cy] 33)).heap.size (some ⟨w.heap.size, 0, none⟩) [(ax, ay), (bx, by_), (cx, cy)] := fun _ =>
  ⟨w.heap.size, 0, rfl, by simp, fun i hi => by
    have h := heap_alloc_new w (.cells #[.int .i64 ax, .int .i64 ay, .int .i64 bx, .int .i64 by_, .int .i64 cx, .int .i64 cy] 33)
    rw [cell_of_row _ _ _ _ _ _ h, cell_of_row _ _ _ _ _ _ h]
    rcases i with _ | _ | _ | i
    · exact ⟨rfl, rfl⟩
    · exact ⟨rfl, rfl⟩
    · exact ⟨rfl, rfl⟩
    · simp at hi; omega⟩
theorem okM_all (ax ay bx by_ cx cy : Int) : allPt [(ax, ay), (bx, by_), (cx, cy)] = okM ax ay bx by_ cx cy := by simp [allPt, okM]
set_option maxRecDepth 100000 in
set_option maxHeartbeats 1600000 in
theorem mpFn_any (g1 g2 g3 : Nat) (ax ay bx by_ cx cy : Int) (w : World) (hT : Tri w g1 g2 g3 ax ay bx by_ cx cy) :
    Calls Try.prog 48 #[.pointer (some ⟨g1, 0, none⟩), .pointer (some ⟨g2, 0, none⟩), .pointer (some ⟨g3, 0, none⟩)] w fun e w' => ((∃ x y, e = .returned (.agg #[.int .i64 x, .int .i64 y]) ∧ (okM ax ay bx by_ cx cy = true ∧ x = mid3 ax bx cx ∧ y = mid3 ay by_ cy)) ∨ (Pan e ∧ okM ax ay bx by_ cx cy = false)) ∧ Below w.heap.size w w' := by
  have b0 : Below w.heap.size w (w.alloc (.cells #[.int .i64 0, .int .i64 0] 33)) := by (repeat (first | assumption | exact Below.refl _ _ | (refine bl_alloc ?_ _) | (refine Below.drew ?_) | (refine bl_drewN ?_ _) | (refine bl_set ?_ (by first | (simp; done) | omega | (simp; omega)) _) | (refine bl_trans ?_ (by assumption)) | (refine bl_step ?_ (by assumption) (by first | omega | exact Below.size (by assumption) | (simp; omega) | (simp; exact Below.size (by assumption))))))
  have hO : One (w.alloc (.cells #[.int .i64 0, .int .i64 0] 33)) w.heap.size 0 0 := heap_alloc_at _ _ rfl
  have hT0 := hT.to b0
  obtain ⟨t0, t1, t2, t3, t4, t5⟩ := hT0.cells (w0 := w)
  have hz0 : (w.alloc (.cells #[.int .i64 0, .int .i64 0] 33)).heap.size = w.heap.size + 1 := by simp
  go_enter Try.func48, Try.ntmps48
  go_wp2_with fail
  generalize w.alloc (.cells #[.int .i64 0, .int .i64 0] 33) = w0 at *
  have bw0 : Below w0.heap.size w0 (w0.alloc (.cells #[.int .i64 ax, .int .i64 ay, .int .i64 bx, .int .i64 by_, .int .i64 cx, .int .i64 cy] 33)) := by (repeat (first | assumption | exact Below.refl _ _ | (refine bl_alloc ?_ _) | (refine Below.drew ?_) | (refine bl_drewN ?_ _) | (refine bl_set ?_ (by first | (simp; done) | omega | (simp; omega)) _) | (refine bl_trans ?_ (by assumption)) | (refine bl_step ?_ (by assumption) (by first | omega | exact Below.size (by assumption) | (simp; omega) | (simp; exact Below.size (by assumption))))))
  have hP := tri_pts w0 ax ay bx by_ cx cy
  have b1 : Below w.heap.size w (w0.alloc (.cells #[.int .i64 ax, .int .i64 ay, .int .i64 bx, .int .i64 by_, .int .i64 cx, .int .i64 cy] 33)) := b0.alloc b0.size _
  have hO1 := hO.to bw0
  rw [hz0] at hP
  generalize w0.alloc (.cells #[.int .i64 ax, .int .i64 ay, .int .i64 bx, .int .i64 by_, .int .i64 cx, .int .i64 cy] 33) = w1 at *
  have cG := areOnGrid_any (some ⟨w.heap.size + 1, 0, none⟩) [(ax, ay), (bx, by_), (cx, cy)] 3 w1 hP (by simp)
  rw [okM_all] at cG
  cases hk : okM ax ay bx by_ cx cy
  · rw [hk] at cG
    refine cG.mono ?_
    rintro e w2 ⟨rfl, hb2⟩
    have b2 := bl_trans b1 hb2
    go_wp2_with fail
    refine (require_no _).mono ?_
    rintro e w3 ⟨⟨u, pv, rfl⟩, rfl⟩
    go_wp2
    exact ⟨rfl, .inr ⟨⟨_, _, rfl⟩, hk⟩, b2⟩
  · rw [hk] at cG
    have HK := Lib.hid hk
    clear hk
    refine cG.mono ?_
    rintro e w2 ⟨rfl, hb2⟩
    have b2 := bl_trans b1 hb2
    have hO2 := hO1.to hb2
    go_wp2_with fail
    refine (require_yes _).mono ?_
    rintro e w3 ⟨rfl, rfl⟩
    have cM := medianOf_any (some ⟨w.heap.size + 1, 0, none⟩) [(ax, ay), (bx, by_), (cx, cy)] 3 w3 (hP.to hb2) (by simp) (by simp)
    rw [show (([(ax, ay), (bx, by_), (cx, cy)] : List Pt).map fun p => p.1) = [ax, bx, cx] from rfl, show (([(ax, ay), (bx, by_), (cx, cy)] : List Pt).map fun p => p.2) = [ay, by_, cy] from rfl, medL_three, medL_three] at cM
    go_wp2_with fail
    refine cM.mono ?_
    rintro e w4 ⟨rfl, hb4⟩
    have b4 := bl_trans b2 hb4
    have hO4 := hO2.to hb4
    obtain ⟨o0, o1, f0, f1⟩ := hO4.cells
    have hZ := (hO4.set0 (mid3 ax bx cx)).set1 (mid3 ay by_ cy)
    have bZ := (b4.setCell (p := ⟨w.heap.size, 0, none⟩) (Nat.le_refl _) (.int .i64 (mid3 ax bx cx))).setCell (p := ⟨w.heap.size, 1, none⟩) (Nat.le_refl _) (.int .i64 (mid3 ay by_ cy))
    obtain ⟨z0, z1, _, _⟩ := hZ.cells
    go_wp2
    exact bodyPost_ret (v := .agg #[.int .i64 (mid3 ax bx cx), .int .i64 (mid3 ay by_ cy)]) (by simp [results, Try.results48, go_sem, z0, z1]) rfl ⟨.inl ⟨_, _, rfl, HK.out, rfl, rfl⟩, bZ⟩

set_option maxRecDepth 100000 in
set_option maxHeartbeats 1600000 in
theorem MedianPointI_any (ax ay bx by_ cx cy : Int) (w : World) :
    Calls Try.prog 19 #[.agg #[.int .i64 ax, .int .i64 ay], .agg #[.int .i64 bx, .int .i64 by_], .agg #[.int .i64 cx, .int .i64 cy]] w fun e w' => e = .returned (mpV ax ay bx by_ cx cy) ∧ Below w.heap.size w w' := by
  have hmf : ∀ (fn : Fn) (first cap : Array Value) (w : World), (Instr.makeFunc fn first cap).run Try.prog w = .ok (.func fn first cap) w := fun _ _ _ _ => rfl
  have eg : ∀ args w, (callFunc 48 args).run Try.prog w = .ok (.enter 48 args) w := enters_of Try.func48 (by kernel_rfl) rfl
  have b0 : Below w.heap.size w ((((w.alloc (.cells #[.int .i64 ax, .int .i64 ay] 33)).alloc (.cells #[.int .i64 bx, .int .i64 by_] 33)).alloc (.cells #[.int .i64 cx, .int .i64 cy] 33)).alloc (.cells #[.int .i64 0, .int .i64 0] 33)) := by (repeat (first | assumption | exact Below.refl _ _ | (refine bl_alloc ?_ _) | (refine Below.drew ?_) | (refine bl_drewN ?_ _) | (refine bl_set ?_ (by first | (simp; done) | omega | (simp; omega)) _) | (refine bl_trans ?_ (by assumption)) | (refine bl_step ?_ (by assumption) (by first | omega | exact Below.size (by assumption) | (simp; omega) | (simp; exact Below.size (by assumption))))))
  have hT : Tri ((((w.alloc (.cells #[.int .i64 ax, .int .i64 ay] 33)).alloc (.cells #[.int .i64 bx, .int .i64 by_] 33)).alloc (.cells #[.int .i64 cx, .int .i64 cy] 33)).alloc (.cells #[.int .i64 0, .int .i64 0] 33)) w.heap.size (w.heap.size + 1) (w.heap.size + 1 + 1) ax ay bx by_ cx cy := ⟨(((heap_alloc_at _ _ rfl).alloc _).alloc _).alloc _, ((heap_alloc_at _ _ (by simp)).alloc _).alloc _, (heap_alloc_at _ _ (by simp)).alloc _⟩
  have hO : One ((((w.alloc (.cells #[.int .i64 ax, .int .i64 ay] 33)).alloc (.cells #[.int .i64 bx, .int .i64 by_] 33)).alloc (.cells #[.int .i64 cx, .int .i64 cy] 33)).alloc (.cells #[.int .i64 0, .int .i64 0] 33)) (w.heap.size + 1 + 1 + 1) 0 0 := heap_alloc_at _ _ (by simp)
  go_enter Try.func19, Try.ntmps19
  go_wp2_with fail
  generalize ((((w.alloc (.cells #[.int .i64 ax, .int .i64 ay] 33)).alloc (.cells #[.int .i64 bx, .int .i64 by_] 33)).alloc (.cells #[.int .i64 cx, .int .i64 cy] 33)).alloc (.cells #[.int .i64 0, .int .i64 0] 33)) = w1 at *
  have h1 : Below w1.heap.size w1 ((w1.alloc (.cells #[.int .i64 0, .int .i64 0] 33)).alloc (.cells #[.bool false] 4)) := by (repeat (first | assumption | exact Below.refl _ _ | (refine bl_alloc ?_ _) | (refine Below.drew ?_) | (refine bl_drewN ?_ _) | (refine bl_set ?_ (by first | (simp; done) | omega | (simp; omega)) _) | (refine bl_trans ?_ (by assumption)) | (refine bl_step ?_ (by assumption) (by first | omega | exact Below.size (by assumption) | (simp; omega) | (simp; exact Below.size (by assumption))))))
  refine (attemptPt_any 48 #[.pointer (some ⟨w.heap.size, 0, none⟩), .pointer (some ⟨w.heap.size + 1, 0, none⟩), .pointer (some ⟨w.heap.size + 1 + 1, 0, none⟩)] w1 (fun x y => okM ax ay bx by_ cx cy = true ∧ x = mid3 ax bx cx ∧ y = mid3 ay by_ cy) (okM ax ay bx by_ cx cy = false) eg (mpFn_any w.heap.size (w.heap.size + 1) (w.heap.size + 1 + 1) ax ay bx by_ cx cy _ (hT.to h1))).mono ?_
  rintro e w2 ⟨⟨x, y, rfl, hi, rfl, rfl⟩ | ⟨rfl, hi⟩, hb2⟩
  · have b2 := bl_trans b0 hb2
    have hO2 := hO.to hb2
    obtain ⟨o0, o1, f0, f1⟩ := hO2.cells
    have R := Lib.hid (mpV_t hi)
    have hZ := (hO2.set0 (mid3 ax bx cx)).set1 (mid3 ay by_ cy)
    have bZ := (b2.setCell (p := ⟨w.heap.size + 1 + 1 + 1, 0, none⟩) (by simp; omega) (.int .i64 (mid3 ax bx cx))).setCell (p := ⟨w.heap.size + 1 + 1 + 1, 1, none⟩) (by simp; omega) (.int .i64 (mid3 ay by_ cy))
    obtain ⟨z0, z1, _, _⟩ := hZ.cells
    go_wp2
    exact bodyPost_ret (v := .tuple #[.agg #[.int .i64 (mid3 ax bx cx), .int .i64 (mid3 ay by_ cy)], .bool true]) (by simp [results, Try.results19, go_sem, z0, z1]) rfl ⟨by rw [R.out], bZ⟩
  · have b2 := bl_trans b0 hb2
    have hO2 := hO.to hb2
    obtain ⟨o0, o1, f0, f1⟩ := hO2.cells
    have R := Lib.hid (mpV_f hi)
    have hZ := (hO2.set0 0).set1 0
    have bZ := (b2.setCell (p := ⟨w.heap.size + 1 + 1 + 1, 0, none⟩) (by simp; omega) (.int .i64 0)).setCell (p := ⟨w.heap.size + 1 + 1 + 1, 1, none⟩) (by simp; omega) (.int .i64 0)
    obtain ⟨z0, z1, _, _⟩ := hZ.cells
    go_wp2
    exact bodyPost_ret (v := .tuple #[.agg #[.int .i64 0, .int .i64 0], .bool false]) (by simp [results, Try.results19, go_sem, z0, z1]) rfl ⟨by rw [R.out], bZ⟩
end Go.Proofs.Ytepamhdopmfkfaa
