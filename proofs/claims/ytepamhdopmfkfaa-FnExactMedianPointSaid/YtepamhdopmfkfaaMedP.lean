/-
  Contracts: the point of the middle X and the middle Y of three, as the model has it.
-/
import Derived.Test.YtepamhdopmfkfaaMedI
import Derived.Test.YtepamhdopmfkfaaAttemptP
import Derived.Test.YtepamhdopmfkfaaKeepS
namespace Go.Proofs.Ytepamhdopmfkfaa
set_option linter.unusedSimpArgs false
set_option linter.unusedVariables false
open Go.ChangeShapes Go.WideShapes Go.ChangeAt Go.RowKit Go.Shelf
open Go.Proofs.Ytepamhdopmfkfaa.fnExactBoxOf

theorem l05Middle_any (a b c : Int) (w : World) : Calls Try.prog 46 #[.int .i64 a, .int .i64 b, .int .i64 c] w fun e w' => e = .returned (.int .i64 (mid3 a b c)) ∧ w = w' := by
  have hM : Hid (mid3 a b c = max (min a b) (min (max a b) c)) := rfl
  go_enter Try.func46, Try.ntmps46
  go_wp2_with fail
  refine (l00Min_any _ _ _).mono ?_
  rintro e w1 ⟨rfl, rfl⟩
  go_wp2_with fail
  refine (l00Max_any _ _ _).mono ?_
  rintro e w1 ⟨rfl, rfl⟩
  go_wp2_with fail
  refine (l00Min_any _ _ _).mono ?_
  rintro e w1 ⟨rfl, rfl⟩
  go_wp2_with fail
  refine (l00Max_any _ _ _).mono ?_
  rintro e w1 ⟨rfl, rfl⟩
  rw [← hM.out]
  go_wp2
  go_ret
  exact ⟨rfl, rfl⟩
def okM (ax ay bx by_ cx cy : Int) : Bool := isPt ax ay && (isPt bx by_ && isPt cx cy)
def mpV (ax ay bx by_ cx cy : Int) : Value := .tuple #[.agg #[.int .i64 (sel (okM ax ay bx by_ cx cy) (mid3 ax bx cx)), .int .i64 (sel (okM ax ay bx by_ cx cy) (mid3 ay by_ cy))], .bool (okM ax ay bx by_ cx cy)]
theorem mpV_f {ax ay bx by_ cx cy : Int} (h : okM ax ay bx by_ cx cy = false) : mpV ax ay bx by_ cx cy = .tuple #[.agg #[.int .i64 0, .int .i64 0], .bool false] := by simp [mpV, sel, h]
theorem mpV_t {ax ay bx by_ cx cy : Int} (h : okM ax ay bx by_ cx cy = true) : mpV ax ay bx by_ cx cy = .tuple #[.agg #[.int .i64 (mid3 ax bx cx), .int .i64 (mid3 ay by_ cy)], .bool true] := by simp [mpV, sel, h]
/-- Three variables hold points. -/
def Tri (w : World) (g1 g2 g3 : Nat) (ax ay bx by_ cx cy : Int) : Prop := One w g1 ax ay ∧ One w g2 bx by_ ∧ One w g3 cx cy
theorem Tri.to {w w1 : World} {g1 g2 g3 : Nat} {ax ay bx by_ cx cy : Int} (h : Tri w g1 g2 g3 ax ay bx by_ cx cy) (hb : Below w.heap.size w w1) : Tri w1 g1 g2 g3 ax ay bx by_ cx cy := ⟨h.1.to hb, h.2.1.to hb, h.2.2.to hb⟩
theorem Tri.far {w : World} {g1 g2 g3 : Nat} {ax ay bx by_ cx cy : Int} (h : Tri w g1 g2 g3 ax ay bx by_ cx cy) {p : Addr} (h1 : g1 ≠ p.block) (h2 : g2 ≠ p.block) (h3 : g3 ≠ p.block) (u : Value) : Tri (w.setCell p u) g1 g2 g3 ax ay bx by_ cx cy := ⟨h.1.far h1 u, h.2.1.far h2 u, h.2.2.far h3 u⟩
def TriS (w0 : World) (g1 g2 g3 : Nat) (ax ay bx by_ cx cy : Int) (w : World) : Prop :=
  w.cell? ⟨g1, 0, none⟩ = some (.int .i64 ax) ∧ w.cell? ⟨g1, 1, none⟩ = some (.int .i64 ay) ∧ w.cell? ⟨g2, 0, none⟩ = some (.int .i64 bx) ∧ w.cell? ⟨g2, 1, none⟩ = some (.int .i64 by_) ∧ w.cell? ⟨g3, 0, none⟩ = some (.int .i64 cx) ∧ w.cell? ⟨g3, 1, none⟩ = some (.int .i64 cy)
theorem Tri.cells {w w0 : World} {g1 g2 g3 : Nat} {ax ay bx by_ cx cy : Int} (h : Tri w g1 g2 g3 ax ay bx by_ cx cy) : TriS w0 g1 g2 g3 ax ay bx by_ cx cy w := by
  obtain ⟨a, b, _, _⟩ := h.1.cells
  obtain ⟨c, d, _, _⟩ := h.2.1.cells
  obtain ⟨e, f, _, _⟩ := h.2.2.cells
  exact ⟨a, b, c, d, e, f⟩

set_option maxRecDepth 100000 in
set_option maxHeartbeats 3200000 in
theorem MedianPointS_any (ax ay bx by_ cx cy : Int) (w : World) :
    Calls Try.prog 17 #[.agg #[.int .i64 ax, .int .i64 ay], .agg #[.int .i64 bx, .int .i64 by_], .agg #[.int .i64 cx, .int .i64 cy]] w fun e w' => e = .returned (mpV ax ay bx by_ cx cy) ∧ Below w.heap.size w w' := by
  have b0 : Below w.heap.size w ((((w.alloc (.cells #[.int .i64 ax, .int .i64 ay] 33)).alloc (.cells #[.int .i64 bx, .int .i64 by_] 33)).alloc (.cells #[.int .i64 cx, .int .i64 cy] 33)).alloc (.cells #[.int .i64 0, .int .i64 0] 33)) := by (repeat (first | assumption | exact Below.refl _ _ | (refine bl_alloc ?_ _) | (refine Below.drew ?_) | (refine bl_drewN ?_ _) | (refine bl_set ?_ (by first | (simp; done) | omega | (simp; omega)) _) | (refine bl_trans ?_ (by assumption)) | (refine bl_step ?_ (by assumption) (by first | omega | exact Below.size (by assumption) | (simp; omega) | (simp; exact Below.size (by assumption))))))
  have hT : Tri ((((w.alloc (.cells #[.int .i64 ax, .int .i64 ay] 33)).alloc (.cells #[.int .i64 bx, .int .i64 by_] 33)).alloc (.cells #[.int .i64 cx, .int .i64 cy] 33)).alloc (.cells #[.int .i64 0, .int .i64 0] 33)) w.heap.size (w.heap.size + 1) (w.heap.size + 1 + 1) ax ay bx by_ cx cy := ⟨(((heap_alloc_at _ _ rfl).alloc _).alloc _).alloc _, ((heap_alloc_at _ _ (by simp)).alloc _).alloc _, (heap_alloc_at _ _ (by simp)).alloc _⟩
  have hO : One ((((w.alloc (.cells #[.int .i64 ax, .int .i64 ay] 33)).alloc (.cells #[.int .i64 bx, .int .i64 by_] 33)).alloc (.cells #[.int .i64 cx, .int .i64 cy] 33)).alloc (.cells #[.int .i64 0, .int .i64 0] 33)) (w.heap.size + 1 + 1 + 1) 0 0 := heap_alloc_at _ _ (by simp)
  have r1 : (w.heap.size + 1 + 1 + 1) ≠ w.heap.size := by omega
  have r2 : (w.heap.size + 1 + 1 + 1) ≠ w.heap.size + 1 := by omega
  have r3 : (w.heap.size + 1 + 1 + 1) ≠ w.heap.size + 1 + 1 := by omega
  obtain ⟨t0, t1, t2, t3, t4, t5⟩ := hT.cells (w0 := w)
  cases ha : isPt ax ay
  · have Ha := Lib.hid ha
    have R := Lib.hid (mpV_f (show okM ax ay bx by_ cx cy = false by unfold okM; rw [ha]; rfl))
    clear ha
    go_enter Try.func17, Try.ntmps17
    go_wp2_with fail
    refine (l01Point_any _ _ _).mono ?_
    rintro e w1 ⟨rfl, hb1⟩
    rw [Ha.out]
    have b1 := bl_trans b0 hb1
    have hT1 := hT.to hb1
    have hO1 := hO.to hb1
    obtain ⟨s10, s11, s12, s13, s14, s15⟩ := hT1.cells (w0 := w)
    obtain ⟨o0, o1, f0, f1⟩ := hO1.cells
    have hZ := (hO1.set0 0).set1 0
    have bZ := (b1.setCell (p := ⟨w.heap.size + 1 + 1 + 1, 0, none⟩) (by simp; omega) (.int .i64 0)).setCell (p := ⟨w.heap.size + 1 + 1 + 1, 1, none⟩) (by simp; omega) (.int .i64 0)
    obtain ⟨z0, z1, _, _⟩ := hZ.cells
    go_wp2
    exact bodyPost_ret (v := .tuple #[.agg #[.int .i64 0, .int .i64 0], .bool false]) (by simp [results, Try.results17, go_sem, z0, z1]) rfl ⟨by rw [R.out], bZ⟩
  cases hb : isPt bx by_
  · have Ha := Lib.hid ha
    have Hb := Lib.hid hb
    have R := Lib.hid (mpV_f (show okM ax ay bx by_ cx cy = false by unfold okM; rw [hb]; simp))
    clear ha hb
    go_enter Try.func17, Try.ntmps17
    go_wp2_with fail
    refine (l01Point_any _ _ _).mono ?_
    rintro e w1 ⟨rfl, hb1⟩
    rw [Ha.out]
    have b1 := bl_trans b0 hb1
    have hT1 := hT.to hb1
    have hO1 := hO.to hb1
    obtain ⟨s10, s11, s12, s13, s14, s15⟩ := hT1.cells (w0 := w)
    go_wp2_with fail
    refine (l01Point_any _ _ _).mono ?_
    rintro e w2 ⟨rfl, hb2⟩
    rw [Hb.out]
    have b2 := bl_trans b1 hb2
    have hT2 := hT1.to hb2
    have hO2 := hO1.to hb2
    obtain ⟨s20, s21, s22, s23, s24, s25⟩ := hT2.cells (w0 := w)
    obtain ⟨o0, o1, f0, f1⟩ := hO2.cells
    have hZ := (hO2.set0 0).set1 0
    have bZ := (b2.setCell (p := ⟨w.heap.size + 1 + 1 + 1, 0, none⟩) (by simp; omega) (.int .i64 0)).setCell (p := ⟨w.heap.size + 1 + 1 + 1, 1, none⟩) (by simp; omega) (.int .i64 0)
    obtain ⟨z0, z1, _, _⟩ := hZ.cells
    go_wp2
    exact bodyPost_ret (v := .tuple #[.agg #[.int .i64 0, .int .i64 0], .bool false]) (by simp [results, Try.results17, go_sem, z0, z1]) rfl ⟨by rw [R.out], bZ⟩
  cases hc : isPt cx cy
  · have Ha := Lib.hid ha
    have Hb := Lib.hid hb
    have Hc := Lib.hid hc
    have R := Lib.hid (mpV_f (show okM ax ay bx by_ cx cy = false by unfold okM; rw [hc]; simp))
    clear ha hb hc
    go_enter Try.func17, Try.ntmps17
    go_wp2_with fail
    refine (l01Point_any _ _ _).mono ?_
    rintro e w1 ⟨rfl, hb1⟩
    rw [Ha.out]
    have b1 := bl_trans b0 hb1
    have hT1 := hT.to hb1
    have hO1 := hO.to hb1
    obtain ⟨s10, s11, s12, s13, s14, s15⟩ := hT1.cells (w0 := w)
    go_wp2_with fail
    refine (l01Point_any _ _ _).mono ?_
    rintro e w2 ⟨rfl, hb2⟩
    rw [Hb.out]
    have b2 := bl_trans b1 hb2
    have hT2 := hT1.to hb2
    have hO2 := hO1.to hb2
    obtain ⟨s20, s21, s22, s23, s24, s25⟩ := hT2.cells (w0 := w)
    go_wp2_with fail
    refine (l01Point_any _ _ _).mono ?_
    rintro e w3 ⟨rfl, hb3⟩
    rw [Hc.out]
    have b3 := bl_trans b2 hb3
    have hT3 := hT2.to hb3
    have hO3 := hO2.to hb3
    obtain ⟨s30, s31, s32, s33, s34, s35⟩ := hT3.cells (w0 := w)
    obtain ⟨o0, o1, f0, f1⟩ := hO3.cells
    have hZ := (hO3.set0 0).set1 0
    have bZ := (b3.setCell (p := ⟨w.heap.size + 1 + 1 + 1, 0, none⟩) (by simp; omega) (.int .i64 0)).setCell (p := ⟨w.heap.size + 1 + 1 + 1, 1, none⟩) (by simp; omega) (.int .i64 0)
    obtain ⟨z0, z1, _, _⟩ := hZ.cells
    go_wp2
    exact bodyPost_ret (v := .tuple #[.agg #[.int .i64 0, .int .i64 0], .bool false]) (by simp [results, Try.results17, go_sem, z0, z1]) rfl ⟨by rw [R.out], bZ⟩
  · have Ha := Lib.hid ha
    have Hb := Lib.hid hb
    have Hc := Lib.hid hc
    have R := Lib.hid (mpV_t (show okM ax ay bx by_ cx cy = true by unfold okM; rw [ha, hb, hc]; rfl))
    clear ha hb hc
    go_enter Try.func17, Try.ntmps17
    go_wp2_with fail
    refine (l01Point_any _ _ _).mono ?_
    rintro e w1 ⟨rfl, hb1⟩
    rw [Ha.out]
    have b1 := bl_trans b0 hb1
    have hT1 := hT.to hb1
    have hO1 := hO.to hb1
    obtain ⟨s10, s11, s12, s13, s14, s15⟩ := hT1.cells (w0 := w)
    go_wp2_with fail
    refine (l01Point_any _ _ _).mono ?_
    rintro e w2 ⟨rfl, hb2⟩
    rw [Hb.out]
    have b2 := bl_trans b1 hb2
    have hT2 := hT1.to hb2
    have hO2 := hO1.to hb2
    obtain ⟨s20, s21, s22, s23, s24, s25⟩ := hT2.cells (w0 := w)
    go_wp2_with fail
    refine (l01Point_any _ _ _).mono ?_
    rintro e w3 ⟨rfl, hb3⟩
    rw [Hc.out]
    have b3 := bl_trans b2 hb3
    have hT3 := hT2.to hb3
    have hO3 := hO2.to hb3
    obtain ⟨s30, s31, s32, s33, s34, s35⟩ := hT3.cells (w0 := w)
    obtain ⟨o0, o1, f0, f1⟩ := hO3.cells
    have hTd : Tri w3.drew w.heap.size (w.heap.size + 1) (w.heap.size + 1 + 1) ax ay bx by_ cx cy := ⟨hT3.1.drew, hT3.2.1.drew, hT3.2.2.drew⟩
    have hOd : One w3.drew (w.heap.size + 1 + 1 + 1) 0 0 := hO3.drew
    have bd : Below w.heap.size w w3.drew := b3.drew
    obtain ⟨p0, p1, g0, g1⟩ := hOd.cells
    have hZ := (hOd.set0 (mid3 ax bx cx)).set1 (mid3 ay by_ cy)
    have bZ := (bd.setCell (p := ⟨w.heap.size + 1 + 1 + 1, 0, none⟩) (by simp; omega) (.int .i64 (mid3 ax bx cx))).setCell (p := ⟨w.heap.size + 1 + 1 + 1, 1, none⟩) (by simp; omega) (.int .i64 (mid3 ay by_ cy))
    have hTZ := (hTd.far (p := ⟨w.heap.size + 1 + 1 + 1, 0, none⟩) r1.symm r2.symm r3.symm (.int .i64 (mid3 ax bx cx))).far (p := ⟨w.heap.size + 1 + 1 + 1, 1, none⟩) r1.symm r2.symm r3.symm (.int .i64 (mid3 ay by_ cy))
    obtain ⟨z0, z1, _, _⟩ := hZ.cells
    clear hb1 hb2 hb3 hT hT1 hT2 hO hO1 hO2 b0 b1 b2
    go_wp2
    refine wp_region_plan (fun wx => wx.cell? ⟨w.heap.size, 0, none⟩ = some (.int .i64 ax) ∧ wx.cell? ⟨w.heap.size, 1, none⟩ = some (.int .i64 ay) ∧ wx.cell? ⟨w.heap.size + 1, 0, none⟩ = some (.int .i64 bx) ∧ wx.cell? ⟨w.heap.size + 1, 1, none⟩ = some (.int .i64 by_) ∧ wx.cell? ⟨w.heap.size + 1 + 1, 0, none⟩ = some (.int .i64 cx) ∧ wx.cell? ⟨w.heap.size + 1 + 1, 1, none⟩ = some (.int .i64 cy)) [(0, true), (1, true), (2, true), (3, true), (4, true), (5, true), (7, true), (8, true), (9, true), (10, true), (11, true), (12, true), (6, false), (13, false), (14, true), (15, false), (16, true)] (by kernel_rfl) (by kernel_rfl) (by kernel_rfl) (fun _ d _ _ _ h => by cases d <;> exact h) (hTd.cells (w0 := w)) (fun hS0 => ?_)
    refine plan_w (v := ?_) rfl (by rfl) ?_ ?_
    rotate_left
    · intro wx hSx
      try dsimp only at hSx
      go_simp
      try (with_reducible rfl)
    try simp only [Act.put, List.setIfInBounds_toArray, List.set_cons_zero, List.set_cons_succ]
    refine plan_w (v := ?_) rfl (by rfl) ?_ ?_
    rotate_left
    · intro wx hSx
      try dsimp only at hSx
      go_simp
      try (with_reducible rfl)
    try simp only [Act.put, List.setIfInBounds_toArray, List.set_cons_zero, List.set_cons_succ]
    refine plan_w (v := ?_) rfl (by rfl) ?_ ?_
    rotate_left
    · intro wx hSx
      try dsimp only at hSx
      go_simp
      try (with_reducible rfl)
    try simp only [Act.put, List.setIfInBounds_toArray, List.set_cons_zero, List.set_cons_succ]
    refine plan_w (v := ?_) rfl (by rfl) ?_ ?_
    rotate_left
    · intro wx hSx
      try dsimp only at hSx
      go_simp
      try (with_reducible rfl)
    try simp only [Act.put, List.setIfInBounds_toArray, List.set_cons_zero, List.set_cons_succ]
    refine plan_w (v := ?_) rfl (by rfl) ?_ ?_
    rotate_left
    · intro wx hSx
      try dsimp only at hSx
      go_simp
      try (with_reducible rfl)
    try simp only [Act.put, List.setIfInBounds_toArray, List.set_cons_zero, List.set_cons_succ]
    refine plan_w (v := ?_) rfl (by rfl) ?_ ?_
    rotate_left
    · intro wx hSx
      try dsimp only at hSx
      go_simp
      try (with_reducible rfl)
    try simp only [Act.put, List.setIfInBounds_toArray, List.set_cons_zero, List.set_cons_succ]
    refine plan_w (v := ?_) rfl (by rfl) ?_ ?_
    rotate_left
    · intro wx hSx
      try dsimp only at hSx
      go_simp
      try (with_reducible rfl)
    try simp only [Act.put, List.setIfInBounds_toArray, List.set_cons_zero, List.set_cons_succ]
    refine plan_w (v := ?_) rfl (by rfl) ?_ ?_
    rotate_left
    · intro wx hSx
      try dsimp only at hSx
      go_simp
      try (with_reducible rfl)
    try simp only [Act.put, List.setIfInBounds_toArray, List.set_cons_zero, List.set_cons_succ]
    refine plan_w (v := ?_) rfl (by rfl) ?_ ?_
    rotate_left
    · intro wx hSx
      try dsimp only at hSx
      go_simp
      try (with_reducible rfl)
    try simp only [Act.put, List.setIfInBounds_toArray, List.set_cons_zero, List.set_cons_succ]
    refine plan_w (v := ?_) rfl (by rfl) ?_ ?_
    rotate_left
    · intro wx hSx
      try dsimp only at hSx
      go_simp
      try (with_reducible rfl)
    try simp only [Act.put, List.setIfInBounds_toArray, List.set_cons_zero, List.set_cons_succ]
    refine plan_w (v := ?_) rfl (by rfl) ?_ ?_
    rotate_left
    · intro wx hSx
      try dsimp only at hSx
      go_simp
      try (with_reducible rfl)
    try simp only [Act.put, List.setIfInBounds_toArray, List.set_cons_zero, List.set_cons_succ]
    refine plan_w (v := ?_) rfl (by rfl) ?_ ?_
    rotate_left
    · intro wx hSx
      try dsimp only at hSx
      go_simp
      try (with_reducible rfl)
    try simp only [Act.put, List.setIfInBounds_toArray, List.set_cons_zero, List.set_cons_succ]
    refine plan_b rfl (fun K hK => ?_)
    go_simp
    refine (l05Middle_any _ _ _ _).mono ?_
    rintro e w4 ⟨rfl, rfl⟩
    refine hK _ _ ⟨hS0, ?_⟩
    clear hK K
    try simp only [Act.put, List.setIfInBounds_toArray, List.set_cons_zero, List.set_cons_succ]
    refine plan_b rfl (fun K hK => ?_)
    go_simp
    refine (l05Middle_any _ _ _ _).mono ?_
    rintro e w4 ⟨rfl, rfl⟩
    refine hK _ _ ⟨hS0, ?_⟩
    clear hK K
    try simp only [Act.put, List.setIfInBounds_toArray, List.set_cons_zero, List.set_cons_succ]
    refine plan_w (v := ?_) rfl (by rfl) ?_ ?_
    rotate_left
    · intro wx hSx
      try dsimp only at hSx
      go_simp
      try (with_reducible rfl)
    try simp only [Act.put, List.setIfInBounds_toArray, List.set_cons_zero, List.set_cons_succ]
    refine plan_b rfl (fun K hK => ?_)
    go_simp
    refine hK _ _ ⟨hTZ.cells (w0 := w), ?_⟩
    clear hK K
    try simp only [Act.put, List.setIfInBounds_toArray, List.set_cons_zero, List.set_cons_succ]
    refine plan_w (v := ?_) rfl (by rfl) ?_ ?_
    rotate_left
    · intro wx hSx
      try dsimp only at hSx
      go_simp
      try (with_reducible rfl)
    try simp only [Act.put, List.setIfInBounds_toArray, List.set_cons_zero, List.set_cons_succ]
    refine plan_end ?_
    go_wp2
    generalize hw : World.drew _ = wz
    have y0 : One wz (w.heap.size + 1 + 1 + 1) (mid3 ax bx cx) (mid3 ay by_ cy) := by rw [← hw]; exact ((hO3.set0 _).set1 _).drew
    have zb : Below w.heap.size w wz := by rw [← hw]; exact ((b3.setCell (by simp; omega) _).setCell (by simp; omega) _).drew
    obtain ⟨v0, v1, _, _⟩ := y0.cells
    exact bodyPost_ret (v := .tuple #[.agg #[.int .i64 (mid3 ax bx cx), .int .i64 (mid3 ay by_ cy)], .bool true]) (by simp [results, Try.results17, go_sem, v0, v1]) rfl ⟨by rw [R.out], zb⟩
end Go.Proofs.Ytepamhdopmfkfaa
