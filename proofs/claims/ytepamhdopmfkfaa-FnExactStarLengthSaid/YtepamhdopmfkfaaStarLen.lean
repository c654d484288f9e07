/-
  Contracts: StarLength, of the model and of the program.
-/
import Derived.Test.YtepamhdopmfkfaaStar
namespace Go.Proofs.Ytepamhdopmfkfaa
set_option linter.unusedSimpArgs false
set_option linter.unusedVariables false
open Go.ChangeShapes Go.WideShapes Go.ChangeAt Go.RowKit Go.Shelf
open Go.Proofs.Ytepamhdopmfkfaa.fnExactBoxOf

def okStar (ps : List Pt) (x y : Int) : Bool := isPins ps && isPt x y
def starV (ps : List Pt) (x y : Int) : Value := .tuple #[.int .i64 (sel (okStar ps x y) (starTo ps x y ps.length)), .bool (okStar ps x y)]
theorem starV_f {ps : List Pt} {x y : Int} (h : okStar ps x y = false) : starV ps x y = .tuple #[.int .i64 0, .bool false] := by simp [starV, sel, h]
theorem starV_t {ps : List Pt} {x y : Int} (h : okStar ps x y = true) : starV ps x y = .tuple #[.int .i64 (starTo ps x y ps.length), .bool true] := by simp [starV, sel, h]

set_option maxRecDepth 100000 in
set_option maxHeartbeats 800000 in
theorem StarLengthS_any (A : Option Addr) (ps : List Pt) (c : Nat) (x y : Int) (w : World) (hp : PtsAt w w.heap.size A ps) (hl : ps.length ≤ 1048576) (hlc : ps.length ≤ c) :
    Calls Try.prog 25 #[.slice A ps.length c, .agg #[.int .i64 x, .int .i64 y]] w fun e w' => e = .returned (starV ps x y) ∧ Below w.heap.size w w' := by
  have b0 : Below w.heap.size w (w.alloc (.cells #[.int .i64 x, .int .i64 y] 33)) := by (repeat (first | assumption | exact Below.refl _ _ | (refine bl_alloc ?_ _) | (refine Below.drew ?_) | (refine bl_drewN ?_ _) | (refine bl_set ?_ (by first | (simp; done) | omega | (simp; omega)) _) | (refine bl_trans ?_ (by assumption)) | (refine bl_step ?_ (by assumption) (by first | omega | exact Below.size (by assumption) | (simp; omega) | (simp; exact Below.size (by assumption))))))
  have hX : One (w.alloc (.cells #[.int .i64 x, .int .i64 y] 33)) w.heap.size x y := heap_alloc_at _ _ rfl
  cases hi : isPins ps
  · have H := Lib.hid hi
    have R := Lib.hid (starV_f (x := x) (y := y) (show okStar ps x y = false by unfold okStar; rw [hi]; rfl))
    clear hi
    go_enter Try.func25, Try.ntmps25
    go_wp2_with fail
    refine (l05Is_any _ _ _ _ (hp.to b0) hl hlc).mono ?_
    rintro e w1 ⟨rfl, hb1⟩
    rw [H.out]
    have b1 := bl_trans b0 hb1
    go_wp2
    go_ret2
    exact ⟨by rw [R.out]; rfl, b1⟩
  · obtain ⟨h0, h20, ha, _⟩ := isPins_iff.1 hi
    cases hr : isPt x y
    · have H := Lib.hid hi
      have HR := Lib.hid hr
      have R := Lib.hid (starV_f (show okStar ps x y = false by unfold okStar; rw [hr]; simp))
      clear hi hr ha
      go_enter Try.func25, Try.ntmps25
      go_wp2_with fail
      refine (l05Is_any _ _ _ _ (hp.to b0) hl hlc).mono ?_
      rintro e w1 ⟨rfl, hb1⟩
      rw [H.out]
      have b1 := bl_trans b0 hb1
      obtain ⟨x0, x1, _, _⟩ := (hX.to hb1).cells
      go_wp2_with fail
      refine (l01Point_any _ _ _).mono ?_
      rintro e w2 ⟨rfl, hb2⟩
      rw [HR.out]
      have b2 := bl_trans b1 hb2
      go_wp2
      go_ret2
      exact ⟨by rw [R.out]; rfl, b2⟩
    · have H := Lib.hid hi
      have HR := Lib.hid hr
      have HA := Lib.hid ha
      have R := Lib.hid (starV_t (show okStar ps x y = true by unfold okStar; rw [hi, hr]; rfl))
      clear hi hr ha
      go_enter Try.func25, Try.ntmps25
      go_wp2_with fail
      refine (l05Is_any _ _ _ _ (hp.to b0) hl hlc).mono ?_
      rintro e w1 ⟨rfl, hb1⟩
      rw [H.out]
      have b1 := bl_trans b0 hb1
      have hX1 := hX.to hb1
      obtain ⟨x0, x1, _, _⟩ := hX1.cells
      go_wp2_with fail
      refine (l01Point_any _ _ _).mono ?_
      rintro e w2 ⟨rfl, hb2⟩
      rw [HR.out]
      have b2 := bl_trans b1 hb2
      obtain ⟨y0, y1, _, _⟩ := (hX1.to hb2).cells
      go_wp2_with fail
      refine (l05Star_any _ _ _ _ _ _ (hp.to b2) h20 HA.out HR.out).mono ?_
      rintro e w3 ⟨rfl, hb3⟩
      have b3 := bl_trans b2 hb3
      go_wp2
      go_ret2
      exact ⟨by rw [R.out]; rfl, b3⟩

theorem run_star1 (x y n : Value) (w : World) : (Instr.field 77 (.agg #[x, y, n]) 1).run Try.prog w = .ok n w := by kernel_rfl
set_option maxRecDepth 100000 in
set_option maxHeartbeats 800000 in
theorem slFn_any (g gr : Nat) (A : Option Addr) (ps : List Pt) (c : Nat) (x y : Int) (w : World) (hg : w.cell? ⟨g, 0, none⟩ = some (.slice A ps.length c)) (hX : One w gr x y) (hp : PtsAt w w.heap.size A ps) (hl : ps.length ≤ 1048576) (hlc : ps.length ≤ c) :
    Calls Try.prog 57 #[.pointer (some ⟨gr, 0, none⟩), .pointer (some ⟨g, 0, none⟩)] w fun e w' => ((∃ v, e = .returned v ∧ (okStar ps x y = true ∧ v = .int .i64 (starTo ps x y ps.length))) ∨ (Pan e ∧ okStar ps x y = false)) ∧ Below w.heap.size w w' := by
  have cr := Lib.hid (fun w1 (hb : Below w.heap.size w w1) => requirePins_any A ps c 20 w1 (hp.to hb) hl hlc)
  obtain ⟨x0, x1, _, _⟩ := hX.cells
  have hgl := World.block_lt_of_cell? w _ hg
  have hfd := fun w1 => run_star1 (.int .i64 x) (.int .i64 y) (.int .i64 (starTo ps x y ps.length)) w1
  simp only at hgl
  cases hr : isPt x y
  · have HR := Lib.hid hr
    have R := Lib.hid (show okStar ps x y = false by unfold okStar; rw [hr]; simp)
    clear hr
    go_enter Try.func57, Try.ntmps57
    go_wp2_with fail
    refine (IsPointI_any _ _ _).mono ?_
    rintro e w1 ⟨rfl, hb1⟩
    rw [HR.out]
    go_wp2_with fail
    refine (require_no _).mono ?_
    rintro e w2 ⟨⟨u, pv, rfl⟩, rfl⟩
    go_wp2
    exact ⟨rfl, .inr ⟨⟨_, _, rfl⟩, R.out⟩, hb1⟩
  · have HR := Lib.hid hr
    clear hr
    go_enter Try.func57, Try.ntmps57
    go_wp2_with fail
    refine (IsPointI_any _ _ _).mono ?_
    rintro e w1 ⟨rfl, hb1⟩
    rw [HR.out]
    go_wp2_with fail
    refine (require_yes _).mono ?_
    rintro e w2 ⟨rfl, rfl⟩
    obtain ⟨y0, y1, _, _⟩ := (hX.to hb1).cells
    have g1 := (hb1.cell (p := ⟨g, 0, none⟩) hgl).trans hg
    have hz1 := hb1.size
    have hS : w2.drew.cell? ⟨gr, 0, none⟩ = some (.int .i64 x) ∧ w2.drew.cell? ⟨gr, 0 + 1, none⟩ = some (.int .i64 y) ∧ Below w.heap.size w w2.drew ∧ w.heap.size ≤ w2.drew.heap.size := ⟨y0, y1, hb1.drew, hz1⟩
    go_wp2
    refine wp_region_plan (fun wx => wx.cell? ⟨g, 0, none⟩ = some (.slice A ps.length c) ∧ wx.cell? ⟨gr, 0, none⟩ = some (.int .i64 x) ∧ wx.cell? ⟨gr, 0 + 1, none⟩ = some (.int .i64 y) ∧ Below w.heap.size w wx ∧ w.heap.size ≤ wx.heap.size) [(0, true), (2, true), (1, false), (3, false), (4, true), (5, true)] (by kernel_rfl) (by kernel_rfl) (by kernel_rfl) (fun _ d _ _ _ h => by cases d <;> exact h) ⟨g1, hS⟩ (fun hS0 => ?_)
    refine plan_w (v := ?_) rfl (by rfl) ?_ ?_
    rotate_left
    · intro wx hSx
      try dsimp only at hSx
      go_simp
      try (with_reducible rfl)
    try simp only [Act.put, List.setIfInBounds_toArray, List.set_cons_zero, List.set_cons_succ]
    refine plan_w (v := ?_) rfl (by rfl) ?_ ?_
    rotate_left
    · intro wx hSx
      try dsimp only at hSx
      go_simp
      try (with_reducible rfl)
    try simp only [Act.put, List.setIfInBounds_toArray, List.set_cons_zero, List.set_cons_succ]
    refine plan_b rfl (fun K hK => ?_)
    go_simp
    refine (cr.out _ hS0.2.2.2.1).mono ?_
    rintro e w3 ⟨hor, hb3⟩
    rcases hor with ⟨hi, h20, rfl⟩ | ⟨hn, u, pv, rfl⟩
    · have hS1 := keep2b hS0.2 hb3
      have g3 := (hb3.cell (p := ⟨g, 0, none⟩) (World.block_lt_of_cell? _ _ hS0.1)).trans hS0.1
      obtain ⟨h0, _, ha, _⟩ := isPins_iff.1 hi
      have R := Lib.hid (show okStar ps x y = true by unfold okStar; rw [hi, HR.out]; rfl)
      refine hK _ _ ⟨⟨g3, hS1⟩, ?_⟩
      clear hK K
      try simp only [Act.put, List.setIfInBounds_toArray, List.set_cons_zero, List.set_cons_succ]
      refine plan_b rfl (fun K hK => ?_)
      go_simp
      refine (starFrom_any _ _ _ _ _ _ (hp.to hS1.2.2.1) h20 ha HR.out).mono ?_
      rintro e w4 ⟨rfl, hb4⟩
      have hS2 := keep2b hS1 hb4
      have g4 := (hb4.cell (p := ⟨g, 0, none⟩) (World.block_lt_of_cell? _ _ g3)).trans g3
      refine hK _ _ ⟨⟨g4, hS2⟩, ?_⟩
      clear hK K
      try simp only [Act.put, List.setIfInBounds_toArray, List.set_cons_zero, List.set_cons_succ]
      refine plan_w (v := ?_) rfl (by rfl) ?_ ?_
      rotate_left
      · intro wx hSx
        try dsimp only at hSx
        go_simp
        try (with_reducible rfl)
      try simp only [Act.put, List.setIfInBounds_toArray, List.set_cons_zero, List.set_cons_succ]
      refine plan_w (v := ?_) rfl (by rfl) ?_ ?_
      rotate_left
      · intro wx hSx
        try dsimp only at hSx
        go_simp
        try (with_reducible rfl)
      try simp only [Act.put, List.setIfInBounds_toArray, List.set_cons_zero, List.set_cons_succ]
      refine plan_end ?_
      go_wp2
      go_ret
      exact ⟨.inl ⟨_, rfl, R.out, rfl⟩, hS2.2.2.1⟩
    · have R := Lib.hid (show okStar ps x y = false by
        unfold okStar
        cases hi : isPins ps
        · rfl
        · exact absurd ⟨hi, (isPins_iff.1 hi).2.1⟩ hn)
      exact ⟨rfl, .inr ⟨⟨_, _, rfl⟩, R.out⟩, bl_step hS0.2.2.2.1 hb3 hS0.2.2.2.2⟩

set_option maxRecDepth 100000 in
theorem StarLengthI_any (A : Option Addr) (ps : List Pt) (c : Nat) (x y : Int) (w : World) (hp : PtsAt w w.heap.size A ps) (hl : ps.length ≤ 1048576) (hlc : ps.length ≤ c) :
    Calls Try.prog 26 #[.slice A ps.length c, .agg #[.int .i64 x, .int .i64 y]] w fun e w' => e = .returned (starV ps x y) ∧ Below w.heap.size w w' := by
  have hmf : ∀ (fn : Fn) (first cap : Array Value) (w : World), (Instr.makeFunc fn first cap).run Try.prog w = .ok (.func fn first cap) w := fun _ _ _ _ => rfl
  have eg : ∀ args w, (callFunc 57 args).run Try.prog w = .ok (.enter 57 args) w := enters_of Try.func57 (by kernel_rfl) rfl
  have h0 : Below w.heap.size w ((w.alloc (.cells #[.slice A ps.length c] 25)).alloc (.cells #[.int .i64 x, .int .i64 y] 33)) := by (repeat (first | assumption | exact Below.refl _ _ | (refine bl_alloc ?_ _) | (refine Below.drew ?_) | (refine bl_drewN ?_ _) | (refine bl_set ?_ (by first | (simp; done) | omega | (simp; omega)) _) | (refine bl_trans ?_ (by assumption)) | (refine bl_step ?_ (by assumption) (by first | omega | exact Below.size (by assumption) | (simp; omega) | (simp; exact Below.size (by assumption))))))
  have h1 : Below ((w.alloc (.cells #[.slice A ps.length c] 25)).alloc (.cells #[.int .i64 x, .int .i64 y] 33)).heap.size ((w.alloc (.cells #[.slice A ps.length c] 25)).alloc (.cells #[.int .i64 x, .int .i64 y] 33)) (((w.alloc (.cells #[.slice A ps.length c] 25)).alloc (.cells #[.int .i64 x, .int .i64 y] 33)).alloc (.cells #[.bool false] 4)) := by (repeat (first | assumption | exact Below.refl _ _ | (refine bl_alloc ?_ _) | (refine Below.drew ?_) | (refine bl_drewN ?_ _) | (refine bl_set ?_ (by first | (simp; done) | omega | (simp; omega)) _) | (refine bl_trans ?_ (by assumption)) | (refine bl_step ?_ (by assumption) (by first | omega | exact Below.size (by assumption) | (simp; omega) | (simp; exact Below.size (by assumption))))))
  have hx := attemptInt_any 57 #[.pointer (some ⟨w.heap.size + 1, 0, none⟩), .pointer (some ⟨w.heap.size, 0, none⟩)] ((w.alloc (.cells #[.slice A ps.length c] 25)).alloc (.cells #[.int .i64 x, .int .i64 y] 33)) (fun v _ => okStar ps x y = true ∧ v = .int .i64 (starTo ps x y ps.length)) (okStar ps x y = false) eg (slFn_any w.heap.size (w.heap.size + 1) A ps c x y _ ((h1.cell (p := ⟨w.heap.size, 0, none⟩) (by simp <;> omega)).trans (by go_simp)) ((heap_alloc_at (w := w.alloc (.cells #[.slice A ps.length c] 25)) x y (by simp)).alloc _) ((hp.to h0).to h1) hl hlc)
  go_enter Try.func26, Try.ntmps26
  go_wp2_with fail
  refine hx.mono ?_
  rintro e w1 ⟨⟨v, w2, rfl, ⟨hi, rfl⟩, rfl⟩ | ⟨rfl, hi⟩, hb1⟩
  · have b1 := bl_trans h0 hb1
    go_wp2
    go_ret2
    exact ⟨by rw [starV_t hi]; rfl, by simpa using b1⟩
  · have b1 := bl_trans h0 hb1
    go_wp2
    go_ret2
    exact ⟨by rw [starV_f hi]; rfl, b1⟩
end Go.Proofs.Ytepamhdopmfkfaa
