/-
  Contracts: the root with the least sum of distances, as the program has it.
-/
import Derived.Test.YtepamhdopmfkfaaRoot
import Derived.Test.YtepamhdopmfkfaaAttemptS
namespace Go.Proofs.Ytepamhdopmfkfaa
set_option linter.unusedSimpArgs false
set_option linter.unusedVariables false
open Go.ChangeShapes Go.WideShapes Go.ChangeAt Go.RowKit Go.Shelf
open Go.Proofs.Ytepamhdopmfkfaa.fnExactBoxOf

theorem medP_pt {ps : List Pt} (h : ps ≠ []) (ha : allPt ps = true) : isPt (medP ps).1 (medP ps).2 = true := by
  have := medP_mem h
  rw [hanA_mem] at this
  obtain ⟨⟨p, hp, h1⟩, r, hr, h2⟩ := this
  unfold allPt at ha
  rw [List.all_eq_true] at ha
  have k1 := isPt_iff.1 (ha p hp)
  have k2 := isPt_iff.1 (ha r hr)
  rw [isPt_iff, ← h1, ← h2]
  exact ⟨k1.1, k2.2⟩
set_option maxRecDepth 100000 in
set_option maxHeartbeats 1600000 in
theorem brFn_any (g : Nat) (A : Option Addr) (ps : List Pt) (c : Nat) (w : World) (hg : w.cell? ⟨g, 0, none⟩ = some (.slice A ps.length c)) (hp : PtsAt w w.heap.size A ps) (hl : ps.length ≤ 1048576) (hlc : ps.length ≤ c) :
    Calls Try.prog 61 #[.pointer (some ⟨g, 0, none⟩)] w fun e w' => ((∃ x y n, e = .returned (.agg #[.int .i64 x, .int .i64 y, .int .i64 n]) ∧ (isPins ps = true ∧ (x, y) = medP ps ∧ n = starF ps (medP ps))) ∨ (Pan e ∧ isPins ps = false)) ∧ Below w.heap.size w w' := by
  have b0 : Below w.heap.size w (w.alloc (.cells #[.int .i64 0, .int .i64 0, .int .i64 0] 77)) := by (repeat (first | assumption | exact Below.refl _ _ | (refine bl_alloc ?_ _) | (refine Below.drew ?_) | (refine bl_drewN ?_ _) | (refine bl_set ?_ (by first | (simp; done) | omega | (simp; omega)) _) | (refine bl_trans ?_ (by assumption)) | (refine bl_step ?_ (by assumption) (by first | omega | exact Below.size (by assumption) | (simp; omega) | (simp; exact Below.size (by assumption))))))
  have hU : Star3 (w.alloc (.cells #[.int .i64 0, .int .i64 0, .int .i64 0] 77)) w.heap.size 0 0 0 := Star3.new _ _ _ rfl
  have cr := requirePins_any A ps c 20 _ (hp.to b0) hl hlc
  have hg0 := (b0.cell (p := ⟨g, 0, none⟩) (World.block_lt_of_cell? w _ hg)).trans hg
  cases hi : isPins ps
  · have H := Lib.hid hi
    clear hi
    go_enter Try.func61, Try.ntmps61
    go_wp2_with fail
    refine cr.mono ?_
    rintro e w1 ⟨⟨h, _⟩ | ⟨_, u, pv, rfl⟩, hb1⟩
    · rw [H.out] at h; cases h
    have b1 := bl_trans b0 hb1
    go_wp2
    exact ⟨rfl, .inr ⟨⟨_, _, rfl⟩, trivial⟩, b1⟩
  · obtain ⟨h0, h20, ha, _⟩ := isPins_iff.1 hi
    have H := Lib.hid hi
    have HA := Lib.hid ha
    have hne : ps ≠ [] := by rintro rfl; simp at h0
    have HM : Hid (isPt (medL (ps.map fun p : Pt => p.1)) (medL (ps.map fun p : Pt => p.2)) = true) := medP_pt hne ha
    have H20 := Lib.hid h20
    clear hi ha hne
    go_enter Try.func61, Try.ntmps61
    go_wp2_with fail
    refine cr.mono ?_
    rintro e w1 ⟨hor, hb1⟩
    obtain rfl : e = .returned (.slice A ps.length c) := by
      rcases hor with ⟨_, _, h⟩ | ⟨h, _⟩
      · exact h
      · exact absurd ⟨H.out, H20.out⟩ h
    clear hor
    have b1 := bl_trans b0 hb1
    have hU1 := hU.to hb1
    go_wp2_with fail
    refine (medianOf_any A ps c _ (hp.to b1) h0 h20).mono ?_
    rintro e w2 ⟨rfl, hb2⟩
    have b2 := bl_trans b1 hb2
    have hU2 := hU1.to hb2
    go_wp2_with fail
    refine (starFrom_any A ps c _ _ _ (hp.to b2) h20 HA.out HM.out).mono ?_
    rintro e w3 ⟨rfl, hb3⟩
    have b3 := bl_trans b2 hb3
    have hU3 := hU2.to hb3
    have HF : Hid (starTo ps (medL (ps.map fun p : Pt => p.1)) (medL (ps.map fun p : Pt => p.2)) ps.length = starF ps (medP ps)) := rfl
    have HP : Hid ((medL (ps.map fun p : Pt => p.1), medL (ps.map fun p : Pt => p.2)) = medP ps) := rfl
    generalize starTo ps (medL (ps.map fun p : Pt => p.1)) (medL (ps.map fun p : Pt => p.2)) ps.length = n at *
    generalize medL (ps.map fun p : Pt => p.1) = x at *
    generalize medL (ps.map fun p : Pt => p.2) = y at *
    have u0 := hU3.cell0
    have u1 := hU3.cell1
    have u2 := hU3.cell2
    have v0 := hU3.frozen 0
    have v1 := hU3.frozen 1
    have v2 := hU3.frozen 2
    have hZ := hU3.put x y n
    have bZ := ((b3.setCell (p := ⟨w.heap.size, 0, none⟩) (Nat.le_refl _) (.int .i64 x)).setCell (p := ⟨w.heap.size, 1, none⟩) (Nat.le_refl _) (.int .i64 y)).setCell (p := ⟨w.heap.size, 2, none⟩) (Nat.le_refl _) (.int .i64 n)
    have z0 := hZ.cell0
    have z1 := hZ.cell1
    have z2 := hZ.cell2
    go_wp2
    exact bodyPost_ret (v := .agg #[.int .i64 x, .int .i64 y, .int .i64 n]) (by simp [results, Try.results61, go_sem, z0, z1, z2]) rfl ⟨.inl ⟨x, y, n, rfl, trivial, HP.out, HF.out⟩, bZ⟩

set_option maxRecDepth 100000 in
set_option maxHeartbeats 800000 in
theorem BestRootI_any (A : Option Addr) (ps : List Pt) (c : Nat) (w : World) (hp : PtsAt w w.heap.size A ps) (hl : ps.length ≤ 1048576) (hlc : ps.length ≤ c) :
    Calls Try.prog 28 #[.slice A ps.length c] w fun e w' => e = .returned (brV ps) ∧ Below w.heap.size w w' := by
  have hmf : ∀ (fn : Fn) (first cap : Array Value) (w : World), (Instr.makeFunc fn first cap).run Try.prog w = .ok (.func fn first cap) w := fun _ _ _ _ => rfl
  have eg : ∀ args w, (callFunc 61 args).run Try.prog w = .ok (.enter 61 args) w := enters_of Try.func61 (by kernel_rfl) rfl
  have b0 : Below w.heap.size w ((w.alloc (.cells #[.slice A ps.length c] 25)).alloc (.cells #[.int .i64 0, .int .i64 0] 33)) := by (repeat (first | assumption | exact Below.refl _ _ | (refine bl_alloc ?_ _) | (refine Below.drew ?_) | (refine bl_drewN ?_ _) | (refine bl_set ?_ (by first | (simp; done) | omega | (simp; omega)) _) | (refine bl_trans ?_ (by assumption)) | (refine bl_step ?_ (by assumption) (by first | omega | exact Below.size (by assumption) | (simp; omega) | (simp; exact Below.size (by assumption))))))
  have g0 : ((w.alloc (.cells #[.slice A ps.length c] 25)).alloc (.cells #[.int .i64 0, .int .i64 0] 33)).cell? ⟨w.heap.size, 0, none⟩ = some (.slice A ps.length c) := by go_simp
  have hO : One ((w.alloc (.cells #[.slice A ps.length c] 25)).alloc (.cells #[.int .i64 0, .int .i64 0] 33)) (w.heap.size + 1) 0 0 := heap_alloc_at _ _ (by simp)
  have hsz : ((w.alloc (.cells #[.slice A ps.length c] 25)).alloc (.cells #[.int .i64 0, .int .i64 0] 33)).heap.size = w.heap.size + 1 + 1 := by simp
  go_enter Try.func28, Try.ntmps28
  go_wp2_with fail
  generalize (w.alloc (.cells #[.slice A ps.length c] 25)).alloc (.cells #[.int .i64 0, .int .i64 0] 33) = w1 at *
  have h1 : Below w1.heap.size w1 ((w1.alloc (.cells #[.int .i64 0, .int .i64 0, .int .i64 0] 77)).alloc (.cells #[.bool false] 4)) := by (repeat (first | assumption | exact Below.refl _ _ | (refine bl_alloc ?_ _) | (refine Below.drew ?_) | (refine bl_drewN ?_ _) | (refine bl_set ?_ (by first | (simp; done) | omega | (simp; omega)) _) | (refine bl_trans ?_ (by assumption)) | (refine bl_step ?_ (by assumption) (by first | omega | exact Below.size (by assumption) | (simp; omega) | (simp; exact Below.size (by assumption))))))
  refine (attemptStar_any 61 #[.pointer (some ⟨w.heap.size, 0, none⟩)] w1 (fun x y n => isPins ps = true ∧ (x, y) = medP ps ∧ n = starF ps (medP ps)) (isPins ps = false) eg (brFn_any w.heap.size A ps c _ ((h1.cell (p := ⟨w.heap.size, 0, none⟩) (by simp only; omega)).trans g0) ((hp.to b0).to h1) hl hlc)).mono ?_
  rintro e w2 ⟨⟨x, y, n, rfl, hi, hm, hn⟩ | ⟨rfl, hi⟩, hb2⟩
  · have b2 := bl_trans b0 hb2
    have hz2 := hb2.size
    have bx : Below w2.heap.size w2 (w2.alloc (.cells #[.int .i64 x, .int .i64 y, .int .i64 n] 77)) := by (repeat (first | assumption | exact Below.refl _ _ | (refine bl_alloc ?_ _) | (refine Below.drew ?_) | (refine bl_drewN ?_ _) | (refine bl_set ?_ (by first | (simp; done) | omega | (simp; omega)) _) | (refine bl_trans ?_ (by assumption)) | (refine bl_step ?_ (by assumption) (by first | omega | exact Below.size (by assumption) | (simp; omega) | (simp; exact Below.size (by assumption))))))
    have b3 := bl_trans b2 bx
    have hO3 := (hO.to hb2).to bx
    have hS3 : Star3 (w2.alloc (.cells #[.int .i64 x, .int .i64 y, .int .i64 n] 77)) w2.heap.size x y n := Star3.new _ _ _ rfl
    have R : Hid (brV ps = .tuple #[.agg #[.int .i64 x, .int .i64 y], .int .i64 n, .bool true]) := by
      show _ = _
      rw [brV_t hi, ← hm, hn, ← hm]
    obtain ⟨o0, o1, f0, f1⟩ := hO3.cells
    have s0 := hS3.cell0
    have s1 := hS3.cell1
    have s2 := hS3.cell2
    have hne : w2.heap.size ≠ w.heap.size + 1 := by omega
    clear hi hm hn hb2 bx b2 hO h1 g0
    go_wp2
    go_region
    all_goals
      go_wp2
      generalize hw : World.drew _ = wz
      have z0 : One wz (w.heap.size + 1) x y := by rw [← hw]; exact ((hO3.set0 _).set1 _).drew
      have zb : Below w.heap.size w wz := by rw [← hw]; exact ((b3.setCell (by simp) _).setCell (by simp) _).drew
      obtain ⟨v0, v1, _, _⟩ := z0.cells
      exact bodyPost_ret (v := .tuple #[.agg #[.int .i64 x, .int .i64 y], .int .i64 n, .bool true]) (by simp [results, Try.results28, go_sem, v0, v1]) rfl ⟨by rw [R.out], zb⟩
  · have b2 := bl_trans b0 hb2
    have hz2 := hb2.size
    have bx : Below w2.heap.size w2 (w2.alloc (.cells #[.int .i64 0, .int .i64 0, .int .i64 0] 77)) := by (repeat (first | assumption | exact Below.refl _ _ | (refine bl_alloc ?_ _) | (refine Below.drew ?_) | (refine bl_drewN ?_ _) | (refine bl_set ?_ (by first | (simp; done) | omega | (simp; omega)) _) | (refine bl_trans ?_ (by assumption)) | (refine bl_step ?_ (by assumption) (by first | omega | exact Below.size (by assumption) | (simp; omega) | (simp; exact Below.size (by assumption))))))
    have b3 := bl_trans b2 bx
    have hO3 := (hO.to hb2).to bx
    have hS3 : Star3 (w2.alloc (.cells #[.int .i64 0, .int .i64 0, .int .i64 0] 77)) w2.heap.size 0 0 0 := Star3.new _ _ _ rfl
    have R := Lib.hid (brV_f hi)
    obtain ⟨o0, o1, f0, f1⟩ := hO3.cells
    have s0 := hS3.cell0
    have s1 := hS3.cell1
    have s2 := hS3.cell2
    have hne : w2.heap.size ≠ w.heap.size + 1 := by omega
    clear hi hb2 bx b2 hO h1 g0
    go_wp2
    go_region
    all_goals
      go_wp2
      generalize hw : World.drew _ = wz
      have z0 : One wz (w.heap.size + 1) 0 0 := by rw [← hw]; exact ((hO3.set0 _).set1 _).drew
      have zb : Below w.heap.size w wz := by rw [← hw]; exact ((b3.setCell (by simp) _).setCell (by simp) _).drew
      obtain ⟨v0, v1, _, _⟩ := z0.cells
      exact bodyPost_ret (v := .tuple #[.agg #[.int .i64 0, .int .i64 0], .int .i64 0, .bool false]) (by simp [results, Try.results28, go_sem, v0, v1]) rfl ⟨by rw [R.out], zb⟩
end Go.Proofs.Ytepamhdopmfkfaa
