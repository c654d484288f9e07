/-
  Contract of the program's BoxOf.
-/
import Derived.Test.YtepamhdopmfkfaaBox
import Derived.Deep.DeepCutAuto
namespace Go.Proofs.Ytepamhdopmfkfaa.fnExactBoxOf
set_option linter.unusedSimpArgs false
set_option linter.unusedVariables false
open Go.ChangeShapes Go.WideShapes Go.ChangeAt Go.RowKit

set_option maxRecDepth 100000 in
set_option maxHeartbeats 800000 in
theorem BoxOfI_t (A : Option Addr) (ps : List (Int × Int)) (c : Nat) (w : World) (hp : PtsAt w w.heap.size A ps) (hl : ps.length ≤ 1048576) (ha : arePts ps = true) (h0 : 0 < ps.length) :
    Calls Try.prog 42 #[.slice A ps.length c] w fun e w' => e = .returned (boxV ps) ∧ Below w.heap.size w w' := by
  have H := Lib.hid ha
  have R := Lib.hid (boxV_t (ps := ps) (by simp [okBox, ha, h0]))
  have hz : ((ps.length : Int) == 0) = false := by simp; intro e; simp [e] at h0
  have h24 : ps.length ≤ 24 := by simp [arePts] at ha; exact ha.2
  have hp' := hp
  obtain ⟨b, off, rfl, hbB, hc⟩ := hp h0
  obtain ⟨c0, c1⟩ := hc 0 h0
  have c0 : w.cell? ⟨b, off + 0 * 2, none⟩ = some (.int .i64 (xs ps 0)) := c0
  have c1 : w.cell? ⟨b, off + 0 * 2 + 1, none⟩ = some (.int .i64 (ys ps 0)) := c1
  simp only [Nat.zero_mul, Nat.add_zero] at c0 c1
  have hI : (0 : Int) < (ps.length : Int) := by omega
  clear ha
  go_enter Try.func42, Try.ntmps42
  go_wp2_with fail
  refine (ArePointsI_any _ _ _ _ (hp'.to (by (repeat (first | assumption | exact Below.refl _ _ | (refine bl_alloc ?_ _) | (refine Below.drew ?_) | (refine bl_drewN ?_ _) | (refine bl_set ?_ (by first | (simp; done) | omega | (simp; omega)) _) | (refine bl_trans ?_ (by assumption)) | (refine bl_step ?_ (by assumption) (by first | omega | exact Below.size (by assumption) | (simp; omega) | (simp; exact Below.size (by assumption)))))))) hl).mono ?_
  rintro e w1 ⟨rfl, hb1⟩
  rw [H.out]
  have hr0 : One w1 w.heap.size 0 0 := ((heap_alloc_at (w := w) 0 0 rfl).alloc _).to hb1
  have hr1 : One w1 (w.heap.size + 1) 0 0 := One.to (heap_alloc_at _ _ (by simp)) hb1
  have hb : Below w.heap.size w w1 := by (repeat (first | assumption | exact Below.refl _ _ | (refine bl_alloc ?_ _) | (refine Below.drew ?_) | (refine bl_drewN ?_ _) | (refine bl_set ?_ (by first | (simp; done) | omega | (simp; omega)) _) | (refine bl_trans ?_ (by assumption)) | (refine bl_step ?_ (by assumption) (by first | omega | exact Below.size (by assumption) | (simp; omega) | (simp; exact Below.size (by assumption))))))
  clear hb1
  have d0 := (hb.cell (p := ⟨b, off, none⟩) hbB).trans c0
  have d1 := (hb.cell (p := ⟨b, off + 1, none⟩) hbB).trans c1
  clear c0 c1
  have n0 : b < w1.heap.size := Nat.lt_of_lt_of_le hbB hb.size
  have n1 : b < w1.heap.size + 1 := by omega
  have n2 : b < w1.heap.size + 1 + 1 := by omega
  have hz1 : w.heap.size + 1 < w1.heap.size := hr1.lt
  go_upto_region 3 with fail
  go_cut [5, 6] (fun s5 s6 wx => ∃ gl gh : Nat, s5 = .pointer (some ⟨gl, 0, none⟩) ∧ s6 = .pointer (some ⟨gh, 0, none⟩) ∧ gl ≠ gh ∧ w.heap.size + 1 < gl ∧ w.heap.size + 1 < gh ∧ One wx gl (xs ps 0) (ys ps 0) ∧ One wx gh (xs ps 0) (ys ps 0) ∧ One wx w.heap.size 0 0 ∧ One wx (w.heap.size + 1) 0 0 ∧ Below w.heap.size w wx)
  case first =>
    go_region
    all_goals
      go_wp2_with fail
      go_meet
      first
        | exact ⟨w1.heap.size, w1.heap.size + 1, rfl, rfl, by omega, by omega, by omega, ((heap_alloc_at _ _ rfl).alloc _).drew, (heap_alloc_at _ _ (by simp)).drew, ((hr0.alloc _).alloc _).drew, ((hr1.alloc _).alloc _).drew, by (repeat (first | assumption | exact Below.refl _ _ | (refine bl_alloc ?_ _) | (refine Below.drew ?_) | (refine bl_drewN ?_ _) | (refine bl_set ?_ (by first | (simp; done) | omega | (simp; omega)) _) | (refine bl_trans ?_ (by assumption)) | (refine bl_step ?_ (by assumption) (by first | omega | exact Below.size (by assumption) | (simp; omega) | (simp; exact Below.size (by assumption))))))⟩
        | exact ⟨w1.heap.size + 1, w1.heap.size, rfl, rfl, by omega, by omega, by omega, (heap_alloc_at _ _ (by simp)).drew, ((heap_alloc_at _ _ rfl).alloc _).drew, ((hr0.alloc _).alloc _).drew, ((hr1.alloc _).alloc _).drew, by (repeat (first | assumption | exact Below.refl _ _ | (refine bl_alloc ?_ _) | (refine Below.drew ?_) | (refine bl_drewN ?_ _) | (refine bl_set ?_ (by first | (simp; done) | omega | (simp; omega)) _) | (refine bl_trans ?_ (by assumption)) | (refine bl_step ?_ (by assumption) (by first | omega | exact Below.size (by assumption) | (simp; omega) | (simp; exact Below.size (by assumption))))))⟩
  case rest =>
    obtain ⟨gl, gh, rfl, rfl, hne, hl1, hh1, hlo, hhi, hr0, hr1, hb⟩ := hcut
    clear d0 d1 n0 n1 n2
    have hmin : ∀ x y : Int, (if y < x then y else x) = min x y := fun x y => by omega
    have hmax : ∀ x y : Int, (if x < y then y else x) = max x y := fun x y => by omega
    go_wp2
    go_loopw [8, 27] (fun _ i wr => ∃ k : Nat, k ≤ ps.length ∧ i = .int .i64 k ∧ One wr gl (mnI (xs ps) k) (mnI (ys ps) k) ∧ One wr gh (mxI (xs ps) k) (mxI (ys ps) k) ∧ One wr w.heap.size 0 0 ∧ One wr (w.heap.size + 1) 0 0 ∧ Below w.heap.size w wr) (fun _ i _ => ps.length - (intOf i).toNat)
    case atStart => exact ⟨0, Nat.zero_le _, rfl, hlo, hhi, hr0, hr1, hb⟩
    case round =>
      clear hlo hhi hr0 hr1 hb
      obtain ⟨k, hk, rfl, hlo, hhi, hr0, hr1, hb⟩ := hrel
      by_cases hlt : k < ps.length
      · obtain ⟨c0, c1⟩ := hc k hlt
        have c0 : w.cell? ⟨b, off + k * 2, none⟩ = some (.int .i64 (xs ps k)) := c0
        have c1 : w.cell? ⟨b, off + k * 2 + 1, none⟩ = some (.int .i64 (ys ps k)) := c1
        have d0 := (hb.cell (p := ⟨b, off + k * 2, none⟩) hbB).trans c0
        have d1 := (hb.cell (p := ⟨b, off + k * 2 + 1, none⟩) hbB).trans c1
        have r1 : Hid (mnI (xs ps) (k + 1) = min (mnI (xs ps) k) (xs ps k)) := rfl
        have r2 : Hid (mnI (ys ps) (k + 1) = min (mnI (ys ps) k) (ys ps k)) := rfl
        have r3 : Hid (mxI (xs ps) (k + 1) = max (mxI (xs ps) k) (xs ps k)) := rfl
        have r4 : Hid (mxI (ys ps) (k + 1) = max (mxI (ys ps) k) (ys ps k)) := rfl
        generalize mnI (xs ps) k = LX at *
        generalize mnI (ys ps) k = LY at *
        generalize mxI (xs ps) k = HX at *
        generalize mxI (ys ps) k = HY at *
        generalize xs ps k = xk at *
        generalize ys ps k = yk at *
        have hltI : (k : Int) < (ps.length : Int) := by omega
        obtain ⟨l0, l1, f0, f1⟩ := hlo.cells
        obtain ⟨m0, m1, g0, g1⟩ := hhi.cells
        have z1 := hlo.lt
        have z2 := hhi.lt
        have z3 : gl ≠ wr.heap.size := by omega
        have z4 : gh ≠ wr.heap.size := by omega
        clear hc c0 c1
        have y1 : w.heap.size ≠ gl := by omega
        have y2 : w.heap.size ≠ gh := by omega
        have y3 : w.heap.size + 1 ≠ gl := by omega
        have y4 : w.heap.size + 1 ≠ gh := by omega
        have x1 : w.heap.size ≤ gl := by omega
        have x2 : w.heap.size ≤ gh := by omega
        go_wp2
        go_roundw
        case rel => exact ⟨k + 1, by omega, by go_num, by rw [r1.out, r2.out]; exact ((((hlo.set0 _).set1 _).far hne _).far hne _).alloc _, by rw [r3.out, r4.out]; exact ((((hhi.far hne.symm _).far hne.symm _).set0 _).set1 _).alloc _,
            ((((hr0.far y1 _).far y1 _).far y2 _).far y2 _).alloc _, ((((hr1.far y3 _).far y3 _).far y4 _).far y4 _).alloc _, bl_alloc ((((hb.setCell x1 _).setCell x1 _).setCell x2 _).setCell x2 _) _⟩
        case measure => simp [intOf]; omega
      · obtain rfl : k = ps.length := by omega
        clear hc
        have z1 := hr1.lt
        obtain ⟨l0, l1, f0, f1⟩ := hlo.cells
        obtain ⟨m0, m1, g0, g1⟩ := hhi.cells
        obtain ⟨p0, p1, q0, q1⟩ := hr0.cells
        obtain ⟨s0, s1, t0, t1⟩ := hr1.cells
        have y1 : gl ≠ w.heap.size := by omega
        have y2 : gh ≠ w.heap.size := by omega
        have y3 : gl ≠ w.heap.size + 1 := by omega
        have y4 : gh ≠ w.heap.size + 1 := by omega
        go_wp2
        go_region
        all_goals
          go_wp2
          generalize hw : World.drew _ = wz
          have z0 : One wz w.heap.size (mnI (xs ps) ps.length) (mnI (ys ps) ps.length) := by rw [← hw]; exact ((((hr0.set0 _).set1 _).far (by simp) _).far (by simp) _).drew
          have z1 : One wz (w.heap.size + 1) (mxI (xs ps) ps.length) (mxI (ys ps) ps.length) := by rw [← hw]; exact ((((hr1.far (by simp) _).far (by simp) _).set0 _).set1 _).drew
          have zb : Below w.heap.size w wz := by rw [← hw]; exact ((((hb.setCell (by simp) _).setCell (by simp) _).setCell (by simp) _).setCell (by simp) _).drew
          obtain ⟨v0, v1, _, _⟩ := z0.cells
          obtain ⟨v2, v3, _, _⟩ := z1.cells
          exact bodyPost_ret (v := .tuple #[.agg #[.int .i64 (mnI (xs ps) ps.length), .int .i64 (mnI (ys ps) ps.length)], .agg #[.int .i64 (mxI (xs ps) ps.length), .int .i64 (mxI (ys ps) ps.length)], .bool true]) (by simp [results, Try.results42, go_sem, v0, v1, v2, v3]) rfl ⟨by rw [R.out], zb⟩

set_option maxRecDepth 100000 in
set_option maxHeartbeats 400000 in
theorem BoxOfI_any (A : Option Addr) (ps : List (Int × Int)) (c : Nat) (w : World) (hp : PtsAt w w.heap.size A ps) (hl : ps.length ≤ 1048576) :
    Calls Try.prog 42 #[.slice A ps.length c] w fun e w' => e = .returned (boxV ps) ∧ Below w.heap.size w w' := by
  by_cases h0 : ps.length = 0
  · have R := Lib.hid (boxV_f (ps := ps) (by simp [okBox, h0]))
    have hz : ((ps.length : Int) == 0) = true := by simp [h0]
    clear h0
    go_enter Try.func42, Try.ntmps42
    go_wp2_with fail
    exact bodyPost_ret (v := .tuple #[.agg #[.int .i64 0, .int .i64 0], .agg #[.int .i64 0, .int .i64 0], .bool false]) (by simp [results, Try.results42, go_sem]) rfl ⟨by rw [R.out], by (repeat (first | assumption | exact Below.refl _ _ | (refine bl_alloc ?_ _) | (refine Below.drew ?_) | (refine bl_drewN ?_ _) | (refine bl_set ?_ (by first | (simp; done) | omega | (simp; omega)) _) | (refine bl_trans ?_ (by assumption)) | (refine bl_step ?_ (by assumption) (by first | omega | exact Below.size (by assumption) | (simp; omega) | (simp; exact Below.size (by assumption))))))⟩
  · cases ha : arePts ps
    · have H := Lib.hid ha
      have R := Lib.hid (boxV_f (ps := ps) (by simp [okBox, ha]))
      have hz : ((ps.length : Int) == 0) = false := by simp; exact fun e => h0 (by simp [e])
      clear ha h0
      go_enter Try.func42, Try.ntmps42
      go_wp2_with fail
      refine (ArePointsI_any _ _ _ _ (hp.to (by (repeat (first | assumption | exact Below.refl _ _ | (refine bl_alloc ?_ _) | (refine Below.drew ?_) | (refine bl_drewN ?_ _) | (refine bl_set ?_ (by first | (simp; done) | omega | (simp; omega)) _) | (refine bl_trans ?_ (by assumption)) | (refine bl_step ?_ (by assumption) (by first | omega | exact Below.size (by assumption) | (simp; omega) | (simp; exact Below.size (by assumption)))))))) hl).mono ?_
      rintro e w1 ⟨rfl, hb1⟩
      rw [H.out]
      have hr0 : One w1 w.heap.size 0 0 := ((heap_alloc_at (w := w) 0 0 rfl).alloc _).to hb1
      have hr1 : One w1 (w.heap.size + 1) 0 0 := One.to (heap_alloc_at _ _ (by simp)) hb1
      have hb : Below w.heap.size w w1 := by (repeat (first | assumption | exact Below.refl _ _ | (refine bl_alloc ?_ _) | (refine Below.drew ?_) | (refine bl_drewN ?_ _) | (refine bl_set ?_ (by first | (simp; done) | omega | (simp; omega)) _) | (refine bl_trans ?_ (by assumption)) | (refine bl_step ?_ (by assumption) (by first | omega | exact Below.size (by assumption) | (simp; omega) | (simp; exact Below.size (by assumption))))))
      clear hb1
      obtain ⟨p0, p1, q0, q1⟩ := hr0.cells
      obtain ⟨s0, s1, t0, t1⟩ := hr1.cells
      go_wp2
      generalize hw : World.setCell _ _ _ = wz
      have z0 : One wz w.heap.size 0 0 := by rw [← hw]; exact ((((hr0.set0 _).set1 _).far (by simp) _).far (by simp) _)
      have z1 : One wz (w.heap.size + 1) 0 0 := by rw [← hw]; exact ((((hr1.far (by simp) _).far (by simp) _).set0 _).set1 _)
      have zb : Below w.heap.size w wz := by rw [← hw]; exact ((((hb.setCell (by simp) _).setCell (by simp) _).setCell (by simp) _).setCell (by simp) _)
      obtain ⟨v0, v1, _, _⟩ := z0.cells
      obtain ⟨v2, v3, _, _⟩ := z1.cells
      exact bodyPost_ret (v := .tuple #[.agg #[.int .i64 0, .int .i64 0], .agg #[.int .i64 0, .int .i64 0], .bool false]) (by simp [results, Try.results42, go_sem, v0, v1, v2, v3]) rfl ⟨by rw [R.out], zb⟩
    · exact BoxOfI_t A ps c w hp hl ha (by omega)
end Go.Proofs.Ytepamhdopmfkfaa.fnExactBoxOf
