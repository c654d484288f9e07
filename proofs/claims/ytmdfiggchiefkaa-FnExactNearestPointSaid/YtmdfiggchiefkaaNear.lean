/-
  Contracts of both NearestPoint.
-/
import Derived.Test.YtmdfiggchiefkaaSlices
namespace Go.Proofs.Ytmdfiggchiefkaa.fnExactNearestPoint
open Go.ChangeShapes Go.WideShapes Go.ChangeAt Go.RowKit

/-- The index of the nearest one of the first k points. -/
def nearI (ps : List (Int × Int)) (x y : Int) : Nat → Nat
  | 0 => 0
  | k + 1 => if farI (ps.getD k (0, 0)).1 (ps.getD k (0, 0)).2 x y < farI (ps.getD (nearI ps x y k) (0, 0)).1 (ps.getD (nearI ps x y k) (0, 0)).2 x y then k else nearI ps x y k
theorem nearI_le (ps : List (Int × Int)) (x y : Int) (k n : Nat) (h0 : 0 < n) (h : k ≤ n) : nearI ps x y k < n := by
  induction k with
  | zero => exact h0
  | succ k ih => unfold nearI; have := ih (by omega); split <;> omega
theorem nearI_one (ps : List (Int × Int)) (x y : Int) : nearI ps x y 1 = 0 := by simp [nearI]

def okNear (ps : List (Int × Int)) (x y : Int) : Bool := arePts ps && decide (0 < ps.length) && isPt x y
def nearV (ps : List (Int × Int)) (x y : Int) : Value := .tuple #[.int .i64 (if okNear ps x y = true then (nearI ps x y ps.length : Int) else 0), .bool (okNear ps x y)]
theorem nearV_f {ps : List (Int × Int)} {x y : Int} (h : okNear ps x y = false) : nearV ps x y = .tuple #[.int .i64 0, .bool false] := by simp [nearV, h]
theorem nearV_t {ps : List (Int × Int)} {x y : Int} (h : okNear ps x y = true) : nearV ps x y = .tuple #[.int .i64 (nearI ps x y ps.length), .bool true] := by simp [nearV, h]

/-- Six cells, and nothing has turned below N: so behind a call that only makes memory. -/
theorem keep6 {N : Nat} {w wr wr' : World} {b1 o1 b2 o2 b3 o3 : Nat} {X Y X' Y' X'' Y'' : Value}
    (h : wr.cell? ⟨b1, o1, none⟩ = some X ∧ wr.cell? ⟨b1, o1 + 1, none⟩ = some Y ∧ wr.cell? ⟨b2, o2, none⟩ = some X' ∧ wr.cell? ⟨b2, o2 + 1, none⟩ = some Y' ∧ Below N w wr ∧ N ≤ wr.heap.size ∧ wr.cell? ⟨b3, o3, none⟩ = some X'' ∧ wr.cell? ⟨b3, o3 + 1, none⟩ = some Y'')
    (hs : Below wr.heap.size wr wr') :
    wr'.cell? ⟨b1, o1, none⟩ = some X ∧ wr'.cell? ⟨b1, o1 + 1, none⟩ = some Y ∧ wr'.cell? ⟨b2, o2, none⟩ = some X' ∧ wr'.cell? ⟨b2, o2 + 1, none⟩ = some Y' ∧ Below N w wr' ∧ N ≤ wr'.heap.size ∧ wr'.cell? ⟨b3, o3, none⟩ = some X'' ∧ wr'.cell? ⟨b3, o3 + 1, none⟩ = some Y'' := by
  obtain ⟨h0, h1, h2, h3, hb, hz, h4, h5⟩ := h
  have l1 : b1 < wr.heap.size := World.block_lt_of_cell? wr _ h0
  have l2 : b2 < wr.heap.size := World.block_lt_of_cell? wr _ h2
  have l3 : b3 < wr.heap.size := World.block_lt_of_cell? wr _ h4
  exact ⟨(hs.cell (p := ⟨b1, o1, none⟩) l1).trans h0, (hs.cell (p := ⟨b1, o1 + 1, none⟩) l1).trans h1, (hs.cell (p := ⟨b2, o2, none⟩) l2).trans h2, (hs.cell (p := ⟨b2, o2 + 1, none⟩) l2).trans h3,
    hb.trans (hs.mono hz), Nat.le_trans hz hs.size, (hs.cell (p := ⟨b3, o3, none⟩) l3).trans h4, (hs.cell (p := ⟨b3, o3 + 1, none⟩) l3).trans h5⟩
theorem eighth {a b c d e f g : Prop} {N : Nat} {w wr : World} (h : a ∧ b ∧ c ∧ d ∧ Below N w wr ∧ e ∧ f ∧ g) : f ∧ g := h.2.2.2.2.2.2

theorem keep2 {N : Nat} {w wr wr' : World} {b1 o1 : Nat} {X Y : Value}
    (h : wr.cell? ⟨b1, o1, none⟩ = some X ∧ wr.cell? ⟨b1, o1 + 1, none⟩ = some Y ∧ Below N w wr ∧ N < wr.heap.size) (hs : Below wr.heap.size wr wr') :
    wr'.cell? ⟨b1, o1, none⟩ = some X ∧ wr'.cell? ⟨b1, o1 + 1, none⟩ = some Y ∧ Below N w wr' ∧ N < wr'.heap.size := by
  obtain ⟨h0, h1, hb, hz⟩ := h
  have l1 : b1 < wr.heap.size := World.block_lt_of_cell? wr _ h0
  exact ⟨(hs.cell (p := ⟨b1, o1, none⟩) l1).trans h0, (hs.cell (p := ⟨b1, o1 + 1, none⟩) l1).trans h1, hb.trans (hs.mono (Nat.le_of_lt hz)), Nat.lt_of_lt_of_le hz hs.size⟩
theorem third {a b e : Prop} {N : Nat} {w wr : World} (h : a ∧ b ∧ Below N w wr ∧ e) : Below N w wr := h.2.2.1
theorem have2 {w wr : World} {x y : Int} (h : wr.cell? ⟨w.heap.size, 0, none⟩ = some (.int .i64 x) ∧ wr.cell? ⟨w.heap.size, 0 + 1, none⟩ = some (.int .i64 y) ∧ Below w.heap.size w wr ∧ w.heap.size < wr.heap.size) :
    wr.cell? ⟨w.heap.size, 0, none⟩ = some (.int .i64 x) ∧ wr.cell? ⟨w.heap.size, 0 + 1, none⟩ = some (.int .i64 y) ∧ Below w.heap.size w wr ∧ w.heap.size < wr.heap.size := h

set_option maxHeartbeats 800000 in
theorem nearS_any (A : Option Addr) (ps : List (Int × Int)) (c : Nat) (x y : Int) (w : World) (hp : PtsAt w w.heap.size A ps) (hl : ps.length ≤ 1048576) :
    Calls Try.prog 41 #[.slice A ps.length c, .agg #[.int .i64 x, .int .i64 y]] w fun e w' => e = .returned (nearV ps x y) ∧ Below w.heap.size w w' := by
  have hp1 := hp.to (w1 := w.alloc (.cells #[.int .i64 x, .int .i64 y] 34)) ((Below.refl _ _).alloc (Nat.le_refl _) _)
  have hsz : (w.alloc (.cells #[.int .i64 x, .int .i64 y] 34)).heap.size = w.heap.size + 1 := by simp
  cases ha : arePts ps
  · have H := Lib.hid ha
    have R := Lib.hid (nearV_f (ps := ps) (x := x) (y := y) (by simp [okNear, ha]))
    clear ha hsz
    go_enter Try.func41, Try.ntmps41
    go_wp2_with (go_at_call 71; refine (l01Points_any _ _ _ _ hp1 hl).mono ?_; rintro e w' ⟨rfl, hb⟩; rw [H.out])
    go_ret2
    exact ⟨by rw [R.out]; rfl, by (repeat (first | assumption | exact Below.refl _ _ | (refine bl_alloc ?_ _) | (refine Below.drew ?_) | (refine bl_drewN ?_ _) | (refine bl_set ?_ (by simp) _) | (refine bl_trans ?_ (by assumption)) | (refine bl_step ?_ (by assumption) (by first | omega | exact Below.size (by assumption) | (simp; omega) | (simp; exact Below.size (by assumption))))))⟩
  by_cases h0 : ps.length = 0
  · have H := Lib.hid ha
    have R := Lib.hid (nearV_f (ps := ps) (x := x) (y := y) (by simp [okNear, h0]))
    have hz : ((ps.length : Int) == 0) = true := by simp [h0]
    clear ha hsz h0
    go_enter Try.func41, Try.ntmps41
    go_wp2_with (go_at_call 71; refine (l01Points_any _ _ _ _ hp1 hl).mono ?_; rintro e w' ⟨rfl, hb⟩; rw [H.out])
    go_ret2
    exact ⟨by rw [R.out]; rfl, by (repeat (first | assumption | exact Below.refl _ _ | (refine bl_alloc ?_ _) | (refine Below.drew ?_) | (refine bl_drewN ?_ _) | (refine bl_set ?_ (by simp) _) | (refine bl_trans ?_ (by assumption)) | (refine bl_step ?_ (by assumption) (by first | omega | exact Below.size (by assumption) | (simp; omega) | (simp; exact Below.size (by assumption))))))⟩
  have hz : ((ps.length : Int) == 0) = false := by simp; exact fun e => h0 (by simp [e])
  have hpos : 0 < ps.length := by omega
  have hall : allPt ps = true := by simp [arePts] at ha; exact ha.1
  have h24 : ps.length ≤ 24 := by simp [arePts] at ha; exact ha.2
  cases hq : isPt x y
  · have H := Lib.hid ha
    have HQ := Lib.hid hq
    have R := Lib.hid (nearV_f (ps := ps) (x := x) (y := y) (by simp [okNear, hq]))
    clear ha hq h0 hall
    clear hsz
    go_enter Try.func41, Try.ntmps41
    go_wp2_with (first
      | (go_at_call 71; refine (l01Points_any _ _ _ _ hp1 hl).mono ?_; rintro e w' ⟨rfl, hb⟩; rw [H.out]; obtain ⟨hc, hf, hz⟩ := bcell hb; have hz : w.heap.size < w'.heap.size := by (first | (simp at hz; omega) | omega))
      | (go_at_call 58; refine (l01Point_any _ _ _).mono ?_; rintro e w' ⟨rfl, hb'⟩; rw [HQ.out]))
    go_ret2
    exact ⟨by rw [R.out]; rfl, by (repeat (first | assumption | exact Below.refl _ _ | (refine bl_alloc ?_ _) | (refine Below.drew ?_) | (refine bl_drewN ?_ _) | (refine bl_set ?_ (by simp) _) | (refine bl_trans ?_ (by assumption)) | (refine bl_step ?_ (by assumption) (by first | omega | exact Below.size (by assumption) | (simp; omega) | (simp; exact Below.size (by assumption))))))⟩
  · have H := Lib.hid ha
    have HQ := Lib.hid hq
    have R := Lib.hid (nearV_t (ps := ps) (x := x) (y := y) (by simp [okNear, hq, ha, hpos]))
    obtain ⟨bx, bY⟩ := isPt_lo hq
    have HALL := Lib.hid hall
    clear ha hq h0 hsz hall
    go_enter Try.func41, Try.ntmps41
    go_wp2_with (first
      | (go_at_call 71; refine (l01Points_any _ _ _ _ hp1 hl).mono ?_; rintro e w1 ⟨rfl, hb1⟩; rw [H.out]; obtain ⟨hc1, hf1, hz1⟩ := bcell hb1; have hz1' : w.heap.size < w1.heap.size := by (simp at hz1; omega))
      | (go_at_call 58; refine (l01Point_any _ _ _).mono ?_; rintro e w2 ⟨rfl, hb2⟩; rw [HQ.out]))
    have hb12 : Below w.heap.size w w2 := by (repeat (first | assumption | exact Below.refl _ _ | (refine bl_alloc ?_ _) | (refine Below.drew ?_) | (refine bl_drewN ?_ _) | (refine bl_set ?_ (by simp) _) | (refine bl_trans ?_ (by assumption)) | (refine bl_step ?_ (by assumption) (by first | omega | exact Below.size (by assumption) | (simp; omega) | (simp; exact Below.size (by assumption))))))
    have hz2 : w.heap.size < w2.heap.size := Nat.lt_of_lt_of_le hz1' hb2.size
    have q0 : w2.cell? ⟨w.heap.size, 0, none⟩ = some (.int .i64 x) := ((hb2.cell (p := ⟨w.heap.size, 0, none⟩) hz1').trans (hb1.cell (p := ⟨w.heap.size, 0, none⟩) (by simp))).trans (by simp)
    have q1 : w2.cell? ⟨w.heap.size, 0 + 1, none⟩ = some (.int .i64 y) := ((hb2.cell (p := ⟨w.heap.size, 1, none⟩) hz1').trans (hb1.cell (p := ⟨w.heap.size, 1, none⟩) (by simp))).trans (by simp)
    clear hb1 hc1 hf1 hz1 hb2 hz1'
    go_loopw [6, 7] (fun bst i wr => ∃ k : Nat, 1 ≤ k ∧ k ≤ ps.length ∧ i = .int .i64 k ∧ bst = .int .i64 (nearI ps x y k) ∧ Below w.heap.size w wr ∧ w.heap.size < wr.heap.size ∧ (wr.cell? ⟨w.heap.size, 0, none⟩ = some (.int .i64 x) ∧ wr.cell? ⟨w.heap.size, 0 + 1, none⟩ = some (.int .i64 y))) (fun _ i _ => ps.length - (intOf i).toNat)
    case atStart => exact ⟨1, by omega, by omega, rfl, by rw [nearI_one]; rfl, hb12, hz2, q0, q1⟩
    case round =>
      clear q0 q1 hb12 hz2
      obtain ⟨k, hk1, hk, rfl, rfl, hb, hzr, q0, q1⟩ := hrel
      by_cases hlt : k < ps.length
      · obtain ⟨b, off, rfl, hbB, hc⟩ := hp (by omega)
        have hB := nearI_le ps x y k ps.length hpos hk
        have HN : Hid (nearI ps x y (k + 1) = if farI (ps.getD k (0, 0)).1 (ps.getD k (0, 0)).2 x y < farI (ps.getD (nearI ps x y k) (0, 0)).1 (ps.getD (nearI ps x y k) (0, 0)).2 x y then k else nearI ps x y k) := rfl
        generalize hG : nearI ps x y k = B at *
        clear hG
        obtain ⟨c0, c1⟩ := hc k hlt
        obtain ⟨c2, c3⟩ := hc B hB
        have d0 := (hb.cell (p := ⟨b, off + k * 2, none⟩) hbB).trans c0
        have d1 := (hb.cell (p := ⟨b, off + k * 2 + 1, none⟩) hbB).trans c1
        have d2 := (hb.cell (p := ⟨b, off + B * 2, none⟩) hbB).trans c2
        have d3 := (hb.cell (p := ⟨b, off + B * 2 + 1, none⟩) hbB).trans c3
        obtain ⟨bk, bk'⟩ := isPt_lo (allPt_at HALL.out hlt)
        obtain ⟨bb, bb'⟩ := isPt_lo (allPt_at HALL.out hB)
        generalize (ps.getD k (0, 0)).1 = xk at *
        generalize (ps.getD k (0, 0)).2 = yk at *
        generalize (ps.getD B (0, 0)).1 = xb at *
        generalize (ps.getD B (0, 0)).2 = yb at *
        clear hc c0 c1 c2 c3 hp hp1
        have hltI : (k : Int) < (ps.length : Int) := by omega
        have hBI : (B : Int) < (ps.length : Int) := by omega
        have hzle : w.heap.size ≤ wr.heap.size := by omega
        by_cases hcmp : farI xk yk x y < farI xb yb x y
        all_goals
          have HE := Lib.hid HN.out
          go_wp2
          go_region_held3 (fun wx => wx.cell? ⟨b, off + k * 2, none⟩ = some (.int .i64 xk) ∧ wx.cell? ⟨b, off + k * 2 + 1, none⟩ = some (.int .i64 yk) ∧ wx.cell? ⟨b, off + B * 2, none⟩ = some (.int .i64 xb) ∧ wx.cell? ⟨b, off + B * 2 + 1, none⟩ = some (.int .i64 yb) ∧ Below w.heap.size w wx ∧ w.heap.size ≤ wx.heap.size ∧ wx.cell? ⟨w.heap.size, 0, none⟩ = some (.int .i64 x) ∧ wx.cell? ⟨w.heap.size, 0 + 1, none⟩ = some (.int .i64 y))
            (first | exact keep6 (by assumption) (by assumption) | exact ⟨d0, d1, d2, d3, hb.drew, hzle, q0, q1⟩)
            (first
              | (go_at_call_of 69 (Value.agg #[.int .i64 xk, .int .i64 yk]); refine (l01Far_any _ _ _ _ _ bk bk' bx bY).mono ?_; rintro e w' ⟨rfl, hb'⟩)
              | (go_at_call_of 69 (Value.agg #[.int .i64 xb, .int .i64 yb]); refine (l01Far_any _ _ _ _ _ bb bb' bx bY).mono ?_; rintro e w' ⟨rfl, hb'⟩))
          go_wp2
          go_roundw
          case rel => exact ⟨k + 1, by omega, by omega, by go_num, by rw [HE.out]; first | rw [if_pos hcmp] | rw [if_neg (by omega)], fifth (by assumption), World.block_lt_of_cell? _ _ (eighth (by assumption)).1, eighth (by assumption)⟩
          case measure => simp [intOf]; omega
      · obtain rfl : k = ps.length := by omega
        go_wp2
        go_ret2
        exact ⟨by rw [R.out]; rfl, hb⟩
set_option maxHeartbeats 800000 in
theorem nearI_any (A : Option Addr) (ps : List (Int × Int)) (c : Nat) (x y : Int) (w : World) (hp : PtsAt w w.heap.size A ps) (hl : ps.length ≤ 1048576) :
    Calls Try.prog 42 #[.slice A ps.length c, .agg #[.int .i64 x, .int .i64 y]] w fun e w' => e = .returned (nearV ps x y) ∧ Below w.heap.size w w' := by
  have hp1 := hp.to (w1 := w.alloc (.cells #[.int .i64 x, .int .i64 y] 34)) ((Below.refl _ _).alloc (Nat.le_refl _) _)
  have hsz : (w.alloc (.cells #[.int .i64 x, .int .i64 y] 34)).heap.size = w.heap.size + 1 := by simp
  cases ha : arePts ps
  · have H := Lib.hid ha
    have R := Lib.hid (nearV_f (ps := ps) (x := x) (y := y) (by simp [okNear, ha]))
    clear ha hsz
    go_enter Try.func42, Try.ntmps42
    go_wp2_with (go_at_call 36; refine (ArePointsI_any _ _ _ _ hp1 hl).mono ?_; rintro e w' ⟨rfl, hb⟩; rw [H.out])
    all_goals go_ret2
    all_goals exact ⟨by rw [R.out]; rfl, by (repeat (first | assumption | exact Below.refl _ _ | (refine bl_alloc ?_ _) | (refine Below.drew ?_) | (refine bl_drewN ?_ _) | (refine bl_set ?_ (by simp) _) | (refine bl_trans ?_ (by assumption)) | (refine bl_step ?_ (by assumption) (by first | omega | exact Below.size (by assumption) | (simp; omega) | (simp; exact Below.size (by assumption))))))⟩
  by_cases h0 : ps.length = 0
  · have H := Lib.hid ha
    have R := Lib.hid (nearV_f (ps := ps) (x := x) (y := y) (by simp [okNear, h0]))
    have hz : ((ps.length : Int) == 0) = true := by simp [h0]
    clear ha hsz h0
    go_enter Try.func42, Try.ntmps42
    go_wp2_with (go_at_call 36; refine (ArePointsI_any _ _ _ _ hp1 hl).mono ?_; rintro e w' ⟨rfl, hb⟩; rw [H.out])
    go_ret2
    exact ⟨by rw [R.out]; rfl, by (repeat (first | assumption | exact Below.refl _ _ | (refine bl_alloc ?_ _) | (refine Below.drew ?_) | (refine bl_drewN ?_ _) | (refine bl_set ?_ (by simp) _) | (refine bl_trans ?_ (by assumption)) | (refine bl_step ?_ (by assumption) (by first | omega | exact Below.size (by assumption) | (simp; omega) | (simp; exact Below.size (by assumption))))))⟩
  have hz : ((ps.length : Int) == 0) = false := by simp; exact fun e => h0 (by simp [e])
  have hpos : 0 < ps.length := by omega
  have hall : allPt ps = true := by simp [arePts] at ha; exact ha.1
  have h24 : ps.length ≤ 24 := by simp [arePts] at ha; exact ha.2
  cases hq : isPt x y
  · have H := Lib.hid ha
    have HQ := Lib.hid hq
    have R := Lib.hid (nearV_f (ps := ps) (x := x) (y := y) (by simp [okNear, hq]))
    clear ha hq h0 hall
    clear hsz
    go_enter Try.func42, Try.ntmps42
    go_wp2_with (first
      | (go_at_call 36; refine (ArePointsI_any _ _ _ _ hp1 hl).mono ?_; rintro e w' ⟨rfl, hb⟩; rw [H.out]; obtain ⟨hc, hf, hz⟩ := bcell hb; have hz : w.heap.size < w'.heap.size := by (first | (simp at hz; omega) | omega))
      | (go_at_call 30; refine (IsPointI_any _ _ _).mono ?_; rintro e w' ⟨rfl, hb'⟩; rw [HQ.out]))
    go_ret2
    exact ⟨by rw [R.out]; rfl, by (repeat (first | assumption | exact Below.refl _ _ | (refine bl_alloc ?_ _) | (refine Below.drew ?_) | (refine bl_drewN ?_ _) | (refine bl_set ?_ (by simp) _) | (refine bl_trans ?_ (by assumption)) | (refine bl_step ?_ (by assumption) (by first | omega | exact Below.size (by assumption) | (simp; omega) | (simp; exact Below.size (by assumption))))))⟩
  · have H := Lib.hid ha
    have HQ := Lib.hid hq
    have R := Lib.hid (nearV_t (ps := ps) (x := x) (y := y) (by simp [okNear, hq, ha, hpos]))
    obtain ⟨bx, bY⟩ := isPt_lo hq
    have HALL := Lib.hid hall
    clear ha hq h0 hsz hall
    go_enter Try.func42, Try.ntmps42
    go_wp2_with (first
      | (go_at_call 36; refine (ArePointsI_any _ _ _ _ hp1 hl).mono ?_; rintro e w1 ⟨rfl, hb1⟩; rw [H.out]; obtain ⟨hc1, hf1, hz1⟩ := bcell hb1; have hz1' : w.heap.size < w1.heap.size := by (simp at hz1; omega))
      | (go_at_call 30; refine (IsPointI_any _ _ _).mono ?_; rintro e w2 ⟨rfl, hb2⟩; rw [HQ.out]))
    have hb12 : Below w.heap.size w w2 := by (repeat (first | assumption | exact Below.refl _ _ | (refine bl_alloc ?_ _) | (refine Below.drew ?_) | (refine bl_drewN ?_ _) | (refine bl_set ?_ (by simp) _) | (refine bl_trans ?_ (by assumption)) | (refine bl_step ?_ (by assumption) (by first | omega | exact Below.size (by assumption) | (simp; omega) | (simp; exact Below.size (by assumption))))))
    have hz2 : w.heap.size < w2.heap.size := Nat.lt_of_lt_of_le hz1' hb2.size
    have q0 : w2.cell? ⟨w.heap.size, 0, none⟩ = some (.int .i64 x) := ((hb2.cell (p := ⟨w.heap.size, 0, none⟩) hz1').trans (hb1.cell (p := ⟨w.heap.size, 0, none⟩) (by simp))).trans (by simp)
    have q1 : w2.cell? ⟨w.heap.size, 0 + 1, none⟩ = some (.int .i64 y) := ((hb2.cell (p := ⟨w.heap.size, 1, none⟩) hz1').trans (hb1.cell (p := ⟨w.heap.size, 1, none⟩) (by simp))).trans (by simp)
    clear hb1 hc1 hf1 hz1 hb2 hz1'
    go_loopw [6, 7, 23] (fun bst _ i wr => ∃ k : Nat, k ≤ ps.length ∧ i = .int .i64 k ∧ bst = .int .i64 (nearI ps x y k) ∧ Below w.heap.size w wr ∧ w.heap.size < wr.heap.size ∧ (wr.cell? ⟨w.heap.size, 0, none⟩ = some (.int .i64 x) ∧ wr.cell? ⟨w.heap.size, 0 + 1, none⟩ = some (.int .i64 y))) (fun _ _ i _ => ps.length - (intOf i).toNat)
    case atStart => exact ⟨0, Nat.zero_le _, rfl, rfl, hb12, hz2, q0, q1⟩
    case round =>
      clear q0 q1 hb12 hz2
      obtain ⟨k, hk, rfl, rfl, hb, hzr, q0, q1⟩ := hrel
      by_cases hlt : k < ps.length
      · obtain ⟨b, off, rfl, hbB, hc⟩ := hp (by omega)
        have hB := nearI_le ps x y k ps.length hpos hk
        have HN : Hid (nearI ps x y (k + 1) = if farI (ps.getD k (0, 0)).1 (ps.getD k (0, 0)).2 x y < farI (ps.getD (nearI ps x y k) (0, 0)).1 (ps.getD (nearI ps x y k) (0, 0)).2 x y then k else nearI ps x y k) := rfl
        generalize hG : nearI ps x y k = B at *
        clear hG
        obtain ⟨c0, c1⟩ := hc k hlt
        obtain ⟨c2, c3⟩ := hc B hB
        have d0 := (hb.cell (p := ⟨b, off + k * 2, none⟩) hbB).trans c0
        have d1 := (hb.cell (p := ⟨b, off + k * 2 + 1, none⟩) hbB).trans c1
        have d2 := (hb.cell (p := ⟨b, off + B * 2, none⟩) hbB).trans c2
        have d3 := (hb.cell (p := ⟨b, off + B * 2 + 1, none⟩) hbB).trans c3
        obtain ⟨bk, bk'⟩ := isPt_lo (allPt_at HALL.out hlt)
        obtain ⟨bb, bb'⟩ := isPt_lo (allPt_at HALL.out hB)
        generalize (ps.getD k (0, 0)).1 = xk at *
        generalize (ps.getD k (0, 0)).2 = yk at *
        generalize (ps.getD B (0, 0)).1 = xb at *
        generalize (ps.getD B (0, 0)).2 = yb at *
        clear hc c0 c1 c2 c3 hp hp1
        have hltI : (k : Int) < (ps.length : Int) := by omega
        have hBI : (B : Int) < (ps.length : Int) := by omega
        have hzle : w.heap.size ≤ wr.heap.size := by omega
        by_cases hcmp : farI xk yk x y < farI xb yb x y
        all_goals
          have HE := Lib.hid HN.out
          go_wp2
          go_region_held3 (fun wx => wx.cell? ⟨b, off + k * 2, none⟩ = some (.int .i64 xk) ∧ wx.cell? ⟨b, off + k * 2 + 1, none⟩ = some (.int .i64 yk) ∧ wx.cell? ⟨b, off + B * 2, none⟩ = some (.int .i64 xb) ∧ wx.cell? ⟨b, off + B * 2 + 1, none⟩ = some (.int .i64 yb) ∧ Below w.heap.size w wx ∧ w.heap.size ≤ wx.heap.size ∧ wx.cell? ⟨w.heap.size, 0, none⟩ = some (.int .i64 x) ∧ wx.cell? ⟨w.heap.size, 0 + 1, none⟩ = some (.int .i64 y))
            (first | exact keep6 (by assumption) (by assumption) | exact ⟨d0, d1, d2, d3, hb.drew, hzle, q0, q1⟩)
            (first
              | (go_at_call_of 70 (Value.agg #[.int .i64 xk, .int .i64 yk]); refine (distance_any _ _ _ _ _ bk bk' bx bY).mono ?_; rintro e w' ⟨rfl, hb'⟩)
              | (go_at_call_of 70 (Value.agg #[.int .i64 xb, .int .i64 yb]); refine (distance_any _ _ _ _ _ bb bb' bx bY).mono ?_; rintro e w' ⟨rfl, hb'⟩))
          go_wp2
          go_roundw
          case rel => exact ⟨k + 1, by omega, by go_num, by rw [HE.out]; first | rw [if_pos hcmp] | rw [if_neg (by omega)], fifth (by assumption), World.block_lt_of_cell? _ _ (eighth (by assumption)).1, eighth (by assumption)⟩
          case measure => simp [intOf]; omega
      · obtain rfl : k = ps.length := by omega
        go_wp2
        go_ret2
        exact ⟨by rw [R.out]; rfl, hb⟩

end Go.Proofs.Ytmdfiggchiefkaa.fnExactNearestPoint
