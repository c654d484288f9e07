/-
  Contracts of both BoxOf.
-/
import Derived.Test.YtepamhdopmfkfaaSlices
import Derived.RegionTactic
import Derived.Deep.RegionWith
import Derived.StillTailTactics
namespace Go.Proofs.Ytepamhdopmfkfaa.fnExactBoxOf
set_option linter.unusedSimpArgs false
set_option linter.unusedVariables false
open Go.ChangeShapes Go.WideShapes Go.ChangeAt Go.RowKit

def mnI (l : Nat → Int) : Nat → Int
  | 0 => l 0
  | k + 1 => min (mnI l k) (l k)
def mxI (l : Nat → Int) : Nat → Int
  | 0 => l 0
  | k + 1 => max (mxI l k) (l k)
def xs (ps : List (Int × Int)) (i : Nat) : Int := (ps.getD i (0, 0)).1
def ys (ps : List (Int × Int)) (i : Nat) : Int := (ps.getD i (0, 0)).2

/-- Block g is one point. -/
def One (w : World) (g : Nat) (x y : Int) : Prop := w.heap[g]? = some (.cells #[.int .i64 x, .int .i64 y] 33 (0, 0))
theorem heap_alloc_at {w : World} {g : Nat} (x y : Int) (h : g = w.heap.size) : One (w.alloc (.cells #[.int .i64 x, .int .i64 y] 33)) g x y := by
  subst h; exact heap_alloc_new w _
theorem One.lt {w : World} {g : Nat} {x y : Int} (h : One w g x y) : g < w.heap.size := by
  rcases Nat.lt_or_ge g w.heap.size with hlt | hge
  · exact hlt
  · unfold One at h; rw [Array.getElem?_eq_none hge] at h; cases h
theorem One.cells {w : World} {g : Nat} {x y : Int} (h : One w g x y) : w.cell? ⟨g, 0, none⟩ = some (.int .i64 x) ∧ w.cell? ⟨g, 1, none⟩ = some (.int .i64 y) ∧ w.frozen? ⟨g, 0, none⟩ = false ∧ w.frozen? ⟨g, 1, none⟩ = false := by
  refine ⟨?_, ?_, ?_, ?_⟩
  · rw [cell_of_row w g 0 _ _ _ h]; rfl
  · rw [cell_of_row w g 1 _ _ _ h]; rfl
  · unfold One at h; simp [World.frozen?, h]
  · unfold One at h; simp [World.frozen?, h]
theorem One.keep {w w' : World} {g : Nat} {x y : Int} (h : One w g x y) (hk : w'.heap[g]? = w.heap[g]?) : One w' g x y := hk.trans h
theorem One.to {w w1 : World} {g : Nat} {x y : Int} (h : One w g x y) (hb : Below w.heap.size w w1) : One w1 g x y := h.keep (hb.block g h.lt)
theorem One.drew {w : World} {g : Nat} {x y : Int} (h : One w g x y) : One w.drew g x y := h
theorem One.alloc {w : World} {g : Nat} {x y : Int} (h : One w g x y) (o : Obj) : One (w.alloc o) g x y := (Below.heap_alloc w o g h.lt).trans h
theorem One.far {w : World} {g : Nat} {x y : Int} (h : One w g x y) {p : Addr} (hp : g ≠ p.block) (u : Value) : One (w.setCell p u) g x y := (Below.heap_setCell w p u g hp).trans h
theorem One.set0 {w : World} {g : Nat} {x y : Int} (h : One w g x y) (z : Int) : One (w.setCell ⟨g, 0, none⟩ (.int .i64 z)) g z y := by
  unfold One at h ⊢
  simp [World.setCell, Array.getElem?_modify, h]
theorem One.set1 {w : World} {g : Nat} {x y : Int} (h : One w g x y) (z : Int) : One (w.setCell ⟨g, 1, none⟩ (.int .i64 z)) g x z := by
  unfold One at h ⊢
  simp [World.setCell, Array.getElem?_modify, h]

set_option maxRecDepth 100000 in
set_option maxHeartbeats 800000 in
theorem l01Box_any (A : Option Addr) (ps : List (Int × Int)) (c : Nat) (w : World) (hp : PtsAt w w.heap.size A ps) (hl : ps.length ≤ 24) (h0 : 0 < ps.length) :
    Calls Try.prog 38 #[.slice A ps.length c] w fun e w' => e = .returned (.tuple #[.agg #[.int .i64 (mnI (xs ps) ps.length), .int .i64 (mnI (ys ps) ps.length)], .agg #[.int .i64 (mxI (xs ps) ps.length), .int .i64 (mxI (ys ps) ps.length)]]) ∧ Below w.heap.size w w' := by
  obtain ⟨b, off, rfl, hbB, hc⟩ := hp h0
  obtain ⟨c0, c1⟩ := hc 0 h0
  have e1 : Hid (mnI (xs ps) 1 = (ps.getD 0 (0, 0)).1 ∧ mxI (xs ps) 1 = (ps.getD 0 (0, 0)).1 ∧ mnI (ys ps) 1 = (ps.getD 0 (0, 0)).2 ∧ mxI (ys ps) 1 = (ps.getD 0 (0, 0)).2) := by
    show _ ∧ _
    simp [mnI, mxI, xs, ys]
  have hI : (0 : Int) < (ps.length : Int) := by omega
  generalize (ps.getD 0 (0, 0)).1 = x0 at c0 e1
  generalize (ps.getD 0 (0, 0)).2 = y0 at c1 e1
  simp only [Nat.zero_mul, Nat.add_zero] at c0 c1
  have n1 : b < w.heap.size + 1 := by omega
  have n2 : b < w.heap.size + 1 + 1 := by omega
  go_enter Try.func38, Try.ntmps38
  go_wp2
  clear c0 c1
  go_loopw [6] (fun i wr => ∃ k : Nat, 1 ≤ k ∧ k ≤ ps.length ∧ i = .int .i64 k ∧ One wr (w.heap.size + 1 + 1) (mnI (xs ps) k) (mnI (ys ps) k) ∧ One wr (w.heap.size + 1 + 1 + 1) (mxI (xs ps) k) (mxI (ys ps) k) ∧ Below w.heap.size w wr ∧ One wr w.heap.size 0 0 ∧ One wr (w.heap.size + 1) 0 0) (fun i _ => ps.length - (intOf i).toNat)
  case atStart =>
    obtain ⟨a1, a2, a3, a4⟩ := e1.out
    refine ⟨1, by omega, by omega, rfl, ?_, ?_, ?_, ?_, ?_⟩
    · rw [a1, a3]; exact (heap_alloc_at _ _ (by simp)).alloc _
    · rw [a2, a4]; exact heap_alloc_at _ _ (by simp)
    · (repeat (first | assumption | exact Below.refl _ _ | (refine bl_alloc ?_ _) | (refine Below.drew ?_) | (refine bl_drewN ?_ _) | (refine bl_set ?_ (by first | (simp; done) | omega | (simp; omega)) _) | (refine bl_trans ?_ (by assumption)) | (refine bl_step ?_ (by assumption) (by first | omega | exact Below.size (by assumption) | (simp; omega) | (simp; exact Below.size (by assumption))))))
    · exact (((heap_alloc_at _ _ rfl).alloc _).alloc _).alloc _
    · exact ((heap_alloc_at _ _ (by simp)).alloc _).alloc _
  case round =>
    obtain ⟨k, hk1, hk, rfl, hlo, hhi, hb, hr0, hr1⟩ := hrel
    by_cases hlt : k < ps.length
    · obtain ⟨c0, c1⟩ := hc k hlt
      have c0 : w.cell? ⟨b, off + k * 2, none⟩ = some (.int .i64 (xs ps k)) := c0
      have c1 : w.cell? ⟨b, off + k * 2 + 1, none⟩ = some (.int .i64 (ys ps k)) := c1
      have d0 := (hb.cell (p := ⟨b, off + k * 2, none⟩) hbB).trans c0
      have d1 := (hb.cell (p := ⟨b, off + k * 2 + 1, none⟩) hbB).trans c1
      have r1 : Hid (mnI (xs ps) (k + 1) = min (mnI (xs ps) k) (xs ps k)) := rfl
      have r2 : Hid (mnI (ys ps) (k + 1) = min (mnI (ys ps) k) (ys ps k)) := rfl
      have r3 : Hid (mxI (xs ps) (k + 1) = max (mxI (xs ps) k) (xs ps k)) := rfl
      have r4 : Hid (mxI (ys ps) (k + 1) = max (mxI (ys ps) k) (ys ps k)) := rfl
      generalize mnI (xs ps) k = LX at *
      generalize mnI (ys ps) k = LY at *
      generalize mxI (xs ps) k = HX at *
      generalize mxI (ys ps) k = HY at *
      generalize xs ps k = xk at *
      generalize ys ps k = yk at *
      have hltI : (k : Int) < (ps.length : Int) := by omega
      clear hc
      obtain ⟨l0, l1, f0, f1⟩ := hlo.cells
      obtain ⟨m0, m1, g0, g1⟩ := hhi.cells
      go_wp2
      go_still_tail 7, (by kernel_rfl)
      change wpList _ _ _ _ _ wr.drew
      go_wp2_with (go_at_call 79; refine (l00Min_any _ _ _).mono ?_; rintro e w' ⟨rfl, rfl⟩)
      generalize hw : World.drew (World.setCell _ _ _) = w2
      replace hlo : One w2 (w.heap.size + 1 + 1) (min LX xk) LY := by rw [← hw]; exact (hlo.set0 _).drew
      replace hhi : One w2 (w.heap.size + 1 + 1 + 1) HX HY := by rw [← hw]; exact (hhi.far (by simp) _).drew
      replace hr0 : One w2 w.heap.size 0 0 := by rw [← hw]; exact (hr0.far (by simp; omega) _).drew
      replace hr1 : One w2 (w.heap.size + 1) 0 0 := by rw [← hw]; exact (hr1.far (by simp) _).drew
      replace hb : Below w.heap.size w w2 := by rw [← hw]; exact (Below.setCell (p := ⟨w.heap.size + 1 + 1, 0, none⟩) hb (by show w.heap.size ≤ w.heap.size + 1 + 1; omega) _).drew
      replace d0 : w2.cell? ⟨b, off + k * 2, none⟩ = some (.int .i64 xk) := (hb.cell (p := ⟨b, off + k * 2, none⟩) hbB).trans c0
      replace d1 : w2.cell? ⟨b, off + k * 2 + 1, none⟩ = some (.int .i64 yk) := (hb.cell (p := ⟨b, off + k * 2 + 1, none⟩) hbB).trans c1
      clear hw l0 l1 f0 f1 m0 m1 g0 g1
      obtain ⟨l0, l1, f0, f1⟩ := hlo.cells
      obtain ⟨m0, m1, g0, g1⟩ := hhi.cells
      skip
      go_still_tail 7, (by kernel_rfl)
      change wpList _ _ _ _ _ w2.drew
      go_wp2_with (go_at_call 79; refine (l00Min_any _ _ _).mono ?_; rintro e w' ⟨rfl, rfl⟩)
      generalize hw : World.drew (World.setCell _ _ _) = w3
      replace hlo : One w3 (w.heap.size + 1 + 1) (min LX xk) (min LY yk) := by rw [← hw]; exact (hlo.set1 _).drew
      replace hhi : One w3 (w.heap.size + 1 + 1 + 1) HX HY := by rw [← hw]; exact (hhi.far (by simp) _).drew
      replace hr0 : One w3 w.heap.size 0 0 := by rw [← hw]; exact (hr0.far (by simp; omega) _).drew
      replace hr1 : One w3 (w.heap.size + 1) 0 0 := by rw [← hw]; exact (hr1.far (by simp) _).drew
      replace hb : Below w.heap.size w w3 := by rw [← hw]; exact (Below.setCell (p := ⟨w.heap.size + 1 + 1, 1, none⟩) hb (by show w.heap.size ≤ w.heap.size + 1 + 1; omega) _).drew
      replace d0 : w3.cell? ⟨b, off + k * 2, none⟩ = some (.int .i64 xk) := (hb.cell (p := ⟨b, off + k * 2, none⟩) hbB).trans c0
      replace d1 : w3.cell? ⟨b, off + k * 2 + 1, none⟩ = some (.int .i64 yk) := (hb.cell (p := ⟨b, off + k * 2 + 1, none⟩) hbB).trans c1
      clear hw l0 l1 f0 f1 m0 m1 g0 g1
      obtain ⟨l0, l1, f0, f1⟩ := hlo.cells
      obtain ⟨m0, m1, g0, g1⟩ := hhi.cells
      skip
      go_still_tail 7, (by kernel_rfl)
      change wpList _ _ _ _ _ w3.drew
      go_wp2_with (go_at_call 80; refine (l00Max_any _ _ _).mono ?_; rintro e w' ⟨rfl, rfl⟩)
      generalize hw : World.drew (World.setCell _ _ _) = w4
      replace hlo : One w4 (w.heap.size + 1 + 1) (min LX xk) (min LY yk) := by rw [← hw]; exact (hlo.far (by simp) _).drew
      replace hhi : One w4 (w.heap.size + 1 + 1 + 1) (max HX xk) HY := by rw [← hw]; exact (hhi.set0 _).drew
      replace hr0 : One w4 w.heap.size 0 0 := by rw [← hw]; exact (hr0.far (by simp; omega) _).drew
      replace hr1 : One w4 (w.heap.size + 1) 0 0 := by rw [← hw]; exact (hr1.far (by simp) _).drew
      replace hb : Below w.heap.size w w4 := by rw [← hw]; exact (Below.setCell (p := ⟨w.heap.size + 1 + 1 + 1, 0, none⟩) hb (by show w.heap.size ≤ w.heap.size + 1 + 1 + 1; omega) _).drew
      replace d0 : w4.cell? ⟨b, off + k * 2, none⟩ = some (.int .i64 xk) := (hb.cell (p := ⟨b, off + k * 2, none⟩) hbB).trans c0
      replace d1 : w4.cell? ⟨b, off + k * 2 + 1, none⟩ = some (.int .i64 yk) := (hb.cell (p := ⟨b, off + k * 2 + 1, none⟩) hbB).trans c1
      clear hw l0 l1 f0 f1 m0 m1 g0 g1
      obtain ⟨l0, l1, f0, f1⟩ := hlo.cells
      obtain ⟨m0, m1, g0, g1⟩ := hhi.cells
      skip
      go_still_tail 7, (by kernel_rfl)
      change wpList _ _ _ _ _ w4.drew
      go_wp2_with (go_at_call 80; refine (l00Max_any _ _ _).mono ?_; rintro e w' ⟨rfl, rfl⟩)
      generalize hw : World.drew (World.setCell _ _ _) = w5
      replace hlo : One w5 (w.heap.size + 1 + 1) (min LX xk) (min LY yk) := by rw [← hw]; exact (hlo.far (by simp) _).drew
      replace hhi : One w5 (w.heap.size + 1 + 1 + 1) (max HX xk) (max HY yk) := by rw [← hw]; exact (hhi.set1 _).drew
      replace hr0 : One w5 w.heap.size 0 0 := by rw [← hw]; exact (hr0.far (by simp; omega) _).drew
      replace hr1 : One w5 (w.heap.size + 1) 0 0 := by rw [← hw]; exact (hr1.far (by simp) _).drew
      replace hb : Below w.heap.size w w5 := by rw [← hw]; exact (Below.setCell (p := ⟨w.heap.size + 1 + 1 + 1, 1, none⟩) hb (by show w.heap.size ≤ w.heap.size + 1 + 1 + 1; omega) _).drew
      replace d0 : w5.cell? ⟨b, off + k * 2, none⟩ = some (.int .i64 xk) := (hb.cell (p := ⟨b, off + k * 2, none⟩) hbB).trans c0
      replace d1 : w5.cell? ⟨b, off + k * 2 + 1, none⟩ = some (.int .i64 yk) := (hb.cell (p := ⟨b, off + k * 2 + 1, none⟩) hbB).trans c1
      clear hw l0 l1 f0 f1 m0 m1 g0 g1
      go_roundw
      case rel => exact ⟨k + 1, by omega, by omega, by go_num, by rw [r1.out, r2.out]; exact hlo, by rw [r3.out, r4.out]; exact hhi, hb, hr0, hr1⟩
      case measure => simp [intOf]; omega
    · obtain rfl : k = ps.length := by omega
      clear e1 hc
      obtain ⟨l0, l1, f0, f1⟩ := hlo.cells
      obtain ⟨m0, m1, g0, g1⟩ := hhi.cells
      obtain ⟨p0, p1, q0, q1⟩ := hr0.cells
      obtain ⟨s0, s1, t0, t1⟩ := hr1.cells
      go_wp2
      go_region
      all_goals
        go_wp2
        generalize hw : World.drew _ = wz
        have z0 : One wz w.heap.size (mnI (xs ps) ps.length) (mnI (ys ps) ps.length) := by rw [← hw]; exact ((((hr0.set0 _).set1 _).far (by simp) _).far (by simp) _).drew
        have z1 : One wz (w.heap.size + 1) (mxI (xs ps) ps.length) (mxI (ys ps) ps.length) := by rw [← hw]; exact ((((hr1.far (by simp) _).far (by simp) _).set0 _).set1 _).drew
        have zb : Below w.heap.size w wz := by rw [← hw]; exact ((((hb.setCell (by simp) _).setCell (by simp) _).setCell (by simp) _).setCell (by simp) _).drew
        obtain ⟨v0, v1, _, _⟩ := z0.cells
        obtain ⟨v2, v3, _, _⟩ := z1.cells
        exact bodyPost_ret (v := .tuple #[.agg #[.int .i64 (mnI (xs ps) ps.length), .int .i64 (mnI (ys ps) ps.length)], .agg #[.int .i64 (mxI (xs ps) ps.length), .int .i64 (mxI (ys ps) ps.length)]]) (by simp [results, Try.results38, go_sem, v0, v1, v2, v3]) rfl ⟨rfl, zb⟩

def okBox (ps : List (Int × Int)) : Bool := arePts ps && decide (0 < ps.length)
def sel (b : Bool) (n : Int) : Int := if b = true then n else 0
def bx1 (ps : List (Int × Int)) : Int := sel (okBox ps) (mnI (xs ps) ps.length)
def bx2 (ps : List (Int × Int)) : Int := sel (okBox ps) (mnI (ys ps) ps.length)
def bx3 (ps : List (Int × Int)) : Int := sel (okBox ps) (mxI (xs ps) ps.length)
def bx4 (ps : List (Int × Int)) : Int := sel (okBox ps) (mxI (ys ps) ps.length)
def boxV (ps : List (Int × Int)) : Value := .tuple #[.agg #[.int .i64 (bx1 ps), .int .i64 (bx2 ps)], .agg #[.int .i64 (bx3 ps), .int .i64 (bx4 ps)], .bool (okBox ps)]
theorem boxV_f {ps : List (Int × Int)} (h : okBox ps = false) : boxV ps = .tuple #[.agg #[.int .i64 0, .int .i64 0], .agg #[.int .i64 0, .int .i64 0], .bool false] := by simp [boxV, bx1, bx2, bx3, bx4, sel, h]
theorem boxV_t {ps : List (Int × Int)} (h : okBox ps = true) : boxV ps = .tuple #[.agg #[.int .i64 (mnI (xs ps) ps.length), .int .i64 (mnI (ys ps) ps.length)], .agg #[.int .i64 (mxI (xs ps) ps.length), .int .i64 (mxI (ys ps) ps.length)], .bool true] := by simp [boxV, bx1, bx2, bx3, bx4, sel, h]

end Go.Proofs.Ytepamhdopmfkfaa.fnExactBoxOf
