/-
  Contract: the neighbours of a point (no choice of the maze's in it).
-/
import Derived.Test.YtepamhdopmfkfaaReachI
import Derived.Test.YtepamhdopmfkfaaMazeS
namespace Go.Proofs.Ytepamhdopmfkfaa
set_option linter.unusedSimpArgs false
set_option linter.unusedVariables false
open Go.ChangeShapes Go.WideShapes Go.ChangeAt Go.RowKit

def nbs (p : Pt) : List Pt := [nb p 0, nb p 1, nb p 2, nb p 3]
/-- Block g holds the first k neighbours, of four. -/
def NbBlk (w : World) (g : Nat) (p : Pt) (k : Nat) : Prop :=
  ∃ cs, w.heap[g]? = some (.cells cs 33 (0, 0)) ∧ cs.size = 8 ∧ ∀ i, i < k → cs[i * 2]? = some (.int .i64 (nb p i).1) ∧ cs[i * 2 + 1]? = some (.int .i64 (nb p i).2)
theorem NbBlk.lt {w : World} {g k : Nat} {p : Pt} (h : NbBlk w g p k) : g < w.heap.size := by
  obtain ⟨cs, h, _⟩ := h
  rcases Nat.lt_or_ge g w.heap.size with hlt | hge
  · exact hlt
  · rw [Array.getElem?_eq_none hge] at h; cases h
theorem NbBlk.keep {w w' : World} {g k : Nat} {p : Pt} (h : NbBlk w g p k) (hk : w'.heap[g]? = w.heap[g]?) : NbBlk w' g p k := by
  obtain ⟨cs, h0, h1⟩ := h
  exact ⟨cs, hk.trans h0, h1⟩
theorem NbBlk.to {w w1 : World} {g k : Nat} {p : Pt} (h : NbBlk w g p k) (hb : Below w.heap.size w w1) : NbBlk w1 g p k := h.keep (hb.block g h.lt)
theorem NbBlk.tod {w w1 : World} {g k : Nat} {p : Pt} (h : NbBlk w g p k) (hb : Below w.drew.heap.size w.drew w1) : NbBlk w1 g p k := NbBlk.to (w := w.drew) h hb
theorem NbBlk.there {w : World} {g k : Nat} {p : Pt} (h : NbBlk w g p k) (i : Nat) (hi : i < 8) : ∃ v, w.cell? ⟨g, i, none⟩ = some v := by
  obtain ⟨cs, h0, h1, _⟩ := h
  exact ⟨cs[i], by rw [cell_of_row w g _ cs _ _ h0]; exact Array.getElem?_eq_getElem _⟩
theorem NbBlk.frozen {w : World} {g k : Nat} {p : Pt} (h : NbBlk w g p k) (i : Nat) : w.frozen? ⟨g, i, none⟩ = false := by
  obtain ⟨cs, h0, _⟩ := h
  simp [World.frozen?, h0]
theorem NbBlk.set_ {w : World} {g k : Nat} {p : Pt} {a b : Int} (h : NbBlk w g p k) (hk : k < 4) (hab : nb p k = (a, b)) : NbBlk ((w.setCell ⟨g, k * 2, none⟩ (.int .i64 a)).setCell ⟨g, k * 2 + 1, none⟩ (.int .i64 b)) g p (k + 1) := by
  obtain ⟨cs, h0, h1, h2⟩ := h
  refine ⟨(cs.setIfInBounds (k * 2) (.int .i64 a)).setIfInBounds (k * 2 + 1) (.int .i64 b), by simp [World.setCell, Array.getElem?_modify, h0], by simpa using h1, fun j hj => ?_⟩
  by_cases e : j = k
  · subst e
    rw [hab]
    constructor
    · rw [Array.getElem?_setIfInBounds_ne (by omega), Array.getElem?_setIfInBounds_self, if_pos (by omega)]
    · rw [Array.getElem?_setIfInBounds_self, if_pos (by rw [Array.size_setIfInBounds]; omega)]
  · rw [Array.getElem?_setIfInBounds_ne (by omega), Array.getElem?_setIfInBounds_ne (by omega), Array.getElem?_setIfInBounds_ne (by omega), Array.getElem?_setIfInBounds_ne (by omega)]
    exact h2 j (by omega)
def blankN4 : Array Value := madeCells #[.int .i64 0, .int .i64 0] (4 * 2)
theorem infoNb : (Try.prog.info? 33).map (fun i => (i.zero, i.size, i.bytes)) = some (some (.agg #[.int .i64 0, .int .i64 0]), 2, 16) := by kernel_rfl
theorem run_mknb (w : World) :
    (Instr.makeSlice 25 (.int .i64 4) (.int .i64 4)).run Try.prog w = .ok (.slice (some ⟨w.heap.size, 0, none⟩) 4 4) (w.alloc (.cells blankN4 33)) := by
  obtain ⟨i, hi, hzz⟩ := Option.map_eq_some_iff.1 infoNb
  simp only [Prod.mk.injEq] at hzz
  obtain ⟨hz, hs, hb⟩ := hzz
  have := run_make (P := Try.prog) w 25 33 i _ Try.underlying25 hi hz .i64 .i64 4 4 (by omega) (by omega) (by rw [hb]; omega) (by omega)
  rw [hs] at this
  exact this
theorem NbBlk.new (w : World) (p : Pt) : NbBlk (w.alloc (.cells blankN4 33)) w.heap.size p 0 :=
  ⟨blankN4, heap_alloc_new w _, by simp [blankN4, size_madeCells], fun i hi => by omega⟩
theorem NbBlk.pts {w : World} {g : Nat} {p : Pt} (h : NbBlk w g p 4) : PtsAt w w.heap.size (some ⟨g, 0, none⟩) (nbs p) := fun _ => by
  refine ⟨g, 0, rfl, h.lt, fun i hi => ?_⟩
  obtain ⟨cs, h0, h1, h2⟩ := h
  have hi4 : i < 4 := by simpa [nbs] using hi
  rw [cell_of_row w g _ cs _ _ h0, cell_of_row w g _ cs _ _ h0]
  have e : (nbs p).getD i (0, 0) = nb p i := by
    rcases (show i = 0 ∨ i = 1 ∨ i = 2 ∨ i = 3 by omega) with rfl | rfl | rfl | rfl <;> rfl
  rw [e]
  have := h2 i hi4
  rw [show 0 + i * 2 = i * 2 by omega]
  exact this

set_option maxRecDepth 100000 in
set_option maxHeartbeats 3200000 in
theorem neighboursOf_any (x y : Int) (w : World) (hx : -1000 ≤ x ∧ x ≤ 1000) (hy : -1000 ≤ y ∧ y ≤ 1000) :
    Calls Try.prog 74 #[.agg #[.int .i64 x, .int .i64 y]] w fun e w' => (∃ g, e = .returned (.slice (some ⟨g, 0, none⟩) 4 4) ∧ PtsAt w' w'.heap.size (some ⟨g, 0, none⟩) (nbs (x, y))) ∧ Below w.heap.size w w' := by
  have hmk := run_mknb
  have hN0 := NbBlk.new (w.alloc (.cells #[.int .i64 x, .int .i64 y] 33)) (x, y)
  have hP0 := (PtBox.new w x y).to (show Below (w.alloc (.cells #[.int .i64 x, .int .i64 y] 33)).heap.size _ ((w.alloc (.cells #[.int .i64 x, .int .i64 y] 33)).alloc (.cells blankN4 33)) by (repeat (first | assumption | exact Below.refl _ _ | (refine bl_alloc ?_ _) | (refine Below.drew ?_) | (refine bl_drewN ?_ _) | (refine bl_set ?_ (by first | (simp; done) | omega | (simp; omega)) _) | (refine bl_trans ?_ (by assumption)) | (refine bl_step ?_ (by assumption) (by first | omega | exact Below.size (by assumption) | (simp; omega) | (simp; exact Below.size (by assumption)))))))
  have b0 : Below w.heap.size w ((w.alloc (.cells #[.int .i64 x, .int .i64 y] 33)).alloc (.cells blankN4 33)) := by (repeat (first | assumption | exact Below.refl _ _ | (refine bl_alloc ?_ _) | (refine Below.drew ?_) | (refine bl_drewN ?_ _) | (refine bl_set ?_ (by first | (simp; done) | omega | (simp; omega)) _) | (refine bl_trans ?_ (by assumption)) | (refine bl_step ?_ (by assumption) (by first | omega | exact Below.size (by assumption) | (simp; omega) | (simp; exact Below.size (by assumption))))))
  simp at hN0
  go_enter Try.func74, Try.ntmps74
  go_wp2
  go_loopw [4, 8] (fun _ i wr => ∃ k : Nat, k ≤ 4 ∧ i = .int .i64 k ∧ NbBlk wr (w.heap.size + 1) (x, y) k ∧ PtBox wr w.heap.size (x, y) ∧ Below w.heap.size w wr) (fun _ i _ => 4 - (intOf i).toNat)
  case atStart => exact ⟨0, by omega, rfl, hN0, hP0, b0⟩
  case round =>
    clear hmk hN0 hP0 b0
    obtain ⟨k, hk, rfl, hN, hP, hb⟩ := hrel
    have p0 := hP.c0
    have p1 := hP.c1
    simp only at p0 p1
    have hz := hN.lt
    rcases (show k = 0 ∨ k = 1 ∨ k = 2 ∨ k = 3 ∨ k = 4 by omega) with rfl | rfl | rfl | rfl | rfl
    · obtain ⟨a, ha⟩ : ∃ a, (nb (x, y) 0).1 = a := ⟨_, rfl⟩
      obtain ⟨b, hb'⟩ : ∃ b, (nb (x, y) 0).2 = b := ⟨_, rfl⟩
      have HAB : Hid (nb (x, y) 0 = (a, b)) := by show _ = _; rw [← ha, ← hb']
      have cst := fun w1 => stepFrom_any x y 100 w1 hx hy
      rw [show stepL x y 100 = nb (x, y) 0 by simp [stepL, wayI, nb]] at cst
      simp only [ptA, ha, hb'] at cst
      clear ha hb' hx hy
      go_wp2_with fail
      go_region_with (go_at_call 102; refine (cst _).mono ?_; rintro e w1 ⟨rfl, hb1⟩; have hN1 : NbBlk w1 (w.heap.size + 1) (x, y) 0 := (by (first | exact hN.to hb1 | exact hN.tod hb1)); have hP1 : PtBox w1 w.heap.size (x, y) := (by (first | exact PtBox.to (w := wr) hP hb1 | exact PtBox.to (w := wr.drew) hP hb1)); have b1 : Below w.heap.size w w1 := (by (first | exact bl_step hb hb1 hb.size | exact bl_step hb.drew hb1 hb.size)); obtain ⟨v0, t0⟩ := hN1.there 0 (by decide); obtain ⟨v1, t1⟩ := hN1.there 1 (by decide); have f0 := hN1.frozen 0; have f1 := hN1.frozen 1; have hz1 := hN1.lt)
      all_goals
        have hN2 := hN1.set_ (by omega) HAB.out
        have hP2 := ((hP1.keep (Below.heap_setCell w1 ⟨w.heap.size + 1, 0, none⟩ (.int .i64 a) w.heap.size (by simp))).keep (Below.heap_setCell (w1.setCell ⟨w.heap.size + 1, 0, none⟩ (.int .i64 a)) ⟨w.heap.size + 1, 1, none⟩ (.int .i64 b) w.heap.size (by simp)))
        have b2 := (b1.setCell (p := ⟨w.heap.size + 1, 0, none⟩) (by simp) (.int .i64 a)).setCell (p := ⟨w.heap.size + 1, 1, none⟩) (by simp) (.int .i64 b)
        go_wp2_with fail
        go_roundw
        case rel => exact ⟨1, by omega, by go_num, hN2, hP2, b2⟩
        case measure => simp [intOf]
    · obtain ⟨a, ha⟩ : ∃ a, (nb (x, y) 1).1 = a := ⟨_, rfl⟩
      obtain ⟨b, hb'⟩ : ∃ b, (nb (x, y) 1).2 = b := ⟨_, rfl⟩
      have HAB : Hid (nb (x, y) 1 = (a, b)) := by show _ = _; rw [← ha, ← hb']
      have cst := fun w1 => stepFrom_any x y 108 w1 hx hy
      rw [show stepL x y 108 = nb (x, y) 1 by simp [stepL, wayI, nb]] at cst
      simp only [ptA, ha, hb'] at cst
      clear ha hb' hx hy
      go_wp2_with fail
      go_region_with (go_at_call 102; refine (cst _).mono ?_; rintro e w1 ⟨rfl, hb1⟩; have hN1 : NbBlk w1 (w.heap.size + 1) (x, y) 1 := (by (first | exact hN.to hb1 | exact hN.tod hb1)); have hP1 : PtBox w1 w.heap.size (x, y) := (by (first | exact PtBox.to (w := wr) hP hb1 | exact PtBox.to (w := wr.drew) hP hb1)); have b1 : Below w.heap.size w w1 := (by (first | exact bl_step hb hb1 hb.size | exact bl_step hb.drew hb1 hb.size)); obtain ⟨v0, t0⟩ := hN1.there 2 (by decide); obtain ⟨v1, t1⟩ := hN1.there 3 (by decide); have f0 := hN1.frozen 2; have f1 := hN1.frozen 3; have hz1 := hN1.lt)
      all_goals
        have hN2 := hN1.set_ (by omega) HAB.out
        have hP2 := ((hP1.keep (Below.heap_setCell w1 ⟨w.heap.size + 1, 2, none⟩ (.int .i64 a) w.heap.size (by simp))).keep (Below.heap_setCell (w1.setCell ⟨w.heap.size + 1, 2, none⟩ (.int .i64 a)) ⟨w.heap.size + 1, 3, none⟩ (.int .i64 b) w.heap.size (by simp)))
        have b2 := (b1.setCell (p := ⟨w.heap.size + 1, 2, none⟩) (by simp) (.int .i64 a)).setCell (p := ⟨w.heap.size + 1, 3, none⟩) (by simp) (.int .i64 b)
        go_wp2_with fail
        go_roundw
        case rel => exact ⟨2, by omega, by go_num, hN2, hP2, b2⟩
        case measure => simp [intOf]
    · obtain ⟨a, ha⟩ : ∃ a, (nb (x, y) 2).1 = a := ⟨_, rfl⟩
      obtain ⟨b, hb'⟩ : ∃ b, (nb (x, y) 2).2 = b := ⟨_, rfl⟩
      have HAB : Hid (nb (x, y) 2 = (a, b)) := by show _ = _; rw [← ha, ← hb']
      have cst := fun w1 => stepFrom_any x y 114 w1 hx hy
      rw [show stepL x y 114 = nb (x, y) 2 by simp [stepL, wayI, nb]] at cst
      simp only [ptA, ha, hb'] at cst
      clear ha hb' hx hy
      go_wp2_with fail
      go_region_with (go_at_call 102; refine (cst _).mono ?_; rintro e w1 ⟨rfl, hb1⟩; have hN1 : NbBlk w1 (w.heap.size + 1) (x, y) 2 := (by (first | exact hN.to hb1 | exact hN.tod hb1)); have hP1 : PtBox w1 w.heap.size (x, y) := (by (first | exact PtBox.to (w := wr) hP hb1 | exact PtBox.to (w := wr.drew) hP hb1)); have b1 : Below w.heap.size w w1 := (by (first | exact bl_step hb hb1 hb.size | exact bl_step hb.drew hb1 hb.size)); obtain ⟨v0, t0⟩ := hN1.there 4 (by decide); obtain ⟨v1, t1⟩ := hN1.there 5 (by decide); have f0 := hN1.frozen 4; have f1 := hN1.frozen 5; have hz1 := hN1.lt)
      all_goals
        have hN2 := hN1.set_ (by omega) HAB.out
        have hP2 := ((hP1.keep (Below.heap_setCell w1 ⟨w.heap.size + 1, 4, none⟩ (.int .i64 a) w.heap.size (by simp))).keep (Below.heap_setCell (w1.setCell ⟨w.heap.size + 1, 4, none⟩ (.int .i64 a)) ⟨w.heap.size + 1, 5, none⟩ (.int .i64 b) w.heap.size (by simp)))
        have b2 := (b1.setCell (p := ⟨w.heap.size + 1, 4, none⟩) (by simp) (.int .i64 a)).setCell (p := ⟨w.heap.size + 1, 5, none⟩) (by simp) (.int .i64 b)
        go_wp2_with fail
        go_roundw
        case rel => exact ⟨3, by omega, by go_num, hN2, hP2, b2⟩
        case measure => simp [intOf]
    · obtain ⟨a, ha⟩ : ∃ a, (nb (x, y) 3).1 = a := ⟨_, rfl⟩
      obtain ⟨b, hb'⟩ : ∃ b, (nb (x, y) 3).2 = b := ⟨_, rfl⟩
      have HAB : Hid (nb (x, y) 3 = (a, b)) := by show _ = _; rw [← ha, ← hb']
      have cst := fun w1 => stepFrom_any x y 117 w1 hx hy
      rw [show stepL x y 117 = nb (x, y) 3 by simp [stepL, wayI, nb]] at cst
      simp only [ptA, ha, hb'] at cst
      clear ha hb' hx hy
      go_wp2_with fail
      go_region_with (go_at_call 102; refine (cst _).mono ?_; rintro e w1 ⟨rfl, hb1⟩; have hN1 : NbBlk w1 (w.heap.size + 1) (x, y) 3 := (by (first | exact hN.to hb1 | exact hN.tod hb1)); have hP1 : PtBox w1 w.heap.size (x, y) := (by (first | exact PtBox.to (w := wr) hP hb1 | exact PtBox.to (w := wr.drew) hP hb1)); have b1 : Below w.heap.size w w1 := (by (first | exact bl_step hb hb1 hb.size | exact bl_step hb.drew hb1 hb.size)); obtain ⟨v0, t0⟩ := hN1.there 6 (by decide); obtain ⟨v1, t1⟩ := hN1.there 7 (by decide); have f0 := hN1.frozen 6; have f1 := hN1.frozen 7; have hz1 := hN1.lt)
      all_goals
        have hN2 := hN1.set_ (by omega) HAB.out
        have hP2 := ((hP1.keep (Below.heap_setCell w1 ⟨w.heap.size + 1, 6, none⟩ (.int .i64 a) w.heap.size (by simp))).keep (Below.heap_setCell (w1.setCell ⟨w.heap.size + 1, 6, none⟩ (.int .i64 a)) ⟨w.heap.size + 1, 7, none⟩ (.int .i64 b) w.heap.size (by simp)))
        have b2 := (b1.setCell (p := ⟨w.heap.size + 1, 6, none⟩) (by simp) (.int .i64 a)).setCell (p := ⟨w.heap.size + 1, 7, none⟩) (by simp) (.int .i64 b)
        go_wp2_with fail
        go_roundw
        case rel => exact ⟨4, by omega, by go_num, hN2, hP2, b2⟩
        case measure => simp [intOf]
    · go_wp2
      go_ret
      exact ⟨⟨_, rfl, hN.pts⟩, hb⟩
end Go.Proofs.Ytepamhdopmfkfaa
