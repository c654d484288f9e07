/-
  Slices of points: the law's copies, comparison, size.
-/
import Derived.Test.YtdpamieheefhdaaDist
import Derived.LoopTactic
import Derived.Laws.MakeOwn
import Derived.Laws.Rows
namespace Go.Proofs.Ytdpamieheefhdaa
set_option linter.unusedSimpArgs false
set_option linter.unusedVariables false
open Go.ChangeShapes Go.WideShapes Go.ChangeAt Go.RowKit

/-- Block g holds the first k of the points ps, and has places for all of them. -/
def PBlk (w : World) (g : Nat) (ps : List (Int × Int)) (k : Nat) : Prop :=
  ∃ cs, w.heap[g]? = some (.cells cs 37 (0, 0)) ∧ cs.size = ps.length * 2 ∧ ∀ i, i < k → i < ps.length → cs[i * 2]? = some (.int .i64 (ps.getD i (0, 0)).1) ∧ cs[i * 2 + 1]? = some (.int .i64 (ps.getD i (0, 0)).2)
theorem PBlk.lt {w : World} {g k : Nat} {ps : List (Int × Int)} (h : PBlk w g ps k) : g < w.heap.size := by
  obtain ⟨cs, h, _⟩ := h
  rcases Nat.lt_or_ge g w.heap.size with hlt | hge
  · exact hlt
  · rw [Array.getElem?_eq_none hge] at h; cases h
theorem PBlk.keep {w w' : World} {g k : Nat} {ps : List (Int × Int)} (h : PBlk w g ps k) (hk : w'.heap[g]? = w.heap[g]?) : PBlk w' g ps k := by
  obtain ⟨cs, h0, h1⟩ := h
  exact ⟨cs, hk.trans h0, h1⟩
theorem PBlk.below {w w' : World} {B g k : Nat} {ps : List (Int × Int)} (h : PBlk w g ps k) (hb : Below B w w') (hg : g < B) : PBlk w' g ps k := h.keep (hb.block g hg)
theorem PBlk.at_ {w : World} {g k : Nat} {ps : List (Int × Int)} (h : PBlk w g ps k) {i : Nat} (hi : i < k) (hl : i < ps.length) :
    w.cell? ⟨g, i * 2, none⟩ = some (.int .i64 (ps.getD i (0, 0)).1) ∧ w.cell? ⟨g, i * 2 + 1, none⟩ = some (.int .i64 (ps.getD i (0, 0)).2) := by
  obtain ⟨cs, h0, _, h2⟩ := h
  rw [cell_of_row w g _ cs _ _ h0, cell_of_row w g _ cs _ _ h0]
  exact h2 i hi hl
theorem PBlk.pts {w : World} {g : Nat} {ps : List (Int × Int)} (h : PBlk w g ps ps.length) : PtsAt w w.heap.size (some ⟨g, 0, none⟩) ps := fun _ =>
  ⟨g, 0, rfl, h.lt, fun i hi => by simpa using h.at_ hi hi⟩
theorem PBlk.frozen {w : World} {g k : Nat} {ps : List (Int × Int)} (h : PBlk w g ps k) (i : Nat) : w.frozen? ⟨g, i, none⟩ = false := by
  obtain ⟨cs, h0, _⟩ := h
  simp [World.frozen?, h0]
theorem PBlk.there {w : World} {g k : Nat} {ps : List (Int × Int)} (h : PBlk w g ps k) {i : Nat} (hi : i < ps.length * 2) : ∃ v, w.cell? ⟨g, i, none⟩ = some v := by
  obtain ⟨cs, h0, h1, _⟩ := h
  rw [cell_of_row w g _ cs _ _ h0]
  exact ⟨cs[i], by simp [h1, hi]⟩
theorem PBlk.set_ {w : World} {g k : Nat} {ps : List (Int × Int)} (h : PBlk w g ps k) (hk : k < ps.length) :
    PBlk ((w.setCell ⟨g, k * 2, none⟩ (.int .i64 (ps.getD k (0, 0)).1)).setCell ⟨g, k * 2 + 1, none⟩ (.int .i64 (ps.getD k (0, 0)).2)) g ps (k + 1) := by
  obtain ⟨cs, h0, h1, h2⟩ := h
  refine ⟨(cs.setIfInBounds (k * 2) (.int .i64 (ps.getD k (0, 0)).1)).setIfInBounds (k * 2 + 1) (.int .i64 (ps.getD k (0, 0)).2), ?_, by simpa using h1, ?_⟩
  · simp [World.setCell, Array.getElem?_modify, h0]
  · intro i hi hl
    rcases Nat.lt_or_ge i k with hlt | hge
    · obtain ⟨a, b⟩ := h2 i hlt hl
      rw [Array.getElem?_setIfInBounds_ne (by omega), Array.getElem?_setIfInBounds_ne (by omega), Array.getElem?_setIfInBounds_ne (by omega), Array.getElem?_setIfInBounds_ne (by omega)]
      exact ⟨a, b⟩
    · obtain rfl : i = k := by omega
      rw [Array.getElem?_setIfInBounds_ne (by omega)]
      simp only [Array.getElem?_setIfInBounds_self, h1, Array.size_setIfInBounds]
      rw [if_pos (by omega), if_pos (by omega)]
      exact ⟨rfl, rfl⟩

theorem PtsAt.to {w w1 : World} {A : Option Addr} {ps : List (Int × Int)} (h : PtsAt w w.heap.size A ps) (hb : Below w.heap.size w w1) : PtsAt w1 w1.heap.size A ps := fun h0 => by
  obtain ⟨b, off, e, hlt, hc⟩ := h h0
  exact ⟨b, off, e, Nat.lt_of_lt_of_le hlt hb.size, fun i hi => ⟨(hb.cell (p := ⟨b, _, none⟩) hlt).trans (hc i hi).1, (hb.cell (p := ⟨b, _, none⟩) hlt).trans (hc i hi).2⟩⟩
theorem PBlk.to {w w1 : World} {g k : Nat} {ps : List (Int × Int)} (h : PBlk w g ps k) (hb : Below w.heap.size w w1) : PBlk w1 g ps k := h.below hb h.lt

/-- The empty places of a new slice of points. -/
def blank (n : Nat) : Array Value := madeCells #[.int .i64 0, .int .i64 0] (n * 2)
theorem infoPt : (Try.prog.info? 37).map (fun i => (i.zero, i.size, i.bytes)) = some (some (.agg #[.int .i64 0, .int .i64 0]), 2, 16) := by kernel_rfl
theorem run_mkpts (n : Nat) (h : n ≤ 1048576) (w : World) :
    (Instr.makeSlice 32 (.int .i64 (n : Int)) (.int .i64 (n : Int))).run Try.prog w = .ok (.slice (some ⟨w.heap.size, 0, none⟩) n n) (w.alloc (.cells (blank n) 37)) := by
  obtain ⟨i, hi, hzz⟩ := Option.map_eq_some_iff.1 infoPt
  simp only [Prod.mk.injEq] at hzz
  obtain ⟨hz, hs, hb⟩ := hzz
  have := run_make (P := Try.prog) w 32 37 i _ Try.underlying32 hi hz .i64 .i64 n n (by omega) (by omega) (by rw [hb]; omega) (by omega)
  rw [this, hs]
  rfl
theorem PBlk.new (w : World) (ps : List (Int × Int)) : PBlk (w.alloc (.cells (blank ps.length) 37)) w.heap.size ps 0 :=
  ⟨blank ps.length, heap_alloc_new w _, by simp [blank, size_madeCells], fun i hi => by omega⟩

/-- A new slice that holds the points ps. -/
def NewPts (w : World) (ps : List (Int × Int)) (e : Ending) (w' : World) : Prop :=
  ∃ g, e = .returned (.slice (some ⟨g, 0, none⟩) ps.length ps.length) ∧ PBlk w' g ps ps.length ∧ Below w.heap.size w w' ∧ w.heap.size ≤ g
theorem eqPoint_same (x y : Int) (w : World) :
    Calls Try.prog 53 #[.agg #[.int .i64 x, .int .i64 y], .agg #[.int .i64 x, .int .i64 y]] w fun e w' => e = .returned (.bool true) ∧ Below w.heap.size w w' :=
  (eqPoint_any x y x y w).mono fun _ _ ⟨he, hb⟩ => ⟨he.trans (retB (by simp)), hb⟩

/-- Four cells, and nothing has turned below N: so behind a call that only makes memory. -/
theorem keep4 {N : Nat} {w wr wr' : World} {b1 o1 b2 o2 : Nat} {X Y X' Y' : Value}
    (h : wr.cell? ⟨b1, o1, none⟩ = some X ∧ wr.cell? ⟨b1, o1 + 1, none⟩ = some Y ∧ wr.cell? ⟨b2, o2, none⟩ = some X' ∧ wr.cell? ⟨b2, o2 + 1, none⟩ = some Y' ∧ Below N w wr ∧ N ≤ wr.heap.size)
    (hs : Below wr.heap.size wr wr') :
    wr'.cell? ⟨b1, o1, none⟩ = some X ∧ wr'.cell? ⟨b1, o1 + 1, none⟩ = some Y ∧ wr'.cell? ⟨b2, o2, none⟩ = some X' ∧ wr'.cell? ⟨b2, o2 + 1, none⟩ = some Y' ∧ Below N w wr' ∧ N ≤ wr'.heap.size := by
  obtain ⟨h0, h1, h2, h3, hb, hz⟩ := h
  have l1 : b1 < wr.heap.size := World.block_lt_of_cell? wr _ h0
  have l2 : b2 < wr.heap.size := World.block_lt_of_cell? wr _ h2
  exact ⟨(hs.cell (p := ⟨b1, o1, none⟩) l1).trans h0, (hs.cell (p := ⟨b1, o1 + 1, none⟩) l1).trans h1, (hs.cell (p := ⟨b2, o2, none⟩) l2).trans h2, (hs.cell (p := ⟨b2, o2 + 1, none⟩) l2).trans h3,
    hb.trans (hs.mono hz), Nat.le_trans hz hs.size⟩
theorem fifth {a b c d e : Prop} {N : Nat} {w wr : World} (h : a ∧ b ∧ c ∧ d ∧ Below N w wr ∧ e) : Below N w wr := h.2.2.2.2.1

set_option maxHeartbeats 400000 in
theorem eqPointS_same (A B : Option Addr) (ps : List (Int × Int)) (c d : Nat) (w : World) (hp : PtsAt w w.heap.size A ps) (hq : PtsAt w w.heap.size B ps) (hl : ps.length ≤ 1048576) :
    Calls Try.prog 21 #[.slice A ps.length c, .slice B ps.length d] w fun e w' => e = .returned (.bool true) ∧ Below w.heap.size w w' := by
  have hl' : (ps.length : Int) ≤ 1048576 := by omega
  go_enter Try.func21, Try.ntmps21
  go_wp2
  go_loopw [5] (fun i wr => ∃ k : Nat, k ≤ ps.length ∧ i = .int .i64 k ∧ Below w.heap.size w wr) (fun i _ => ps.length - (intOf i).toNat)
  case atStart => exact ⟨0, Nat.zero_le _, rfl, Below.refl _ _⟩
  case round =>
    obtain ⟨k, hk, rfl, hb⟩ := hrel
    by_cases hlt : k < ps.length
    · obtain ⟨b1, o1, rfl, hb1, hc1⟩ := hp (by omega)
      obtain ⟨b2, o2, rfl, hb2, hc2⟩ := hq (by omega)
      obtain ⟨c0, c1⟩ := hc1 k hlt
      obtain ⟨c2, c3⟩ := hc2 k hlt
      have d0 := (hb.cell (p := ⟨b1, o1 + k * 2, none⟩) hb1).trans c0
      have d1 := (hb.cell (p := ⟨b1, o1 + k * 2 + 1, none⟩) hb1).trans c1
      have d2 := (hb.cell (p := ⟨b2, o2 + k * 2, none⟩) hb2).trans c2
      have d3 := (hb.cell (p := ⟨b2, o2 + k * 2 + 1, none⟩) hb2).trans c3
      have hz := hb.size
      generalize (ps.getD k (0, 0)).1 = x at d0 d2
      generalize (ps.getD k (0, 0)).2 = y at d1 d3
      clear hc1 hc2 c0 c1 c2 c3 hp hq
      have hlt' : (k : Int) < (ps.length : Int) := by omega
      go_wp2
      go_region_held3 (fun wx => wx.cell? ⟨b1, o1 + k * 2, none⟩ = some (.int .i64 x) ∧ wx.cell? ⟨b1, o1 + k * 2 + 1, none⟩ = some (.int .i64 y) ∧ wx.cell? ⟨b2, o2 + k * 2, none⟩ = some (.int .i64 x) ∧ wx.cell? ⟨b2, o2 + k * 2 + 1, none⟩ = some (.int .i64 y) ∧ Below w.heap.size w wx ∧ w.heap.size ≤ wx.heap.size)
        (first | exact keep4 (by assumption) (by assumption) | exact ⟨d0, d1, d2, d3, hb.drew, hz⟩)
        (first | (go_at_call 53; refine (eqPoint_same _ _ _).mono ?_; rintro e w' ⟨rfl, hb'⟩))
      go_wp2
      go_roundw
      case rel => exact ⟨k + 1, by omega, by go_num, fifth (by assumption)⟩
      case measure => simp [intOf]; omega
    · go_wp2
      go_ret
      exact ⟨rfl, hb⟩

/-! ### Are points of the grid, few -/
def allPt (l : List (Int × Int)) : Bool := l.all fun p => isPt p.1 p.2
def arePts (l : List (Int × Int)) : Bool := allPt l && decide (l.length ≤ 24)
theorem take_snocP (ps : List (Int × Int)) (k : Nat) (h : k < ps.length) : ps.take (k + 1) = ps.take k ++ [ps.getD k (0, 0)] := by
  rw [List.take_succ_eq_append_getElem h]; simp [List.getD_eq_getElem?_getD, h]
theorem allPt_snoc (ps : List (Int × Int)) (k : Nat) (h : k < ps.length) : allPt (ps.take (k + 1)) = (allPt (ps.take k) && isPt (ps.getD k (0, 0)).1 (ps.getD k (0, 0)).2) := by
  rw [take_snocP ps k h]; simp [allPt]
theorem allPt_bad (ps : List (Int × Int)) (k : Nat) (h : k < ps.length) (hb : isPt (ps.getD k (0, 0)).1 (ps.getD k (0, 0)).2 = false) : allPt ps = false := by
  unfold allPt
  rw [List.all_eq_false]
  refine ⟨ps[k], by simp, ?_⟩
  simp [List.getD_eq_getElem?_getD, h] at hb
  simp [hb]
theorem allPt_at {ps : List (Int × Int)} (ha : allPt ps = true) {k : Nat} (h : k < ps.length) : isPt (ps.getD k (0, 0)).1 (ps.getD k (0, 0)).2 = true := by
  cases hb : isPt (ps.getD k (0, 0)).1 (ps.getD k (0, 0)).2
  · rw [allPt_bad ps k h hb] at ha; cases ha
  · rfl

set_option maxHeartbeats 400000 in
theorem areOnGrid_any (A : Option Addr) (ps : List (Int × Int)) (c : Nat) (w : World) (hp : PtsAt w w.heap.size A ps) (hl : ps.length ≤ 1048576) :
    Calls Try.prog 41 #[.slice A ps.length c] w fun e w' => e = .returned (.bool (allPt ps)) ∧ Below w.heap.size w w' := by
  go_enter Try.func41, Try.ntmps41
  go_wp2
  go_loopw [4, 7] (fun _ i wr => ∃ k : Nat, k ≤ ps.length ∧ i = .int .i64 k ∧ Hid (allPt (ps.take k) = true) ∧ Below w.heap.size w wr) (fun _ i _ => ps.length - (intOf i).toNat)
  case atStart => exact ⟨0, Nat.zero_le _, rfl, rfl, Below.refl _ _⟩
  case round =>
    obtain ⟨k, hk, rfl, HA, hb⟩ := hrel
    by_cases hlt : k < ps.length
    · obtain ⟨b, off, rfl, hbB, hc⟩ := hp (by omega)
      obtain ⟨c0, c1⟩ := hc k hlt
      have d0 := (hb.cell (p := ⟨b, off + k * 2, none⟩) hbB).trans c0
      have d1 := (hb.cell (p := ⟨b, off + k * 2 + 1, none⟩) hbB).trans c1
      have HN := Lib.hid (allPt_snoc ps k hlt)
      have HB := Lib.hid (allPt_bad ps k hlt)
      generalize (ps.getD k (0, 0)).1 = x at *
      generalize (ps.getD k (0, 0)).2 = y at *
      clear hc c0 c1 hp
      cases hv : isPt x y
      all_goals
        have HV := Lib.hid hv
        clear hv
        go_wp2_with (go_at_call 72; refine (IsPointI_any _ _ _).mono ?_; rintro e w' ⟨rfl, hb'⟩; rw [HV.out])
      · go_ret
        exact ⟨retB (by rw [HB.out HV.out]), by (repeat (first | assumption | exact Below.refl _ _ | (refine bl_alloc ?_ _) | (refine Below.drew ?_) | (refine bl_drewN ?_ _) | (refine bl_set ?_ (by first | (simp; done) | omega | (simp; omega)) _) | (refine bl_trans ?_ (by assumption)) | (refine bl_step ?_ (by assumption) (by first | omega | exact Below.size (by assumption) | (simp; omega) | (simp; exact Below.size (by assumption))))))⟩
      · go_roundw
        case rel => exact ⟨k + 1, by omega, by go_num, by show _ = _; rw [HN.out, HA.out, HV.out]; rfl, by (repeat (first | assumption | exact Below.refl _ _ | (refine bl_alloc ?_ _) | (refine Below.drew ?_) | (refine bl_drewN ?_ _) | (refine bl_set ?_ (by first | (simp; done) | omega | (simp; omega)) _) | (refine bl_trans ?_ (by assumption)) | (refine bl_step ?_ (by assumption) (by first | omega | exact Below.size (by assumption) | (simp; omega) | (simp; exact Below.size (by assumption))))))⟩
        case measure => simp [intOf]; omega
    · have HT : Hid (allPt ps = true) := by
        show _ = _
        have := HA.out
        rwa [List.take_of_length_le (by omega)] at this
      go_wp2
      go_ret
      exact ⟨retB (by rw [HT.out]), hb⟩

end Go.Proofs.Ytdpamieheefhdaa
