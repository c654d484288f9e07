/-
  Slices of records of 4 numbers (Shape): opened as an argument, their size, copy and comparison in a law.
-/
import Derived.Test.YtgpcfkegbcpkpaaNums
import Derived.Test.YtgpcfkegbcpkpaaPan
namespace Go.Proofs.Ytgpcfkegbcpkpaa
set_option linter.unusedSimpArgs false
set_option linter.unusedVariables false
open Go.ChangeShapes Go.WideShapes Go.ChangeAt Go.RowKit

/-- A record of so many numbers. -/
abbrev R4 := Int × Int × Int × Int
def r40 : R4 := (0, 0, 0, 0)
/-- The slice with the address A holds the records rs, below block B. -/
def ShpAt (w : World) (B : Nat) (A : Option Addr) (rs : List R4) : Prop :=
  0 < rs.length → ∃ b off, A = some ⟨b, off, none⟩ ∧ b < B ∧ ∀ i, i < rs.length → w.cell? ⟨b, off + i * 4, none⟩ = some (.int .i64 (rs.getD i r40).1) ∧ w.cell? ⟨b, off + i * 4 + 1, none⟩ = some (.int .i64 (rs.getD i r40).2.1) ∧ w.cell? ⟨b, off + i * 4 + 2, none⟩ = some (.int .i64 (rs.getD i r40).2.2.1) ∧ w.cell? ⟨b, off + i * 4 + 3, none⟩ = some (.int .i64 (rs.getD i r40).2.2.2)
def fitsShp (r : R4) : Prop := Fits r.1 ∧ Fits r.2.1 ∧ Fits r.2.2.1 ∧ Fits r.2.2.2

section
variable {H : Type} {enc : TypeId × Value → H}
set_option maxRecDepth 100000 in
theorem open_Shp {w : World} {v : Value} {n : Nat} {y : DataW H × List MemPlace} (hf : DataW.trod enc Try.prog w 0 (fun _ => true) true n 38 [v] = some y) :
    ∃ (A : Option Addr) (rs : List R4) (c : Nat), v = .slice A rs.length c ∧ ShpAt w w.heap.size A rs ∧ (∀ q ∈ rs, fitsShp q) ∧ rs.length ≤ c ∧ c ≤ maxLen := by
  rcases Go.Deep.open_slice Try.underlying38 hf with ⟨hcs, _⟩ | ⟨a, len, c, m, n, D, Pl, hcs, _, hl, hm, hmm, _, hx⟩
  · injection hcs with hcs
    exact ⟨none, [], 0, by simpa using hcs, fun h => by simp at h, by simp, by simp, by simp⟩
  · injection hcs with hcs
    subst hcs
    simp only [if_true] at hmm
    subst hmm
    have ce : (Try.prog).cellsOf 80 = 4 := by kernel_rfl
    have each : ∀ i, i < len → ∃ q : R4, fitsShp q ∧ w.cell? (a.add (i * 4)) = some (.int .i64 q.1) ∧ w.cell? (a.add (i * 4 + 1)) = some (.int .i64 q.2.1) ∧ w.cell? (a.add (i * 4 + 2)) = some (.int .i64 q.2.2.1) ∧ w.cell? (a.add (i * 4 + 3)) = some (.int .i64 q.2.2.2) := by
      intro i hi
      obtain ⟨cs', h1, h2⟩ := hx i (by omega)
      rw [ce] at h1
      obtain ⟨_, hlen, hcell⟩ := World.cells?_some h1
      obtain ⟨xs, k, hk, _, _, hxl, hf⟩ := DataW.trod_struct Try.underlying80 h2
      match xs, hxl, cs', hlen with
      | [y0, y1, y2, y3], _, [v0, v1, v2, v3], _ =>
        have g0 : DataW.trod enc Try.prog w 0 (fun _ => true) true k 2 (([v0, v1, v2, v3].drop 0).take ((Try.prog).cellsOf 2)) = some y0 := hf 0 _ rfl
        have g1 : DataW.trod enc Try.prog w 0 (fun _ => true) true k 2 (([v0, v1, v2, v3].drop 1).take ((Try.prog).cellsOf 2)) = some y1 := hf 1 _ rfl
        have g2 : DataW.trod enc Try.prog w 0 (fun _ => true) true k 2 (([v0, v1, v2, v3].drop 2).take ((Try.prog).cellsOf 2)) = some y2 := hf 2 _ rfl
        have g3 : DataW.trod enc Try.prog w 0 (fun _ => true) true k 2 (([v0, v1, v2, v3].drop 3).take ((Try.prog).cellsOf 2)) = some y3 := hf 3 _ rfl
        rw [show ((Try.prog).cellsOf 2) = 1 from by kernel_rfl] at g0 g1 g2 g3
        obtain ⟨n0, e0, _, w0⟩ := DataW.trod_int Try.underlying2 g0
        simp at e0
        obtain ⟨n1, e1, _, w1⟩ := DataW.trod_int Try.underlying2 g1
        simp at e1
        obtain ⟨n2, e2, _, w2⟩ := DataW.trod_int Try.underlying2 g2
        simp at e2
        obtain ⟨n3, e3, _, w3⟩ := DataW.trod_int Try.underlying2 g3
        simp at e3
        have t0 := hcell 0 (by omega)
        have t1 := hcell 1 (by omega)
        have t2 := hcell 2 (by omega)
        have t3 := hcell 3 (by omega)
        rw [Go.Deep.add_add] at t0 t1 t2 t3
        exact ⟨(n0, n1, n2, n3), ⟨fits_of w0, fits_of w1, fits_of w2, fits_of w3⟩, by simpa [e0] using t0, by simpa [e1] using t1, by simpa [e2] using t2, by simpa [e3] using t3⟩
    obtain ⟨q, hq⟩ := Go.Deep.choose_lt each
    have eq : ∀ i, i < len → ((List.range len).map q).getD i r40 = q i := fun i hi => by simp [List.getD_eq_getElem?_getD, hi]
    refine ⟨some a, (List.range len).map q, m, by simp, ?_, ?_, by simpa using hl, hm⟩
    · intro h0
      simp at h0
      obtain ⟨b, off, spot⟩ := a
      have hc0 := (hq 0 (by omega)).2.1
      have hspot : spot = none := by simpa [Addr.add] using World.cell?_spot hc0
      subst hspot
      refine ⟨b, off, rfl, World.block_lt_of_cell? w ⟨b, off, none⟩ (by simpa [Addr.add] using hc0), fun i hi => ?_⟩
      simp at hi
      obtain ⟨_, h0, h1, h2, h3⟩ := hq i hi
      rw [add_plain] at h0 h1 h2 h3
      rw [eq i hi]
      exact ⟨h0, h1, h2, h3⟩
    · intro x hxx
      simp at hxx
      obtain ⟨i, hi, rfl⟩ := hxx
      exact (hq i hi).1
end
theorem ShpAt.to {w w1 : World} {A : Option Addr} {rs : List R4} (h : ShpAt w w.heap.size A rs) (hb : Below w.heap.size w w1) : ShpAt w1 w1.heap.size A rs := fun h0 => by
  obtain ⟨b, off, e, hlt, hc⟩ := h h0
  exact ⟨b, off, e, Nat.lt_of_lt_of_le hlt hb.size, fun i hi => ⟨(hb.cell (p := ⟨b, _, none⟩) hlt).trans (hc i hi).1, (hb.cell (p := ⟨b, _, none⟩) hlt).trans (hc i hi).2.1, (hb.cell (p := ⟨b, _, none⟩) hlt).trans (hc i hi).2.2.1, (hb.cell (p := ⟨b, _, none⟩) hlt).trans (hc i hi).2.2.2⟩⟩
theorem ShpAt.keepB {w w1 : World} {B : Nat} {A : Option Addr} {rs : List R4} (h : ShpAt w B A rs) (hb : Below B w w1) : ShpAt w1 B A rs := fun h0 => by
  obtain ⟨b, off, e, hlt, hc⟩ := h h0
  exact ⟨b, off, e, hlt, fun i hi => ⟨(hb.cell (p := ⟨b, _, none⟩) hlt).trans (hc i hi).1, (hb.cell (p := ⟨b, _, none⟩) hlt).trans (hc i hi).2.1, (hb.cell (p := ⟨b, _, none⟩) hlt).trans (hc i hi).2.2.1, (hb.cell (p := ⟨b, _, none⟩) hlt).trans (hc i hi).2.2.2⟩⟩
theorem ShpAt.mono {w : World} {B B' : Nat} {A : Option Addr} {rs : List R4} (h : ShpAt w B A rs) (hB : B ≤ B') : ShpAt w B' A rs := fun h0 => by
  obtain ⟨b, off, e, hlt, hc⟩ := h h0
  exact ⟨b, off, e, by omega, hc⟩
theorem ShpAt.nil (w : World) (B : Nat) (A : Option Addr) : ShpAt w B A [] := fun h => by simp at h

/-- Block g holds the first k of the records rs, and has places for all of them and perhaps more. -/
def ShpBlk (w : World) (g : Nat) (rs : List R4) (k : Nat) : Prop :=
  ∃ cs, w.heap[g]? = some (.cells cs 78 (0, 0)) ∧ rs.length * 4 ≤ cs.size ∧ ∀ i, i < k → i < rs.length → cs[i * 4]? = some (.int .i64 (rs.getD i r40).1) ∧ cs[i * 4 + 1]? = some (.int .i64 (rs.getD i r40).2.1) ∧ cs[i * 4 + 2]? = some (.int .i64 (rs.getD i r40).2.2.1) ∧ cs[i * 4 + 3]? = some (.int .i64 (rs.getD i r40).2.2.2)
theorem ShpBlk.lt {w : World} {g k : Nat} {rs : List R4} (h : ShpBlk w g rs k) : g < w.heap.size := by
  obtain ⟨cs, h, _⟩ := h
  rcases Nat.lt_or_ge g w.heap.size with hlt | hge
  · exact hlt
  · rw [Array.getElem?_eq_none hge] at h; cases h
theorem ShpBlk.keep {w w' : World} {g k : Nat} {rs : List R4} (h : ShpBlk w g rs k) (hk : w'.heap[g]? = w.heap[g]?) : ShpBlk w' g rs k := by
  obtain ⟨cs, h0, h1⟩ := h
  exact ⟨cs, hk.trans h0, h1⟩
theorem ShpBlk.below {w w' : World} {B g k : Nat} {rs : List R4} (h : ShpBlk w g rs k) (hb : Below B w w') (hg : g < B) : ShpBlk w' g rs k := h.keep (hb.block g hg)
theorem ShpBlk.to {w w1 : World} {g k : Nat} {rs : List R4} (h : ShpBlk w g rs k) (hb : Below w.heap.size w w1) : ShpBlk w1 g rs k := h.below hb h.lt
theorem ShpBlk.at_ {w : World} {g k : Nat} {rs : List R4} (h : ShpBlk w g rs k) {i : Nat} (hi : i < k) (hl : i < rs.length) :
    w.cell? ⟨g, i * 4, none⟩ = some (.int .i64 (rs.getD i r40).1) ∧ w.cell? ⟨g, i * 4 + 1, none⟩ = some (.int .i64 (rs.getD i r40).2.1) ∧ w.cell? ⟨g, i * 4 + 2, none⟩ = some (.int .i64 (rs.getD i r40).2.2.1) ∧ w.cell? ⟨g, i * 4 + 3, none⟩ = some (.int .i64 (rs.getD i r40).2.2.2) := by
  obtain ⟨cs, h0, _, h2⟩ := h
  rw [cell_of_row w g _ cs _ _ h0, cell_of_row w g _ cs _ _ h0, cell_of_row w g _ cs _ _ h0, cell_of_row w g _ cs _ _ h0]
  exact h2 i hi hl
theorem ShpBlk.rec_ {w : World} {g : Nat} {rs : List R4} (h : ShpBlk w g rs rs.length) : ShpAt w w.heap.size (some ⟨g, 0, none⟩) rs := fun _ =>
  ⟨g, 0, rfl, h.lt, fun i hi => by simpa using h.at_ hi hi⟩
theorem ShpBlk.frozen {w : World} {g k : Nat} {rs : List R4} (h : ShpBlk w g rs k) (i : Nat) : w.frozen? ⟨g, i, none⟩ = false := by
  obtain ⟨cs, h0, _⟩ := h
  simp [World.frozen?, h0]
theorem ShpBlk.there {w : World} {g k : Nat} {rs : List R4} (h : ShpBlk w g rs k) {i : Nat} (hi : i < rs.length * 4) : ∃ v, w.cell? ⟨g, i, none⟩ = some v := by
  obtain ⟨cs, h0, h1, _⟩ := h
  rw [cell_of_row w g _ cs _ _ h0]
  exact ⟨cs[i]'(by omega), by simp [show i < cs.size by omega]⟩
theorem ShpBlk.set_ {w : World} {g k : Nat} {rs : List R4} (h : ShpBlk w g rs k) (hk : k < rs.length) :
    ShpBlk ((((w.setCell ⟨g, k * 4, none⟩ (.int .i64 (rs.getD k r40).1)).setCell ⟨g, k * 4 + 1, none⟩ (.int .i64 (rs.getD k r40).2.1)).setCell ⟨g, k * 4 + 2, none⟩ (.int .i64 (rs.getD k r40).2.2.1)).setCell ⟨g, k * 4 + 3, none⟩ (.int .i64 (rs.getD k r40).2.2.2)) g rs (k + 1) := by
  obtain ⟨cs, h0, h1, h2⟩ := h
  refine ⟨((((cs.setIfInBounds (k * 4) (.int .i64 (rs.getD k r40).1)).setIfInBounds (k * 4 + 1) (.int .i64 (rs.getD k r40).2.1)).setIfInBounds (k * 4 + 2) (.int .i64 (rs.getD k r40).2.2.1)).setIfInBounds (k * 4 + 3) (.int .i64 (rs.getD k r40).2.2.2)), ?_, by simpa using h1, ?_⟩
  · simp [World.setCell, Array.getElem?_modify, h0]
  · intro i hi hl
    rcases Nat.lt_or_ge i k with hlt | hge
    · have h3 := h2 i hlt hl
      rw [Array.getElem?_setIfInBounds_ne (by omega), Array.getElem?_setIfInBounds_ne (by omega), Array.getElem?_setIfInBounds_ne (by omega), Array.getElem?_setIfInBounds_ne (by omega), Array.getElem?_setIfInBounds_ne (by omega), Array.getElem?_setIfInBounds_ne (by omega), Array.getElem?_setIfInBounds_ne (by omega), Array.getElem?_setIfInBounds_ne (by omega), Array.getElem?_setIfInBounds_ne (by omega), Array.getElem?_setIfInBounds_ne (by omega), Array.getElem?_setIfInBounds_ne (by omega), Array.getElem?_setIfInBounds_ne (by omega), Array.getElem?_setIfInBounds_ne (by omega), Array.getElem?_setIfInBounds_ne (by omega), Array.getElem?_setIfInBounds_ne (by omega), Array.getElem?_setIfInBounds_ne (by omega)]
      exact h3
    · obtain rfl : i = k := by omega
      refine ⟨?_, ?_, ?_, ?_⟩
      · rw [Array.getElem?_setIfInBounds_ne (by omega), Array.getElem?_setIfInBounds_ne (by omega), Array.getElem?_setIfInBounds_ne (by omega)]; simp only [Array.getElem?_setIfInBounds_self, Array.size_setIfInBounds]; rw [if_pos (by omega)]
      · rw [Array.getElem?_setIfInBounds_ne (by omega), Array.getElem?_setIfInBounds_ne (by omega)]; simp only [Array.getElem?_setIfInBounds_self, Array.size_setIfInBounds]; rw [if_pos (by omega)]
      · rw [Array.getElem?_setIfInBounds_ne (by omega)]; simp only [Array.getElem?_setIfInBounds_self, Array.size_setIfInBounds]; rw [if_pos (by omega)]
      · simp only [Array.getElem?_setIfInBounds_self, Array.size_setIfInBounds]; rw [if_pos (by omega)]
theorem ShpBlk.zero {w : World} {g k : Nat} {rs qs : List R4} (h : ShpBlk w g rs k) (hl : qs.length = rs.length) : ShpBlk w g qs 0 := by
  obtain ⟨cs, h0, h1, _⟩ := h
  exact ⟨cs, h0, by omega, fun i hi => by omega⟩
/-- The empty places of a new slice. -/
def blankShp (n : Nat) : Array Value := madeCells #[.int .i64 0, .int .i64 0, .int .i64 0, .int .i64 0] (n * 4)
theorem infoShp : (Try.prog.info? 78).map (fun i => (i.zero, i.size, i.bytes)) = some (some (.agg #[.int .i64 0, .int .i64 0, .int .i64 0, .int .i64 0]), 4, 32) := by kernel_rfl
theorem run_mkShp (n : Nat) (h : n ≤ 1048576) (w : World) :
    (Instr.makeSlice 41 (.int .i64 (n : Int)) (.int .i64 (n : Int))).run Try.prog w = .ok (.slice (some ⟨w.heap.size, 0, none⟩) n n) (w.alloc (.cells (blankShp n) 78)) := by
  obtain ⟨i, hi, hzz⟩ := Option.map_eq_some_iff.1 infoShp
  simp only [Prod.mk.injEq] at hzz
  obtain ⟨hz, hs, hb⟩ := hzz
  have := run_make (P := Try.prog) w 41 78 i _ Try.underlying41 hi hz .i64 .i64 n n (by omega) (by omega) (by rw [hb]; omega) (by omega)
  rw [this, hs]
  rfl
theorem ShpBlk.new (w : World) (rs : List R4) : ShpBlk (w.alloc (.cells (blankShp rs.length) 78)) w.heap.size rs 0 :=
  ⟨blankShp rs.length, heap_alloc_new w _, by simp [blankShp, size_madeCells], fun i hi => by omega⟩

theorem toShape_any (x y z u : Int) (w : World) :
    Calls Try.prog 61 #[.agg #[.int .i64 x, .int .i64 y, .int .i64 z, .int .i64 u]] w fun e w' => e = .returned (.agg #[.int .i64 x, .int .i64 y, .int .i64 z, .int .i64 u]) ∧ Below w.heap.size w w' := by
  go_enter Try.func61, Try.ntmps61
  go_wp2
  exact bodyPost_ret (v := .agg #[.int .i64 x, .int .i64 y, .int .i64 z, .int .i64 u]) (by simp [results, Try.results61, go_sem]) rfl ⟨rfl, by (repeat (first | assumption | exact Below.refl _ _ | (refine bl_alloc ?_ _) | (refine Below.drew ?_) | (refine bl_drewN ?_ _) | (refine bl_set ?_ (by first | (simp; done) | omega | (simp; omega)) _) | (refine bl_trans ?_ (by assumption)) | (refine bl_step ?_ (by assumption) (by first | omega | exact Below.size (by assumption) | (simp; omega) | (simp; exact Below.size (by assumption))))))⟩
theorem eqShape_same (x y z u : Int) (w : World) :
    Calls Try.prog 65 #[.agg #[.int .i64 x, .int .i64 y, .int .i64 z, .int .i64 u], .agg #[.int .i64 x, .int .i64 y, .int .i64 z, .int .i64 u]] w fun e w' => e = .returned (.bool true) ∧ Below w.heap.size w w' := by
  go_enter Try.func65, Try.ntmps65
  go_wp2
  go_ret
  exact ⟨rfl, by (repeat (first | assumption | exact Below.refl _ _ | (refine bl_alloc ?_ _) | (refine Below.drew ?_) | (refine bl_drewN ?_ _) | (refine bl_set ?_ (by first | (simp; done) | omega | (simp; omega)) _) | (refine bl_trans ?_ (by assumption)) | (refine bl_step ?_ (by assumption) (by first | omega | exact Below.size (by assumption) | (simp; omega) | (simp; exact Below.size (by assumption))))))⟩

set_option maxHeartbeats 1600000 in
theorem toShapeS_any (A : Option Addr) (rs : List R4) (c : Nat) (w : World) (hp : ShpAt w w.heap.size A rs) (hl : rs.length ≤ 1048576) :
    Calls Try.prog 25 #[.slice A rs.length c] w fun e w' => e = .returned (.slice (some ⟨w.heap.size, 0, none⟩) rs.length rs.length) ∧ ShpBlk w' w.heap.size rs rs.length ∧ Below w.heap.size w w' := by
  have hmk := run_mkShp rs.length hl
  have hl' : (rs.length : Int) ≤ 1048576 := by omega
  go_enter Try.func25, Try.ntmps25
  go_wp2
  clear hmk
  go_loopw [4] (fun i wr => ∃ k : Nat, k ≤ rs.length ∧ i = .int .i64 k ∧ ShpBlk wr w.heap.size rs k ∧ Below w.heap.size w wr) (fun i _ => rs.length - (intOf i).toNat)
  case atStart => exact ⟨0, Nat.zero_le _, rfl, ShpBlk.new w rs, by (repeat (first | assumption | exact Below.refl _ _ | (refine bl_alloc ?_ _) | (refine Below.drew ?_) | (refine bl_drewN ?_ _) | (refine bl_set ?_ (by first | (simp; done) | omega | (simp; omega)) _) | (refine bl_trans ?_ (by assumption)) | (refine bl_step ?_ (by assumption) (by first | omega | exact Below.size (by assumption) | (simp; omega) | (simp; exact Below.size (by assumption))))))⟩
  case round =>
    obtain ⟨k, hk, rfl, hB, hb⟩ := hrel
    by_cases hlt : k < rs.length
    · obtain ⟨b, off, rfl, hbB, hc⟩ := hp (by omega)
      obtain ⟨c0, c1, c2, c3⟩ := hc k hlt
      have d0 := (hb.cell (p := ⟨b, off + k * 4, none⟩) hbB).trans c0
      have d1 := (hb.cell (p := ⟨b, off + k * 4 + 1, none⟩) hbB).trans c1
      have d2 := (hb.cell (p := ⟨b, off + k * 4 + 2, none⟩) hbB).trans c2
      have d3 := (hb.cell (p := ⟨b, off + k * 4 + 3, none⟩) hbB).trans c3
      have hg := hB.lt
      clear hc c0 c1 c2 c3 hp
      go_wp2_with fail
      refine (toShape_any _ _ _ _ _).mono ?_
      rintro e w1 ⟨rfl, hb1⟩
      have hB1 := hB.below hb1 hg
      have f0 := hB1.frozen (k * 4)
      have f1 := hB1.frozen (k * 4 + 1)
      have f2 := hB1.frozen (k * 4 + 2)
      have f3 := hB1.frozen (k * 4 + 3)
      obtain ⟨s0, t0⟩ := hB1.there (i := k * 4) (by omega)
      obtain ⟨s1, t1⟩ := hB1.there (i := k * 4 + 1) (by omega)
      obtain ⟨s2, t2⟩ := hB1.there (i := k * 4 + 2) (by omega)
      obtain ⟨s3, t3⟩ := hB1.there (i := k * 4 + 3) (by omega)
      clear d0 d1 d2 d3
      have hlt' : (k : Int) < (rs.length : Int) := by omega
      go_wp2
      go_roundw
      case rel => exact ⟨k + 1, by omega, by go_num, by simpa [hlt] using hB1.set_ hlt, by (repeat (first | assumption | exact Below.refl _ _ | (refine bl_alloc ?_ _) | (refine Below.drew ?_) | (refine bl_drewN ?_ _) | (refine bl_set ?_ (by first | (simp; done) | omega | (simp; omega)) _) | (refine bl_trans ?_ (by assumption)) | (refine bl_step ?_ (by assumption) (by first | omega | exact Below.size (by assumption) | (simp; omega) | (simp; exact Below.size (by assumption))))))⟩
      case measure => simp [intOf]; omega
    · obtain rfl : k = rs.length := by omega
      go_wp2
      go_ret
      exact ⟨rfl, hB, hb⟩
/-- A new slice that holds the records rs. -/
def NewShp (w : World) (rs : List R4) (e : Ending) (w' : World) : Prop :=
  ∃ g, e = .returned (.slice (some ⟨g, 0, none⟩) rs.length rs.length) ∧ ShpBlk w' g rs rs.length ∧ Below w.heap.size w w' ∧ w.heap.size ≤ g
theorem toShapeS_new (A : Option Addr) (rs : List R4) (c : Nat) (w : World) (hp : ShpAt w w.heap.size A rs) (hl : rs.length ≤ 1048576) :
    Calls Try.prog 25 #[.slice A rs.length c] w (NewShp w rs) :=
  (toShapeS_any A rs c w hp hl).mono fun _ _ ⟨he, hB, hb⟩ => ⟨_, he, hB, hb, Nat.le_refl _⟩

theorem szShapeS_any (A : Option Addr) (n c : Nat) (w : World) (hn : n ≤ 1048576) :
    Calls Try.prog 23 #[.slice A n c, .int .i64 1048576] w fun e w' => e = .returned (.int .i64 (1048576 - n)) ∧ w = w' := by
  have hn' : (n : Int) ≤ 1048576 := by omega
  have hz : ¬ (1048576 - (n : Int)) < 0 := by omega
  go_enter Try.func23, Try.ntmps23
  go_wp2
  go_ret
  exact ⟨rfl, rfl⟩
theorem szShapeS_big (A : Option Addr) (n c : Nat) (w : World) (hn : 1048576 < n) (hm : n ≤ maxLen) :
    Calls Try.prog 23 #[.slice A n c, .int .i64 1048576] w fun e w' => e = .returned (.int .i64 (-1)) ∧ w = w' := by
  unfold maxLen at hm
  have hn' : 1048576 < (n : Int) := by omega
  have hz : (1048576 - (n : Int)) < 0 := by omega
  go_enter Try.func23, Try.ntmps23
  go_wp2
  go_ret
  exact ⟨rfl, rfl⟩

theorem keepSShp {N : Nat} {w wr wr' : World} {b1 b2 : Nat} {p0 p1 p2 p3 q0 q1 q2 q3 : Nat} {X0 X1 X2 X3 Y0 Y1 Y2 Y3 : Value}
    (h : wr.cell? ⟨b1, p0, none⟩ = some X0 ∧ wr.cell? ⟨b1, p1, none⟩ = some X1 ∧ wr.cell? ⟨b1, p2, none⟩ = some X2 ∧ wr.cell? ⟨b1, p3, none⟩ = some X3 ∧ wr.cell? ⟨b2, q0, none⟩ = some Y0 ∧ wr.cell? ⟨b2, q1, none⟩ = some Y1 ∧ wr.cell? ⟨b2, q2, none⟩ = some Y2 ∧ wr.cell? ⟨b2, q3, none⟩ = some Y3 ∧ Below N w wr ∧ N ≤ wr.heap.size) (hs : Below wr.heap.size wr wr') :
    wr'.cell? ⟨b1, p0, none⟩ = some X0 ∧ wr'.cell? ⟨b1, p1, none⟩ = some X1 ∧ wr'.cell? ⟨b1, p2, none⟩ = some X2 ∧ wr'.cell? ⟨b1, p3, none⟩ = some X3 ∧ wr'.cell? ⟨b2, q0, none⟩ = some Y0 ∧ wr'.cell? ⟨b2, q1, none⟩ = some Y1 ∧ wr'.cell? ⟨b2, q2, none⟩ = some Y2 ∧ wr'.cell? ⟨b2, q3, none⟩ = some Y3 ∧ Below N w wr' ∧ N ≤ wr'.heap.size := by
  obtain ⟨h0, h1, h2, h3, h4, h5, h6, h7, hb, hz⟩ := h
  have l1 : b1 < wr.heap.size := World.block_lt_of_cell? wr _ h0
  have l2 : b2 < wr.heap.size := World.block_lt_of_cell? wr _ h4
  exact ⟨(hs.cell (p := ⟨b1, p0, none⟩) l1).trans h0, (hs.cell (p := ⟨b1, p1, none⟩) l1).trans h1, (hs.cell (p := ⟨b1, p2, none⟩) l1).trans h2, (hs.cell (p := ⟨b1, p3, none⟩) l1).trans h3, (hs.cell (p := ⟨b2, q0, none⟩) l2).trans h4, (hs.cell (p := ⟨b2, q1, none⟩) l2).trans h5, (hs.cell (p := ⟨b2, q2, none⟩) l2).trans h6, (hs.cell (p := ⟨b2, q3, none⟩) l2).trans h7, hb.trans (hs.mono hz), Nat.le_trans hz hs.size⟩
theorem lastShp {a0 a1 a2 a3 a4 a5 a6 a7 e : Prop} {N : Nat} {w wr : World} (h : a0 ∧ a1 ∧ a2 ∧ a3 ∧ a4 ∧ a5 ∧ a6 ∧ a7 ∧ Below N w wr ∧ e) : Below N w wr := h.2.2.2.2.2.2.2.2.1
set_option maxHeartbeats 1600000 in
theorem eqShapeS_same (A B : Option Addr) (rs : List R4) (c d : Nat) (w : World) (hp : ShpAt w w.heap.size A rs) (hq : ShpAt w w.heap.size B rs) (hl : rs.length ≤ 1048576) :
    Calls Try.prog 27 #[.slice A rs.length c, .slice B rs.length d] w fun e w' => e = .returned (.bool true) ∧ Below w.heap.size w w' := by
  have hl' : (rs.length : Int) ≤ 1048576 := by omega
  go_enter Try.func27, Try.ntmps27
  go_wp2
  go_loopw [5] (fun i wr => ∃ k : Nat, k ≤ rs.length ∧ i = .int .i64 k ∧ Below w.heap.size w wr) (fun i _ => rs.length - (intOf i).toNat)
  case atStart => exact ⟨0, Nat.zero_le _, rfl, Below.refl _ _⟩
  case round =>
    obtain ⟨k, hk, rfl, hb⟩ := hrel
    by_cases hlt : k < rs.length
    · obtain ⟨b1, o1, rfl, hb1, hc1⟩ := hp (by omega)
      obtain ⟨b2, o2, rfl, hb2, hc2⟩ := hq (by omega)
      obtain ⟨c0, c1, c2, c3⟩ := hc1 k hlt
      obtain ⟨e0, e1, e2, e3⟩ := hc2 k hlt
      have d0 := (hb.cell (p := ⟨b1, o1 + k * 4, none⟩) hb1).trans c0
      have f0 := (hb.cell (p := ⟨b2, o2 + k * 4, none⟩) hb2).trans e0
      have d1 := (hb.cell (p := ⟨b1, o1 + k * 4 + 1, none⟩) hb1).trans c1
      have f1 := (hb.cell (p := ⟨b2, o2 + k * 4 + 1, none⟩) hb2).trans e1
      have d2 := (hb.cell (p := ⟨b1, o1 + k * 4 + 2, none⟩) hb1).trans c2
      have f2 := (hb.cell (p := ⟨b2, o2 + k * 4 + 2, none⟩) hb2).trans e2
      have d3 := (hb.cell (p := ⟨b1, o1 + k * 4 + 3, none⟩) hb1).trans c3
      have f3 := (hb.cell (p := ⟨b2, o2 + k * 4 + 3, none⟩) hb2).trans e3
      have hz := hb.size
      generalize rs.getD k r40 = rk at *
      generalize rk.1 = x0 at d0 f0
      generalize rk.2.1 = x1 at d1 f1
      generalize rk.2.2.1 = x2 at d2 f2
      generalize rk.2.2.2 = x3 at d3 f3
      clear hc1 hc2 c0 e0 c1 e1 c2 e2 c3 e3 hp hq
      have hlt' : (k : Int) < (rs.length : Int) := by omega
      go_wp2
      go_region_held3 (fun wx => wx.cell? ⟨b1, o1 + k * 4, none⟩ = some (.int .i64 x0) ∧ wx.cell? ⟨b1, o1 + k * 4 + 1, none⟩ = some (.int .i64 x1) ∧ wx.cell? ⟨b1, o1 + k * 4 + 2, none⟩ = some (.int .i64 x2) ∧ wx.cell? ⟨b1, o1 + k * 4 + 3, none⟩ = some (.int .i64 x3) ∧ wx.cell? ⟨b2, o2 + k * 4, none⟩ = some (.int .i64 x0) ∧ wx.cell? ⟨b2, o2 + k * 4 + 1, none⟩ = some (.int .i64 x1) ∧ wx.cell? ⟨b2, o2 + k * 4 + 2, none⟩ = some (.int .i64 x2) ∧ wx.cell? ⟨b2, o2 + k * 4 + 3, none⟩ = some (.int .i64 x3) ∧ Below w.heap.size w wx ∧ w.heap.size ≤ wx.heap.size)
        (first | exact keepSShp (by assumption) (by assumption) | exact ⟨d0, d1, d2, d3, f0, f1, f2, f3, hb.drew, hz⟩)
        (first | (go_at_call 65; refine (eqShape_same _ _ _ _ _).mono ?_; rintro e w' ⟨rfl, hb'⟩))
      go_wp2
      go_roundw
      case rel => exact ⟨k + 1, by omega, by go_num, lastShp (by assumption)⟩
      case measure => simp [intOf]; omega
    · go_wp2
      go_ret
      exact ⟨rfl, hb⟩
end Go.Proofs.Ytgpcfkegbcpkpaa
