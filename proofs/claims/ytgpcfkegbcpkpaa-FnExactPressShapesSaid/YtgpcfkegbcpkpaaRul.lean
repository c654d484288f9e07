/-
  Slices of records of 3 numbers (Rule): opened as an argument, their size, copy and comparison in a law.
-/
import Derived.Test.YtgpcfkegbcpkpaaNums
import Derived.Test.YtgpcfkegbcpkpaaPan
namespace Go.Proofs.Ytgpcfkegbcpkpaa
set_option linter.unusedSimpArgs false
set_option linter.unusedVariables false
open Go.ChangeShapes Go.WideShapes Go.ChangeAt Go.RowKit

/-- A record of so many numbers. -/
abbrev R3 := Int × Int × Int
def r30 : R3 := (0, 0, 0)
/-- The slice with the address A holds the records rs, below block B. -/
def RulAt (w : World) (B : Nat) (A : Option Addr) (rs : List R3) : Prop :=
  0 < rs.length → ∃ b off, A = some ⟨b, off, none⟩ ∧ b < B ∧ ∀ i, i < rs.length → w.cell? ⟨b, off + i * 3, none⟩ = some (.int .i64 (rs.getD i r30).1) ∧ w.cell? ⟨b, off + i * 3 + 1, none⟩ = some (.int .i64 (rs.getD i r30).2.1) ∧ w.cell? ⟨b, off + i * 3 + 2, none⟩ = some (.int .i64 (rs.getD i r30).2.2)
def fitsRul (r : R3) : Prop := Fits r.1 ∧ Fits r.2.1 ∧ Fits r.2.2

section
variable {H : Type} {enc : TypeId × Value → H}
set_option maxRecDepth 100000 in
theorem open_Rul {w : World} {v : Value} {n : Nat} {y : DataW H × List MemPlace} (hf : DataW.trod enc Try.prog w 0 (fun _ => true) true n 22 [v] = some y) :
    ∃ (A : Option Addr) (rs : List R3) (c : Nat), v = .slice A rs.length c ∧ RulAt w w.heap.size A rs ∧ (∀ q ∈ rs, fitsRul q) ∧ rs.length ≤ c ∧ c ≤ maxLen := by
  rcases Go.Deep.open_slice Try.underlying22 hf with ⟨hcs, _⟩ | ⟨a, len, c, m, n, D, Pl, hcs, _, hl, hm, hmm, _, hx⟩
  · injection hcs with hcs
    exact ⟨none, [], 0, by simpa using hcs, fun h => by simp at h, by simp, by simp, by simp⟩
  · injection hcs with hcs
    subst hcs
    simp only [if_true] at hmm
    subst hmm
    have ce : (Try.prog).cellsOf 57 = 3 := by kernel_rfl
    have each : ∀ i, i < len → ∃ q : R3, fitsRul q ∧ w.cell? (a.add (i * 3)) = some (.int .i64 q.1) ∧ w.cell? (a.add (i * 3 + 1)) = some (.int .i64 q.2.1) ∧ w.cell? (a.add (i * 3 + 2)) = some (.int .i64 q.2.2) := by
      intro i hi
      obtain ⟨cs', h1, h2⟩ := hx i (by omega)
      rw [ce] at h1
      obtain ⟨_, hlen, hcell⟩ := World.cells?_some h1
      obtain ⟨xs, k, hk, _, _, hxl, hf⟩ := DataW.trod_struct Try.underlying57 h2
      match xs, hxl, cs', hlen with
      | [y0, y1, y2], _, [v0, v1, v2], _ =>
        have g0 : DataW.trod enc Try.prog w 0 (fun _ => true) true k 2 (([v0, v1, v2].drop 0).take ((Try.prog).cellsOf 2)) = some y0 := hf 0 _ rfl
        have g1 : DataW.trod enc Try.prog w 0 (fun _ => true) true k 2 (([v0, v1, v2].drop 1).take ((Try.prog).cellsOf 2)) = some y1 := hf 1 _ rfl
        have g2 : DataW.trod enc Try.prog w 0 (fun _ => true) true k 2 (([v0, v1, v2].drop 2).take ((Try.prog).cellsOf 2)) = some y2 := hf 2 _ rfl
        rw [show ((Try.prog).cellsOf 2) = 1 from by kernel_rfl] at g0 g1 g2
        obtain ⟨n0, e0, _, w0⟩ := DataW.trod_int Try.underlying2 g0
        simp at e0
        obtain ⟨n1, e1, _, w1⟩ := DataW.trod_int Try.underlying2 g1
        simp at e1
        obtain ⟨n2, e2, _, w2⟩ := DataW.trod_int Try.underlying2 g2
        simp at e2
        have t0 := hcell 0 (by omega)
        have t1 := hcell 1 (by omega)
        have t2 := hcell 2 (by omega)
        rw [Go.Deep.add_add] at t0 t1 t2
        exact ⟨(n0, n1, n2), ⟨fits_of w0, fits_of w1, fits_of w2⟩, by simpa [e0] using t0, by simpa [e1] using t1, by simpa [e2] using t2⟩
    obtain ⟨q, hq⟩ := Go.Deep.choose_lt each
    have eq : ∀ i, i < len → ((List.range len).map q).getD i r30 = q i := fun i hi => by simp [List.getD_eq_getElem?_getD, hi]
    refine ⟨some a, (List.range len).map q, m, by simp, ?_, ?_, by simpa using hl, hm⟩
    · intro h0
      simp at h0
      obtain ⟨b, off, spot⟩ := a
      have hc0 := (hq 0 (by omega)).2.1
      have hspot : spot = none := by simpa [Addr.add] using World.cell?_spot hc0
      subst hspot
      refine ⟨b, off, rfl, World.block_lt_of_cell? w ⟨b, off, none⟩ (by simpa [Addr.add] using hc0), fun i hi => ?_⟩
      simp at hi
      obtain ⟨_, h0, h1, h2⟩ := hq i hi
      rw [add_plain] at h0 h1 h2
      rw [eq i hi]
      exact ⟨h0, h1, h2⟩
    · intro x hxx
      simp at hxx
      obtain ⟨i, hi, rfl⟩ := hxx
      exact (hq i hi).1
end
theorem RulAt.to {w w1 : World} {A : Option Addr} {rs : List R3} (h : RulAt w w.heap.size A rs) (hb : Below w.heap.size w w1) : RulAt w1 w1.heap.size A rs := fun h0 => by
  obtain ⟨b, off, e, hlt, hc⟩ := h h0
  exact ⟨b, off, e, Nat.lt_of_lt_of_le hlt hb.size, fun i hi => ⟨(hb.cell (p := ⟨b, _, none⟩) hlt).trans (hc i hi).1, (hb.cell (p := ⟨b, _, none⟩) hlt).trans (hc i hi).2.1, (hb.cell (p := ⟨b, _, none⟩) hlt).trans (hc i hi).2.2⟩⟩
theorem RulAt.keepB {w w1 : World} {B : Nat} {A : Option Addr} {rs : List R3} (h : RulAt w B A rs) (hb : Below B w w1) : RulAt w1 B A rs := fun h0 => by
  obtain ⟨b, off, e, hlt, hc⟩ := h h0
  exact ⟨b, off, e, hlt, fun i hi => ⟨(hb.cell (p := ⟨b, _, none⟩) hlt).trans (hc i hi).1, (hb.cell (p := ⟨b, _, none⟩) hlt).trans (hc i hi).2.1, (hb.cell (p := ⟨b, _, none⟩) hlt).trans (hc i hi).2.2⟩⟩
theorem RulAt.mono {w : World} {B B' : Nat} {A : Option Addr} {rs : List R3} (h : RulAt w B A rs) (hB : B ≤ B') : RulAt w B' A rs := fun h0 => by
  obtain ⟨b, off, e, hlt, hc⟩ := h h0
  exact ⟨b, off, e, by omega, hc⟩
theorem RulAt.nil (w : World) (B : Nat) (A : Option Addr) : RulAt w B A [] := fun h => by simp at h

/-- Block g holds the first k of the records rs, and has places for all of them and perhaps more. -/
def RulBlk (w : World) (g : Nat) (rs : List R3) (k : Nat) : Prop :=
  ∃ cs, w.heap[g]? = some (.cells cs 60 (0, 0)) ∧ rs.length * 3 ≤ cs.size ∧ ∀ i, i < k → i < rs.length → cs[i * 3]? = some (.int .i64 (rs.getD i r30).1) ∧ cs[i * 3 + 1]? = some (.int .i64 (rs.getD i r30).2.1) ∧ cs[i * 3 + 2]? = some (.int .i64 (rs.getD i r30).2.2)
theorem RulBlk.lt {w : World} {g k : Nat} {rs : List R3} (h : RulBlk w g rs k) : g < w.heap.size := by
  obtain ⟨cs, h, _⟩ := h
  rcases Nat.lt_or_ge g w.heap.size with hlt | hge
  · exact hlt
  · rw [Array.getElem?_eq_none hge] at h; cases h
theorem RulBlk.keep {w w' : World} {g k : Nat} {rs : List R3} (h : RulBlk w g rs k) (hk : w'.heap[g]? = w.heap[g]?) : RulBlk w' g rs k := by
  obtain ⟨cs, h0, h1⟩ := h
  exact ⟨cs, hk.trans h0, h1⟩
theorem RulBlk.below {w w' : World} {B g k : Nat} {rs : List R3} (h : RulBlk w g rs k) (hb : Below B w w') (hg : g < B) : RulBlk w' g rs k := h.keep (hb.block g hg)
theorem RulBlk.to {w w1 : World} {g k : Nat} {rs : List R3} (h : RulBlk w g rs k) (hb : Below w.heap.size w w1) : RulBlk w1 g rs k := h.below hb h.lt
theorem RulBlk.at_ {w : World} {g k : Nat} {rs : List R3} (h : RulBlk w g rs k) {i : Nat} (hi : i < k) (hl : i < rs.length) :
    w.cell? ⟨g, i * 3, none⟩ = some (.int .i64 (rs.getD i r30).1) ∧ w.cell? ⟨g, i * 3 + 1, none⟩ = some (.int .i64 (rs.getD i r30).2.1) ∧ w.cell? ⟨g, i * 3 + 2, none⟩ = some (.int .i64 (rs.getD i r30).2.2) := by
  obtain ⟨cs, h0, _, h2⟩ := h
  rw [cell_of_row w g _ cs _ _ h0, cell_of_row w g _ cs _ _ h0, cell_of_row w g _ cs _ _ h0]
  exact h2 i hi hl
theorem RulBlk.rec_ {w : World} {g : Nat} {rs : List R3} (h : RulBlk w g rs rs.length) : RulAt w w.heap.size (some ⟨g, 0, none⟩) rs := fun _ =>
  ⟨g, 0, rfl, h.lt, fun i hi => by simpa using h.at_ hi hi⟩
theorem RulBlk.frozen {w : World} {g k : Nat} {rs : List R3} (h : RulBlk w g rs k) (i : Nat) : w.frozen? ⟨g, i, none⟩ = false := by
  obtain ⟨cs, h0, _⟩ := h
  simp [World.frozen?, h0]
theorem RulBlk.there {w : World} {g k : Nat} {rs : List R3} (h : RulBlk w g rs k) {i : Nat} (hi : i < rs.length * 3) : ∃ v, w.cell? ⟨g, i, none⟩ = some v := by
  obtain ⟨cs, h0, h1, _⟩ := h
  rw [cell_of_row w g _ cs _ _ h0]
  exact ⟨cs[i]'(by omega), by simp [show i < cs.size by omega]⟩
theorem RulBlk.set_ {w : World} {g k : Nat} {rs : List R3} (h : RulBlk w g rs k) (hk : k < rs.length) :
    RulBlk (((w.setCell ⟨g, k * 3, none⟩ (.int .i64 (rs.getD k r30).1)).setCell ⟨g, k * 3 + 1, none⟩ (.int .i64 (rs.getD k r30).2.1)).setCell ⟨g, k * 3 + 2, none⟩ (.int .i64 (rs.getD k r30).2.2)) g rs (k + 1) := by
  obtain ⟨cs, h0, h1, h2⟩ := h
  refine ⟨(((cs.setIfInBounds (k * 3) (.int .i64 (rs.getD k r30).1)).setIfInBounds (k * 3 + 1) (.int .i64 (rs.getD k r30).2.1)).setIfInBounds (k * 3 + 2) (.int .i64 (rs.getD k r30).2.2)), ?_, by simpa using h1, ?_⟩
  · simp [World.setCell, Array.getElem?_modify, h0]
  · intro i hi hl
    rcases Nat.lt_or_ge i k with hlt | hge
    · have h3 := h2 i hlt hl
      rw [Array.getElem?_setIfInBounds_ne (by omega), Array.getElem?_setIfInBounds_ne (by omega), Array.getElem?_setIfInBounds_ne (by omega), Array.getElem?_setIfInBounds_ne (by omega), Array.getElem?_setIfInBounds_ne (by omega), Array.getElem?_setIfInBounds_ne (by omega), Array.getElem?_setIfInBounds_ne (by omega), Array.getElem?_setIfInBounds_ne (by omega), Array.getElem?_setIfInBounds_ne (by omega)]
      exact h3
    · obtain rfl : i = k := by omega
      refine ⟨?_, ?_, ?_⟩
      · rw [Array.getElem?_setIfInBounds_ne (by omega), Array.getElem?_setIfInBounds_ne (by omega)]; simp only [Array.getElem?_setIfInBounds_self, Array.size_setIfInBounds]; rw [if_pos (by omega)]
      · rw [Array.getElem?_setIfInBounds_ne (by omega)]; simp only [Array.getElem?_setIfInBounds_self, Array.size_setIfInBounds]; rw [if_pos (by omega)]
      · simp only [Array.getElem?_setIfInBounds_self, Array.size_setIfInBounds]; rw [if_pos (by omega)]
theorem RulBlk.zero {w : World} {g k : Nat} {rs qs : List R3} (h : RulBlk w g rs k) (hl : qs.length = rs.length) : RulBlk w g qs 0 := by
  obtain ⟨cs, h0, h1, _⟩ := h
  exact ⟨cs, h0, by omega, fun i hi => by omega⟩
/-- The empty places of a new slice. -/
def blankRul (n : Nat) : Array Value := madeCells #[.int .i64 0, .int .i64 0, .int .i64 0] (n * 3)
theorem infoRul : (Try.prog.info? 60).map (fun i => (i.zero, i.size, i.bytes)) = some (some (.agg #[.int .i64 0, .int .i64 0, .int .i64 0]), 3, 24) := by kernel_rfl
theorem run_mkRul (n : Nat) (h : n ≤ 1048576) (w : World) :
    (Instr.makeSlice 27 (.int .i64 (n : Int)) (.int .i64 (n : Int))).run Try.prog w = .ok (.slice (some ⟨w.heap.size, 0, none⟩) n n) (w.alloc (.cells (blankRul n) 60)) := by
  obtain ⟨i, hi, hzz⟩ := Option.map_eq_some_iff.1 infoRul
  simp only [Prod.mk.injEq] at hzz
  obtain ⟨hz, hs, hb⟩ := hzz
  have := run_make (P := Try.prog) w 27 60 i _ Try.underlying27 hi hz .i64 .i64 n n (by omega) (by omega) (by rw [hb]; omega) (by omega)
  rw [this, hs]
  rfl
theorem RulBlk.new (w : World) (rs : List R3) : RulBlk (w.alloc (.cells (blankRul rs.length) 60)) w.heap.size rs 0 :=
  ⟨blankRul rs.length, heap_alloc_new w _, by simp [blankRul, size_madeCells], fun i hi => by omega⟩

theorem toRule_any (x y z : Int) (w : World) :
    Calls Try.prog 42 #[.agg #[.int .i64 x, .int .i64 y, .int .i64 z]] w fun e w' => e = .returned (.agg #[.int .i64 x, .int .i64 y, .int .i64 z]) ∧ Below w.heap.size w w' := by
  go_enter Try.func42, Try.ntmps42
  go_wp2
  exact bodyPost_ret (v := .agg #[.int .i64 x, .int .i64 y, .int .i64 z]) (by simp [results, Try.results42, go_sem]) rfl ⟨rfl, by (repeat (first | assumption | exact Below.refl _ _ | (refine bl_alloc ?_ _) | (refine Below.drew ?_) | (refine bl_drewN ?_ _) | (refine bl_set ?_ (by first | (simp; done) | omega | (simp; omega)) _) | (refine bl_trans ?_ (by assumption)) | (refine bl_step ?_ (by assumption) (by first | omega | exact Below.size (by assumption) | (simp; omega) | (simp; exact Below.size (by assumption))))))⟩
theorem eqRule_same (x y z : Int) (w : World) :
    Calls Try.prog 98 #[.agg #[.int .i64 x, .int .i64 y, .int .i64 z], .agg #[.int .i64 x, .int .i64 y, .int .i64 z]] w fun e w' => e = .returned (.bool true) ∧ Below w.heap.size w w' := by
  go_enter Try.func98, Try.ntmps98
  go_wp2
  go_ret
  exact ⟨rfl, by (repeat (first | assumption | exact Below.refl _ _ | (refine bl_alloc ?_ _) | (refine Below.drew ?_) | (refine bl_drewN ?_ _) | (refine bl_set ?_ (by first | (simp; done) | omega | (simp; omega)) _) | (refine bl_trans ?_ (by assumption)) | (refine bl_step ?_ (by assumption) (by first | omega | exact Below.size (by assumption) | (simp; omega) | (simp; exact Below.size (by assumption))))))⟩

set_option maxHeartbeats 1600000 in
theorem toRuleS_any (A : Option Addr) (rs : List R3) (c : Nat) (w : World) (hp : RulAt w w.heap.size A rs) (hl : rs.length ≤ 1048576) :
    Calls Try.prog 53 #[.slice A rs.length c] w fun e w' => e = .returned (.slice (some ⟨w.heap.size, 0, none⟩) rs.length rs.length) ∧ RulBlk w' w.heap.size rs rs.length ∧ Below w.heap.size w w' := by
  have hmk := run_mkRul rs.length hl
  have hl' : (rs.length : Int) ≤ 1048576 := by omega
  go_enter Try.func53, Try.ntmps53
  go_wp2
  clear hmk
  go_loopw [4] (fun i wr => ∃ k : Nat, k ≤ rs.length ∧ i = .int .i64 k ∧ RulBlk wr w.heap.size rs k ∧ Below w.heap.size w wr) (fun i _ => rs.length - (intOf i).toNat)
  case atStart => exact ⟨0, Nat.zero_le _, rfl, RulBlk.new w rs, by (repeat (first | assumption | exact Below.refl _ _ | (refine bl_alloc ?_ _) | (refine Below.drew ?_) | (refine bl_drewN ?_ _) | (refine bl_set ?_ (by first | (simp; done) | omega | (simp; omega)) _) | (refine bl_trans ?_ (by assumption)) | (refine bl_step ?_ (by assumption) (by first | omega | exact Below.size (by assumption) | (simp; omega) | (simp; exact Below.size (by assumption))))))⟩
  case round =>
    obtain ⟨k, hk, rfl, hB, hb⟩ := hrel
    by_cases hlt : k < rs.length
    · obtain ⟨b, off, rfl, hbB, hc⟩ := hp (by omega)
      obtain ⟨c0, c1, c2⟩ := hc k hlt
      have d0 := (hb.cell (p := ⟨b, off + k * 3, none⟩) hbB).trans c0
      have d1 := (hb.cell (p := ⟨b, off + k * 3 + 1, none⟩) hbB).trans c1
      have d2 := (hb.cell (p := ⟨b, off + k * 3 + 2, none⟩) hbB).trans c2
      have hg := hB.lt
      clear hc c0 c1 c2 hp
      go_wp2_with fail
      refine (toRule_any _ _ _ _).mono ?_
      rintro e w1 ⟨rfl, hb1⟩
      have hB1 := hB.below hb1 hg
      have f0 := hB1.frozen (k * 3)
      have f1 := hB1.frozen (k * 3 + 1)
      have f2 := hB1.frozen (k * 3 + 2)
      obtain ⟨s0, t0⟩ := hB1.there (i := k * 3) (by omega)
      obtain ⟨s1, t1⟩ := hB1.there (i := k * 3 + 1) (by omega)
      obtain ⟨s2, t2⟩ := hB1.there (i := k * 3 + 2) (by omega)
      clear d0 d1 d2
      have hlt' : (k : Int) < (rs.length : Int) := by omega
      go_wp2
      go_roundw
      case rel => exact ⟨k + 1, by omega, by go_num, by simpa [hlt] using hB1.set_ hlt, by (repeat (first | assumption | exact Below.refl _ _ | (refine bl_alloc ?_ _) | (refine Below.drew ?_) | (refine bl_drewN ?_ _) | (refine bl_set ?_ (by first | (simp; done) | omega | (simp; omega)) _) | (refine bl_trans ?_ (by assumption)) | (refine bl_step ?_ (by assumption) (by first | omega | exact Below.size (by assumption) | (simp; omega) | (simp; exact Below.size (by assumption))))))⟩
      case measure => simp [intOf]; omega
    · obtain rfl : k = rs.length := by omega
      go_wp2
      go_ret
      exact ⟨rfl, hB, hb⟩
/-- A new slice that holds the records rs. -/
def NewRul (w : World) (rs : List R3) (e : Ending) (w' : World) : Prop :=
  ∃ g, e = .returned (.slice (some ⟨g, 0, none⟩) rs.length rs.length) ∧ RulBlk w' g rs rs.length ∧ Below w.heap.size w w' ∧ w.heap.size ≤ g
theorem toRuleS_new (A : Option Addr) (rs : List R3) (c : Nat) (w : World) (hp : RulAt w w.heap.size A rs) (hl : rs.length ≤ 1048576) :
    Calls Try.prog 53 #[.slice A rs.length c] w (NewRul w rs) :=
  (toRuleS_any A rs c w hp hl).mono fun _ _ ⟨he, hB, hb⟩ => ⟨_, he, hB, hb, Nat.le_refl _⟩

theorem szRuleS_any (A : Option Addr) (n c : Nat) (w : World) (hn : n ≤ 1048576) :
    Calls Try.prog 51 #[.slice A n c, .int .i64 1048576] w fun e w' => e = .returned (.int .i64 (1048576 - n)) ∧ w = w' := by
  have hn' : (n : Int) ≤ 1048576 := by omega
  have hz : ¬ (1048576 - (n : Int)) < 0 := by omega
  go_enter Try.func51, Try.ntmps51
  go_wp2
  go_ret
  exact ⟨rfl, rfl⟩
theorem szRuleS_big (A : Option Addr) (n c : Nat) (w : World) (hn : 1048576 < n) (hm : n ≤ maxLen) :
    Calls Try.prog 51 #[.slice A n c, .int .i64 1048576] w fun e w' => e = .returned (.int .i64 (-1)) ∧ w = w' := by
  unfold maxLen at hm
  have hn' : 1048576 < (n : Int) := by omega
  have hz : (1048576 - (n : Int)) < 0 := by omega
  go_enter Try.func51, Try.ntmps51
  go_wp2
  go_ret
  exact ⟨rfl, rfl⟩

theorem keepSRul {N : Nat} {w wr wr' : World} {b1 b2 : Nat} {p0 p1 p2 q0 q1 q2 : Nat} {X0 X1 X2 Y0 Y1 Y2 : Value}
    (h : wr.cell? ⟨b1, p0, none⟩ = some X0 ∧ wr.cell? ⟨b1, p1, none⟩ = some X1 ∧ wr.cell? ⟨b1, p2, none⟩ = some X2 ∧ wr.cell? ⟨b2, q0, none⟩ = some Y0 ∧ wr.cell? ⟨b2, q1, none⟩ = some Y1 ∧ wr.cell? ⟨b2, q2, none⟩ = some Y2 ∧ Below N w wr ∧ N ≤ wr.heap.size) (hs : Below wr.heap.size wr wr') :
    wr'.cell? ⟨b1, p0, none⟩ = some X0 ∧ wr'.cell? ⟨b1, p1, none⟩ = some X1 ∧ wr'.cell? ⟨b1, p2, none⟩ = some X2 ∧ wr'.cell? ⟨b2, q0, none⟩ = some Y0 ∧ wr'.cell? ⟨b2, q1, none⟩ = some Y1 ∧ wr'.cell? ⟨b2, q2, none⟩ = some Y2 ∧ Below N w wr' ∧ N ≤ wr'.heap.size := by
  obtain ⟨h0, h1, h2, h3, h4, h5, hb, hz⟩ := h
  have l1 : b1 < wr.heap.size := World.block_lt_of_cell? wr _ h0
  have l2 : b2 < wr.heap.size := World.block_lt_of_cell? wr _ h3
  exact ⟨(hs.cell (p := ⟨b1, p0, none⟩) l1).trans h0, (hs.cell (p := ⟨b1, p1, none⟩) l1).trans h1, (hs.cell (p := ⟨b1, p2, none⟩) l1).trans h2, (hs.cell (p := ⟨b2, q0, none⟩) l2).trans h3, (hs.cell (p := ⟨b2, q1, none⟩) l2).trans h4, (hs.cell (p := ⟨b2, q2, none⟩) l2).trans h5, hb.trans (hs.mono hz), Nat.le_trans hz hs.size⟩
theorem lastRul {a0 a1 a2 a3 a4 a5 e : Prop} {N : Nat} {w wr : World} (h : a0 ∧ a1 ∧ a2 ∧ a3 ∧ a4 ∧ a5 ∧ Below N w wr ∧ e) : Below N w wr := h.2.2.2.2.2.2.1
set_option maxHeartbeats 1600000 in
theorem eqRuleS_same (A B : Option Addr) (rs : List R3) (c d : Nat) (w : World) (hp : RulAt w w.heap.size A rs) (hq : RulAt w w.heap.size B rs) (hl : rs.length ≤ 1048576) :
    Calls Try.prog 57 #[.slice A rs.length c, .slice B rs.length d] w fun e w' => e = .returned (.bool true) ∧ Below w.heap.size w w' := by
  have hl' : (rs.length : Int) ≤ 1048576 := by omega
  go_enter Try.func57, Try.ntmps57
  go_wp2
  go_loopw [5] (fun i wr => ∃ k : Nat, k ≤ rs.length ∧ i = .int .i64 k ∧ Below w.heap.size w wr) (fun i _ => rs.length - (intOf i).toNat)
  case atStart => exact ⟨0, Nat.zero_le _, rfl, Below.refl _ _⟩
  case round =>
    obtain ⟨k, hk, rfl, hb⟩ := hrel
    by_cases hlt : k < rs.length
    · obtain ⟨b1, o1, rfl, hb1, hc1⟩ := hp (by omega)
      obtain ⟨b2, o2, rfl, hb2, hc2⟩ := hq (by omega)
      obtain ⟨c0, c1, c2⟩ := hc1 k hlt
      obtain ⟨e0, e1, e2⟩ := hc2 k hlt
      have d0 := (hb.cell (p := ⟨b1, o1 + k * 3, none⟩) hb1).trans c0
      have f0 := (hb.cell (p := ⟨b2, o2 + k * 3, none⟩) hb2).trans e0
      have d1 := (hb.cell (p := ⟨b1, o1 + k * 3 + 1, none⟩) hb1).trans c1
      have f1 := (hb.cell (p := ⟨b2, o2 + k * 3 + 1, none⟩) hb2).trans e1
      have d2 := (hb.cell (p := ⟨b1, o1 + k * 3 + 2, none⟩) hb1).trans c2
      have f2 := (hb.cell (p := ⟨b2, o2 + k * 3 + 2, none⟩) hb2).trans e2
      have hz := hb.size
      generalize rs.getD k r30 = rk at *
      generalize rk.1 = x0 at d0 f0
      generalize rk.2.1 = x1 at d1 f1
      generalize rk.2.2 = x2 at d2 f2
      clear hc1 hc2 c0 e0 c1 e1 c2 e2 hp hq
      have hlt' : (k : Int) < (rs.length : Int) := by omega
      go_wp2
      go_region_held3 (fun wx => wx.cell? ⟨b1, o1 + k * 3, none⟩ = some (.int .i64 x0) ∧ wx.cell? ⟨b1, o1 + k * 3 + 1, none⟩ = some (.int .i64 x1) ∧ wx.cell? ⟨b1, o1 + k * 3 + 2, none⟩ = some (.int .i64 x2) ∧ wx.cell? ⟨b2, o2 + k * 3, none⟩ = some (.int .i64 x0) ∧ wx.cell? ⟨b2, o2 + k * 3 + 1, none⟩ = some (.int .i64 x1) ∧ wx.cell? ⟨b2, o2 + k * 3 + 2, none⟩ = some (.int .i64 x2) ∧ Below w.heap.size w wx ∧ w.heap.size ≤ wx.heap.size)
        (first | exact keepSRul (by assumption) (by assumption) | exact ⟨d0, d1, d2, f0, f1, f2, hb.drew, hz⟩)
        (first | (go_at_call 98; refine (eqRule_same _ _ _ _).mono ?_; rintro e w' ⟨rfl, hb'⟩))
      go_wp2
      go_roundw
      case rel => exact ⟨k + 1, by omega, by go_num, lastRul (by assumption)⟩
      case measure => simp [intOf]; omega
    · go_wp2
      go_ret
      exact ⟨rfl, hb⟩
end Go.Proofs.Ytgpcfkegbcpkpaa
