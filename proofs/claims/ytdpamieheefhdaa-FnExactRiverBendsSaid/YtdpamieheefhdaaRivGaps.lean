/-
  Contracts: gaps of pins, as the program finds them.
-/
import Derived.Test.YtdpamieheefhdaaRivTight
import Derived.Test.YtdpamieheefhdaaSlices
import Derived.StillTailTactics
namespace Go.Proofs.Ytdpamieheefhdaa
set_option linter.unusedSimpArgs false
set_option linter.unusedVariables false
open Go.ChangeShapes Go.WideShapes Go.ChangeAt Go.RowKit

/-- Two parts of a row of n numbers: without its last t ones, and without its first t ones. -/
def PinsPost (T : List Int) (n t : Nat) (A : Option Addr) (w : World) (e : Ending) (w' : World) : Prop :=
  ∃ A2, e = .returned (.tuple #[.slice A (n - t) (n - t), .slice A2 (n - t) (n - t)]) ∧ IntsAt w w.heap.size A2 (T.drop t) ∧ Below w.heap.size w w'

set_option maxRecDepth 100000 in
theorem pinsApart_any (A : Option Addr) (T : List Int) (n c t : Nat) (w : World) (hp : IntsAt w w.heap.size A T) (HL : Hid (T.length = n)) (h1 : 1 ≤ n) (hl : n ≤ 20) (hlc : n ≤ c) (ht : t ≤ 20) :
    Calls Try.prog 94 #[.slice A n c, .int .i64 (t : Int)] w (PinsPost T n t A w) := by
  have hL := HL.out
  obtain ⟨b, off, rfl, hbB, hc⟩ := hp (by omega)
  have hlI : (n : Int) ≤ 20 := by omega
  have htI : (t : Int) ≤ 20 := by omega
  have hlcI : (n : Int) ≤ (c : Int) := by omega
  by_cases htn : t < n
  · have htnI : (t : Int) < (n : Int) := by omega
    have htnI' : ¬ (n : Int) < (t : Int) := by omega
    have HP : Hid (IntsAt w w.heap.size (some ⟨b, off + t, none⟩) (T.drop t)) := fun _ => ⟨b, off + t, rfl, hbB, fun i hi => by
      rw [List.length_drop] at hi
      have := hc (t + i) (by omega)
      rw [show off + (t + i) = off + t + i by omega] at this
      rw [this]
      simp [List.getD_eq_getElem?_getD]⟩
    clear hc hp hL
    go_enter Try.func94, Try.ntmps94
    go_wp2
    go_quiet (fail)
    go_wp2
    go_ret2
    exact ⟨_, rfl, HP.out, by (repeat (first | assumption | exact Below.refl _ _ | (refine bl_alloc ?_ _) | (refine Below.drew ?_) | (refine bl_drewN ?_ _) | (refine bl_set ?_ (by first | (simp; done) | omega | (simp; omega)) _) | (refine bl_trans ?_ (by assumption)) | (refine bl_step ?_ (by assumption) (by first | omega | exact Below.size (by assumption) | (simp; omega) | (simp; exact Below.size (by assumption))))))⟩
  · have HP : Hid (IntsAt w w.heap.size (some ⟨b, off, none⟩) (T.drop t)) := fun h => by simp at h; omega
    have HZ : Hid (n - t = 0) := by show _ = _; omega
    have hz : n - n = 0 := by omega
    by_cases htn' : n < t
    · have htnI : (n : Int) < (t : Int) := by omega
      clear hc hp htn htn' hL
      go_enter Try.func94, Try.ntmps94
      go_wp2
      go_quiet (fail)
      go_wp2
      go_ret2
      exact ⟨some ⟨b, off, none⟩, by rw [HZ.out]; rfl, HP.out, by (repeat (first | assumption | exact Below.refl _ _ | (refine bl_alloc ?_ _) | (refine Below.drew ?_) | (refine bl_drewN ?_ _) | (refine bl_set ?_ (by first | (simp; done) | omega | (simp; omega)) _) | (refine bl_trans ?_ (by assumption)) | (refine bl_step ?_ (by assumption) (by first | omega | exact Below.size (by assumption) | (simp; omega) | (simp; exact Below.size (by assumption))))))⟩
    · obtain rfl : t = n := by omega
      clear hc hp htn htn' hL
      go_enter Try.func94, Try.ntmps94
      go_wp2
      go_quiet (fail)
      go_wp2
      go_ret2
      exact ⟨some ⟨b, off, none⟩, by rw [HZ.out]; rfl, HP.out, by (repeat (first | assumption | exact Below.refl _ _ | (refine bl_alloc ?_ _) | (refine Below.drew ?_) | (refine bl_drewN ?_ _) | (refine bl_set ?_ (by first | (simp; done) | omega | (simp; omega)) _) | (refine bl_trans ?_ (by assumption)) | (refine bl_step ?_ (by assumption) (by first | omega | exact Below.size (by assumption) | (simp; omega) | (simp; exact Below.size (by assumption))))))⟩

/-- Block g holds the first k of the gaps gs, and has places for all of them. -/
def GBlk (w : World) (g : Nat) (gs : List (Int × Int)) (k : Nat) : Prop :=
  ∃ cs, w.heap[g]? = some (.cells cs 115 (0, 0)) ∧ cs.size = gs.length * 2 ∧ ∀ i, i < k → i < gs.length → cs[i * 2]? = some (.int .i64 (gs.getD i (0, 0)).1) ∧ cs[i * 2 + 1]? = some (.int .i64 (gs.getD i (0, 0)).2)
theorem GBlk.lt {w : World} {g k : Nat} {ps : List (Int × Int)} (h : GBlk w g ps k) : g < w.heap.size := by
  obtain ⟨cs, h, _⟩ := h
  rcases Nat.lt_or_ge g w.heap.size with hlt | hge
  · exact hlt
  · rw [Array.getElem?_eq_none hge] at h; cases h
theorem GBlk.keep {w w' : World} {g k : Nat} {ps : List (Int × Int)} (h : GBlk w g ps k) (hk : w'.heap[g]? = w.heap[g]?) : GBlk w' g ps k := by
  obtain ⟨cs, h0, h1⟩ := h
  exact ⟨cs, hk.trans h0, h1⟩
theorem GBlk.to {w w1 : World} {g k : Nat} {ps : List (Int × Int)} (h : GBlk w g ps k) (hb : Below w.heap.size w w1) : GBlk w1 g ps k := h.keep (hb.block g h.lt)
theorem GBlk.at_ {w : World} {g k : Nat} {ps : List (Int × Int)} (h : GBlk w g ps k) {i : Nat} (hi : i < k) (hl : i < ps.length) :
    w.cell? ⟨g, i * 2, none⟩ = some (.int .i64 (ps.getD i (0, 0)).1) ∧ w.cell? ⟨g, i * 2 + 1, none⟩ = some (.int .i64 (ps.getD i (0, 0)).2) := by
  obtain ⟨cs, h0, _, h2⟩ := h
  rw [cell_of_row w g _ cs _ _ h0, cell_of_row w g _ cs _ _ h0]
  exact h2 i hi hl
theorem GBlk.pts {w : World} {g : Nat} {ps : List (Int × Int)} (h : GBlk w g ps ps.length) : PtsAt w w.heap.size (some ⟨g, 0, none⟩) ps := fun _ =>
  ⟨g, 0, rfl, h.lt, fun i hi => by simpa using h.at_ hi hi⟩
theorem GBlk.frozen {w : World} {g k : Nat} {ps : List (Int × Int)} (h : GBlk w g ps k) (i : Nat) : w.frozen? ⟨g, i, none⟩ = false := by
  obtain ⟨cs, h0, _⟩ := h
  simp [World.frozen?, h0]
theorem GBlk.there {w : World} {g k : Nat} {ps : List (Int × Int)} (h : GBlk w g ps k) {i : Nat} (hi : i < ps.length * 2) : ∃ v, w.cell? ⟨g, i, none⟩ = some v := by
  obtain ⟨cs, h0, h1, _⟩ := h
  rw [cell_of_row w g _ cs _ _ h0]
  exact ⟨cs[i], by simp [h1, hi]⟩
theorem GBlk.set_ {w : World} {g k : Nat} {ps : List (Int × Int)} (h : GBlk w g ps k) (hk : k < ps.length) :
    GBlk ((w.setCell ⟨g, k * 2, none⟩ (.int .i64 (ps.getD k (0, 0)).1)).setCell ⟨g, k * 2 + 1, none⟩ (.int .i64 (ps.getD k (0, 0)).2)) g ps (k + 1) := by
  obtain ⟨cs, h0, h1, h2⟩ := h
  refine ⟨(cs.setIfInBounds (k * 2) (.int .i64 (ps.getD k (0, 0)).1)).setIfInBounds (k * 2 + 1) (.int .i64 (ps.getD k (0, 0)).2), ?_, by simpa using h1, ?_⟩
  · simp [World.setCell, Array.getElem?_modify, h0]
  · intro i hi hl
    rcases Nat.lt_or_ge i k with hlt | hge
    · obtain ⟨a, b⟩ := h2 i hlt hl
      rw [Array.getElem?_setIfInBounds_ne (by omega), Array.getElem?_setIfInBounds_ne (by omega), Array.getElem?_setIfInBounds_ne (by omega), Array.getElem?_setIfInBounds_ne (by omega)]
      exact ⟨a, b⟩
    · obtain rfl : i = k := by omega
      rw [Array.getElem?_setIfInBounds_ne (by omega)]
      simp only [Array.getElem?_setIfInBounds_self, h1, Array.size_setIfInBounds]
      rw [if_pos (by omega), if_pos (by omega)]
      exact ⟨rfl, rfl⟩
def blankG (n : Nat) : Array Value := madeCells #[.int .i64 0, .int .i64 0] (n * 2)
theorem infoG : (Try.prog.info? 115).map (fun i => (i.zero, i.size, i.bytes)) = some (some (.agg #[.int .i64 0, .int .i64 0]), 2, 16) := by kernel_rfl
theorem run_mkgaps (n : Nat) (h : n ≤ 1048576) (w : World) :
    (Instr.makeSlice 98 (.int .i64 (n : Int)) (.int .i64 (n : Int))).run Try.prog w = .ok (.slice (some ⟨w.heap.size, 0, none⟩) n n) (w.alloc (.cells (blankG n) 115)) := by
  obtain ⟨i, hi, hzz⟩ := Option.map_eq_some_iff.1 infoG
  simp only [Prod.mk.injEq] at hzz
  obtain ⟨hz, hs, hb⟩ := hzz
  have := run_make (P := Try.prog) w 98 115 i _ Try.underlying98 hi hz .i64 .i64 n n (by omega) (by omega) (by rw [hb]; omega) (by omega)
  rw [this, hs]
  rfl
theorem GBlk.new (w : World) (ps : List (Int × Int)) : GBlk (w.alloc (.cells (blankG ps.length) 115)) w.heap.size ps 0 :=
  ⟨blankG ps.length, heap_alloc_new w _, by simp [blankG, size_madeCells], fun i hi => by omega⟩

def gapsL (T B : List Int) (n t : Nat) : List (Int × Int) := (List.range (n - t)).map fun i => (gapB T B t i, gapT T B t i)
theorem gapsL_len (T B : List Int) (n t : Nat) : (gapsL T B n t).length = n - t := by simp [gapsL]
theorem gapsL_at {T B : List Int} {n t i : Nat} (h : i < n - t) : (gapsL T B n t).getD i (0, 0) = (gapB T B t i, gapT T B t i) := by
  simp [gapsL, List.getD_eq_getElem?_getD, h]
theorem drop_getD (T : List Int) (t k : Nat) : (T.drop t).getD k 0 = T.getD (k + t) 0 := by simp [List.getD_eq_getElem?_getD, Nat.add_comm]

/-- A new slice that holds the gaps. -/
def NewGaps (gs : List (Int × Int)) (m : Nat) (w : World) (e : Ending) (w' : World) : Prop :=
  ∃ g, e = .returned (.slice (some ⟨g, 0, none⟩) m m) ∧ GBlk w' g gs m ∧ Below w.heap.size w w' ∧ w.heap.size ≤ g

set_option maxRecDepth 100000 in
set_option maxHeartbeats 1600000 in
theorem gaps_any (A A' : Option Addr) (T B : List Int) (n c c' t : Nat) (w : World) (hp : IntsAt w w.heap.size A T) (hq : IntsAt w w.heap.size A' B) (HT : Hid (T.length = n)) (HB : Hid (B.length = n)) (h1 : 1 ≤ n) (hl : n ≤ 20) (hlc : n ≤ c) (hlc' : n ≤ c') (ht : t ≤ 20) (hT : Places T) (hB : Places B) :
    Calls Try.prog 68 #[rivV A A' n n c c', .int .i64 (t : Int)] w (NewGaps (gapsL T B n t) (n - t) w) := by
  have hp1 := hp.to (w1 := w.alloc (.cells #[.slice A n c, .slice A' n c'] 60)) ((Below.refl _ _).alloc (Nat.le_refl _) _)
  have hq1 := hq.to (w1 := w.alloc (.cells #[.slice A n c, .slice A' n c'] 60)) ((Below.refl _ _).alloc (Nat.le_refl _) _)
  go_enter Try.func68, Try.ntmps68
  go_wp2_with fail
  refine (pinsApart_any _ _ _ _ _ _ hp1 HT h1 hl hlc ht).mono ?_
  rintro e w1 ⟨A1, rfl, hA1, hb1⟩
  have hq2 := hq1.to hb1
  obtain ⟨hc, hf, hz⟩ := bcell hb1
  have hz' : w.heap.size < w1.heap.size := by (simp at hz; omega)
  clear hz
  go_wp2_with fail
  refine (pinsApart_any _ _ _ _ _ _ hq2 HB h1 hl hlc' ht).mono ?_
  rintro e w2 ⟨A2, rfl, hA2, hb2⟩
  have hmk := run_mkgaps (n - t) (by omega)
  clear hc hf
  have hG := gapsL_len T B n t
  have hnew := GBlk.new w2 (gapsL T B n t)
  rw [hG] at hnew
  have HG := Lib.hid hG
  clear hG
  have p0 := (hp1.to hb1).to hb2
  have p1 := (hA1.to hb1).to hb2
  have r0 := hq2.to hb2
  have r1 := hA2.to hb2
  have bel : Below w.heap.size w w2 := by (repeat (first | assumption | exact Below.refl _ _ | (refine bl_alloc ?_ _) | (refine Below.drew ?_) | (refine bl_drewN ?_ _) | (refine bl_set ?_ (by first | (simp; done) | omega | (simp; omega)) _) | (refine bl_trans ?_ (by assumption)) | (refine bl_step ?_ (by assumption) (by first | omega | exact Below.size (by assumption) | (simp; omega) | (simp; exact Below.size (by assumption))))))
  have hzg : w.heap.size ≤ w2.heap.size := bel.size
  clear hA1 hA2 hb1 hb2 hq2 hp1 hq1 hz' hp hq
  have hG20 : n - t ≤ 20 := by omega
  go_wp2
  clear hmk
  go_loopw [10, 30] (fun _ i wr => ∃ k : Nat, k ≤ n - t ∧ i = .int .i64 k ∧ GBlk wr w2.heap.size (gapsL T B n t) k ∧ Below w2.heap.size w2 wr) (fun _ i _ => (n - t) - (intOf i).toNat)
  case atStart => exact ⟨0, Nat.zero_le _, rfl, hnew, by (repeat (first | assumption | exact Below.refl _ _ | (refine bl_alloc ?_ _) | (refine Below.drew ?_) | (refine bl_drewN ?_ _) | (refine bl_set ?_ (by first | (simp; done) | omega | (simp; omega)) _) | (refine bl_trans ?_ (by assumption)) | (refine bl_step ?_ (by assumption) (by first | omega | exact Below.size (by assumption) | (simp; omega) | (simp; exact Below.size (by assumption))))))⟩
  case round =>
    obtain ⟨k, hk, rfl, hB', hb⟩ := hrel
    clear hnew
    by_cases hlt : k < n - t
    · have eT := HT.out
      have eB := HB.out
      obtain ⟨b0, o0, rfl, z0, k0⟩ := p0 (by omega)
      obtain ⟨b1, o1, rfl, z1, k1⟩ := p1 (by rw [List.length_drop]; omega)
      obtain ⟨b2, o2, rfl, z2, k2⟩ := r0 (by omega)
      obtain ⟨b3, o3, rfl, z3, k3⟩ := r1 (by rw [List.length_drop]; omega)
      have d0 := (hb.cell (p := ⟨b0, o0 + k, none⟩) z0).trans (k0 k (by omega))
      have d1 := (hb.cell (p := ⟨b1, o1 + k, none⟩) z1).trans (k1 k (by rw [List.length_drop]; omega))
      have d2 := (hb.cell (p := ⟨b2, o2 + k, none⟩) z2).trans (k2 k (by omega))
      have d3 := (hb.cell (p := ⟨b3, o3 + k, none⟩) z3).trans (k3 k (by rw [List.length_drop]; omega))
      rw [drop_getD] at d1 d3
      have hgl : k < (gapsL T B n t).length := by rw [HG.out]; exact hlt
      have HX : Hid ((gapsL T B n t).getD k (0, 0) = (B.getD (k + t) 0 - T.getD k 0, T.getD (k + t) 0 - B.getD k 0)) := gapsL_at hlt
      obtain ⟨x0, x0'⟩ := hT k
      obtain ⟨x1, x1'⟩ := hT (k + t)
      obtain ⟨y0, y0'⟩ := hB k
      obtain ⟨y1, y1'⟩ := hB (k + t)
      have hltI : (k : Int) < ((n - t : Nat) : Int) := by omega
      have hk0 : 0 ≤ (k : Int) := by omega
      generalize T.getD k 0 = a0 at *
      generalize T.getD (k + t) 0 = a1 at *
      generalize B.getD k 0 = c0 at *
      generalize B.getD (k + t) 0 = c1 at *
      clear k0 k1 k2 k3 p0 p1 r0 r1 eT eB hT hB
      have e2 : IntKind.i64.wrap (c1 - a0) = c1 - a0 := IntWalk.i64_in _ (by omega)
      have e3 : IntKind.i64.wrap (a1 - c0) = a1 - c0 := IntWalk.i64_in _ (by omega)
      go_wp2
      go_still_tail 22, (by kernel_rfl)
      change wpList _ _ _ _ _ wr.drew
      have hB2 : GBlk wr.drew w2.heap.size (gapsL T B n t) k := hB'.keep rfl
      have hb2 : Below w2.heap.size w2 wr.drew := by (repeat (first | assumption | exact Below.refl _ _ | (refine bl_alloc ?_ _) | (refine Below.drew ?_) | (refine bl_drewN ?_ _) | (refine bl_set ?_ (by first | (simp; done) | omega | (simp; omega)) _) | (refine bl_trans ?_ (by assumption)) | (refine bl_step ?_ (by assumption) (by first | omega | exact Below.size (by assumption) | (simp; omega) | (simp; exact Below.size (by assumption))))))
      generalize wr.drew = wy at *
      clear d0 d1 d2 d3 hB' hb
      have f0 := hB2.frozen (k * 2)
      have f1 := hB2.frozen (k * 2 + 1)
      obtain ⟨v0, t0⟩ := hB2.there (i := k * 2) (by omega)
      obtain ⟨v1, t1⟩ := hB2.there (i := k * 2 + 1) (by omega)
      have HS := hB2.set_ hgl
      rw [HX.out] at HS
      have HS := Lib.hid HS
      clear hB2 HX e2 e3
      go_wp2
      go_roundw
      case rel => exact ⟨k + 1, by omega, by go_num, HS.out, by (repeat (first | assumption | exact Below.refl _ _ | (refine bl_alloc ?_ _) | (refine Below.drew ?_) | (refine bl_drewN ?_ _) | (refine bl_set ?_ (by first | (simp; done) | omega | (simp; omega)) _) | (refine bl_trans ?_ (by assumption)) | (refine bl_step ?_ (by assumption) (by first | omega | exact Below.size (by assumption) | (simp; omega) | (simp; exact Below.size (by assumption))))))⟩
      case measure => simp [intOf]; omega
    · obtain rfl : k = n - t := by omega
      go_wp2
      go_ret
      exact ⟨_, rfl, hB', bl_step bel hb hzg, hzg⟩
end Go.Proofs.Ytdpamieheefhdaa
