/-
  A slice of points that a call made: marked, and found marked.
-/
import Derived.Test.YtdpamieheefhdaaCorner
namespace Go.Proofs.Ytdpamieheefhdaa
set_option linter.unusedSimpArgs false
set_option linter.unusedVariables false
open Go.ChangeShapes Go.WideShapes Go.ChangeAt Go.RowKit

/-- Block g holds the first k of the points ps, and has places for all of them and perhaps more. -/
def PBlk2 (w : World) (g : Nat) (ps : List (Int × Int)) (k : Nat) : Prop :=
  ∃ cs, w.heap[g]? = some (.cells cs 37 (0, 0)) ∧ ps.length * 2 ≤ cs.size ∧ ∀ i, i < k → i < ps.length → cs[i * 2]? = some (.int .i64 (ps.getD i (0, 0)).1) ∧ cs[i * 2 + 1]? = some (.int .i64 (ps.getD i (0, 0)).2)
theorem PBlk.two {w : World} {g k : Nat} {ps : List (Int × Int)} (h : PBlk w g ps k) : PBlk2 w g ps k := by
  obtain ⟨cs, h0, h1, h2⟩ := h
  exact ⟨cs, h0, Nat.le_of_eq h1.symm, h2⟩
theorem PBlk2.lt {w : World} {g k : Nat} {ps : List (Int × Int)} (h : PBlk2 w g ps k) : g < w.heap.size := by
  obtain ⟨cs, h, _⟩ := h
  rcases Nat.lt_or_ge g w.heap.size with hlt | hge
  · exact hlt
  · rw [Array.getElem?_eq_none hge] at h; cases h
theorem PBlk2.keep {w w' : World} {g k : Nat} {ps : List (Int × Int)} (h : PBlk2 w g ps k) (hk : w'.heap[g]? = w.heap[g]?) : PBlk2 w' g ps k := by
  obtain ⟨cs, h0, h1⟩ := h
  exact ⟨cs, hk.trans h0, h1⟩
theorem PBlk2.to {w w1 : World} {g k : Nat} {ps : List (Int × Int)} (h : PBlk2 w g ps k) (hb : Below w.heap.size w w1) : PBlk2 w1 g ps k := h.keep (hb.block g h.lt)
theorem PBlk2.at_ {w : World} {g k : Nat} {ps : List (Int × Int)} (h : PBlk2 w g ps k) {i : Nat} (hi : i < k) (hl : i < ps.length) :
    w.cell? ⟨g, i * 2, none⟩ = some (.int .i64 (ps.getD i (0, 0)).1) ∧ w.cell? ⟨g, i * 2 + 1, none⟩ = some (.int .i64 (ps.getD i (0, 0)).2) := by
  obtain ⟨cs, h0, _, h2⟩ := h
  rw [cell_of_row w g _ cs _ _ h0, cell_of_row w g _ cs _ _ h0]
  exact h2 i hi hl
theorem PBlk2.pts {w : World} {g : Nat} {ps : List (Int × Int)} (h : PBlk2 w g ps ps.length) : PtsAt w w.heap.size (some ⟨g, 0, none⟩) ps := fun _ =>
  ⟨g, 0, rfl, h.lt, fun i hi => by simpa using h.at_ hi hi⟩
theorem PBlk2.frozen {w : World} {g k : Nat} {ps : List (Int × Int)} (h : PBlk2 w g ps k) (i : Nat) : w.frozen? ⟨g, i, none⟩ = false := by
  obtain ⟨cs, h0, _⟩ := h
  simp [World.frozen?, h0]
theorem PBlk2.there {w : World} {g k : Nat} {ps : List (Int × Int)} (h : PBlk2 w g ps k) {i : Nat} (hi : i < ps.length * 2) : ∃ v, w.cell? ⟨g, i, none⟩ = some v := by
  obtain ⟨cs, h0, h1, _⟩ := h
  rw [cell_of_row w g _ cs _ _ h0]
  exact ⟨cs[i]'(by omega), by simp [show i < cs.size by omega]⟩
theorem PBlk2.set_ {w : World} {g k : Nat} {ps : List (Int × Int)} (h : PBlk2 w g ps k) (hk : k < ps.length) :
    PBlk2 ((w.setCell ⟨g, k * 2, none⟩ (.int .i64 (ps.getD k (0, 0)).1)).setCell ⟨g, k * 2 + 1, none⟩ (.int .i64 (ps.getD k (0, 0)).2)) g ps (k + 1) := by
  obtain ⟨cs, h0, h1, h2⟩ := h
  refine ⟨(cs.setIfInBounds (k * 2) (.int .i64 (ps.getD k (0, 0)).1)).setIfInBounds (k * 2 + 1) (.int .i64 (ps.getD k (0, 0)).2), ?_, by simpa using h1, ?_⟩
  · simp [World.setCell, Array.getElem?_modify, h0]
  · intro i hi hl
    rcases Nat.lt_or_ge i k with hlt | hge
    · obtain ⟨a, b⟩ := h2 i hlt hl
      rw [Array.getElem?_setIfInBounds_ne (by omega), Array.getElem?_setIfInBounds_ne (by omega), Array.getElem?_setIfInBounds_ne (by omega), Array.getElem?_setIfInBounds_ne (by omega)]
      exact ⟨a, b⟩
    · obtain rfl : i = k := by omega
      rw [Array.getElem?_setIfInBounds_ne (by omega)]
      simp only [Array.getElem?_setIfInBounds_self, Array.size_setIfInBounds]
      rw [if_pos (by omega), if_pos (by omega)]
      exact ⟨rfl, rfl⟩
/-- The same block for another list of that length, nothing of it written yet. -/
theorem PBlk2.zero {w : World} {g k : Nat} {ps qs : List (Int × Int)} (h : PBlk2 w g ps k) (hl : qs.length = ps.length) : PBlk2 w g qs 0 := by
  obtain ⟨cs, h0, h1, _⟩ := h
  exact ⟨cs, h0, by omega, fun i hi => by omega⟩

/-- All but block g is as it was. -/
def Only (g : Nat) (w w' : World) : Prop := w'.os = w.os ∧ w'.tape = w.tape ∧ w'.output = w.output ∧ w'.heap.size = w.heap.size ∧ ∀ i, i ≠ g → w'.heap[i]? = w.heap[i]?
theorem Only.refl (g : Nat) (w : World) : Only g w w := ⟨rfl, rfl, rfl, rfl, fun _ _ => rfl⟩
theorem Only.set_ {g : Nat} {w w' : World} (h : Only g w w') (o : Nat) (u : Value) : Only g w (w'.setCell ⟨g, o, none⟩ u) := by
  obtain ⟨a, b, c, d, e⟩ := h
  refine ⟨a, b, c, ?_, fun i hi => (Below.heap_setCell w' ⟨g, o, none⟩ u i hi).trans (e i hi)⟩
  simp [World.setCell, d]
theorem Only.below {g B : Nat} {w w' a : World} (h : Only g w w') (hb : Below B a w) (hB : B ≤ g) : Below B a w' := by
  obtain ⟨ha, hb', hc, hd, he⟩ := h
  exact ⟨ha.trans hb.os, hb'.trans hb.tape, hc.trans hb.output, by rw [hd]; exact hb.size, fun k hk => (he k (by omega)).trans (hb.block k hk)⟩
theorem PBlk2.only {w w' : World} {g g' k : Nat} {ps : List (Int × Int)} (h : PBlk2 w g ps k) (ho : Only g' w w') (hne : g ≠ g') : PBlk2 w' g ps k := h.keep (ho.2.2.2.2 g hne)

/-- The marks from k on. -/
def mkL (k : Int) (n : Nat) : List (Int × Int) := (List.range n).map fun i : Nat => (k + 2 * (i : Int), k + 2 * (i : Int) + 1)
theorem mkL_len (k : Int) (n : Nat) : (mkL k n).length = n := by simp [mkL]
theorem mkL_at {k : Int} {n i : Nat} (h : i < n) : (mkL k n).getD i (0, 0) = (k + 2 * (i : Int), k + 2 * (i : Int) + 1) := by
  simp [mkL, List.getD_eq_getElem?_getD, h]

set_option maxRecDepth 100000 in
set_option maxHeartbeats 800000 in
theorem mark_any (g n c : Nat) (k0 : Int) (w : World) (hB : PBlk2 w g (mkL k0 n) 0) (hn : n ≤ 1048576) (h0 : 0 ≤ k0) (h1 : k0 ≤ 1048576) :
    Calls Try.prog 24 #[.slice (some ⟨g, 0, none⟩) n c, .int .i64 k0] w fun e w' => e = .returned (.int .i64 (k0 + 2 * (n : Int))) ∧ PBlk2 w' g (mkL k0 n) n ∧ Only g w w' := by
  have hnI : (n : Int) ≤ 1048576 := by omega
  go_enter Try.func24, Try.ntmps24
  go_wp2
  go_loopw [1, 5] (fun q i wr => ∃ j : Nat, j ≤ n ∧ i = .int .i64 j ∧ q = .int .i64 (k0 + 2 * (j : Int)) ∧ PBlk2 wr g (mkL k0 n) j ∧ Only g w wr) (fun _ i _ => n - (intOf i).toNat)
  case atStart => exact ⟨0, Nat.zero_le _, rfl, by simp, hB, Only.refl _ _⟩
  case round =>
    obtain ⟨j, hj, rfl, rfl, hP, hO⟩ := hrel
    by_cases hlt : j < n
    · have hjI : (j : Int) < (n : Int) := by omega
      have hj0 : (0 : Int) ≤ (j : Int) := by omega
      have f0 := hP.frozen (j * 2)
      have f1 := hP.frozen (j * 2 + 1)
      obtain ⟨v0, t0⟩ := hP.there (i := j * 2) (by rw [mkL_len]; omega)
      obtain ⟨v1, t1⟩ := hP.there (i := j * 2 + 1) (by rw [mkL_len]; omega)
      have HS := hP.set_ (k := j) (by rw [mkL_len]; exact hlt)
      rw [mkL_at hlt] at HS
      have HO := (hO.set_ (j * 2) (.int .i64 (k0 + 2 * (j : Int)))).set_ (j * 2 + 1) (.int .i64 (k0 + 2 * (j : Int) + 1))
      go_wp2
      go_roundw
      case rel => exact ⟨j + 1, by omega, by go_num, by congr 1; omega, HS, HO⟩
      case measure => simp [intOf]; omega
    · obtain rfl : j = n := by omega
      go_wp2
      go_ret
      exact ⟨rfl, hP, hO⟩

set_option maxRecDepth 100000 in
set_option maxHeartbeats 800000 in
theorem held_any (g n c : Nat) (k0 : Int) (w : World) (hB : PBlk2 w g (mkL k0 n) n) (hn : n ≤ 1048576) (h0 : 0 ≤ k0) (h1 : k0 ≤ 1048576) :
    Calls Try.prog 25 #[.slice (some ⟨g, 0, none⟩) n c, .int .i64 k0] w fun e w' => e = .returned (.int .i64 (k0 + 2 * (n : Int))) ∧ w = w' := by
  have hnI : (n : Int) ≤ 1048576 := by omega
  go_enter Try.func25, Try.ntmps25
  go_wp2
  go_loop [1, 5] (fun q i => ∃ j : Nat, j ≤ n ∧ i = .int .i64 j ∧ q = .int .i64 (k0 + 2 * (j : Int))) (fun _ i => n - (intOf i).toNat)
  case atStart => exact ⟨0, Nat.zero_le _, rfl, by simp⟩
  case round =>
    obtain ⟨j, hj, rfl, rfl⟩ := hrel
    by_cases hlt : j < n
    · have hjI : (j : Int) < (n : Int) := by omega
      have hj0 : (0 : Int) ≤ (j : Int) := by omega
      obtain ⟨t0, t1⟩ := hB.at_ (i := j) hlt (by rw [mkL_len]; exact hlt)
      rw [mkL_at hlt] at t0 t1
      go_wp2
      go_round
      case rel => exact ⟨j + 1, by omega, by go_num, by congr 1; omega⟩
      case measure => simp [intOf]; omega
    · obtain rfl : j = n := by omega
      go_wp2
      go_ret
      exact ⟨rfl, rfl⟩
end Go.Proofs.Ytdpamieheefhdaa
