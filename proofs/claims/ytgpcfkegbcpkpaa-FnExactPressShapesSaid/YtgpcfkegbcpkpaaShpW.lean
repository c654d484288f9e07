/-
  Shapes that a call made: marked, and found marked.
-/
import Derived.Test.YtgpcfkegbcpkpaaShpD
namespace Go.Proofs.Ytgpcfkegbcpkpaa
set_option linter.unusedSimpArgs false
set_option linter.unusedVariables false
open Go.ChangeShapes Go.WideShapes Go.ChangeAt Go.RowKit

theorem ButG.own6 {g B : Nat} {w w' : World} {A : Option Addr} {L : List R4} (h : ButG g w w') (hp : Own6 w B A L) (hB : g < B) : Own6 w' B A L := fun h0 => by
  obtain ⟨g', e, hg, hI⟩ := hp h0
  exact ⟨g', e, hg, hI.keep (h.block g' hI.lt (by omega))⟩
theorem ButG.shp {H B : Nat} {w w' : World} {A : Option Addr} {rs : List R4} (h : ButG H w w') (hp : ShpAt w B A rs) (hB : B ≤ H) (hz : B ≤ w.heap.size) : ShpAt w' B A rs := fun h0 => by
  obtain ⟨b, off, e, hlt, hc⟩ := hp h0
  have hk : w'.heap[b]? = w.heap[b]? := h.block b (by omega) (by omega)
  exact ⟨b, off, e, hlt, fun i hi => ⟨(World.cell?_of_block (a := ⟨b, _, none⟩) hk).trans (hc i hi).1, (World.cell?_of_block (a := ⟨b, _, none⟩) hk).trans (hc i hi).2.1, (World.cell?_of_block (a := ⟨b, _, none⟩) hk).trans (hc i hi).2.2.1, (World.cell?_of_block (a := ⟨b, _, none⟩) hk).trans (hc i hi).2.2.2⟩⟩
/-- The marks from 1 on. -/
def mkS (n : Nat) : List R4 := (List.range n).map fun i : Nat => (1 + 4 * (i : Int), 1 + 4 * (i : Int) + 1, 1 + 4 * (i : Int) + 1 + 1, 1 + 4 * (i : Int) + 1 + 1 + 1)
theorem mkS_len (n : Nat) : (mkS n).length = n := by simp [mkS]
theorem mkS_at {n i : Nat} (h : i < n) : (mkS n).getD i r40 = (1 + 4 * (i : Int), 1 + 4 * (i : Int) + 1, 1 + 4 * (i : Int) + 1 + 1, 1 + 4 * (i : Int) + 1 + 1 + 1) := by
  simp [mkS, List.getD_eq_getElem?_getD, h]
set_option maxRecDepth 100000 in
set_option maxHeartbeats 1600000 in
theorem markS_any (g n c : Nat) (w : World) (hB : ShpBlk w g (mkS n) 0) (hn : n ≤ 1048576) :
    Calls Try.prog 35 #[.slice (some ⟨g, 0, none⟩) n c, .int .i64 1] w fun e w' => e = .returned (.int .i64 (1 + 4 * (n : Int))) ∧ ShpBlk w' g (mkS n) n ∧ ButG g w w' := by
  have hnI : (n : Int) ≤ 1048576 := by omega
  go_enter Try.func35, Try.ntmps35
  go_wp2
  go_loopw [1, 5] (fun p i wr => ∃ j : Nat, j ≤ n ∧ i = .int .i64 j ∧ p = .int .i64 (1 + 4 * (j : Int)) ∧ ShpBlk wr g (mkS n) j ∧ ButG g w wr) (fun _ i _ => n - (intOf i).toNat)
  case atStart => exact ⟨0, Nat.zero_le _, rfl, by simp, hB, ButG.refl _ _⟩
  case round =>
    clear hB
    obtain ⟨j, hj, rfl, rfl, h, hO⟩ := hrel
    by_cases hlt : j < n
    · have hjI : (j : Int) < (n : Int) := by omega
      have hj0 : (0 : Int) ≤ (j : Int) := by omega
      have f0 := h.frozen (j * 4)
      have f1 := h.frozen (j * 4 + 1)
      have f2 := h.frozen (j * 4 + 2)
      have f3 := h.frozen (j * 4 + 3)
      obtain ⟨v0, t0⟩ := h.there (i := j * 4) (by rw [mkS_len]; omega)
      obtain ⟨v1, t1⟩ := h.there (i := j * 4 + 1) (by rw [mkS_len]; omega)
      obtain ⟨v2, t2⟩ := h.there (i := j * 4 + 2) (by rw [mkS_len]; omega)
      obtain ⟨v3, t3⟩ := h.there (i := j * 4 + 3) (by rw [mkS_len]; omega)
      have h' := h.set_ (k := j) (by rw [mkS_len]; exact hlt)
      rw [mkS_at hlt] at h'
      have hO' := (((hO.set_ (j * 4) (.int .i64 (1 + 4 * (j : Int)))).set_ (j * 4 + 1) (.int .i64 (1 + 4 * (j : Int) + 1))).set_ (j * 4 + 2) (.int .i64 (1 + 4 * (j : Int) + 1 + 1))).set_ (j * 4 + 3) (.int .i64 (1 + 4 * (j : Int) + 1 + 1 + 1))
      clear h hO
      go_wp2
      go_roundw
      case rel => exact ⟨j + 1, by omega, by go_num, by first | go_num | (congr 1; omega), h', hO'⟩
      case measure => simp [intOf]; omega
    · obtain rfl : j = n := by omega
      go_wp2
      go_ret
      exact ⟨rfl, h, hO⟩
set_option maxRecDepth 100000 in
set_option maxHeartbeats 1600000 in
theorem heldS_any (A : Option Addr) (n c B : Nat) (w : World) (h : Own6 w B A (mkS n)) (hn : n ≤ 1048576) :
    Calls Try.prog 50 #[.slice A n c, .int .i64 1] w fun e w' => e = .returned (.int .i64 (1 + 4 * (n : Int))) ∧ w = w' := by
  have hnI : (n : Int) ≤ 1048576 := by omega
  go_enter Try.func50, Try.ntmps50
  go_wp2
  go_loop [1, 5] (fun q i => ∃ j : Nat, j ≤ n ∧ i = .int .i64 j ∧ q = .int .i64 (1 + 4 * (j : Int))) (fun _ i => n - (intOf i).toNat)
  case atStart => exact ⟨0, Nat.zero_le _, rfl, by simp⟩
  case round =>
    obtain ⟨j, hj, rfl, rfl⟩ := hrel
    by_cases hlt : j < n
    · have hjI : (j : Int) < (n : Int) := by omega
      have hj0 : (0 : Int) ≤ (j : Int) := by omega
      obtain ⟨g, rfl, hg, hB⟩ := h (by rw [mkS_len]; omega)
      rw [mkS_len] at hB
      obtain ⟨t0, t1, t2, t3⟩ := hB.at_ (i := j) hlt (by rw [mkS_len]; exact hlt)
      rw [mkS_at hlt] at t0 t1 t2 t3
      go_wp2
      go_round
      case rel => exact ⟨j + 1, by omega, by go_num, by first | go_num | (congr 1; omega)⟩
      case measure => simp [intOf]; omega
    · obtain rfl : j = n := by omega
      go_wp2
      go_ret
      exact ⟨rfl, rfl⟩
/-- Marked: only one block has turned. -/
theorem markS_opt (A : Option Addr) (L : List R4) (c B : Nat) (w : World) (h : Own6 w B A L) (hn : L.length ≤ 1048576) :
    Calls Try.prog 35 #[.slice A L.length c, .int .i64 1] w fun e w' => e = .returned (.int .i64 (1 + 4 * (L.length : Int))) ∧ Own6 w' B A (mkS L.length) ∧ ∃ g, (g = w.heap.size ∨ (0 < L.length ∧ A = some ⟨g, 0, none⟩)) ∧ ButG g w w' := by
  by_cases h0 : 0 < L.length
  · obtain ⟨g, rfl, hg, hP⟩ := h h0
    refine (markS_any g L.length c w (hP.zero (mkS_len L.length)) hn).mono ?_
    rintro e w1 ⟨rfl, hR, hO⟩
    exact ⟨rfl, fun _ => ⟨g, rfl, hg, by rw [mkS_len]; exact hR⟩, g, .inr ⟨h0, rfl⟩, hO⟩
  · have hz : L.length = 0 := by omega
    have hm : Hid (mkS L.length = []) := by show _ = _; rw [hz]; rfl
    rw [hm.out]
    rw [hz]
    clear h h0 hn hz hm
    go_enter Try.func35, Try.ntmps35
    go_wp2
    go_loop [1, 5] (fun q i => q = .int .i64 1 ∧ i = .int .i64 0) (fun _ _ => 0)
    case atStart => exact ⟨rfl, rfl⟩
    case round =>
      obtain ⟨rfl, rfl⟩ := hrel
      go_wp2
      go_ret
      first
        | exact ⟨rfl, Own6.none_ _ _ _, ButG.refl _ _⟩
        | exact ⟨rfl, Own6.none_ _ _ _, w.heap.size, .inl rfl, ButG.refl _ _⟩
theorem prsL_len (ss : List R4) (a : Int) (hl : ss.length ≤ 1048576) : ((prsO ss a).getD []).length ≤ 1048576 := by
  unfold prsO
  cases shpO ss a with
  | none => simp
  | some L =>
    rw [Option.bind_some]
    cases lpO ss L with
    | none => simp
    | some ds => simp only [Option.map_some, Option.getD_some]; rw [mixX_len]; exact hl
end Go.Proofs.Ytgpcfkegbcpkpaa
