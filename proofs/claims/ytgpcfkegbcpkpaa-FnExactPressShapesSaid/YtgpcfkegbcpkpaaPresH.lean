/-
  A press that a call made: marked, and found marked; shapes marked.
-/
import Derived.Test.YtgpcfkegbcpkpaaPresM
import Derived.Test.YtgpcfkegbcpkpaaRulO
import Derived.Test.YtgpcfkegbcpkpaaShp
namespace Go.Proofs.Ytgpcfkegbcpkpaa
set_option linter.unusedSimpArgs false
set_option linter.unusedVariables false
open Go.ChangeShapes Go.WideShapes Go.ChangeAt Go.RowKit

/-- The slice with the address A holds L in a block of its own, from block B on. -/
def Own5 (w : World) (B : Nat) (A : Option Addr) (L : List R3) : Prop := 0 < L.length → ∃ g, A = some ⟨g, 0, none⟩ ∧ B ≤ g ∧ RulBlk w g L L.length
theorem Own5.none_ (w : World) (B : Nat) (A : Option Addr) : Own5 w B A [] := fun h => by simp at h
theorem Own5.rul {w : World} {B : Nat} {A : Option Addr} {L : List R3} (h : Own5 w B A L) : RulAt w w.heap.size A L := fun h0 => by
  obtain ⟨g, rfl, _, hP⟩ := h h0
  exact hP.rec_ h0
theorem Own5.to {w w1 : World} {B : Nat} {A : Option Addr} {L : List R3} (h : Own5 w B A L) (hb : Below w.heap.size w w1) : Own5 w1 B A L := fun h0 => by
  obtain ⟨g, e, hg, hP⟩ := h h0
  exact ⟨g, e, hg, hP.to hb⟩
theorem own5_of {w : World} {B : Nat} {v : Value} {L : List R3} (h : OwnR w B v L) : ∃ A c, v = .slice A L.length c ∧ Own5 w B A L := by
  rcases h.2 with ⟨rfl, h0⟩ | ⟨g, cap, cur, rfl, hB, hh, hn, _, hs, ht⟩
  · exact ⟨none, 0, by rw [h0], fun h1 => by omega⟩
  · refine ⟨_, _, rfl, fun _ => ⟨g, rfl, hB, cur, hh, by rw [hs]; exact Nat.mul_le_mul_right 3 hn, fun i _ hi => ?_⟩⟩
    have key : ∀ j, j < L.length * 3 → cur[j]? = (cellsR L)[j]? := fun j hj => by
      rw [← ht, List.getElem?_take, if_pos hj, Array.getElem?_toList]
    obtain ⟨a, b, c⟩ := cellsR_at hi
    exact ⟨by rw [key _ (by omega)]; exact a, by rw [key _ (by omega)]; exact b, by rw [key _ (by omega)]; exact c⟩
theorem ButG.own5 {g B : Nat} {w w' : World} {A : Option Addr} {L : List R3} (h : ButG g w w') (hp : Own5 w B A L) (hB : g < B) : Own5 w' B A L := fun h0 => by
  obtain ⟨g', e, hg, hI⟩ := hp h0
  exact ⟨g', e, hg, hI.keep (h.block g' hI.lt (by omega))⟩
theorem ButG.rul {H B : Nat} {w w' : World} {A : Option Addr} {rs : List R3} (h : ButG H w w') (hp : RulAt w B A rs) (hB : B ≤ H) (hz : B ≤ w.heap.size) : RulAt w' B A rs := fun h0 => by
  obtain ⟨b, off, e, hlt, hc⟩ := hp h0
  have hk : w'.heap[b]? = w.heap[b]? := h.block b (by omega) (by omega)
  exact ⟨b, off, e, hlt, fun i hi => ⟨(World.cell?_of_block (a := ⟨b, _, none⟩) hk).trans (hc i hi).1, (World.cell?_of_block (a := ⟨b, _, none⟩) hk).trans (hc i hi).2.1, (World.cell?_of_block (a := ⟨b, _, none⟩) hk).trans (hc i hi).2.2⟩⟩
/-- The marks from 1 on. -/
def mkR (n : Nat) : List R3 := (List.range n).map fun i : Nat => (1 + 3 * (i : Int), 1 + 3 * (i : Int) + 1, 1 + 3 * (i : Int) + 1 + 1)
theorem mkR_len (n : Nat) : (mkR n).length = n := by simp [mkR]
theorem mkR_at {n i : Nat} (h : i < n) : (mkR n).getD i r30 = (1 + 3 * (i : Int), 1 + 3 * (i : Int) + 1, 1 + 3 * (i : Int) + 1 + 1) := by
  simp [mkR, List.getD_eq_getElem?_getD, h]
set_option maxRecDepth 100000 in
set_option maxHeartbeats 1600000 in
theorem markR_any (g n c : Nat) (w : World) (hB : RulBlk w g (mkR n) 0) (hn : n ≤ 1048576) :
    Calls Try.prog 71 #[.slice (some ⟨g, 0, none⟩) n c, .int .i64 1] w fun e w' => e = .returned (.int .i64 (1 + 3 * (n : Int))) ∧ RulBlk w' g (mkR n) n ∧ ButG g w w' := by
  have hnI : (n : Int) ≤ 1048576 := by omega
  go_enter Try.func71, Try.ntmps71
  go_wp2
  go_loopw [1, 5] (fun p i wr => ∃ j : Nat, j ≤ n ∧ i = .int .i64 j ∧ p = .int .i64 (1 + 3 * (j : Int)) ∧ RulBlk wr g (mkR n) j ∧ ButG g w wr) (fun _ i _ => n - (intOf i).toNat)
  case atStart => exact ⟨0, Nat.zero_le _, rfl, by simp, hB, ButG.refl _ _⟩
  case round =>
    clear hB
    obtain ⟨j, hj, rfl, rfl, h, hO⟩ := hrel
    by_cases hlt : j < n
    · have hjI : (j : Int) < (n : Int) := by omega
      have hj0 : (0 : Int) ≤ (j : Int) := by omega
      have f0 := h.frozen (j * 3)
      have f1 := h.frozen (j * 3 + 1)
      have f2 := h.frozen (j * 3 + 2)
      obtain ⟨v0, t0⟩ := h.there (i := j * 3) (by rw [mkR_len]; omega)
      obtain ⟨v1, t1⟩ := h.there (i := j * 3 + 1) (by rw [mkR_len]; omega)
      obtain ⟨v2, t2⟩ := h.there (i := j * 3 + 2) (by rw [mkR_len]; omega)
      have h' := h.set_ (k := j) (by rw [mkR_len]; exact hlt)
      rw [mkR_at hlt] at h'
      have hO' := ((hO.set_ (j * 3) (.int .i64 (1 + 3 * (j : Int)))).set_ (j * 3 + 1) (.int .i64 (1 + 3 * (j : Int) + 1))).set_ (j * 3 + 2) (.int .i64 (1 + 3 * (j : Int) + 1 + 1))
      clear h hO
      go_wp2
      go_roundw
      case rel => exact ⟨j + 1, by omega, by go_num, by first | go_num | (congr 1; omega), h', hO'⟩
      case measure => simp [intOf]; omega
    · obtain rfl : j = n := by omega
      go_wp2
      go_ret
      exact ⟨rfl, h, hO⟩
set_option maxRecDepth 100000 in
set_option maxHeartbeats 1600000 in
theorem heldR_any (A : Option Addr) (n c B : Nat) (w : World) (h : Own5 w B A (mkR n)) (hn : n ≤ 1048576) :
    Calls Try.prog 77 #[.slice A n c, .int .i64 1] w fun e w' => e = .returned (.int .i64 (1 + 3 * (n : Int))) ∧ w = w' := by
  have hnI : (n : Int) ≤ 1048576 := by omega
  go_enter Try.func77, Try.ntmps77
  go_wp2
  go_loop [1, 5] (fun q i => ∃ j : Nat, j ≤ n ∧ i = .int .i64 j ∧ q = .int .i64 (1 + 3 * (j : Int))) (fun _ i => n - (intOf i).toNat)
  case atStart => exact ⟨0, Nat.zero_le _, rfl, by simp⟩
  case round =>
    obtain ⟨j, hj, rfl, rfl⟩ := hrel
    by_cases hlt : j < n
    · have hjI : (j : Int) < (n : Int) := by omega
      have hj0 : (0 : Int) ≤ (j : Int) := by omega
      obtain ⟨g, rfl, hg, hB⟩ := h (by rw [mkR_len]; omega)
      rw [mkR_len] at hB
      obtain ⟨t0, t1, t2⟩ := hB.at_ (i := j) hlt (by rw [mkR_len]; exact hlt)
      rw [mkR_at hlt] at t0 t1 t2
      go_wp2
      go_round
      case rel => exact ⟨j + 1, by omega, by go_num, by first | go_num | (congr 1; omega)⟩
      case measure => simp [intOf]; omega
    · obtain rfl : j = n := by omega
      go_wp2
      go_ret
      exact ⟨rfl, rfl⟩
theorem heldPress_opt (m : Int) (A : Option Addr) (n c B : Nat) (w : World) (h : Own5 w B A (mkR n)) (hn : n ≤ 1048576) :
    Calls Try.prog 36 #[.agg #[.int .i64 m, .slice A n c], .int .i64 1] w fun e w' => e = .returned (.int .i64 (1 + 3 * (n : Int))) ∧ Below w.heap.size w w' := by
  have hx : Below w.heap.size w (w.alloc (.cells #[.int .i64 m, .slice A n c] 29)) := by (repeat (first | assumption | exact Below.refl _ _ | (refine bl_alloc ?_ _) | (refine Below.drew ?_) | (refine bl_drewN ?_ _) | (refine bl_set ?_ (by first | (simp; done) | omega | (simp; omega)) _) | (refine bl_trans ?_ (by assumption)) | (refine bl_step ?_ (by assumption) (by first | omega | exact Below.size (by assumption) | (simp; omega) | (simp; exact Below.size (by assumption))))))
  have ch := Lib.hid (heldR_any A n c B _ (h.to hx) hn)
  have hz : ¬ (1 + 3 * (n : Int)) < 0 := by omega
  go_enter Try.func36, Try.ntmps36
  go_wp2_with fail
  refine ch.out.mono ?_
  rintro e w1 ⟨rfl, rfl⟩
  go_wp2
  go_ret
  exact ⟨rfl, hx⟩
/-- Marked: only one block, from B on, has turned. -/
theorem markPress_opt (m : Int) (A : Option Addr) (L : List R3) (c B : Nat) (w : World) (h : Own5 w B A L) (hn : L.length ≤ 1048576) :
    Calls Try.prog 30 #[.agg #[.int .i64 m, .slice A L.length c], .int .i64 1] w fun e w' => e = .returned (.int .i64 (1 + 3 * (L.length : Int))) ∧ Own5 w' B A (mkR L.length) ∧ ∃ g, (g = w.heap.size ∨ (0 < L.length ∧ A = some ⟨g, 0, none⟩)) ∧ ButG g w w' := by
  have hx : Below w.heap.size w (w.alloc (.cells #[.int .i64 m, .slice A L.length c] 29)) := by (repeat (first | assumption | exact Below.refl _ _ | (refine bl_alloc ?_ _) | (refine Below.drew ?_) | (refine bl_drewN ?_ _) | (refine bl_set ?_ (by first | (simp; done) | omega | (simp; omega)) _) | (refine bl_trans ?_ (by assumption)) | (refine bl_step ?_ (by assumption) (by first | omega | exact Below.size (by assumption) | (simp; omega) | (simp; exact Below.size (by assumption))))))
  by_cases h0 : 0 < L.length
  · obtain ⟨g, rfl, hg, hP⟩ := h h0
    have cm := Lib.hid (markR_any g L.length c _ ((hP.to hx).zero (mkR_len L.length)) hn)
    obtain ⟨n, hLn⟩ : ∃ n, L.length = n := ⟨_, rfl⟩
    rw [hLn] at cm hx h0 ⊢
    have hn0 := h0
    clear h hP h0
    go_enter Try.func30, Try.ntmps30
    go_wp2_with fail
    refine cm.out.mono ?_
    rintro e w1 ⟨rfl, hR, hO⟩
    go_wp2
    go_ret
    exact ⟨rfl, fun _ => ⟨g, rfl, hg, by rw [mkR_len]; exact hR⟩, g, .inr ⟨hn0, rfl⟩, (ButG.of hx).trans hO⟩
  · have hz : L.length = 0 := by omega
    have hm : Hid (mkR L.length = []) := by show _ = _; rw [hz]; rfl
    rw [hm.out]
    rw [hz] at hx ⊢
    clear h h0 hn hz hm
    have cm : Hid (Calls Try.prog 71 #[.slice A 0 c, .int .i64 1] (w.alloc (.cells #[.int .i64 m, .slice A 0 c] 29)) fun e w' => e = .returned (.int .i64 1) ∧ (w.alloc (.cells #[.int .i64 m, .slice A 0 c] 29)) = w') := by
      show Calls _ _ _ _ _
      go_enter Try.func71, Try.ntmps71
      go_wp2
      go_loop [1, 5] (fun q i => q = .int .i64 1 ∧ i = .int .i64 0) (fun _ _ => 0)
      case atStart => exact ⟨rfl, rfl⟩
      case round =>
        obtain ⟨rfl, rfl⟩ := hrel
        go_wp2
        go_ret
        exact ⟨rfl, rfl⟩
    go_enter Try.func30, Try.ntmps30
    go_wp2_with fail
    refine cm.out.mono ?_
    rintro e w1 ⟨rfl, rfl⟩
    go_wp2
    go_ret
    exact ⟨rfl, Own5.none_ _ _ _, w.heap.size, .inl rfl, ButG.of hx⟩
theorem ShpBlk.pl {w : World} {g k : Nat} {rs : List R4} (h : ShpBlk w g rs k) : PlG w g (rs.length * 4) 78 := by
  obtain ⟨cs, h0, h1, _⟩ := h
  exact ⟨cs, h0, h1⟩
set_option maxRecDepth 100000 in
set_option maxHeartbeats 1600000 in
theorem markShapes_any (g n c : Nat) (q : Int) (w : World) (h : PlG w g (n * 4) 78) (hn : n ≤ 1048576) (hq0 : 0 ≤ q) (hq : q ≤ 1000000000000000) :
    Calls Try.prog 35 #[.slice (some ⟨g, 0, none⟩) n c, .int .i64 q] w fun e w' => e = .returned (.int .i64 (q + 4 * (n : Int))) ∧ ButG g w w' := by
  have hnI : (n : Int) ≤ 1048576 := by omega
  go_enter Try.func35, Try.ntmps35
  go_wp2
  go_loopw [1, 5] (fun p i wr => ∃ j : Nat, j ≤ n ∧ i = .int .i64 j ∧ p = .int .i64 (q + 4 * (j : Int)) ∧ PlG wr g (n * 4) 78 ∧ ButG g w wr) (fun _ i _ => n - (intOf i).toNat)
  case atStart => exact ⟨0, Nat.zero_le _, rfl, by simp, h, ButG.refl _ _⟩
  case round =>
    clear h
    obtain ⟨j, hj, rfl, rfl, h, hO⟩ := hrel
    by_cases hlt : j < n
    · have hjI : (j : Int) < (n : Int) := by omega
      have hj0 : (0 : Int) ≤ (j : Int) := by omega
      have f0 := h.frozen (j * 4)
      have f1 := h.frozen (j * 4 + 1)
      have f2 := h.frozen (j * 4 + 2)
      have f3 := h.frozen (j * 4 + 3)
      obtain ⟨v0, t0⟩ := h.there (i := j * 4) (by omega)
      obtain ⟨v1, t1⟩ := h.there (i := j * 4 + 1) (by omega)
      obtain ⟨v2, t2⟩ := h.there (i := j * 4 + 2) (by omega)
      obtain ⟨v3, t3⟩ := h.there (i := j * 4 + 3) (by omega)
      have h' := (((h.set_ (j * 4) (.int .i64 (q + 4 * (j : Int)))).set_ (j * 4 + 1) (.int .i64 (q + 4 * (j : Int) + 1))).set_ (j * 4 + 2) (.int .i64 (q + 4 * (j : Int) + 1 + 1))).set_ (j * 4 + 3) (.int .i64 (q + 4 * (j : Int) + 1 + 1 + 1))
      have hO' := (((hO.set_ (j * 4) (.int .i64 (q + 4 * (j : Int)))).set_ (j * 4 + 1) (.int .i64 (q + 4 * (j : Int) + 1))).set_ (j * 4 + 2) (.int .i64 (q + 4 * (j : Int) + 1 + 1))).set_ (j * 4 + 3) (.int .i64 (q + 4 * (j : Int) + 1 + 1 + 1))
      clear h hO
      go_wp2
      go_roundw
      case rel => exact ⟨j + 1, by omega, by go_num, by first | go_num | (congr 1; omega), h', hO'⟩
      case measure => simp [intOf]; omega
    · obtain rfl : j = n := by omega
      go_wp2
      go_ret
      exact ⟨rfl, hO⟩
end Go.Proofs.Ytgpcfkegbcpkpaa
