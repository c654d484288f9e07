/-
  Slices of numbers and channels that a call made: marked from any number on, and found marked.
-/
import Derived.Test.YtpcilpcinbamcaaDoorMarkI
import Derived.Test.YtpcilpcinbamcaaDoorChanE
namespace Go.Proofs.YtpcilpcinbamcaaDoor
set_option linter.unusedSimpArgs false
set_option linter.unusedVariables false
open Go.ChangeShapes Go.WideShapes Go.ChangeAt Go.RowKit

/-- The marks from k on. -/
def mkK (k : Int) (n : Nat) : List Int := (List.range n).map fun i : Nat => k + (i : Int)
theorem mkK_len (k : Int) (n : Nat) : (mkK k n).length = n := by simp [mkK]
theorem mkK_at {k : Int} {n i : Nat} (h : i < n) : (mkK k n).getD i 0 = k + (i : Int) := by
  simp [mkK, List.getD_eq_getElem?_getD, h]
theorem NBlk.i {w : World} {g : Nat} {L : List Int} (h : NBlk w g L L.length) : IBlk w g L L.length := by
  obtain ⟨cs, h0, h1, h2⟩ := h
  exact ⟨cs, h0, by omega, h2⟩
set_option maxRecDepth 100000 in
set_option maxHeartbeats 800000 in
theorem markK_any (g : Nat) (L : List Int) (c : Nat) (k : Int) (w : World) (h : IBlk w g L L.length) (hn : L.length ≤ 1048576) (hk0 : 0 ≤ k) (hk1 : k ≤ 2000000) :
    Calls Tryd.prog 20 #[.slice (some ⟨g, 0, none⟩) L.length c, .int .i64 k] w fun e w' => e = .returned (.int .i64 (k + (L.length : Int))) ∧ IBlk w' g (mkK k L.length) L.length ∧ OnlyN (some ⟨g, 0, none⟩) w w' := by
  have hB := h.zero (mkK_len k L.length)
  have hnI : (L.length : Int) ≤ 1048576 := by omega
  obtain ⟨n, hLn⟩ : ∃ n, L.length = n := ⟨_, rfl⟩
  rw [hLn] at hB hnI hn ⊢
  clear h hLn
  go_enter Tryd.func20, Tryd.ntmps20
  go_wp2
  go_loopw [1, 5] (fun q i wr => ∃ j : Nat, j ≤ n ∧ i = .int .i64 j ∧ q = .int .i64 (k + (j : Int)) ∧ IBlk wr g (mkK k n) j ∧ OnlyN (some ⟨g, 0, none⟩) w wr) (fun _ i _ => n - (intOf i).toNat)
  case atStart => exact ⟨0, Nat.zero_le _, rfl, by simp, hB, OnlyN.refl _ _⟩
  case round =>
    obtain ⟨j, hj, rfl, rfl, hP, hO⟩ := hrel
    by_cases hlt : j < n
    · have hjI : (j : Int) < (n : Int) := by omega
      have hj0 : (0 : Int) ≤ (j : Int) := by omega
      have f0 := hP.frozen j
      obtain ⟨v0, t0⟩ := hP.there (i := j) (by rw [mkK_len]; omega)
      have HS := hP.set_ (k := j) (by rw [mkK_len]; exact hlt)
      rw [mkK_at hlt] at HS
      have HO := hO.set_ j (.int .i64 (k + (j : Int)))
      go_wp2
      go_roundw
      case rel => exact ⟨j + 1, by omega, by go_num, by congr 1; omega, HS, HO⟩
      case measure => simp [intOf]; omega
    · obtain rfl : j = n := by omega
      go_wp2
      go_ret
      exact ⟨rfl, hP, hO⟩
set_option maxRecDepth 100000 in
set_option maxHeartbeats 800000 in
theorem heldK_any (g n c : Nat) (k : Int) (w : World) (h : IBlk w g (mkK k n) n) (hn : n ≤ 1048576) (hk0 : 0 ≤ k) (hk1 : k ≤ 2000000) :
    Calls Tryd.prog 21 #[.slice (some ⟨g, 0, none⟩) n c, .int .i64 k] w fun e w' => e = .returned (.int .i64 (k + (n : Int))) ∧ w' = w := by
  have hnI : (n : Int) ≤ 1048576 := by omega
  go_enter Tryd.func21, Tryd.ntmps21
  go_wp2
  go_loop [1, 5] (fun q i => ∃ j : Nat, j ≤ n ∧ i = .int .i64 j ∧ q = .int .i64 (k + (j : Int))) (fun _ i => n - (intOf i).toNat)
  case atStart => exact ⟨0, Nat.zero_le _, rfl, by simp⟩
  case round =>
    obtain ⟨j, hj, rfl, rfl⟩ := hrel
    by_cases hlt : j < n
    · have hjI : (j : Int) < (n : Int) := by omega
      have hj0 : (0 : Int) ≤ (j : Int) := by omega
      have t0 := h.at_ (i := j) hlt (by rw [mkK_len]; exact hlt)
      rw [mkK_at hlt] at t0
      go_wp2
      go_round
      case rel => exact ⟨j + 1, by omega, by go_num, by congr 1; omega⟩
      case measure => simp [intOf]; omega
    · obtain rfl : j = n := by omega
      go_wp2
      go_ret
      exact ⟨rfl, rfl⟩
/-- Of an empty slice: nothing is marked, nothing is held. -/
theorem mark0 (k : Int) (w : World) : Calls Tryd.prog 20 #[.slice none 0 0, .int .i64 k] w fun e w' => e = .returned (.int .i64 k) ∧ w' = w := by
  go_enter Tryd.func20, Tryd.ntmps20
  go_wp2
  go_loop [1, 5] (fun q i => q = .int .i64 k ∧ i = .int .i64 0) (fun _ _ => 0)
  case atStart => exact ⟨rfl, rfl⟩
  case round =>
    obtain ⟨rfl, rfl⟩ := hrel
    go_wp2
    go_ret
    exact ⟨rfl, rfl⟩
theorem held0 (k : Int) (w : World) : Calls Tryd.prog 21 #[.slice none 0 0, .int .i64 k] w fun e w' => e = .returned (.int .i64 k) ∧ w' = w := by
  go_enter Tryd.func21, Tryd.ntmps21
  go_wp2
  go_loop [1, 5] (fun q i => q = .int .i64 k ∧ i = .int .i64 0) (fun _ _ => 0)
  case atStart => exact ⟨rfl, rfl⟩
  case round =>
    obtain ⟨rfl, rfl⟩ := hrel
    go_wp2
    go_ret
    exact ⟨rfl, rfl⟩

/-- Two blocks alone may have turned. -/
def Only2 (g g' : Nat) (w w' : World) : Prop := w'.os = w.os ∧ w'.tape = w.tape ∧ w'.output = w.output ∧ w'.heap.size = w.heap.size ∧ ∀ i, i ≠ g → i ≠ g' → w'.heap[i]? = w.heap[i]?
theorem Only2.of {g g' : Nat} {w w1 w2 : World} (h : OnlyN (some ⟨g, 0, none⟩) w w1) (h' : OnlyN (some ⟨g', 0, none⟩) w1 w2) : Only2 g g' w w2 :=
  ⟨h'.1.trans h.1, h'.2.1.trans h.2.1, h'.2.2.1.trans h.2.2.1, h'.2.2.2.1.trans h.2.2.2.1, fun i hi hi' => (h'.2.2.2.2 i (fun e => hi' (by injection e with e; injection e with e; exact e.symm))).trans (h.2.2.2.2 i (fun e => hi (by injection e with e; injection e with e; exact e.symm)))⟩
theorem Only2.below {g g' B : Nat} {w w' a : World} (h : Only2 g g' w w') (hb : Below B a w) (hB : B ≤ g) (hB' : B ≤ g') : Below B a w' :=
  ⟨h.1.trans hb.os, h.2.1.trans hb.tape, h.2.2.1.trans hb.output, by rw [h.2.2.2.1]; exact hb.size, fun k hk => (h.2.2.2.2 k (by omega) (by omega)).trans (hb.block k hk)⟩

set_option maxRecDepth 100000 in
set_option maxHeartbeats 800000 in
theorem markCh_any (g g' : Nat) (T B : List Int) (c c' : Nat) (w : World) (h : IBlk w g T T.length) (h' : IBlk w g' B B.length) (hne : g ≠ g') (hn : T.length + B.length ≤ 1048576) :
    Calls Tryd.prog 10 #[.agg #[.slice (some ⟨g, 0, none⟩) T.length c, .slice (some ⟨g', 0, none⟩) B.length c'], .int .i64 1] w fun e w' =>
      e = .returned (.int .i64 (1 + (T.length : Int) + (B.length : Int))) ∧ IBlk w' g (mkK 1 T.length) T.length ∧ IBlk w' g' (mkK (1 + (T.length : Int)) B.length) B.length ∧
      (∀ M a, Below M a w → M ≤ g → M ≤ g' → M ≤ w.heap.size → Below M a w') ∧ (∀ i, i < w.heap.size → i ≠ g → i ≠ g' → w'.heap[i]? = w.heap[i]?) ∧ w.heap.size ≤ w'.heap.size := by
  have hb0 : Below w.heap.size w (w.alloc (.cells #[.slice (some ⟨g, 0, none⟩) T.length c, .slice (some ⟨g', 0, none⟩) B.length c'] 29)) := by (repeat (first | assumption | exact Below.refl _ _ | (refine bl_alloc ?_ _) | (refine Below.drew ?_) | (refine bl_drewN ?_ _) | (refine bl_set ?_ (by first | (simp; done) | omega | (simp; omega)) _) | (refine bl_trans ?_ (by assumption)) | (refine bl_step ?_ (by assumption) (by first | omega | exact Below.size (by assumption) | (simp; omega) | (simp; exact Below.size (by assumption))))))
  have hx := ChAt.new w (some ⟨g, 0, none⟩) (some ⟨g', 0, none⟩) T.length B.length c c' 29
  have z1 := h.lt
  have z2 := h'.lt
  have p1 := h.to hb0
  have p2 := h'.to hb0
  have hz0 : (w.alloc (.cells #[.slice (some ⟨g, 0, none⟩) T.length c, .slice (some ⟨g', 0, none⟩) B.length c'] 29)).heap.size = w.heap.size + 1 := by simp
  go_enter Tryd.func10, Tryd.ntmps10
  go_wp2_with fail
  refine (markK_any g T c 1 _ p1 (by omega) (by omega) (by omega)).mono ?_
  rintro e w1 ⟨rfl, m1, o1⟩
  have e1 := hx.keep (w1 := w1) (o1.2.2.2.2 _ (fun e => by injection e with e; injection e with e; omega)) (Nat.le_of_eq o1.2.2.2.1.symm)
  have q2 := p2.keep (w' := w1) (o1.2.2.2.2 g' (fun e => by injection e with e; injection e with e; exact hne e))
  obtain ⟨_, e0, e1⟩ := e1
  clear hx p1 p2
  go_wp2_with fail
  refine (markK_any g' B c' (1 + (T.length : Int)) _ q2 (by omega) (by omega) (by omega)).mono ?_
  rintro e w2 ⟨rfl, m2, o2⟩
  have m1' := m1.keep (w' := w2) (o2.2.2.2.2 g (fun e => by injection e with e; injection e with e; exact hne e.symm))
  have HO := Lib.hid (Only2.of o1 o2)
  clear o1 o2 m1 q2 e0 e1
  go_wp2
  go_ret
  exact ⟨rfl, m1', m2, fun M a hM h1 h2 h3 => HO.out.below (hM.trans (hb0.mono h3)) h1 h2, fun i h1 h2 h3 => (HO.out.2.2.2.2 i h2 h3).trans (hb0.block i h1), by rw [HO.out.2.2.2.1]; exact hb0.size⟩
theorem markCh0 (w : World) :
    Calls Tryd.prog 10 #[.agg #[.slice none 0 0, .slice none 0 0], .int .i64 1] w fun e w' => e = .returned (.int .i64 1) ∧ Below w.heap.size w w' := by
  go_enter Tryd.func10, Tryd.ntmps10
  go_wp2_with (go_at_call 20; refine (mark0 1 _).mono ?_; rintro e w' ⟨rfl, rfl⟩)
  go_ret
  exact ⟨rfl, by (repeat (first | assumption | exact Below.refl _ _ | (refine bl_alloc ?_ _) | (refine Below.drew ?_) | (refine bl_drewN ?_ _) | (refine bl_set ?_ (by first | (simp; done) | omega | (simp; omega)) _) | (refine bl_trans ?_ (by assumption)) | (refine bl_step ?_ (by assumption) (by first | omega | exact Below.size (by assumption) | (simp; omega) | (simp; exact Below.size (by assumption))))))⟩
end Go.Proofs.YtpcilpcinbamcaaDoor
