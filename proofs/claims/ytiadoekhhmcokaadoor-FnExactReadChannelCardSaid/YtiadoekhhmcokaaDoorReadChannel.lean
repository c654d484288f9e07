/-
  Proved: for every text, the program's ReadChannel answers as the model's, and its answer owns its memory (the row's six variables laid). No condition beyond them.
-/
import Derived.Test.YtiadoekhhmcokaaDoorReadCh
namespace Go.Proofs.YtiadoekhhmcokaaDoor
set_option linter.unusedSimpArgs false
set_option linter.unusedVariables false
open Go.ChangeShapes Go.WideShapes Go.ChangeAt Go.RowKit

/-- The marks from k on. -/
def mkK (k : Int) (n : Nat) : List Int := (List.range n).map fun i : Nat => k + (i : Int)
theorem mkK_len (k : Int) (n : Nat) : (mkK k n).length = n := by simp [mkK]
theorem mkK_at {k : Int} {n i : Nat} (h : i < n) : (mkK k n).getD i 0 = k + (i : Int) := by
  simp [mkK, List.getD_eq_getElem?_getD, h]
set_option maxRecDepth 100000 in
set_option maxHeartbeats 800000 in
theorem markK_any (g : Nat) (L : List Int) (c : Nat) (k : Int) (w : World) (h : IBlk w g L L.length) (hn : L.length ≤ 1048576) (hk0 : 0 ≤ k) (hk1 : k ≤ 1048576) :
    Calls Tryd.prog 26 #[.slice (some ⟨g, 0, none⟩) L.length c, .int .i64 k] w fun e w' => e = .returned (.int .i64 (k + (L.length : Int))) ∧ IBlk w' g (mkK k L.length) L.length ∧ OnlyN (some ⟨g, 0, none⟩) w w' := by
  have hB := h.zero (mkK_len k L.length)
  have hnI : (L.length : Int) ≤ 1048576 := by omega
  obtain ⟨n, hLn⟩ : ∃ n, L.length = n := ⟨_, rfl⟩
  rw [hLn] at hB hnI hn ⊢
  clear h hLn
  go_enter Tryd.func26, Tryd.ntmps26
  go_wp2
  go_loopw [1, 5] (fun q i wr => ∃ j : Nat, j ≤ n ∧ i = .int .i64 j ∧ q = .int .i64 (k + (j : Int)) ∧ IBlk wr g (mkK k n) j ∧ OnlyN (some ⟨g, 0, none⟩) w wr) (fun _ i _ => n - (intOf i).toNat)
  case atStart => exact ⟨0, Nat.zero_le _, rfl, by simp, hB, OnlyN.refl _ _⟩
  case round =>
    obtain ⟨j, hj, rfl, rfl, hP, hO⟩ := hrel
    by_cases hlt : j < n
    · have hjI : (j : Int) < (n : Int) := by omega
      have hj0 : (0 : Int) ≤ (j : Int) := by omega
      have f0 := hP.frozen j
      obtain ⟨v0, t0⟩ := hP.there (i := j) (by rw [mkK_len]; omega)
      have HS := hP.set_ (k := j) (by rw [mkK_len]; exact hlt)
      rw [mkK_at hlt] at HS
      have HO := hO.set_ j (.int .i64 (k + (j : Int)))
      go_wp2
      go_roundw
      case rel => exact ⟨j + 1, by omega, by go_num, by congr 1; omega, HS, HO⟩
      case measure => simp [intOf]; omega
    · obtain rfl : j = n := by omega
      go_wp2
      go_ret
      exact ⟨rfl, hP, hO⟩
set_option maxRecDepth 100000 in
set_option maxHeartbeats 800000 in
theorem heldK_any (g n c : Nat) (k : Int) (w : World) (h : IBlk w g (mkK k n) n) (hn : n ≤ 1048576) (hk0 : 0 ≤ k) (hk1 : k ≤ 1048576) :
    Calls Tryd.prog 27 #[.slice (some ⟨g, 0, none⟩) n c, .int .i64 k] w fun e w' => e = .returned (.int .i64 (k + (n : Int))) ∧ w' = w := by
  have hnI : (n : Int) ≤ 1048576 := by omega
  go_enter Tryd.func27, Tryd.ntmps27
  go_wp2
  go_loop [1, 5] (fun q i => ∃ j : Nat, j ≤ n ∧ i = .int .i64 j ∧ q = .int .i64 (k + (j : Int))) (fun _ i => n - (intOf i).toNat)
  case atStart => exact ⟨0, Nat.zero_le _, rfl, by simp⟩
  case round =>
    obtain ⟨j, hj, rfl, rfl⟩ := hrel
    by_cases hlt : j < n
    · have hjI : (j : Int) < (n : Int) := by omega
      have hj0 : (0 : Int) ≤ (j : Int) := by omega
      have t0 := h.at_ (i := j) hlt (by rw [mkK_len]; exact hlt)
      rw [mkK_at hlt] at t0
      go_wp2
      go_round
      case rel => exact ⟨j + 1, by omega, by go_num, by congr 1; omega⟩
      case measure => simp [intOf]; omega
    · obtain rfl : j = n := by omega
      go_wp2
      go_ret
      exact ⟨rfl, rfl⟩
/-- Of an empty slice: nothing is marked, nothing is held. -/
theorem mark0 (k : Int) (w : World) : Calls Tryd.prog 26 #[.slice none 0 0, .int .i64 k] w fun e w' => e = .returned (.int .i64 k) ∧ w' = w := by
  go_enter Tryd.func26, Tryd.ntmps26
  go_wp2
  go_loop [1, 5] (fun q i => q = .int .i64 k ∧ i = .int .i64 0) (fun _ _ => 0)
  case atStart => exact ⟨rfl, rfl⟩
  case round =>
    obtain ⟨rfl, rfl⟩ := hrel
    go_wp2
    go_ret
    exact ⟨rfl, rfl⟩
theorem held0 (k : Int) (w : World) : Calls Tryd.prog 27 #[.slice none 0 0, .int .i64 k] w fun e w' => e = .returned (.int .i64 k) ∧ w' = w := by
  go_enter Tryd.func27, Tryd.ntmps27
  go_wp2
  go_loop [1, 5] (fun q i => q = .int .i64 k ∧ i = .int .i64 0) (fun _ _ => 0)
  case atStart => exact ⟨rfl, rfl⟩
  case round =>
    obtain ⟨rfl, rfl⟩ := hrel
    go_wp2
    go_ret
    exact ⟨rfl, rfl⟩

/-- Two blocks alone may have turned. -/
def Only2 (g g' : Nat) (w w' : World) : Prop := w'.os = w.os ∧ w'.tape = w.tape ∧ w'.output = w.output ∧ w'.heap.size = w.heap.size ∧ ∀ i, i ≠ g → i ≠ g' → w'.heap[i]? = w.heap[i]?
theorem Only2.of {g g' : Nat} {w w1 w2 : World} (h : OnlyN (some ⟨g, 0, none⟩) w w1) (h' : OnlyN (some ⟨g', 0, none⟩) w1 w2) : Only2 g g' w w2 :=
  ⟨h'.1.trans h.1, h'.2.1.trans h.2.1, h'.2.2.1.trans h.2.2.1, h'.2.2.2.1.trans h.2.2.2.1, fun i hi hi' => (h'.2.2.2.2 i (fun e => hi' (by injection e with e; injection e with e; exact e.symm))).trans (h.2.2.2.2 i (fun e => hi (by injection e with e; injection e with e; exact e.symm)))⟩
theorem Only2.below {g g' B : Nat} {w w' a : World} (h : Only2 g g' w w') (hb : Below B a w) (hB : B ≤ g) (hB' : B ≤ g') : Below B a w' :=
  ⟨h.1.trans hb.os, h.2.1.trans hb.tape, h.2.2.1.trans hb.output, by rw [h.2.2.2.1]; exact hb.size, fun k hk => (h.2.2.2.2 k (by omega) (by omega)).trans (hb.block k hk)⟩

set_option maxRecDepth 100000 in
set_option maxHeartbeats 800000 in
theorem markCh_any (g g' : Nat) (T B : List Int) (c c' : Nat) (w : World) (h : IBlk w g T T.length) (h' : IBlk w g' B B.length) (hne : g ≠ g') (hn : T.length ≤ 60) (hn' : B.length ≤ 60) :
    Calls Tryd.prog 25 #[.agg #[.slice (some ⟨g, 0, none⟩) T.length c, .slice (some ⟨g', 0, none⟩) B.length c'], .int .i64 1] w fun e w' =>
      e = .returned (.int .i64 (1 + (T.length : Int) + (B.length : Int))) ∧ IBlk w' g (mkK 1 T.length) T.length ∧ IBlk w' g' (mkK (1 + (T.length : Int)) B.length) B.length ∧
      (∀ M a, Below M a w → M ≤ g → M ≤ g' → M ≤ w.heap.size → Below M a w') ∧ (∀ i, i < w.heap.size → i ≠ g → i ≠ g' → w'.heap[i]? = w.heap[i]?) ∧ w.heap.size ≤ w'.heap.size := by
  have hb0 : Below w.heap.size w (w.alloc (.cells #[.slice (some ⟨g, 0, none⟩) T.length c, .slice (some ⟨g', 0, none⟩) B.length c'] 34)) := by (repeat (first | assumption | exact Below.refl _ _ | (refine bl_alloc ?_ _) | (refine Below.drew ?_) | (refine bl_drewN ?_ _) | (refine bl_set ?_ (by first | (simp; done) | omega | (simp; omega)) _) | (refine bl_trans ?_ (by assumption)) | (refine bl_step ?_ (by assumption) (by first | omega | exact Below.size (by assumption) | (simp; omega) | (simp; exact Below.size (by assumption))))))
  have hx := ChAt.new w (some ⟨g, 0, none⟩) (some ⟨g', 0, none⟩) T.length B.length c c' 34
  have z1 := h.lt
  have z2 := h'.lt
  have p1 := h.to hb0
  have p2 := h'.to hb0
  have hz0 : (w.alloc (.cells #[.slice (some ⟨g, 0, none⟩) T.length c, .slice (some ⟨g', 0, none⟩) B.length c'] 34)).heap.size = w.heap.size + 1 := by simp
  go_enter Tryd.func25, Tryd.ntmps25
  go_wp2_with fail
  refine (markK_any g T c 1 _ p1 (by omega) (by omega) (by omega)).mono ?_
  rintro e w1 ⟨rfl, m1, o1⟩
  have e1 := hx.keep (w1 := w1) (o1.2.2.2.2 _ (fun e => by injection e with e; injection e with e; omega)) (Nat.le_of_eq o1.2.2.2.1.symm)
  have q2 := p2.keep (w' := w1) (o1.2.2.2.2 g' (fun e => by injection e with e; injection e with e; exact hne e))
  obtain ⟨_, e0, e1⟩ := e1
  clear hx p1 p2
  go_wp2_with fail
  refine (markK_any g' B c' (1 + (T.length : Int)) _ q2 (by omega) (by omega) (by omega)).mono ?_
  rintro e w2 ⟨rfl, m2, o2⟩
  have m1' := m1.keep (w' := w2) (o2.2.2.2.2 g (fun e => by injection e with e; injection e with e; exact hne e.symm))
  have HO := Lib.hid (Only2.of o1 o2)
  clear o1 o2 m1 q2 e0 e1
  go_wp2
  go_ret
  exact ⟨rfl, m1', m2, fun M a hM h1 h2 h3 => HO.out.below (hM.trans (hb0.mono h3)) h1 h2, fun i h1 h2 h3 => (HO.out.2.2.2.2 i h2 h3).trans (hb0.block i h1), by rw [HO.out.2.2.2.1]; exact hb0.size⟩
set_option maxRecDepth 100000 in
set_option maxHeartbeats 800000 in
theorem heldCh_any (g g' n n' c c' : Nat) (w : World) (h : IBlk w g (mkK 1 n) n) (h' : IBlk w g' (mkK (1 + (n : Int)) n') n') (hn : n ≤ 60) (hn' : n' ≤ 60) :
    Calls Tryd.prog 51 #[.agg #[.slice (some ⟨g, 0, none⟩) n c, .slice (some ⟨g', 0, none⟩) n' c'], .int .i64 1] w fun e w' =>
      e = .returned (.int .i64 (1 + (n : Int) + (n' : Int))) ∧ Below w.heap.size w w' := by
  have hb0 : Below w.heap.size w (w.alloc (.cells #[.slice (some ⟨g, 0, none⟩) n c, .slice (some ⟨g', 0, none⟩) n' c'] 34)) := by (repeat (first | assumption | exact Below.refl _ _ | (refine bl_alloc ?_ _) | (refine Below.drew ?_) | (refine bl_drewN ?_ _) | (refine bl_set ?_ (by first | (simp; done) | omega | (simp; omega)) _) | (refine bl_trans ?_ (by assumption)) | (refine bl_step ?_ (by assumption) (by first | omega | exact Below.size (by assumption) | (simp; omega) | (simp; exact Below.size (by assumption))))))
  have p1 := h.to hb0
  have p2 := h'.to hb0
  have t1 : ¬ (1 + (n : Int)) < 0 := by omega
  have t2 : ¬ (1 + (n : Int) + (n' : Int)) < 0 := by omega
  go_enter Tryd.func51, Tryd.ntmps51
  go_wp2_with fail
  refine (heldK_any g n c 1 _ p1 (by omega) (by omega) (by omega)).mono ?_
  rintro e w1 ⟨rfl, rfl⟩
  go_wp2_with fail
  refine (heldK_any g' n' c' (1 + (n : Int)) _ p2 (by omega) (by omega) (by omega)).mono ?_
  rintro e w2 ⟨rfl, rfl⟩
  go_wp2
  go_ret
  exact ⟨rfl, by (repeat (first | assumption | exact Below.refl _ _ | (refine bl_alloc ?_ _) | (refine Below.drew ?_) | (refine bl_drewN ?_ _) | (refine bl_set ?_ (by first | (simp; done) | omega | (simp; omega)) _) | (refine bl_trans ?_ (by assumption)) | (refine bl_step ?_ (by assumption) (by first | omega | exact Below.size (by assumption) | (simp; omega) | (simp; exact Below.size (by assumption))))))⟩
theorem markCh0 (w : World) :
    Calls Tryd.prog 25 #[.agg #[.slice none 0 0, .slice none 0 0], .int .i64 1] w fun e w' => e = .returned (.int .i64 1) ∧ Below w.heap.size w w' := by
  go_enter Tryd.func25, Tryd.ntmps25
  go_wp2_with (go_at_call 26; refine (mark0 1 _).mono ?_; rintro e w' ⟨rfl, rfl⟩)
  go_ret
  exact ⟨rfl, by (repeat (first | assumption | exact Below.refl _ _ | (refine bl_alloc ?_ _) | (refine Below.drew ?_) | (refine bl_drewN ?_ _) | (refine bl_set ?_ (by first | (simp; done) | omega | (simp; omega)) _) | (refine bl_trans ?_ (by assumption)) | (refine bl_step ?_ (by assumption) (by first | omega | exact Below.size (by assumption) | (simp; omega) | (simp; exact Below.size (by assumption))))))⟩
theorem heldCh0 (w : World) :
    Calls Tryd.prog 51 #[.agg #[.slice none 0 0, .slice none 0 0], .int .i64 1] w fun e w' => e = .returned (.int .i64 1) ∧ Below w.heap.size w w' := by
  go_enter Tryd.func51, Tryd.ntmps51
  go_wp2_with (go_at_call 27; refine (held0 1 _).mono ?_; rintro e w' ⟨rfl, rfl⟩)
  go_ret
  exact ⟨rfl, by (repeat (first | assumption | exact Below.refl _ _ | (refine bl_alloc ?_ _) | (refine Below.drew ?_) | (refine bl_drewN ?_ _) | (refine bl_set ?_ (by first | (simp; done) | omega | (simp; omega)) _) | (refine bl_trans ?_ (by assumption)) | (refine bl_step ?_ (by assumption) (by first | omega | exact Below.size (by assumption) | (simp; omega) | (simp; exact Below.size (by assumption))))))⟩

theorem box2 (w : World) (a b : Value) (t : TypeId) : Below w.heap.size w (w.alloc (.cells #[a, b] t)) := (Below.refl _ _).alloc (Nat.le_refl _) _
theorem ReadChS_any (s : ByteArray) (w : World) (hs : s.size ≤ 1048576) :
    Calls Tryd.prog 49 #[.string s] w (ChRes s w) := by
  have hr := ResC.new w
  have hb0 : Below w.heap.size w (w.alloc (.cells #[.slice none 0 0, .slice none 0 0] 34)) := by (repeat (first | assumption | exact Below.refl _ _ | (refine bl_alloc ?_ _) | (refine Below.drew ?_) | (refine bl_drewN ?_ _) | (refine bl_set ?_ (by first | (simp; done) | omega | (simp; omega)) _) | (refine bl_trans ?_ (by assumption)) | (refine bl_step ?_ (by assumption) (by first | omega | exact Below.size (by assumption) | (simp; omega) | (simp; exact Below.size (by assumption))))))
  go_enter Tryd.func49, Tryd.ntmps49
  go_wp2_with fail
  refine (l03Read_any s _ hs).mono ?_
  rintro e w1 ⟨hb1, ⟨T, B, A, A', c, c', M, hI, rfl, o1, o2⟩ | ⟨hno, rfl⟩⟩
  · have b1 := bl_step hb0 hb1 hb0.size
    obtain ⟨z0, c0, c1, f0, f1⟩ := hr.to hb1
    have HI := Lib.hid hI
    have hm : w.heap.size < M := by
      obtain ⟨p, q, _, _, _, hv⟩ := hI
      obtain ⟨g, e, h1, h2, _⟩ := o1 (by have := chanB_form hv; omega)
      simp at h1; omega
    have o16 := ((o1.mono (B' := w.heap.size + 1) (by simp)).set_ ⟨w.heap.size, 0, none⟩ (.slice A T.length c) (by simp)).set_ ⟨w.heap.size, 1, none⟩ (.slice A' B.length c') (by simp)
    have o26 := (o2.set_ ⟨w.heap.size, 0, none⟩ (.slice A T.length c) hm).set_ ⟨w.heap.size, 1, none⟩ (.slice A' B.length c') hm
    have O16 := Lib.hid o16
    have O26 := Lib.hid o26
    clear o1 o2 o16 o26 hI hr
    go_wp2
    refine bodyPost_ret_by (v := .tuple #[.agg #[.slice A T.length c, .slice A' B.length c'], .bool true]) ?_ rfl ⟨by (repeat (first | assumption | exact Below.refl _ _ | (refine bl_alloc ?_ _) | (refine Below.drew ?_) | (refine bl_drewN ?_ _) | (refine bl_set ?_ (by first | (simp; done) | omega | (simp; omega)) _) | (refine bl_trans ?_ (by assumption)) | (refine bl_step ?_ (by assumption) (by first | omega | exact Below.size (by assumption) | (simp; omega) | (simp; exact Below.size (by assumption)))))), .inl ⟨T, B, A, A', c, c', M, HI.out, rfl, (O16.out).mono (by omega), fun h0 => ?_⟩⟩
    · rw [results_cell_tmp rfl]
      go_simp
    · obtain ⟨g, e, hg, hm, hP⟩ := O26.out h0
      exact ⟨g, e, hg, by have := hP.lt; simpa using this, hP⟩
  · have b1 := bl_step hb0 hb1 hb0.size
    obtain ⟨z0, c0, c1, f0, f1⟩ := hr.to hb1
    have HN := Lib.hid hno
    clear hno hr
    go_wp2
    refine bodyPost_ret_by (v := .tuple #[.agg #[.slice none 0 0, .slice none 0 0], .bool false]) ?_ rfl ⟨by (repeat (first | assumption | exact Below.refl _ _ | (refine bl_alloc ?_ _) | (refine Below.drew ?_) | (refine bl_drewN ?_ _) | (refine bl_set ?_ (by first | (simp; done) | omega | (simp; omega)) _) | (refine bl_trans ?_ (by assumption)) | (refine bl_step ?_ (by assumption) (by first | omega | exact Below.size (by assumption) | (simp; omega) | (simp; exact Below.size (by assumption)))))), .inr ⟨HN.out, rfl⟩⟩
    rw [results_cell_tmp rfl]
    go_simp
end Go.Proofs.YtiadoekhhmcokaaDoor
namespace Go.Proofs.YtiadoekhhmcokaaDoor.fnExactReadChannel
open Go.ChangeShapes Go.WideShapes Go.ChangeAt Go.RowKit

/-- The answer of a text that has a channel. -/
def Yes (T B : List Int) (w : World) (e : Ending) (w' : World) : Prop :=
  ∃ g g' c c', e = .returned (.tuple #[.agg #[.slice (some ⟨g, 0, none⟩) T.length c, .slice (some ⟨g', 0, none⟩) B.length c'], .bool true]) ∧ IBlk w' g T T.length ∧ IBlk w' g' B B.length ∧ g ≠ g' ∧ w.heap.size ≤ g ∧ w.heap.size ≤ g' ∧ Below w.heap.size w w'
theorem yes {s : ByteArray} {T B : List Int} (h : IsCh s T B) {w : World} {e : Ending} {w' : World} (hr : ChRes s w e w') : Yes T B w e w' := by
  obtain ⟨hb, ⟨T', B', A, A', c, c', M, hI, rfl, o1, o2⟩ | ⟨hno, _⟩⟩ := hr
  · obtain ⟨rfl, rfl⟩ := isCh_uniq h hI
    obtain ⟨_, _, _, _, _, hv⟩ := h
    have hf := chanB_form hv
    obtain ⟨g, rfl, h1, h2, hP⟩ := o1 (by omega)
    obtain ⟨g', rfl, h1', h2', hP'⟩ := o2 (by omega)
    exact ⟨g, g', c, c', rfl, hP, hP', by omega, h1, by omega, hb⟩
  · exact absurd h (hno T B)
theorem no {s : ByteArray} (h : ∀ T B, ¬ IsCh s T B) {w : World} {e : Ending} {w' : World} (hr : ChRes s w e w') : e = .returned (.tuple #[.agg #[.slice none 0 0, .slice none 0 0], .bool false]) ∧ Below w.heap.size w w' := by
  obtain ⟨hb, ⟨T', B', A, A', c, c', M, hI, _⟩ | ⟨_, rfl⟩⟩ := hr
  · exact absurd hI (h T' B')
  · exact ⟨rfl, hb⟩

set_option maxRecDepth 100000 in
set_option maxHeartbeats 1600000 in
theorem walk_no (s : ByteArray) (w : World) (h : s.size ≤ 1048576) (hno : ∀ T B, ¬ IsCh s T B) (hl : ParseLaid w) :
    Calls Tryd.prog 13 #[.string s] w fun e w' => e = .returned (.bool true) ∧ Below w.heap.size w w' := by
  have hI : ¬ 1048576 < (s.size : Int) := by omega
  have cS := fun w => (ReadChS_any s w h).mono fun _ _ hr => no hno hr
  have cI := fun w hl => (readChI_any s w h hl).mono fun _ _ hr => no hno hr
  clear hno
  have nn : ∀ w1 : World, IntsAt w1 w1.heap.size none [] := fun w1 h0 => by simp at h0
  have ceq := fun w1 => eqChannel_same none none none none [] [] 0 0 0 0 w1 (nn _) (nn _) (nn _) (nn _) (by simp) (by simp)
  simp only [List.length_nil] at ceq
  go_enter Tryd.func13, Tryd.ntmps13
  go_wp2_with fail
  refine (cS _).mono ?_
  rintro e w1 ⟨rfl, b1⟩
  have hx1 := box2 w1 (.slice none 0 0) (.slice none 0 0) 34
  have C1 := ChAt.new w1 none none 0 0 0 0 34
  have b1x := bl_step b1 hx1 b1.size
  clear b1
  go_wp2_with fail
  refine (cI _ (hl.stays b1x (Nat.le_refl _))).mono ?_
  rintro e w2 ⟨rfl, hb2⟩
  have hx2 := box2 w2 (.slice none 0 0) (.slice none 0 0) 34
  have C12 := (C1.to hb2).to hx2
  have C2 := ChAt.new w2 none none 0 0 0 0 34
  have b2 := bl_step b1x hb2 b1x.size
  have b2x := bl_step b2 hx2 b2.size
  have C12' := C12
  obtain ⟨_, e0, e1⟩ := C12'
  clear C1 hx1 b1x hb2 b2
  go_wp2_with fail
  refine (ceq _).mono ?_
  rintro e w3 ⟨rfl, hb3⟩
  have b3 := bl_step b2x hb3 b2x.size
  have C13 := C12.to hb3
  have C23 := C2.to hb3
  have C23' := C23
  generalize w2.heap.size = X2 at *
  obtain ⟨_, e0', e1'⟩ := C23'
  clear C12 C2 e0 e1 hb3 b2x hx2
  go_wp2_with fail
  refine (markCh0 _).mono ?_
  rintro e w4 ⟨rfl, hb4⟩
  have b4 := bl_step b3 hb4 b3.size
  have C14 := C13.to hb4
  have C24 := C23.to hb4
  have C24' := C24
  clear e0' e1'
  obtain ⟨_, e0', e1'⟩ := C24'
  clear C13 C23 hb4 b3
  go_wp2_with fail
  refine (heldCh0 _).mono ?_
  rintro e w5 ⟨rfl, hb5⟩
  have b5 := bl_step b4 hb5 b4.size
  have C15 := C14.to hb5
  have C25 := C24.to hb5
  clear e0' e1' C14 C24 hb5 b4
  go_wp2_with fail
  refine (cI _ (hl.stays b5 (Nat.le_refl _))).mono ?_
  rintro e w6 ⟨rfl, hb6⟩
  have hx6 := box2 w6 (.slice none 0 0) (.slice none 0 0) 34
  have C16 := (C15.to hb6).to hx6
  have C26 := (C25.to hb6).to hx6
  have b6 := bl_step b5 hb6 b5.size
  have b6x := bl_step b6 hx6 b6.size
  obtain ⟨_, e0, e1⟩ := C16
  clear C15 C25 hb6 b5 b6 hx6
  go_wp2_with fail
  refine (ceq _).mono ?_
  rintro e w7 ⟨rfl, hb7⟩
  have b7 := bl_step b6x hb7 b6x.size
  obtain ⟨_, e0', e1'⟩ := C26.to hb7
  clear e0 e1 C26 hb7 b6x
  go_wp2_with fail
  refine (heldCh0 _).mono ?_
  rintro e w8 ⟨rfl, hb8⟩
  have b8 := bl_step b7 hb8 b7.size
  go_wp2
  go_ret
  exact ⟨rfl, b8⟩

set_option maxRecDepth 100000 in
set_option maxHeartbeats 1600000 in
theorem walk_yes (s : ByteArray) (T B : List Int) (w : World) (h : s.size ≤ 1048576) (hc : IsCh s T B) (hl : ParseLaid w) :
    Calls Tryd.prog 13 #[.string s] w fun e w' => e = .returned (.bool true) ∧ Below w.heap.size w w' := by
  have hI : ¬ 1048576 < (s.size : Int) := by omega
  have cS := fun w => (ReadChS_any s w h).mono fun _ _ hr => yes hc hr
  have cI := fun w hl => (readChI_any s w h hl).mono fun _ _ hr => yes hc hr
  obtain ⟨hT, hB⟩ : T.length ≤ 24 ∧ B.length ≤ 24 := by
    obtain ⟨_, _, _, _, _, hv⟩ := hc
    have := chanB_form hv
    omega
  have hm1 : ¬ (1 + (T.length : Int) + (B.length : Int)) < 0 := by omega
  clear hc
  go_enter Tryd.func13, Tryd.ntmps13
  go_wp2_with fail
  refine (cS _).mono ?_
  rintro e w1 ⟨g1, g1', d1, d1', rfl, P1, P1', _, _, _, b1⟩
  have hx1 := box2 w1 (.slice (some ⟨g1, 0, none⟩) T.length d1) (.slice (some ⟨g1', 0, none⟩) B.length d1') 34
  have C1 := ChAt.new w1 (some ⟨g1, 0, none⟩) (some ⟨g1', 0, none⟩) T.length B.length d1 d1' 34
  have b1x := bl_step b1 hx1 b1.size
  have P1x := P1.to hx1
  have P1x' := P1'.to hx1
  clear b1 P1 P1'
  go_wp2_with fail
  refine (cI _ (hl.stays b1x (Nat.le_refl _))).mono ?_
  rintro e w2 ⟨g2, g2', d2, d2', rfl, P2, P2', hne, h2, h2', hb2⟩
  have z2 := P2.lt
  have z2' := P2'.lt
  have hx2 := box2 w2 (.slice (some ⟨g2, 0, none⟩) T.length d2) (.slice (some ⟨g2', 0, none⟩) B.length d2') 34
  have C12 := (C1.to hb2).to hx2
  have C2 := ChAt.new w2 (some ⟨g2, 0, none⟩) (some ⟨g2', 0, none⟩) T.length B.length d2 d2' 34
  have b2 := bl_step b1x hb2 b1x.size
  have b2x := bl_step b2 hx2 b2.size
  have q2 : Below (w1.alloc (.cells #[.slice (some ⟨g1, 0, none⟩) T.length d1, .slice (some ⟨g1', 0, none⟩) B.length d1'] 34)).heap.size (w1.alloc (.cells #[.slice (some ⟨g1, 0, none⟩) T.length d1, .slice (some ⟨g1', 0, none⟩) B.length d1'] 34)) (w2.alloc (.cells #[.slice (some ⟨g2, 0, none⟩) T.length d2, .slice (some ⟨g2', 0, none⟩) B.length d2'] 34)) := bl_step hb2 hx2 hb2.size
  have P12 := (P1x.to hb2).to hx2
  have P12' := (P1x'.to hb2).to hx2
  have P22 := P2.to hx2
  have P22' := P2'.to hx2
  have C12' := C12
  obtain ⟨_, e0, e1⟩ := C12'
  have zb := b1x.size
  have hw1z : w1.heap.size < (w1.alloc (.cells #[.slice (some ⟨g1, 0, none⟩) T.length d1, .slice (some ⟨g1', 0, none⟩) B.length d1'] 34)).heap.size := by simp
  clear b1x hb2 b2 P2 P2'
  go_wp2_with fail
  refine (eqChannel_same _ _ _ _ T B _ _ _ _ _ P22.ints P22'.ints P12.ints P12'.ints (by omega) (by omega)).mono ?_
  rintro e w3 ⟨rfl, hb3⟩
  have b3 := bl_step b2x hb3 b2x.size
  have q3 := bl_step q2 hb3 q2.size
  have C23 := C2.to hb3
  have C23' := C23
  have P23 := P22.to hb3
  have P23' := P22'.to hb3
  have z3 : w2.heap.size < w3.heap.size := by have := hb3.size; simp at this; omega
  generalize w2.heap.size = X2 at *
  obtain ⟨_, e0', e1'⟩ := C23'
  clear C12 C2 e0 e1 hb3 b2x hx2 q2 P12 P12' P22 P22'
  go_wp2_with fail
  refine (markCh_any g2 g2' T B d2 d2' _ P23 P23' hne (by omega) (by omega)).mono ?_
  rintro e w4 ⟨rfl, M4, M4', hM, hkp, hz4⟩
  have b4 := hM _ _ b3 (by omega) (by omega) b3.size
  have q4 := hM _ _ q3 h2 h2' q3.size
  have C24 := C23.keep (hkp X2 z3 (by omega) (by omega)) hz4
  have C14 := C1.to q4
  have P14 := P1x.to q4
  have P14' := P1x'.to q4
  have C24' := C24
  clear e0' e1'
  obtain ⟨_, e0', e1'⟩ := C24'
  clear C23 b3 q3 P23 P23' hM hkp C1 P1x P1x' q4
  go_wp2_with fail
  refine (heldCh_any g2 g2' T.length B.length d2 d2' _ M4 M4' (by omega) (by omega)).mono ?_
  rintro e w5 ⟨rfl, hb5⟩
  have b5 := bl_step b4 hb5 b4.size
  have C15 := C14.to hb5
  have C25 := C24.to hb5
  have P15 := P14.to hb5
  have P15' := P14'.to hb5
  have M5 := M4.to hb5
  have M5' := M4'.to hb5
  clear e0' e1' C14 C24 P14 P14' M4 M4' hb5 b4
  go_wp2_with fail
  refine (cI _ (hl.stays b5 (Nat.le_refl _))).mono ?_
  rintro e w6 ⟨g3, g3', d3, d3', rfl, P3, P3', _, _, _, hb6⟩
  have hx6 := box2 w6 (.slice (some ⟨g3, 0, none⟩) T.length d3) (.slice (some ⟨g3', 0, none⟩) B.length d3') 34
  have C16 := (C15.to hb6).to hx6
  have C26 := (C25.to hb6).to hx6
  have P16 := (P15.to hb6).to hx6
  have P16' := (P15'.to hb6).to hx6
  have P36 := P3.to hx6
  have P36' := P3'.to hx6
  have M6 := (M5.to hb6).to hx6
  have M6' := (M5'.to hb6).to hx6
  have b6 := bl_step b5 hb6 b5.size
  have b6x := bl_step b6 hx6 b6.size
  obtain ⟨_, e0, e1⟩ := C16
  clear C15 C25 P15 P15' P3 P3' M5 M5' hb6 b5 b6 hx6
  go_wp2_with fail
  refine (eqChannel_same _ _ _ _ T B _ _ _ _ _ P36.ints P36'.ints P16.ints P16'.ints (by omega) (by omega)).mono ?_
  rintro e w7 ⟨rfl, hb7⟩
  have b7 := bl_step b6x hb7 b6x.size
  have M7 := M6.to hb7
  have M7' := M6'.to hb7
  obtain ⟨_, e0', e1'⟩ := C26.to hb7
  clear e0 e1 C26 hb7 b6x P16 P16' P36 P36' M6 M6'
  go_wp2_with fail
  refine (heldCh_any g2 g2' T.length B.length d2 d2' _ M7 M7' (by omega) (by omega)).mono ?_
  rintro e w8 ⟨rfl, hb8⟩
  have b8 := bl_step b7 hb8 b7.size
  go_wp2
  go_ret
  exact ⟨rfl, b8⟩

theorem walk (s : ByteArray) (w : World) (hs : s.size ≤ maxLen) (hl : ParseLaid w) :
    Calls Tryd.prog 13 #[.string s] w fun e w' => e = .returned (.bool true) ∧ Below w.heap.size w w' := by
  unfold maxLen at hs
  by_cases h : s.size ≤ 1048576
  · by_cases hc : ∃ T B, IsCh s T B
    · obtain ⟨T, B, hc⟩ := hc
      exact walk_yes s T B w h hc hl
    · exact walk_no s w h (fun T B hb => hc ⟨T, B, hb⟩) hl
  · have hI : 1048576 < (s.size : Int) := by omega
    go_enter Tryd.func13, Tryd.ntmps13
    go_wp2
    go_ret
    exact ⟨rfl, Below.refl _ _⟩
end Go.Proofs.YtiadoekhhmcokaaDoor.fnExactReadChannel
