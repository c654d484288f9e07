/-
  Contracts: ShapeRules, as the model has it.
-/
import Derived.Test.YtgpcfkegbcpkpaaShpK
namespace Go.Proofs.Ytgpcfkegbcpkpaa
set_option linter.unusedSimpArgs false
set_option linter.unusedVariables false
open Go.ChangeShapes Go.WideShapes Go.ChangeAt Go.RowKit Go.BigFrame

theorem shpO_no {ss : List R4} {a : Int} (h : ¬ (arS ss = true ∧ inB a 0 1000 = true ∧ prB (ss.length : Int) (allR ss a ss.length) = true)) : shL ss a = [] ∧ shM ss a = 0 ∧ (shpO ss a).isSome = false :=
  shL_none (by unfold shpO; rw [if_neg h])
theorem shpO_yes {ss : List R4} {a : Int} (h1 : arS ss = true) (h2 : inB a 0 1000 = true) (h3 : prB (ss.length : Int) (allR ss a ss.length) = true) : shL ss a = allR ss a ss.length ∧ shM ss a = (ss.length : Int) ∧ (shpO ss a).isSome = true :=
  shL_some (by unfold shpO; rw [if_pos ⟨h1, h2, h3⟩])
set_option maxRecDepth 100000 in
set_option maxHeartbeats 1600000 in
theorem ShapeRulesS_any (A : Option Addr) (ss : List R4) (c : Nat) (a : Int) (w : World) (hp : ShpAt w w.heap.size A ss) (hl : ss.length ≤ 1048576) :
    Calls Try.prog 33 #[.slice A ss.length c, .int .i64 a] w (PRes (shL ss a) (shM ss a) (shpO ss a).isSome w) := by
  have hx : Below w.heap.size w (w.alloc (.cells #[.int .i64 0, .slice none 0 0] 29)) := by (repeat (first | assumption | exact Below.refl _ _ | (refine bl_alloc ?_ _) | (refine Below.drew ?_) | (refine bl_drewN ?_ _) | (refine bl_set ?_ (by first | (simp; done) | omega | (simp; omega)) _) | (refine bl_trans ?_ (by assumption)) | (refine bl_step ?_ (by assumption) (by first | omega | exact Below.size (by assumption) | (simp; omega) | (simp; exact Below.size (by assumption))))))
  have kr := Blk.new w #[.int .i64 0, .slice none 0 0] 29
  have ca := Lib.hid (l09Shapes_any A ss c _ (hp.to hx) hl)
  have NO : Hid (¬ (arS ss = true ∧ inB a 0 1000 = true ∧ prB (ss.length : Int) (allR ss a ss.length) = true) → shL ss a = [] ∧ shM ss a = 0 ∧ (shpO ss a).isSome = false) := fun h => shpO_no h
  cases hs : arS ss
  · obtain ⟨e1, e2, e3⟩ := NO.out (by rw [hs]; simp)
    have E1 := Lib.hid e1
    have E2 := Lib.hid e2
    have E3 := Lib.hid e3
    rw [hs] at ca
    clear hp hs e1 e2 e3 NO
    go_enter Try.func33, Try.ntmps33
    go_wp2_with fail
    refine ca.out.mono ?_
    rintro e w1 ⟨rfl, hb1⟩
    have k2 := kr.to hb1
    have q0 := k2.frozen 0
    have q1 := k2.frozen 1
    have t0 := k2.cell 0 rfl
    have t1 := k2.cell 1 rfl
    have ke := (k2.set 0 (.int .i64 0)).set 1 (.slice none 0 0)
    have xF := ((bl_step hx hb1 hx.size).setCell (p := ⟨w.heap.size, 0, none⟩) (Nat.le_refl _) (.int .i64 0)).setCell (p := ⟨w.heap.size, 1, none⟩) (Nat.le_refl _) (.slice none 0 0)
    clear hb1 kr k2 hx ca
    go_wp2
    generalize ((w1.setCell ⟨w.heap.size, 0, none⟩ (.int .i64 0)).setCell ⟨w.heap.size, 1, none⟩ (.slice none 0 0)) = wE at *
    have z0 := ke.cell 0 (v := .int .i64 0) (by simp)
    have z1 := ke.cell 1 (v := .slice none 0 0) (by simp)
    refine bodyPost_ret_by (v := .tuple #[.agg #[.int .i64 0, .slice none 0 0], .bool false]) ?_ rfl ?_
    · simp [results, Try.results33, go_sem, z0, z1]
    · rw [E1.out, E2.out, E3.out]
      exact ⟨none, 0, rfl, Own5.none_ _ _ _, xF⟩
  rw [hs] at ca
  cases hi : inB a 0 1000
  · obtain ⟨e1, e2, e3⟩ := NO.out (by rw [hi]; simp)
    have E1 := Lib.hid e1
    have E2 := Lib.hid e2
    have E3 := Lib.hid e3
    have ci := Lib.hid (fun (wx : World) => l00In_p (Lib.hid hi) wx)
    clear hp hs hi e1 e2 e3 NO
    go_enter Try.func33, Try.ntmps33
    go_wp2_with fail
    refine ca.out.mono ?_
    rintro e w1 ⟨rfl, hb1⟩
    have k2 := kr.to hb1
    have q0 := k2.frozen 0
    have q1 := k2.frozen 1
    have t0 := k2.cell 0 rfl
    have t1 := k2.cell 1 rfl
    have ke := (k2.set 0 (.int .i64 0)).set 1 (.slice none 0 0)
    have xF := ((bl_step hx hb1 hx.size).setCell (p := ⟨w.heap.size, 0, none⟩) (Nat.le_refl _) (.int .i64 0)).setCell (p := ⟨w.heap.size, 1, none⟩) (Nat.le_refl _) (.slice none 0 0)
    clear hb1 kr k2 hx ca
    go_wp2_with fail
    refine (ci.out _).mono ?_
    rintro e w2 ⟨rfl, rfl⟩
    go_wp2
    generalize ((w2.setCell ⟨w.heap.size, 0, none⟩ (.int .i64 0)).setCell ⟨w.heap.size, 1, none⟩ (.slice none 0 0)) = wE at *
    have z0 := ke.cell 0 (v := .int .i64 0) (by simp)
    have z1 := ke.cell 1 (v := .slice none 0 0) (by simp)
    refine bodyPost_ret_by (v := .tuple #[.agg #[.int .i64 0, .slice none 0 0], .bool false]) ?_ rfl ?_
    · simp [results, Try.results33, go_sem, z0, z1]
    · rw [E1.out, E2.out, E3.out]
      exact ⟨none, 0, rfl, Own5.none_ _ _ _, xF⟩
  have hi2 := of_decide_eq_true hi
  have ci := Lib.hid (fun (wx : World) => l00In_p (Lib.hid hi) wx)
  have cp := Lib.hid (fun (wx : World) (hb : Below w.heap.size w wx) => l09Press_any A ss c a wx (hp.to hb) hs hi2.1 hi2.2)
  have HLL : Hid ((allR ss a ss.length).length ≤ 1048576) := by
    obtain ⟨⟨l1, l12⟩, _⟩ := arS_facts hs
    have h2 := allR_len ss a ss.length
    have h3 : ss.length * ss.length ≤ 12 * 12 := Nat.mul_le_mul l12 l12
    show _ ≤ _
    omega
  have YES : Hid (prB (ss.length : Int) (allR ss a ss.length) = true → shL ss a = allR ss a ss.length ∧ shM ss a = (ss.length : Int) ∧ (shpO ss a).isSome = true) := fun h => shpO_yes hs hi h
  have NO2 : Hid (prB (ss.length : Int) (allR ss a ss.length) = false → shL ss a = [] ∧ shM ss a = 0 ∧ (shpO ss a).isSome = false) := fun h => NO.out (by rw [h]; simp)
  clear hp hs hi hi2 NO
  generalize shL ss a = LL at *
  generalize shM ss a = mm at *
  generalize (shpO ss a).isSome = ok at *
  generalize allR ss a ss.length = RR at *
  go_enter Try.func33, Try.ntmps33
  go_wp2_with fail
  refine ca.out.mono ?_
  rintro e w1 ⟨rfl, hb1⟩
  have x1 := bl_step hx hb1 hx.size
  replace kr := kr.to hb1
  clear hb1 hx ca
  go_wp2_with fail
  refine (ci.out _).mono ?_
  rintro e w2 ⟨rfl, rfl⟩
  go_wp2_with fail
  have hwz : w.heap.size < w2.heap.size := kr.lt
  refine (cp.out _ x1).mono ?_
  rintro e w3 ⟨⟨L, v, hL, rfl, ho⟩ | ⟨hL, _⟩, hb3⟩
  case inr => exact absurd hL (by simp)
  injection hL with hL
  subst hL
  obtain ⟨A4, c4, hv, ho5⟩ := own5_of ho
  subst hv
  have x3 := bl_trans x1 hb3
  have k3 := kr.to hb3
  have hw3 : w.heap.size < w3.heap.size := k3.lt
  have hy : Below w3.heap.size w3 (w3.alloc (.cells #[.int .i64 (ss.length : Int), .slice A4 RR.length c4] 29)) := (Below.refl _ _).alloc (Nat.le_refl _) _
  have kL := Blk.new w3 #[.int .i64 (ss.length : Int), .slice A4 RR.length c4] 29
  have k4 := k3.to hy
  have ho4 := ho5.to hy
  have x4 := bl_trans x3 hy
  have cI := Lib.hid (l09Is_any w3.heap.size (ss.length : Int) A4 RR c4 _ (kL.cell 0 rfl) (kL.cell 1 rfl) ho4.rul HLL.out)
  obtain ⟨pb, hpb⟩ : ∃ b, prB (ss.length : Int) RR = b := ⟨_, rfl⟩
  rw [hpb] at cI YES NO2
  clear ho ho5 kr k3 hb3 x1 x3 hpb hy cp
  go_wp2_with fail
  refine cI.out.mono ?_
  rintro e w4 ⟨rfl, hb4⟩
  have k5 := k4.to hb4
  have kL5 := kL.to hb4
  have ho6 := ho4.to hb4
  have x5 := bl_trans x4 hb4
  have q0 := k5.frozen 0
  have q1 := k5.frozen 1
  have t0 := k5.cell 0 rfl
  have t1 := k5.cell 1 rfl
  have s0 := kL5.cell 0 (v := .int .i64 (ss.length : Int)) rfl
  have s1 := kL5.cell 1 (v := .slice A4 RR.length c4) rfl
  clear cI kL k4 ho4 x4 hb4 kL5
  cases pb
  · obtain ⟨e1, e2, e3⟩ := NO2.out rfl
    have E1 := Lib.hid e1
    have E2 := Lib.hid e2
    have E3 := Lib.hid e3
    clear e1 e2 e3 NO2 YES
    have ke := (k5.set 0 (.int .i64 0)).set 1 (.slice none 0 0)
    have xF := (x5.setCell (p := ⟨w.heap.size, 0, none⟩) (Nat.le_refl _) (.int .i64 0)).setCell (p := ⟨w.heap.size, 1, none⟩) (Nat.le_refl _) (.slice none 0 0)
    clear k5 x5 ho6
    go_wp2
    generalize ((w4.setCell ⟨w.heap.size, 0, none⟩ (.int .i64 0)).setCell ⟨w.heap.size, 1, none⟩ (.slice none 0 0)) = wE at *
    have z0 := ke.cell 0 (v := .int .i64 0) (by simp)
    have z1 := ke.cell 1 (v := .slice none 0 0) (by simp)
    refine bodyPost_ret_by (v := .tuple #[.agg #[.int .i64 0, .slice none 0 0], .bool false]) ?_ rfl ?_
    · simp [results, Try.results33, go_sem, z0, z1]
    · rw [E1.out, E2.out, E3.out]
      exact ⟨none, 0, rfl, Own5.none_ _ _ _, xF⟩
  · obtain ⟨e1, e2, e3⟩ := YES.out rfl
    have E1 := Lib.hid e1
    have E2 := Lib.hid e2
    have E3 := Lib.hid e3
    clear e1 e2 e3 NO2 YES
    have ke := (k5.set 0 (.int .i64 (ss.length : Int))).set 1 (.slice A4 RR.length c4)
    have xF := (x5.setCell (p := ⟨w.heap.size, 0, none⟩) (Nat.le_refl _) (.int .i64 (ss.length : Int))).setCell (p := ⟨w.heap.size, 1, none⟩) (Nat.le_refl _) (.slice A4 RR.length c4)
    have hoF : Own5 ((w4.setCell ⟨w.heap.size, 0, none⟩ (.int .i64 (ss.length : Int))).setCell ⟨w.heap.size, 1, none⟩ (.slice A4 RR.length c4)) w.heap.size A4 RR := fun h0 => by
      obtain ⟨g, e, hg, hP⟩ := ho6 h0
      exact ⟨g, e, by omega, hP.keep ((Below.heap_setCell _ _ _ g (by show g ≠ w.heap.size; omega)).trans (Below.heap_setCell _ _ _ g (by show g ≠ w.heap.size; omega)))⟩
    clear k5 x5 ho6
    go_wp2
    generalize ((w4.setCell ⟨w.heap.size, 0, none⟩ (.int .i64 (ss.length : Int))).setCell ⟨w.heap.size, 1, none⟩ (.slice A4 RR.length c4)) = wE at *
    have z0 := ke.cell 0 (v := .int .i64 (ss.length : Int)) (by simp)
    have z1 := ke.cell 1 (v := .slice A4 RR.length c4) (by simp)
    refine bodyPost_ret_by (v := .tuple #[.agg #[.int .i64 (ss.length : Int), .slice A4 RR.length c4], .bool true]) ?_ rfl ?_
    · simp [results, Try.results33, go_sem, z0, z1]
    · rw [E1.out, E2.out, E3.out]
      exact ⟨_, _, rfl, hoF, xF⟩
end Go.Proofs.Ytgpcfkegbcpkpaa
