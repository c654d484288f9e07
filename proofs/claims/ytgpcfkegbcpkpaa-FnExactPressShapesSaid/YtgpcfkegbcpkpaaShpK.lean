/-
  Contracts: ShapeRules, as the program has it.
-/
import Derived.Test.YtgpcfkegbcpkpaaShpR
namespace Go.Proofs.Ytgpcfkegbcpkpaa
set_option linter.unusedSimpArgs false
set_option linter.unusedVariables false
open Go.ChangeShapes Go.WideShapes Go.ChangeAt Go.RowKit Go.BigFrame

theorem shL_some {ss : List R4} {a : Int} {L : List R3} (h : shpO ss a = some L) : shL ss a = L ∧ shM ss a = (ss.length : Int) ∧ (shpO ss a).isSome = true := by
  unfold shL shM
  rw [h]
  exact ⟨rfl, rfl, rfl⟩
theorem shL_none {ss : List R4} {a : Int} (h : shpO ss a = none) : shL ss a = [] ∧ shM ss a = 0 ∧ (shpO ss a).isSome = false := by
  unfold shL shM
  rw [h]
  exact ⟨rfl, rfl, rfl⟩
set_option maxRecDepth 100000 in
set_option maxHeartbeats 1600000 in
theorem ShapeRulesI_any (A : Option Addr) (ss : List R4) (c : Nat) (a : Int) (w : World) (hp : ShpAt w w.heap.size A ss) (hl : ss.length ≤ 1048576) (hlc : ss.length ≤ c) :
    Calls Try.prog 34 #[.slice A ss.length c, .int .i64 a] w (PRes (shL ss a) (shM ss a) (shpO ss a).isSome w) := by
  have hx : Below w.heap.size w (((w.alloc (.cells #[.slice A ss.length c] 41)).alloc (.cells #[.int .i64 a] 2)).alloc (.cells #[.int .i64 0, .slice none 0 0] 29)) := by (repeat (first | assumption | exact Below.refl _ _ | (refine bl_alloc ?_ _) | (refine Below.drew ?_) | (refine bl_drewN ?_ _) | (refine bl_set ?_ (by first | (simp; done) | omega | (simp; omega)) _) | (refine bl_trans ?_ (by assumption)) | (refine bl_step ?_ (by assumption) (by first | omega | exact Below.size (by assumption) | (simp; omega) | (simp; exact Below.size (by assumption))))))
  have ka : Blk (((w.alloc (.cells #[.slice A ss.length c] 41)).alloc (.cells #[.int .i64 a] 2)).alloc (.cells #[.int .i64 0, .slice none 0 0] 29)) w.heap.size #[.slice A ss.length c] 41 := ((Blk.new _ _ _).alloc _).alloc _
  have kb : Blk (((w.alloc (.cells #[.slice A ss.length c] 41)).alloc (.cells #[.int .i64 a] 2)).alloc (.cells #[.int .i64 0, .slice none 0 0] 29)) (w.heap.size + 1) #[.int .i64 a] 2 := by
    have := (Blk.new (w.alloc (.cells #[.slice A ss.length c] 41)) #[.int .i64 a] 2).alloc (.cells #[.int .i64 0, .slice none 0 0] 29)
    rwa [World.size_alloc] at this
  have kr : Blk (((w.alloc (.cells #[.slice A ss.length c] 41)).alloc (.cells #[.int .i64 a] 2)).alloc (.cells #[.int .i64 0, .slice none 0 0] 29)) (w.heap.size + 2) #[.int .i64 0, .slice none 0 0] 29 := by
    have := Blk.new ((w.alloc (.cells #[.slice A ss.length c] 41)).alloc (.cells #[.int .i64 a] 2)) #[.int .i64 0, .slice none 0 0] 29
    rwa [World.size_alloc, World.size_alloc] at this
  have cc := Lib.hid (fun (wx : World) (hb : Below (((w.alloc (.cells #[.slice A ss.length c] 41)).alloc (.cells #[.int .i64 a] 2)).alloc (.cells #[.int .i64 0, .slice none 0 0] 29)).heap.size (((w.alloc (.cells #[.slice A ss.length c] 41)).alloc (.cells #[.int .i64 a] 2)).alloc (.cells #[.int .i64 0, .slice none 0 0] 29)) wx) => shapeClo_any A ss c w.heap.size (w.heap.size + 1) a wx ((ka.to hb).cell 0 rfl) ((kb.to hb).cell 0 rfl) ((hp.to hx).to hb) hl hlc)
  have HS : Hid (∀ L, shpO ss a = some L → shL ss a = L ∧ shM ss a = (ss.length : Int) ∧ (shpO ss a).isSome = true) := fun L h => shL_some h
  have HN : Hid (shpO ss a = none → shL ss a = [] ∧ shM ss a = 0 ∧ (shpO ss a).isSome = false) := fun h => shL_none h
  clear hp ka kb
  generalize shL ss a = LL at *
  generalize shM ss a = mm at *
  generalize (shpO ss a).isSome = ok at *
  generalize shpO ss a = R at *
  go_enter Try.func34, Try.ntmps34
  go_wp2_with fail
  generalize (((w.alloc (.cells #[.slice A ss.length c] 41)).alloc (.cells #[.int .i64 a] 2)).alloc (.cells #[.int .i64 0, .slice none 0 0] 29)) = w1 at *
  have hx1 : Below w1.heap.size w1 ((w1.alloc (.cells #[.int .i64 0, .slice none 0 0] 29)).alloc (.cells #[.bool false] 4)) := by (repeat (first | assumption | exact Below.refl _ _ | (refine bl_alloc ?_ _) | (refine Below.drew ?_) | (refine bl_drewN ?_ _) | (refine bl_set ?_ (by first | (simp; done) | omega | (simp; omega)) _) | (refine bl_trans ?_ (by assumption)) | (refine bl_step ?_ (by assumption) (by first | omega | exact Below.size (by assumption) | (simp; omega) | (simp; exact Below.size (by assumption))))))
  refine (attemptPr_any 75 _ w1 (fun v w2 => ∃ (L : List R3) (A4 : Option Addr) (c4 : Nat), R = some L ∧ v = .agg #[.int .i64 (ss.length : Int), .slice A4 L.length c4] ∧ OwnR w2 (w1.heap.size + 2) (.slice A4 L.length c4) L) (R = none) (fun _ _ => by first | rfl | (simp [go_sem]; done)) ((cc.out _ hx1).mono ?_)).mono ?_
  · rintro e w2 ⟨h, hb⟩
    refine ⟨?_, hb⟩
    rcases h with ⟨L, v, h1, rfl, h2⟩ | ⟨h1, h2⟩
    · obtain ⟨A4, c4, rfl, _⟩ := h2.rul
      exact .inl ⟨_, _, _, _, rfl, L, A4, c4, h1, rfl, by rw [World.size_alloc, World.size_alloc] at h2; exact h2⟩
    · exact .inr ⟨h2, h1⟩
  rintro e w2 ⟨⟨x0, A1, n1, k1, wm, rfl, ⟨L, A4, c4, hR, hv, ho⟩, htw⟩ | ⟨rfl, hR⟩, hb1⟩
  · obtain ⟨rfl, rfl, rfl, rfl⟩ : x0 = (ss.length : Int) ∧ A1 = A4 ∧ n1 = L.length ∧ k1 = c4 := by simpa using hv
    obtain ⟨e1, e2, e3⟩ := HS.out L hR
    have E1 := Lib.hid e1
    have E2 := Lib.hid e2
    have E3 := Lib.hid e3
    have ho2 := ho.twin htw (by omega)
    have k2 := kr.to hb1
    have q0 := k2.frozen 0
    have q1 := k2.frozen 1
    have t0 := k2.cell 0 rfl
    have t1 := k2.cell 1 rfl
    have ke := (k2.set 0 (.int .i64 (ss.length : Int))).set 1 (.slice A1 L.length k1)
    have hzz : w.heap.size + 2 < w1.heap.size := kr.lt
    have xF := ((bl_step hx hb1 hx.size).setCell (p := ⟨w.heap.size + 2, 0, none⟩) (by simp) (.int .i64 (ss.length : Int))).setCell (p := ⟨w.heap.size + 2, 1, none⟩) (by simp) (.slice A1 L.length k1)
    have hoF : OwnR ((w2.setCell ⟨w.heap.size + 2, 0, none⟩ (.int .i64 (ss.length : Int))).setCell ⟨w.heap.size + 2, 1, none⟩ (.slice A1 L.length k1)) w.heap.size (.slice A1 L.length k1) L := (ho2.keep fun g hg => by
      have := ho2.ge hg
      rw [Below.heap_setCell _ _ _ g (by show g ≠ w.heap.size + 2; omega), Below.heap_setCell _ _ _ g (by show g ≠ w.heap.size + 2; omega)]).mono (by omega)
    clear hR kr k2 ho ho2 e1 e2 e3 htw hv hb1 hx hx1 cc HS HN
    go_wp2
    generalize ((w2.setCell ⟨w.heap.size + 2, 0, none⟩ (.int .i64 (ss.length : Int))).setCell ⟨w.heap.size + 2, 1, none⟩ (.slice A1 L.length k1)) = wE at *
    have z0 := ke.cell 0 (v := .int .i64 (ss.length : Int)) (by simp)
    have z1 := ke.cell 1 (v := .slice A1 L.length k1) (by simp)
    refine bodyPost_ret_by (v := .tuple #[.agg #[.int .i64 (ss.length : Int), .slice A1 L.length k1], .bool true]) ?_ rfl ?_
    · simp [results, Try.results34, go_sem, z0, z1]
    · rw [E1.out, E2.out, E3.out]
      obtain ⟨A5, c5, e5, h5⟩ := own5_of hoF
      obtain ⟨rfl, rfl⟩ : A1 = A5 ∧ k1 = c5 := by simpa using e5
      exact ⟨_, _, rfl, h5, xF⟩
  · obtain ⟨e1, e2, e3⟩ := HN.out hR
    have E1 := Lib.hid e1
    have E2 := Lib.hid e2
    have E3 := Lib.hid e3
    have k2 := kr.to hb1
    have q0 := k2.frozen 0
    have q1 := k2.frozen 1
    have t0 := k2.cell 0 rfl
    have t1 := k2.cell 1 rfl
    have ke := (k2.set 0 (.int .i64 0)).set 1 (.slice none 0 0)
    have xF := ((bl_step hx hb1 hx.size).setCell (p := ⟨w.heap.size + 2, 0, none⟩) (by simp) (.int .i64 0)).setCell (p := ⟨w.heap.size + 2, 1, none⟩) (by simp) (.slice none 0 0)
    clear hR kr k2 e1 e2 e3 hb1 hx hx1 cc HS HN
    go_wp2
    generalize ((w2.setCell ⟨w.heap.size + 2, 0, none⟩ (.int .i64 0)).setCell ⟨w.heap.size + 2, 1, none⟩ (.slice none 0 0)) = wE at *
    have z0 := ke.cell 0 (v := .int .i64 0) (by simp)
    have z1 := ke.cell 1 (v := .slice none 0 0) (by simp)
    refine bodyPost_ret_by (v := .tuple #[.agg #[.int .i64 0, .slice none 0 0], .bool false]) ?_ rfl ?_
    · simp [results, Try.results34, go_sem, z0, z1]
    · rw [E1.out, E2.out, E3.out]
      exact ⟨none, 0, rfl, Own5.none_ _ _ _, xF⟩
end Go.Proofs.Ytgpcfkegbcpkpaa
