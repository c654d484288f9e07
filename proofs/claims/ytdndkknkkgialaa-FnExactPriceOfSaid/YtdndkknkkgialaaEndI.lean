/-
  Contracts: EndOf, as the program has it.
-/
import Derived.Test.YtdndkknkkgialaaWalkE
namespace Go.Proofs.Ytdndkknkkgialaa
set_option linter.unusedSimpArgs false
set_option linter.unusedVariables false
open Go.ChangeShapes Go.WideShapes Go.ChangeAt Go.RowKit

theorem endV_walk {M : Mz} {x y : Int} {s : ByteArray} (h : atB M x y = true) : WalkV M (x, y) s = endV M x y s := by unfold WalkV endV endQ; rw [h]; rfl
set_option maxRecDepth 100000 in
set_option maxHeartbeats 1600000 in
theorem EndOfI_any (A : Option Addr) (Ls : List SlI) (c : Nat) (x y : Int) (s : ByteArray) (w : World) (hp : ISAt w w.heap.size A Ls) (hs : Short Ls) (hss : s.size ≤ 1048576) :
    Calls Try.prog 20 #[.agg #[.slice A Ls.length c], .agg #[.int .i64 x, .int .i64 y], .string s] w fun e w' => e = .returned (endV (heldI Ls) x y s) ∧ Below w.heap.size w w' := by
  obtain ⟨wb, hwb⟩ : ∃ wb, ((((w.alloc (.cells #[.slice A Ls.length c] 27)).alloc (.cells #[.int .i64 x, .int .i64 y] 34)).alloc (.cells #[.int .i64 0, .int .i64 0] 34)).alloc (.cells #[.int .i64 x, .int .i64 y] 34)) = wb := ⟨_, rfl⟩
  have q2 : Below w.heap.size w wb := by rw [← hwb]; (repeat (first | assumption | exact Below.refl _ _ | (refine bl_alloc ?_ _) | (refine Below.drew ?_) | (refine bl_drewN ?_ _) | (refine bl_set ?_ (by first | (simp; done) | omega | (simp; omega)) _) | (refine bl_trans ?_ (by assumption)) | (refine bl_step ?_ (by assumption) (by first | omega | exact Below.size (by assumption) | (simp; omega) | (simp; exact Below.size (by assumption))))))
  have q3 : wb.cell? ⟨w.heap.size + 1, 0, none⟩ = some (.int .i64 x) ∧ wb.cell? ⟨w.heap.size + 1, 1, none⟩ = some (.int .i64 y) ∧ wb.cell? ⟨w.heap.size + 1 + 1, 0, none⟩ = some (.int .i64 0) ∧ wb.cell? ⟨w.heap.size + 1 + 1, 1, none⟩ = some (.int .i64 0) ∧ wb.cell? ⟨w.heap.size + 1 + 1 + 1, 0, none⟩ = some (.int .i64 x) ∧ wb.cell? ⟨w.heap.size + 1 + 1 + 1, 1, none⟩ = some (.int .i64 y) := by
    subst hwb
    exact ⟨by go_simp, by go_simp, by go_simp, by go_simp, by go_simp, by go_simp⟩
  have q4 : w.heap.size + 1 + 1 < wb.heap.size := by rw [← hwb]; simp <;> omega
  have q5 : wb.frozen? ⟨w.heap.size + 1 + 1, 0, none⟩ = false ∧ wb.frozen? ⟨w.heap.size + 1 + 1, 1, none⟩ = false := by
    subst hwb
    exact ⟨by go_simp, by go_simp⟩
  obtain ⟨q30, q31, q32, q33, q34, q35⟩ := q3
  obtain ⟨q50, q51⟩ := q5
  have cE := enterOne_any A Ls c x y (w.heap.size + 1 + 1 + 1) 1 wb (hp.to q2) hs (one_pts _ _ _ _ q34 q35)
  cases ha : atB (heldI Ls) x y
  · have HF := Lib.hid (endV_no (s := s) ha)
    have HA := Lib.hid ha
    clear ha q34 q35
    go_enter Try.func20, Try.ntmps20
    go_wp2_with fail
    refine cE.mono ?_
    rintro e w1 (⟨hx, _⟩ | ⟨_, rfl, hb1⟩)
    · rw [HA.out] at hx; cases hx
    · obtain ⟨hc, hf, hz⟩ := bcell hb1
      have hz2 : w.heap.size + 1 + 1 < w1.heap.size := by omega
      have b1 := bl_step q2 hb1 q2.size
      clear hwb cE
      go_wp2
      refine bodyPost_ret_by (v := .tuple #[.agg #[.int .i64 0, .int .i64 0], .bool false]) ?_ rfl ⟨by rw [HF.out], by (repeat (first | assumption | exact Below.refl _ _ | (refine bl_alloc ?_ _) | (refine Below.drew ?_) | (refine bl_drewN ?_ _) | (refine bl_set ?_ (by first | (simp; done) | omega | (simp; omega)) _) | (refine bl_trans ?_ (by assumption)) | (refine bl_step ?_ (by assumption) (by first | omega | exact Below.size (by assumption) | (simp; omega) | (simp; exact Below.size (by assumption))))))⟩
      rw [results_cell_tmp rfl]
      go_simp
  · obtain ⟨hv, ho⟩ := atB_parts ha
    have HA := Lib.hid ha
    have HW := Lib.hid (endV_walk (s := s) ha)
    clear ha q34 q35
    go_enter Try.func20, Try.ntmps20
    go_wp2_with fail
    refine cE.mono ?_
    rintro e w1 (⟨_, gw, gh, gc, rfl, hPr, hb1⟩ | ⟨hx, _⟩)
    · obtain ⟨hc, hf, hz⟩ := bcell hb1
      have hz2 : w.heap.size + 1 + 1 < w1.heap.size := by omega
      have hz1 : w.heap.size + 1 < w1.heap.size := by omega
      have hy2 : w.heap.size + 1 < wb.heap.size := by omega
      have b1 := bl_step q2 hb1 q2.size
      clear hwb cE
      go_wp2_with fail
      refine (walkE_any gw gh gc A Ls c x y s _ hPr hv ho hss).mono ?_
      rintro e w2 ⟨rfl, hb2⟩
      rw [HW.out]
      have b2 := bl_step b1 hb2 b1.size
      obtain ⟨⟨r0, r1⟩, hr⟩ : ∃ r, endP (endQ (heldI Ls) x y s) = r := ⟨_, rfl⟩
      obtain ⟨ok, hok⟩ : ∃ ok, endO (endQ (heldI Ls) x y s) = ok := ⟨_, rfl⟩
      have HR : Hid (endV (heldI Ls) x y s = .tuple #[.agg #[.int .i64 r0, .int .i64 r1], .bool ok]) := by show _ = _; unfold endV; rw [hr, hok]
      rw [HR.out]
      obtain ⟨hc2, hf2, hzz⟩ := bcell hb2
      have hz22 : w.heap.size + 1 + 1 < w2.heap.size := by omega
      clear hr hok
      go_wp2
      refine bodyPost_ret_by (v := .tuple #[.agg #[.int .i64 r0, .int .i64 r1], .bool ok]) ?_ rfl ⟨by rw [HR.out], by (repeat (first | assumption | exact Below.refl _ _ | (refine bl_alloc ?_ _) | (refine Below.drew ?_) | (refine bl_drewN ?_ _) | (refine bl_set ?_ (by first | (simp; done) | omega | (simp; omega)) _) | (refine bl_trans ?_ (by assumption)) | (refine bl_step ?_ (by assumption) (by first | omega | exact Below.size (by assumption) | (simp; omega) | (simp; exact Below.size (by assumption))))))⟩
      rw [results_cell_tmp rfl]
      go_simp
    · rw [HA.out] at hx; cases hx
theorem endV_parts (M : Mz) (x y : Int) (s : ByteArray) : ∃ a b ok, endV M x y s = .tuple #[.agg #[.int .i64 a, .int .i64 b], .bool ok] := ⟨_, _, _, rfl⟩
theorem EndOfS_in (A : Option Addr) (n c : Nat) (M : Mz) (x y : Int) (s : ByteArray) (w : World) (h : MzIn w A n M) (hs : s.size ≤ 1048576) :
    Calls Try.prog 19 #[.agg #[.slice A n c], .agg #[.int .i64 x, .int .i64 y], .string s] w fun e w' => e = .returned (endV M x y s) ∧ Below w.heap.size w w' := by
  obtain ⟨Ms, rfl, rfl, h3, h4⟩ := h
  exact EndOfS_any A Ms c x y s w h3 h4 hs
theorem EndOfI_in (A : Option Addr) (n c : Nat) (M : Mz) (x y : Int) (s : ByteArray) (w : World) (h : MzIn w A n M) (hs : s.size ≤ 1048576) :
    Calls Try.prog 20 #[.agg #[.slice A n c], .agg #[.int .i64 x, .int .i64 y], .string s] w fun e w' => e = .returned (endV M x y s) ∧ Below w.heap.size w w' := by
  obtain ⟨Ms, rfl, rfl, h3, h4⟩ := h
  exact EndOfI_any A Ms c x y s w h3 h4 hs
end Go.Proofs.Ytdndkknkkgialaa
