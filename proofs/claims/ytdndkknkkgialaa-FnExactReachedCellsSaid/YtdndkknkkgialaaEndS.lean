/-
  Contracts: EndOf, as the model has it.
-/
import Derived.Test.YtdndkknkkgialaaMazeQ
namespace Go.Proofs.Ytdndkknkkgialaa
set_option linter.unusedSimpArgs false
set_option linter.unusedVariables false
open Go.ChangeShapes Go.WideShapes Go.ChangeAt Go.RowKit

/-- Where a way ends, if it is one. -/
def endQ (M : Mz) (x y : Int) (s : ByteArray) : Option (Int × Int) := if atB M x y = true then posTo M (x, y) s s.size else none
def endP : Option (Int × Int) → Int × Int
  | none => (0, 0)
  | some q => q
def endO : Option (Int × Int) → Bool
  | none => false
  | some _ => true
def endV (M : Mz) (x y : Int) (s : ByteArray) : Value := .tuple #[ptA (endP (endQ M x y s)), .bool (endO (endQ M x y s))]
theorem endV_no {M : Mz} {x y : Int} {s : ByteArray} (h : atB M x y = false) : endV M x y s = .tuple #[.agg #[.int .i64 0, .int .i64 0], .bool false] := by
  unfold endV endQ; rw [h]; rfl
theorem endV_out {M : Mz} {x y : Int} {s : ByteArray} (h : posTo M (x, y) s s.size = none) : endV M x y s = .tuple #[.agg #[.int .i64 0, .int .i64 0], .bool false] := by
  unfold endV endQ; rw [h]; split <;> rfl
theorem endV_yes {M : Mz} {x y : Int} {s : ByteArray} {q : Int × Int} (h : atB M x y = true) (hp : posTo M (x, y) s s.size = some q) : endV M x y s = .tuple #[.agg #[.int .i64 q.1, .int .i64 q.2], .bool true] := by
  unfold endV endQ; rw [h, hp]; rfl
theorem cellsL_last {M : Mz} {p q : Int × Int} {s : ByteArray} {n : Nat} (h : posTo M p s n = some q) : (cellsL M p s n).getD n (0, 0) = q := by
  rw [cellsL_at (Nat.le_refl _)]; simp [posD, h]
theorem atB_parts {M : Mz} {x y : Int} (h : atB M x y = true) : MzOk M ∧ openB M x y = true := by
  simp only [atB, Bool.and_eq_true] at h
  exact ⟨mzOk_of h.1, h.2⟩

set_option maxRecDepth 100000 in
set_option maxHeartbeats 1600000 in
theorem EndOfS_any (A : Option Addr) (Ls : List SlI) (c : Nat) (x y : Int) (s : ByteArray) (w : World) (hp : ISAt w w.heap.size A Ls) (hs : Short Ls) (hss : s.size ≤ 1048576) :
    Calls Try.prog 19 #[.agg #[.slice A Ls.length c], .agg #[.int .i64 x, .int .i64 y], .string s] w fun e w' => e = .returned (endV (heldI Ls) x y s) ∧ Below w.heap.size w w' := by
  have q1 : (((w.alloc (.cells #[.slice A Ls.length c] 27)).alloc (.cells #[.int .i64 x, .int .i64 y] 34)).alloc (.cells #[.int .i64 0, .int .i64 0] 34)).cell? ⟨w.heap.size, 0, none⟩ = some (.slice A Ls.length c) := by go_simp
  have q2 : Below w.heap.size w (((w.alloc (.cells #[.slice A Ls.length c] 27)).alloc (.cells #[.int .i64 x, .int .i64 y] 34)).alloc (.cells #[.int .i64 0, .int .i64 0] 34)) := by (repeat (first | assumption | exact Below.refl _ _ | (refine bl_alloc ?_ _) | (refine Below.drew ?_) | (refine bl_drewN ?_ _) | (refine bl_set ?_ (by first | (simp; done) | omega | (simp; omega)) _) | (refine bl_trans ?_ (by assumption)) | (refine bl_step ?_ (by assumption) (by first | omega | exact Below.size (by assumption) | (simp; omega) | (simp; exact Below.size (by assumption))))))
  have q3 : w.heap.size < (((w.alloc (.cells #[.slice A Ls.length c] 27)).alloc (.cells #[.int .i64 x, .int .i64 y] 34)).alloc (.cells #[.int .i64 0, .int .i64 0] 34)).heap.size := by simp <;> omega
  have hm := MzAt.new hp q2 q1 q3
  clear q1 q3
  cases ha : atB (heldI Ls) x y
  · have HF := Lib.hid (endV_no (s := s) ha)
    have HA := Lib.hid ha
    clear ha
    go_enter Try.func19, Try.ntmps19
    go_wp2_with fail
    refine (l04At_any w.heap.size A Ls c x y _ hm hs).mono ?_
    rintro e w1 ⟨rfl, hb1⟩
    rw [HA.out]
    obtain ⟨hc, hf, hz⟩ := bcell hb1
    have hz2 : w.heap.size + 1 + 1 < w1.heap.size := by (simp at hz; omega)
    have b1 := bl_step q2 hb1 q2.size
    go_wp2
    refine bodyPost_ret_by (v := .tuple #[.agg #[.int .i64 0, .int .i64 0], .bool false]) ?_ rfl ⟨by rw [HF.out], by (repeat (first | assumption | exact Below.refl _ _ | (refine bl_alloc ?_ _) | (refine Below.drew ?_) | (refine bl_drewN ?_ _) | (refine bl_set ?_ (by first | (simp; done) | omega | (simp; omega)) _) | (refine bl_trans ?_ (by assumption)) | (refine bl_step ?_ (by assumption) (by first | omega | exact Below.size (by assumption) | (simp; omega) | (simp; exact Below.size (by assumption))))))⟩
    rw [results_cell_tmp rfl]
    go_simp
  · obtain ⟨hv, ho⟩ := atB_parts ha
    have HA := Lib.hid ha
    clear ha
    go_enter Try.func19, Try.ntmps19
    go_wp2_with fail
    refine (l04At_any w.heap.size A Ls c x y _ hm hs).mono ?_
    rintro e w1 ⟨rfl, hb1⟩
    rw [HA.out]
    obtain ⟨hc, hf, hz⟩ := bcell hb1
    have hz2 : w.heap.size + 1 + 1 < w1.heap.size := by (simp at hz; omega)
    have hz1 : w.heap.size + 1 < w1.heap.size := by omega
    have b1 := bl_step q2 hb1 q2.size
    have hm1 := hm.to hb1
    clear hz
    go_wp2_with fail
    refine (l04Cells_any w.heap.size A Ls c x y s _ hm1 hv ho hss).mono ?_
    rintro e w2 ⟨⟨q, v, hq, rfl, hO⟩ | ⟨hq, v, rfl⟩, hb2⟩
    · obtain ⟨A', d, rfl, hP, hd⟩ := hO.pts
      have HF := Lib.hid (endV_yes HA.out hq)
      have HL := Lib.hid (cellsL_len (heldI Ls) (x, y) s s.size)
      rw [HL.out] at hd ⊢
      obtain ⟨b, off, rfl, hbB, hcc⟩ := hP (by rw [HL.out]; omega)
      obtain ⟨d0, d1⟩ := hcc s.size (by rw [HL.out]; omega)
      rw [cellsL_last hq] at d0 d1
      obtain ⟨q0, q1⟩ := q
      simp only at d0 d1
      obtain ⟨hc2, hf2, hzz⟩ := bcell hb2
      have hz22 : w.heap.size + 1 + 1 < w2.heap.size := by omega
      have b2 := bl_step b1 hb2 b1.size
      have hsI : (s.size : Int) ≤ 1048576 := by omega
      clear hP hcc hq hO
      go_wp2
      refine bodyPost_ret_by (v := .tuple #[.agg #[.int .i64 q0, .int .i64 q1], .bool true]) ?_ rfl ⟨by rw [HF.out], by (repeat (first | assumption | exact Below.refl _ _ | (refine bl_alloc ?_ _) | (refine Below.drew ?_) | (refine bl_drewN ?_ _) | (refine bl_set ?_ (by first | (simp; done) | omega | (simp; omega)) _) | (refine bl_trans ?_ (by assumption)) | (refine bl_step ?_ (by assumption) (by first | omega | exact Below.size (by assumption) | (simp; omega) | (simp; exact Below.size (by assumption))))))⟩
      rw [results_cell_tmp rfl]
      go_simp
    · have HF := Lib.hid (endV_out (M := heldI Ls) hq)
      obtain ⟨hc2, hf2, hzz⟩ := bcell hb2
      have hz22 : w.heap.size + 1 + 1 < w2.heap.size := by omega
      have b2 := bl_step b1 hb2 b1.size
      clear hq
      go_wp2
      refine bodyPost_ret_by (v := .tuple #[.agg #[.int .i64 0, .int .i64 0], .bool false]) ?_ rfl ⟨by rw [HF.out], by (repeat (first | assumption | exact Below.refl _ _ | (refine bl_alloc ?_ _) | (refine Below.drew ?_) | (refine bl_drewN ?_ _) | (refine bl_set ?_ (by first | (simp; done) | omega | (simp; omega)) _) | (refine bl_trans ?_ (by assumption)) | (refine bl_step ?_ (by assumption) (by first | omega | exact Below.size (by assumption) | (simp; omega) | (simp; exact Below.size (by assumption))))))⟩
      rw [results_cell_tmp rfl]
      go_simp
end Go.Proofs.Ytdndkknkkgialaa
