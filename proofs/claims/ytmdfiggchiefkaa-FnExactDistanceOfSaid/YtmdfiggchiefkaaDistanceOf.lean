/-
  Proved: for every two points, the program's DistanceOf answers as the model's. No condition.
-/
import Derived.Test.YtmdfiggchiefkaaDist
namespace Go.Proofs.Ytmdfiggchiefkaa.fnExactDistanceOf
open Go.ChangeShapes Go.WideShapes Go.ChangeAt Go.RowKit

/-- Two boxes at N, N + 1, and nothing has turned below N: so behind a call that only makes memory. -/
theorem step {N : Nat} {w wr wr' : World} {X Y X' Y' : Value} (h : wr.cell? ⟨N, 0, none⟩ = some X ∧ wr.cell? ⟨N, 1, none⟩ = some Y ∧ wr.cell? ⟨N + 1, 0, none⟩ = some X' ∧ wr.cell? ⟨N + 1, 1, none⟩ = some Y' ∧ Below N w wr ∧ N + 1 < wr.heap.size)
    (hs : Below wr.heap.size wr wr') :
    wr'.cell? ⟨N, 0, none⟩ = some X ∧ wr'.cell? ⟨N, 1, none⟩ = some Y ∧ wr'.cell? ⟨N + 1, 0, none⟩ = some X' ∧ wr'.cell? ⟨N + 1, 1, none⟩ = some Y' ∧ Below N w wr' ∧ N + 1 < wr'.heap.size := by
  obtain ⟨h0, h1, h2, h3, hb, hz⟩ := h
  exact ⟨(hs.cell (p := ⟨N, 0, none⟩) (by simp; omega)).trans h0, (hs.cell (p := ⟨N, 1, none⟩) (by simp; omega)).trans h1, (hs.cell (p := ⟨N + 1, 0, none⟩) (by simpa using hz)).trans h2, (hs.cell (p := ⟨N + 1, 1, none⟩) (by simpa using hz)).trans h3,
    hb.trans (hs.mono (by omega)), Nat.lt_of_lt_of_le hz hs.size⟩

theorem step_drew {N : Nat} {w wr : World} {X Y X' Y' : Value} (h : wr.cell? ⟨N, 0, none⟩ = some X ∧ wr.cell? ⟨N, 1, none⟩ = some Y ∧ wr.cell? ⟨N + 1, 0, none⟩ = some X' ∧ wr.cell? ⟨N + 1, 1, none⟩ = some Y' ∧ Below N w wr ∧ N + 1 < wr.heap.size) :
    wr.drew.cell? ⟨N, 0, none⟩ = some X ∧ wr.drew.cell? ⟨N, 1, none⟩ = some Y ∧ wr.drew.cell? ⟨N + 1, 0, none⟩ = some X' ∧ wr.drew.cell? ⟨N + 1, 1, none⟩ = some Y' ∧ Below N w wr.drew ∧ N + 1 < wr.drew.heap.size := by
  obtain ⟨h0, h1, h2, h3, hb, hz⟩ := h
  exact ⟨h0, h1, h2, h3, hb.drew, hz⟩

theorem fifth {a b c d e : Prop} {N : Nat} {w wr : World} (h : a ∧ b ∧ c ∧ d ∧ Below N w wr ∧ e) : Below N w wr := h.2.2.2.2.1

theorem walk (x y x' y' : Int) (w : World) (_ : Fits x ∧ Fits y) (_ : Fits x' ∧ Fits y') :
    Calls Try.prog 6 #[.agg #[.int .i64 x, .int .i64 y], .agg #[.int .i64 x', .int .i64 y']] w fun e w' => e = .returned (.bool true) ∧ Below w.heap.size w w' := by
  obtain ⟨n, b, hv⟩ : ∃ n b, distV x y x' y' = .tuple #[.int .i64 n, .bool b] := ⟨_, _, rfl⟩
  have H := Lib.hid hv
  clear hv
  go_enter Try.func6, Try.ntmps6
  go_wp2
  go_region_held3 (fun wr => wr.cell? ⟨w.heap.size, 0, none⟩ = some (.int .i64 x) ∧ wr.cell? ⟨w.heap.size, 1, none⟩ = some (.int .i64 y) ∧ wr.cell? ⟨w.heap.size + 1, 0, none⟩ = some (.int .i64 x') ∧ wr.cell? ⟨w.heap.size + 1, 1, none⟩ = some (.int .i64 y') ∧ Below w.heap.size w wr ∧ w.heap.size + 1 < wr.heap.size)
    (first | exact step (by assumption) (by assumption) | ((refine ⟨by simp, by simp, by simp, by simp, ?_, by simp⟩); (repeat (first | assumption | exact Below.refl _ _ | (refine bl_alloc ?_ _) | (refine Below.drew ?_) | (refine bl_drewN ?_ _) | (refine bl_set ?_ (by simp) _) | (refine bl_step ?_ (by assumption) (by (try simp); try omega))))))
    (first
      | (go_at_call_of 29 (Value.agg #[.int .i64 x, .int .i64 y]); refine (toPoint_any _ _ _).mono ?_; rintro e w' ⟨rfl, hb⟩)
      | (go_at_call_of 29 (Value.agg #[.int .i64 x', .int .i64 y']); refine (toPoint_any _ _ _).mono ?_; rintro e w' ⟨rfl, hb⟩)
      | (go_at_call 31; refine (distS_any _ _ _ _ _).mono ?_; rintro e w' ⟨rfl, hb⟩; rw [H.out]))
  go_wp2
  go_region_held3 (fun wr => wr.cell? ⟨w.heap.size, 0, none⟩ = some (.int .i64 x) ∧ wr.cell? ⟨w.heap.size, 1, none⟩ = some (.int .i64 y) ∧ wr.cell? ⟨w.heap.size + 1, 0, none⟩ = some (.int .i64 x') ∧ wr.cell? ⟨w.heap.size + 1, 1, none⟩ = some (.int .i64 y') ∧ Below w.heap.size w wr ∧ w.heap.size + 1 < wr.heap.size)
    (first | exact step_drew (by assumption) | exact step (by assumption) (by assumption) | ((refine ⟨by simp, by simp, by simp, by simp, ?_, by simp⟩); (repeat (first | assumption | exact Below.refl _ _ | (refine bl_alloc ?_ _) | (refine Below.drew ?_) | (refine bl_drewN ?_ _) | (refine bl_set ?_ (by simp) _) | (refine bl_step ?_ (by assumption) (by (try simp); try omega))))))
    (first
      | (go_at_call_of 29 (Value.agg #[.int .i64 x, .int .i64 y]); refine (toPoint_any _ _ _).mono ?_; rintro e w' ⟨rfl, hb⟩)
      | (go_at_call_of 29 (Value.agg #[.int .i64 x', .int .i64 y']); refine (toPoint_any _ _ _).mono ?_; rintro e w' ⟨rfl, hb⟩)
      | (go_at_call 32; refine (distI_any _ _ _ _ _).mono ?_; rintro e w' ⟨rfl, hb⟩; rw [H.out]))
  go_wp2
  go_ret
  exact ⟨rfl, fifth (by assumption)⟩
end Go.Proofs.Ytmdfiggchiefkaa.fnExactDistanceOf
