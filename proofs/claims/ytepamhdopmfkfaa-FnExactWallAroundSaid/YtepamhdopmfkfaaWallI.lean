/-
  Contract: the walls around reached cells, as the program has them.
-/
import Derived.Test.YtepamhdopmfkfaaWallS
import Derived.LoopNIn
namespace Go.Proofs.Ytepamhdopmfkfaa
set_option linter.unusedSimpArgs false
set_option linter.unusedVariables false
open Go.ChangeShapes Go.WideShapes Go.ChangeAt Go.RowKit Go.Shelf

set_option maxRecDepth 100000 in
set_option maxHeartbeats 800000 in
theorem isWall_any (gw gh gc : Nat) (A : Option Addr) (Ls : List SlI) (c : Nat) (x y : Int) (w : World) (hm : PrAt w gw gh gc A Ls c) (hv : MzOk (heldI Ls)) :
    Calls Try.prog 73 #[prV gw gh gc, .agg #[.int .i64 x, .int .i64 y]] w fun e w' => e = .returned (.bool (decide (priceI (heldI Ls) x y = 0))) ∧ Below w.heap.size w w' := by
  have hx0 : Below w.heap.size w (w.alloc (.cells #[.int .i64 x, .int .i64 y] 33)) := by (repeat (first | assumption | exact Below.refl _ _ | (refine bl_alloc ?_ _) | (refine Below.drew ?_) | (refine bl_drewN ?_ _) | (refine bl_set ?_ (by first | (simp; done) | omega | (simp; omega)) _) | (refine bl_trans ?_ (by assumption)) | (refine bl_step ?_ (by assumption) (by first | omega | exact Below.size (by assumption) | (simp; omega) | (simp; exact Below.size (by assumption))))))
  have hm1 := hm.to hx0
  have cp := fun w1 (h : PrAt w1 gw gh gc A Ls c) => price_any gw gh gc A Ls c x y w1 h hv
  generalize priceI (heldI Ls) x y = v at *
  go_enter Try.func73, Try.ntmps73
  go_wp2_with (go_at_call 115; refine (cp _ hm1).mono ?_; rintro e w1 ⟨rfl, hb1⟩)
  go_ret
  exact ⟨retB rfl, by (repeat (first | assumption | exact Below.refl _ _ | (refine bl_alloc ?_ _) | (refine Below.drew ?_) | (refine bl_drewN ?_ _) | (refine bl_set ?_ (by first | (simp; done) | omega | (simp; omega)) _) | (refine bl_trans ?_ (by assumption)) | (refine bl_step ?_ (by assumption) (by first | omega | exact Below.size (by assumption) | (simp; omega) | (simp; exact Below.size (by assumption))))))⟩
theorem enterYes_any (A : Option Addr) (Ls : List SlI) (c : Nat) (x y : Int) (g d : Nat) (w : World) (hp : ISAt w w.heap.size A Ls) (hs : Short Ls) (hP : PtsAt w w.heap.size (some ⟨g, 0, none⟩) [(x, y)]) (ha : atB (heldI Ls) x y = true) :
    Calls Try.prog 70 #[.agg #[.slice A Ls.length c], .slice (some ⟨g, 0, none⟩) 1 d] w (EntYes A Ls c w) :=
  (enterOne_any A Ls c x y g d w hp hs hP).mono fun _ _ h => by
    rcases h with ⟨_, h⟩ | ⟨h, _⟩
    · exact h
    · rw [ha] at h; cases h
theorem isWall_iff {M : Mz} {x y : Int} (h : priceI M x y = 0) : ∃ i j : Nat, x = i ∧ y = j ∧ i < wid M ∧ j < M.length := by
  by_cases ho : x < 0 ∨ (wid M : Int) ≤ x ∨ y < 0 ∨ (M.length : Int) ≤ y
  · rw [priceI_out ho] at h; omega
  · exact ⟨x.toNat, y.toNat, by omega, by omega, by omega, by omega⟩
theorem wallS_out {M : Mz} {p : Pt} {x y : Nat} (h : wid M ≤ x ∨ M.length ≤ y) : wallS M p ((x : Int), (y : Int)) = false := by
  cases hc : wallS M p ((x : Int), (y : Int))
  · rfl
  · unfold wallS at hc
    rw [Bool.and_eq_true] at hc
    obtain ⟨i, j, hi, hj, hi', hj'⟩ := isWall_iff (of_decide_eq_true hc.1)
    simp only at hi hj
    omega
theorem accS_wall {M : Mz} {p : Pt} (hM : MzOk M) : accS (wallS M p) 144 = wallC M p := by
  rw [show 144 = 12 * 12 from rfl, accS_cols]
  unfold wallC
  exact colsS_more (fun x y h => wallS_out (.inl h)) (fun x y h => wallS_out (.inr h)) 12 12 hM.w12 hM.h12
theorem wallC_len {M : Mz} {p : Pt} (hM : MzOk M) : (wallC M p).length ≤ 144 := by
  have := colsS_len (wallS M p) M.length (wid M)
  have h2 : wid M * M.length ≤ 12 * 12 := Nat.mul_le_mul hM.w12 hM.h12
  unfold wallC
  omega
end Go.Proofs.Ytepamhdopmfkfaa
