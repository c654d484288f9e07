/-
  Contracts: the walls around reached cells, said over what a maze holds.
-/
import Derived.Test.YtepamhdopmfkfaaWallJ
import Derived.Test.YtepamhdopmfkfaaReachedW
namespace Go.Proofs.Ytepamhdopmfkfaa
set_option linter.unusedSimpArgs false
set_option linter.unusedVariables false
open Go.ChangeShapes Go.WideShapes Go.ChangeAt Go.RowKit

noncomputable def wallL (M : Mz) (p : Pt) : List Pt := bif atB M p.1 p.2 then wallC M p else []
theorem wallL_len (M : Mz) (p : Pt) : (wallL M p).length ≤ 1048576 := by
  unfold wallL
  cases h : atB M p.1 p.2
  · simp
  · have := wallC_len (p := p) (mzOk_of (atB_two h).1)
    simp only [cond_true]
    omega
theorem WallRes.pts {M : Mz} {p : Pt} {w w' : World} {e : Ending} (h : WallRes M p w e w') : PtsRes (wallL M p) (atB M p.1 p.2) w e w' := by
  obtain ⟨⟨ha, rfl⟩ | ⟨ha, v, rfl, ho⟩, hb⟩ := h
  · unfold wallL
    rw [ha]
    exact ⟨⟨none, 0, rfl, Own4Q.none_ _ _ _⟩, hb⟩
  · unfold wallL
    rw [ha]
    obtain ⟨A, c, rfl, h4⟩ := own4q_of ho
    exact ⟨⟨A, c, rfl, h4⟩, hb⟩
/-- A scope that nothing jumps out of. -/
theorem wp_scope {P : Program} {Q : Exit → Act → World → Prop} {a : Act} {w : World} {c : Code} (hQ : ∀ l a w, ¬ Q (.goto l) a w) (h : c.wp P Q a w) : (Code.scope c).wp P Q a w :=
  wp_scope_straight (wp_mono h fun e a w hq => by
    cases e with
    | goto l => exact (hQ _ _ _ hq).elim
    | normal => exact hq
    | exit id => exact hq
    | ret => exact hq
    | panic ch => exact hq
    | outgrown => exact hq)
set_option maxRecDepth 100000 in
set_option maxHeartbeats 1600000 in
theorem WallAroundI_no (A : Option Addr) (Ls : List SlI) (c : Nat) (x y : Int) (w : World) (hp : ISAt w w.heap.size A Ls) (hs : Short Ls) (ha : atB (heldI Ls) x y = false) :
    Calls Try.prog 32 #[.agg #[.slice A Ls.length c], .agg #[.int .i64 x, .int .i64 y]] w (WallRes (heldI Ls) (x, y) w) := by
  go_enter Try.func32, Try.ntmps32
  go_wp2_with fail
  refine wp_scope (fun _ _ _ h => h) ?_
  go_wp2_with fail
  refine (enterOne_any A Ls c x y _ _ _ (hp.to (by (repeat (first | assumption | exact Below.refl _ _ | (refine bl_alloc ?_ _) | (refine Below.drew ?_) | (refine bl_drewN ?_ _) | (refine bl_set ?_ (by first | (simp; done) | omega | (simp; omega)) _) | (refine bl_trans ?_ (by assumption)) | (refine bl_step ?_ (by assumption) (by first | omega | exact Below.size (by assumption) | (simp; omega) | (simp; exact Below.size (by assumption)))))))) hs (one_pts _ _ _ _ (by go_simp) (by go_simp))).mono ?_
  rintro e w1 (⟨ha', gw, gh, gc, rfl, hPr, hb1⟩ | ⟨_, rfl, hb1⟩)
  · rw [ha] at ha'; cases ha'
  · have HA := Lib.hid ha
    clear ha
    go_wp2
    go_ret2
    exact ⟨.inl ⟨HA.out, rfl⟩, by (repeat (first | assumption | exact Below.refl _ _ | (refine bl_alloc ?_ _) | (refine Below.drew ?_) | (refine bl_drewN ?_ _) | (refine bl_set ?_ (by first | (simp; done) | omega | (simp; omega)) _) | (refine bl_trans ?_ (by assumption)) | (refine bl_step ?_ (by assumption) (by first | omega | exact Below.size (by assumption) | (simp; omega) | (simp; exact Below.size (by assumption))))))⟩
theorem WallAroundS_in (A : Option Addr) (n c : Nat) (M : Mz) (x y : Int) (w : World) (h : MzIn w A n M) :
    Calls Try.prog 30 #[.agg #[.slice A n c], .agg #[.int .i64 x, .int .i64 y]] w (PtsRes (wallL M (x, y)) (atB M x y) w) := by
  obtain ⟨Ms, rfl, rfl, h3, h4⟩ := h
  cases ha : atB (heldI Ms) x y
  · exact (WallAroundS_no A Ms c x y w h3 h4 ha).mono fun _ _ h => ha ▸ h.pts
  · exact (WallAroundS_yes A Ms c x y w h3 h4 ha).mono fun _ _ h => ha ▸ h.pts
theorem WallAroundI_in (A : Option Addr) (n c : Nat) (M : Mz) (x y : Int) (w : World) (h : MzIn w A n M) :
    Calls Try.prog 32 #[.agg #[.slice A n c], .agg #[.int .i64 x, .int .i64 y]] w (PtsRes (wallL M (x, y)) (atB M x y) w) := by
  obtain ⟨Ms, rfl, rfl, h3, h4⟩ := h
  cases ha : atB (heldI Ms) x y
  · exact (WallAroundI_no A Ms c x y w h3 h4 ha).mono fun _ _ h => ha ▸ h.pts
  · exact (WallAroundI_yes A Ms c x y w h3 h4 ha).mono fun _ _ h => ha ▸ h.pts
end Go.Proofs.Ytepamhdopmfkfaa
