/-
  Contracts: IsOpen.
-/
import Derived.Test.YtdndkknkkgialaaMazeN
namespace Go.Proofs.Ytdndkknkkgialaa
set_option linter.unusedSimpArgs false
set_option linter.unusedVariables false
open Go.ChangeShapes Go.WideShapes Go.ChangeAt Go.RowKit

theorem MzAt.new {A : Option Addr} {Ls : List SlI} {c : Nat} {w w1 : World} {g : Nat} (hp : ISAt w w.heap.size A Ls) (hb : Below w.heap.size w w1) (hc : w1.cell? ⟨g, 0, none⟩ = some (.slice A Ls.length c)) (hg : g < w1.heap.size) : MzAt w1 g A Ls c := ⟨hc, hg, hp.to hb⟩
theorem atB_f {M : Mz} {x y : Int} (h : mzB M = false) : atB M x y = false := by unfold atB; rw [h]; rfl
theorem atB_t {M : Mz} {x y : Int} (h : mzB M = true) : atB M x y = openB M x y := by unfold atB; rw [h]; rfl
theorem one_open {M : Mz} {x y : Int} {b : Bool} (h : openB M x y = b) : allOpen M [(x, y)] = b := by simp [allOpen, okTo, h]
theorem one_pts (w : World) (g : Nat) (x y : Int) (h0 : w.cell? ⟨g, 0, none⟩ = some (.int .i64 x)) (h1 : w.cell? ⟨g, 1, none⟩ = some (.int .i64 y)) : PtsAt w w.heap.size (some ⟨g, 0, none⟩) [(x, y)] := fun _ => by
  refine ⟨g, 0, rfl, World.block_lt_of_cell? w _ h0, fun i hi => ?_⟩
  have : i = 0 := by simp at hi; omega
  subst this
  exact ⟨h0, h1⟩

set_option maxRecDepth 100000 in
set_option maxHeartbeats 800000 in
theorem IsOpenS_any (A : Option Addr) (Ls : List SlI) (c : Nat) (x y : Int) (w : World) (hp : ISAt w w.heap.size A Ls) (hs : Short Ls) :
    Calls Try.prog 16 #[.agg #[.slice A Ls.length c], .agg #[.int .i64 x, .int .i64 y]] w fun e w' => e = .returned (.bool (atB (heldI Ls) x y)) ∧ Below w.heap.size w w' := by
  go_enter Try.func16, Try.ntmps16
  go_wp2_with fail
  refine (l04At_any w.heap.size A Ls c x y _ (MzAt.new hp (by (repeat (first | assumption | exact Below.refl _ _ | (refine bl_alloc ?_ _) | (refine Below.drew ?_) | (refine bl_drewN ?_ _) | (refine bl_set ?_ (by first | (simp; done) | omega | (simp; omega)) _) | (refine bl_trans ?_ (by assumption)) | (refine bl_step ?_ (by assumption) (by first | omega | exact Below.size (by assumption) | (simp; omega) | (simp; exact Below.size (by assumption))))))) (by go_simp) (by simp <;> omega)) hs).mono ?_
  rintro e w1 ⟨rfl, hb1⟩
  go_wp2
  go_ret
  exact ⟨rfl, by (repeat (first | assumption | exact Below.refl _ _ | (refine bl_alloc ?_ _) | (refine Below.drew ?_) | (refine bl_drewN ?_ _) | (refine bl_set ?_ (by first | (simp; done) | omega | (simp; omega)) _) | (refine bl_trans ?_ (by assumption)) | (refine bl_step ?_ (by assumption) (by first | omega | exact Below.size (by assumption) | (simp; omega) | (simp; exact Below.size (by assumption))))))⟩

/-- What the program's entering of a maze at one point comes to. -/
def EntAt (A : Option Addr) (Ls : List SlI) (c : Nat) (x y : Int) (w : World) (e : Ending) (w' : World) : Prop :=
  (atB (heldI Ls) x y = true ∧ EntYes A Ls c w e w') ∨ (atB (heldI Ls) x y = false ∧ EntNo w e w')
theorem enterOne_any (A : Option Addr) (Ls : List SlI) (c : Nat) (x y : Int) (g d : Nat) (w : World) (hp : ISAt w w.heap.size A Ls) (hs : Short Ls) (hP : PtsAt w w.heap.size (some ⟨g, 0, none⟩) [(x, y)]) :
    Calls Try.prog 46 #[.agg #[.slice A Ls.length c], .slice (some ⟨g, 0, none⟩) 1 d] w (EntAt A Ls c x y w) := by
  cases hv : mzB (heldI Ls)
  · exact (enter_inv A Ls c _ 1 d w hp hs hv).mono fun e w' h => .inr ⟨atB_f hv, h⟩
  · cases ho : openB (heldI Ls) x y
    · exact (enter_not A Ls c _ [(x, y)] d w hp hs hv hP (by simp) (one_open ho)).mono fun e w' h => .inr ⟨by rw [atB_t hv, ho], h⟩
    · exact (enter_yes A Ls c _ [(x, y)] d w hp hs hv hP (by simp) (one_open ho)).mono fun e w' h => .inl ⟨by rw [atB_t hv, ho], h⟩

set_option maxRecDepth 100000 in
set_option maxHeartbeats 800000 in
theorem IsOpenI_any (A : Option Addr) (Ls : List SlI) (c : Nat) (x y : Int) (w : World) (hp : ISAt w w.heap.size A Ls) (hs : Short Ls) :
    Calls Try.prog 18 #[.agg #[.slice A Ls.length c], .agg #[.int .i64 x, .int .i64 y]] w fun e w' => e = .returned (.bool (atB (heldI Ls) x y)) ∧ Below w.heap.size w w' := by
  go_enter Try.func18, Try.ntmps18
  go_wp2_with fail
  refine (enterOne_any A Ls c x y _ _ _ (hp.to (by (repeat (first | assumption | exact Below.refl _ _ | (refine bl_alloc ?_ _) | (refine Below.drew ?_) | (refine bl_drewN ?_ _) | (refine bl_set ?_ (by first | (simp; done) | omega | (simp; omega)) _) | (refine bl_trans ?_ (by assumption)) | (refine bl_step ?_ (by assumption) (by first | omega | exact Below.size (by assumption) | (simp; omega) | (simp; exact Below.size (by assumption)))))))) hs (one_pts _ _ _ _ (by go_simp) (by go_simp))).mono ?_
  rintro e w1 (⟨ha, gw, gh, gc, rfl, hPr, hb1⟩ | ⟨ha, rfl, hb1⟩)
  · have HA := Lib.hid ha
    clear ha
    go_wp2
    go_ret
    exact ⟨retB (by rw [HA.out]), by (repeat (first | assumption | exact Below.refl _ _ | (refine bl_alloc ?_ _) | (refine Below.drew ?_) | (refine bl_drewN ?_ _) | (refine bl_set ?_ (by first | (simp; done) | omega | (simp; omega)) _) | (refine bl_trans ?_ (by assumption)) | (refine bl_step ?_ (by assumption) (by first | omega | exact Below.size (by assumption) | (simp; omega) | (simp; exact Below.size (by assumption))))))⟩
  · have HA := Lib.hid ha
    clear ha
    go_wp2
    go_ret
    exact ⟨retB (by rw [HA.out]), by (repeat (first | assumption | exact Below.refl _ _ | (refine bl_alloc ?_ _) | (refine Below.drew ?_) | (refine bl_drewN ?_ _) | (refine bl_set ?_ (by first | (simp; done) | omega | (simp; omega)) _) | (refine bl_trans ?_ (by assumption)) | (refine bl_step ?_ (by assumption) (by first | omega | exact Below.size (by assumption) | (simp; omega) | (simp; exact Below.size (by assumption))))))⟩
end Go.Proofs.Ytdndkknkkgialaa
