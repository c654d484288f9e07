/-
  Contracts: IsOpen.
-/
import Derived.Test.YtdpamieheefhdaaMazeN
namespace Go.Proofs.Ytdpamieheefhdaa
set_option linter.unusedSimpArgs false
set_option linter.unusedVariables false
open Go.ChangeShapes Go.WideShapes Go.ChangeAt Go.RowKit

theorem MzAt.new {A : Option Addr} {Ls : List SlI} {c : Nat} {w w1 : World} {g : Nat} (hp : ISAt w w.heap.size A Ls) (hb : Below w.heap.size w w1) (hc : w1.cell? ⟨g, 0, none⟩ = some (.slice A Ls.length c)) (hg : g < w1.heap.size) : MzAt w1 g A Ls c := ⟨hc, hg, hp.to hb⟩
theorem atB_f {M : Mz} {x y : Int} (h : mzB M = false) : atB M x y = false := by unfold atB; rw [h]; rfl
theorem atB_t {M : Mz} {x y : Int} (h : mzB M = true) : atB M x y = openB M x y := by unfold atB; rw [h]; rfl
theorem one_open {M : Mz} {x y : Int} {b : Bool} (h : openB M x y = b) : allOpen M [(x, y)] = b := by simp [allOpen, okTo, h]
theorem one_pts (w : World) (g : Nat) (x y : Int) (h0 : w.cell? ⟨g, 0, none⟩ = some (.int .i64 x)) (h1 : w.cell? ⟨g, 1, none⟩ = some (.int .i64 y)) : PtsAt w w.heap.size (some ⟨g, 0, none⟩) [(x, y)] := fun _ => by
  refine ⟨g, 0, rfl, World.block_lt_of_cell? w _ h0, fun i hi => ?_⟩
  have : i = 0 := by simp at hi; omega
  subst this
  exact ⟨h0, h1⟩

/-- What the program's entering of a maze at one point comes to. -/
def EntAt (A : Option Addr) (Ls : List SlI) (c : Nat) (x y : Int) (w : World) (e : Ending) (w' : World) : Prop :=
  (atB (heldI Ls) x y = true ∧ EntYes A Ls c w e w') ∨ (atB (heldI Ls) x y = false ∧ EntNo w e w')
theorem enterOne_any (A : Option Addr) (Ls : List SlI) (c : Nat) (x y : Int) (g d : Nat) (w : World) (hp : ISAt w w.heap.size A Ls) (hs : Short Ls) (hP : PtsAt w w.heap.size (some ⟨g, 0, none⟩) [(x, y)]) :
    Calls Try.prog 60 #[.agg #[.slice A Ls.length c], .slice (some ⟨g, 0, none⟩) 1 d] w (EntAt A Ls c x y w) := by
  cases hv : mzB (heldI Ls)
  · exact (enter_inv A Ls c _ 1 d w hp hs hv).mono fun e w' h => .inr ⟨atB_f hv, h⟩
  · cases ho : openB (heldI Ls) x y
    · exact (enter_not A Ls c _ [(x, y)] d w hp hs hv hP (by simp) (one_open ho)).mono fun e w' h => .inr ⟨by rw [atB_t hv, ho], h⟩
    · exact (enter_yes A Ls c _ [(x, y)] d w hp hs hv hP (by simp) (one_open ho)).mono fun e w' h => .inl ⟨by rw [atB_t hv, ho], h⟩

end Go.Proofs.Ytdpamieheefhdaa
