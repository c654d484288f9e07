/-
  Contract: the reached cells, as the model has them.
-/
import Derived.Test.YtdndkknkkgialaaReachM
import Derived.Test.YtdndkknkkgialaaMazeI
namespace Go.Proofs.Ytdndkknkkgialaa
set_option linter.unusedSimpArgs false
set_option linter.unusedVariables false
open Go.ChangeShapes Go.WideShapes Go.ChangeAt Go.RowKit

/-- The reached cells of a maze in order. -/
noncomputable def reachL (M : Mz) (p : Pt) : List Pt := colsS (reachB M p) M.length (wid M)
/-- What the reached cells come to. -/
def ReachedRes (M : Mz) (p : Pt) (w : World) (e : Ending) (w' : World) : Prop :=
  ((atB M p.1 p.2 = false ∧ e = .returned (.tuple #[.slice none 0 0, .bool false])) ∨ (atB M p.1 p.2 = true ∧ ∃ v, e = .returned (.tuple #[v, .bool true]) ∧ OwnQ w' w.heap.size v (reachL M p))) ∧ Below w.heap.size w w'
theorem atB_two {M : Mz} {x y : Int} (h : atB M x y = true) : mzB M = true ∧ openB M x y = true := by
  unfold atB at h; simpa using h
theorem OwnQ.base_le {w : World} {B B' : Nat} {v : Value} {L : List Pt} (h : OwnQ w B v L) (hB : B' ≤ B) : OwnQ w B' v L := by
  refine ⟨h.1, ?_⟩
  rcases h.2 with hn | ⟨g, cap, cur, rfl, hb, rest⟩
  · exact .inl hn
  · exact .inr ⟨g, cap, cur, rfl, Nat.le_trans hB hb, rest⟩
set_option maxRecDepth 100000 in
set_option maxHeartbeats 1600000 in
theorem ReachedCellsS_any (A : Option Addr) (Ls : List SlI) (c : Nat) (x y : Int) (w : World) (hp : ISAt w w.heap.size A Ls) (hs : Short Ls) :
    Calls Try.prog 24 #[.agg #[.slice A Ls.length c], .agg #[.int .i64 x, .int .i64 y]] w (ReachedRes (heldI Ls) (x, y) w) := by
  cases ha : atB (heldI Ls) x y
  · have HA := Lib.hid ha
    have cA := fun w1 g hm => l04At_any g A Ls c x y w1 hm hs
    rw [ha] at cA
    clear ha
    go_enter Try.func24, Try.ntmps24
    go_wp2_with fail
    refine (cA _ w.heap.size (MzAt.new hp (by (repeat (first | assumption | exact Below.refl _ _ | (refine bl_alloc ?_ _) | (refine Below.drew ?_) | (refine bl_drewN ?_ _) | (refine bl_set ?_ (by first | (simp; done) | omega | (simp; omega)) _) | (refine bl_trans ?_ (by assumption)) | (refine bl_step ?_ (by assumption) (by first | omega | exact Below.size (by assumption) | (simp; omega) | (simp; exact Below.size (by assumption))))))) (by go_simp) (by simp <;> omega))).mono ?_
    rintro e w1 ⟨rfl, hb1⟩
    go_wp2
    go_ret2
    exact ⟨.inl ⟨HA.out, rfl⟩, by (repeat (first | assumption | exact Below.refl _ _ | (refine bl_alloc ?_ _) | (refine Below.drew ?_) | (refine bl_drewN ?_ _) | (refine bl_set ?_ (by first | (simp; done) | omega | (simp; omega)) _) | (refine bl_trans ?_ (by assumption)) | (refine bl_step ?_ (by assumption) (by first | omega | exact Below.size (by assumption) | (simp; omega) | (simp; exact Below.size (by assumption))))))⟩
  · obtain ⟨hv, ho⟩ := atB_two ha
    obtain ⟨i, j, rfl, rfl, hi, hj, _⟩ := openB_pt ho
    have hM := mzOk_of hv
    have HA := Lib.hid ha
    have HI := Lib.hid hi
    have HJ := Lib.hid hj
    have HMO := Lib.hid hM
    have cA := fun w1 g hm => l04At_any g A Ls c i j w1 hm hs
    rw [ha] at cA
    clear ha hv ho hi hj hM
    have hm1 : MzAt ((w.alloc (.cells #[.slice A Ls.length c] 27)).alloc (.cells #[.int .i64 i, .int .i64 j] 34)) w.heap.size A Ls c := MzAt.new hp (by (repeat (first | assumption | exact Below.refl _ _ | (refine bl_alloc ?_ _) | (refine Below.drew ?_) | (refine bl_drewN ?_ _) | (refine bl_set ?_ (by first | (simp; done) | omega | (simp; omega)) _) | (refine bl_trans ?_ (by assumption)) | (refine bl_step ?_ (by assumption) (by first | omega | exact Below.size (by assumption) | (simp; omega) | (simp; exact Below.size (by assumption))))))) (by go_simp) (by simp <;> omega)
    have b1 : Below w.heap.size w ((w.alloc (.cells #[.slice A Ls.length c] 27)).alloc (.cells #[.int .i64 i, .int .i64 j] 34)) := by (repeat (first | assumption | exact Below.refl _ _ | (refine bl_alloc ?_ _) | (refine Below.drew ?_) | (refine bl_drewN ?_ _) | (refine bl_set ?_ (by first | (simp; done) | omega | (simp; omega)) _) | (refine bl_trans ?_ (by assumption)) | (refine bl_step ?_ (by assumption) (by first | omega | exact Below.size (by assumption) | (simp; omega) | (simp; exact Below.size (by assumption))))))
    have hP1 := PtBox.new (w.alloc (.cells #[.slice A Ls.length c] 27)) i j
    go_enter Try.func24, Try.ntmps24
    go_wp2_with fail
    refine (cA _ w.heap.size hm1).mono ?_
    rintro e w2 ⟨rfl, hb2⟩
    have hm2 := hm1.to hb2
    have b2 := bl_step b1 hb2 b1.size
    have hP2 := hP1.to hb2
    simp at hP2
    have p0 := hP2.c0
    have p1 := hP2.c1
    simp only at p0 p1
    have hz2 := hP2.lt
    clear hm1 b1 hP1 hb2 cA
    have hm3 := hm2.to (show Below w2.heap.size w2 (w2.alloc (.cells #[] 34)) by (repeat (first | assumption | exact Below.refl _ _ | (refine bl_alloc ?_ _) | (refine Below.drew ?_) | (refine bl_drewN ?_ _) | (refine bl_set ?_ (by first | (simp; done) | omega | (simp; omega)) _) | (refine bl_trans ?_ (by assumption)) | (refine bl_step ?_ (by assumption) (by first | omega | exact Below.size (by assumption) | (simp; omega) | (simp; exact Below.size (by assumption)))))))
    have b3 : Below w.heap.size w (w2.alloc (.cells #[] 34)) := bl_alloc b2 _
    go_wp2_with fail
    refine (l04Reached_any w.heap.size A Ls c i j _ 0 _ hm3 HMO.out HI.out HJ.out).mono ?_
    rintro e w4 ⟨⟨gm, f, rfl, hgm, hF, hf⟩, hb4⟩
    have hm4 := hm3.to hb4
    have b4 := bl_step b3 hb4 b3.size
    have HFf := Lib.hid hf
    clear hm3 hb4 b3 hf p0 p1 hz2
    go_wp2_with fail
    refine (l04Sorted_any w.heap.size A Ls c gm f (reachB (heldI Ls) ((i : Int), (j : Int))) _ _ w4 hm4 HMO.out hF rfl HFf.out).mono ?_
    rintro e w5 ⟨⟨v, rfl, hown⟩, hb5⟩
    have b5 := bl_step b4 hb5 b4.size
    have ho5 := hown.base_le b4.size
    clear hm4 hb5 b4 hown
    go_wp2
    go_ret2
    exact ⟨.inr ⟨HA.out, v, rfl, ho5⟩, b5⟩
end Go.Proofs.Ytdndkknkkgialaa
