/-
  Contract: the reached cells as a map.
-/
import Derived.Test.YtepamhdopmfkfaaVisI
namespace Go.Proofs.Ytepamhdopmfkfaa
set_option linter.unusedSimpArgs false
set_option linter.unusedVariables false
open Go.ChangeShapes Go.WideShapes Go.ChangeAt Go.RowKit

theorem run_makeMap0 (w : World) : (Instr.makeMap 96 none).run Try.prog w = .ok (.map (some w.heap.size)) (w.alloc (.map #[] 0)) := by
  simp [Instr.makeMap, Sem.run_bind, run_underlying Try.underlying96, Result.andThen, Sem.run, newObj]
/-- What the map of the reached cells comes to. -/
def MapRes (M : Mz) (p : Pt) (w : World) (e : Ending) (w' : World) : Prop :=
  ∃ mb l, e = .returned (.map (some mb)) ∧ SetMap w' mb l ∧ (∀ q, q ∈ l ↔ Reach M p q) ∧ w.heap.size ≤ mb ∧ Below w.heap.size w w'
set_option maxRecDepth 100000 in
set_option maxHeartbeats 1600000 in
theorem reached_any (gw gh gc : Nat) (A : Option Addr) (Ls : List SlI) (c : Nat) (x y : Int) (w : World) (hm : PrAt w gw gh gc A Ls c) (hv : MzOk (heldI Ls)) (ho : openB (heldI Ls) x y = true) :
    Calls Try.prog 71 #[prV gw gh gc, .agg #[.int .i64 x, .int .i64 y]] w (MapRes (heldI Ls) (x, y) w) := by
  have hmk := run_makeMap0
  have HO := Lib.hid ho
  have HV := Lib.hid hv
  have HP := Lib.hid hm.prB
  clear ho hv hm
  have s1 : (w.alloc (.cells #[prV gw gh gc] 93)).heap.size = w.heap.size + 1 := by simp
  have s2 : ((w.alloc (.cells #[prV gw gh gc] 93)).alloc (.cells #[.int .i64 x, .int .i64 y] 33)).heap.size = w.heap.size + 1 + 1 := by simp
  have hS := SetMap.new ((w.alloc (.cells #[prV gw gh gc] 93)).alloc (.cells #[.int .i64 x, .int .i64 y] 33))
  rw [s2] at hS
  have hS2 := (hS.alloc (.cells #[.map (some (w.heap.size + 1 + 1))] 96)).alloc (.cells #[visV (w.heap.size + 1 + 1 + 1) w.heap.size (w.heap.size + 1 + 1 + 1 + 1)] 114)
  have hbp := ((((Boxed.new w 93 (prV gw gh gc)).alloc (.cells #[.int .i64 x, .int .i64 y] 33)).alloc (.map #[] 0)).alloc (.cells #[.map (some (w.heap.size + 1 + 1))] 96)).alloc (.cells #[visV (w.heap.size + 1 + 1 + 1) w.heap.size (w.heap.size + 1 + 1 + 1 + 1)] 114)
  have hbm := (Boxed.new (((w.alloc (.cells #[prV gw gh gc] 93)).alloc (.cells #[.int .i64 x, .int .i64 y] 33)).alloc (.map #[] 0)) 96 (.map (some (w.heap.size + 1 + 1)))).alloc (.cells #[visV (w.heap.size + 1 + 1 + 1) w.heap.size (w.heap.size + 1 + 1 + 1 + 1)] 114)
  rw [show (((w.alloc (.cells #[prV gw gh gc] 93)).alloc (.cells #[.int .i64 x, .int .i64 y] 33)).alloc (.map #[] 0)).heap.size = w.heap.size + 1 + 1 + 1 by simp] at hbm
  have hbv := Boxed.new ((((w.alloc (.cells #[prV gw gh gc] 93)).alloc (.cells #[.int .i64 x, .int .i64 y] 33)).alloc (.map #[] 0)).alloc (.cells #[.map (some (w.heap.size + 1 + 1))] 96)) 114 (visV (w.heap.size + 1 + 1 + 1) w.heap.size (w.heap.size + 1 + 1 + 1 + 1))
  rw [show ((((w.alloc (.cells #[prV gw gh gc] 93)).alloc (.cells #[.int .i64 x, .int .i64 y] 33)).alloc (.map #[] 0)).alloc (.cells #[.map (some (w.heap.size + 1 + 1))] 96)).heap.size = w.heap.size + 1 + 1 + 1 + 1 by simp] at hbv
  obtain ⟨W, hW⟩ : ∃ W, W = (((((w.alloc (.cells #[prV gw gh gc] 93)).alloc (.cells #[.int .i64 x, .int .i64 y] 33)).alloc (.map #[] 0)).alloc (.cells #[.map (some (w.heap.size + 1 + 1))] 96)).alloc (.cells #[visV (w.heap.size + 1 + 1 + 1) w.heap.size (w.heap.size + 1 + 1 + 1 + 1)] 114)) := ⟨_, rfl⟩
  have bW : Below w.heap.size w W := by rw [hW]; (repeat (first | assumption | exact Below.refl _ _ | (refine bl_alloc ?_ _) | (refine Below.drew ?_) | (refine bl_drewN ?_ _) | (refine bl_set ?_ (by first | (simp; done) | omega | (simp; omega)) _) | (refine bl_trans ?_ (by assumption)) | (refine bl_step ?_ (by assumption) (by first | omega | exact Below.size (by assumption) | (simp; omega) | (simp; exact Below.size (by assumption))))))
  rw [← hW] at hS2 hbp hbm hbv
  have hcall := visit_any HV.out HP.out (mb := w.heap.size + 1 + 1) (by omega) (Nat.le_refl _) 145 [] x y W ⟨bW, hbm, hbp, hbv, hS2⟩ (by simp) (by simp) (by simp)
  have HW := Lib.hid hW
  have HB := Lib.hid hbm
  clear hS hS2 hbp hbm hbv s1 s2
  go_enter Try.func71, Try.ntmps71
  go_wp2_with fail
  rw [← hW]
  refine hcall.mono ?_
  rintro e w5 ⟨rfl, l, hp, hs, hbt⟩
  have hb5 := hbt.below bW (by omega) bW.size
  have hbm5 := hbt.boxed HB.out (by omega)
  have m0 := hbm5.cell
  have HL := Lib.hid (hp.all HO.out)
  clear hcall hW hp hbt HB
  go_wp2
  go_ret
  exact ⟨_, l, rfl, hs, HL.out, by omega, hb5⟩
end Go.Proofs.Ytepamhdopmfkfaa
