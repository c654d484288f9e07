/-
  Contracts: an attempt whose result is a point.
-/
import Derived.Test.YtepamhdopmfkfaaStar
namespace Go.Proofs.Ytepamhdopmfkfaa
set_option linter.unusedSimpArgs false
set_option linter.unusedVariables false
open Go.ChangeShapes Go.WideShapes Go.ChangeAt Go.RowKit
open Go.Proofs.Ytepamhdopmfkfaa.fnExactBoxOf

theorem catchPt_panicking (p : Addr) (x : Bool) (u : TypeId) (pv : Value) (older : List PanicEntry) (w : World) (hc : w.cell? p = some (.bool x)) (hz : w.frozen? p = false) :
    CallsD Try.prog 86 #[.pointer (some p)] (.panicking ({ v := .iface u pv, recovered := false } :: older)) w fun e u' w' =>
      e = .returned (.tuple #[]) ∧ u' = .panicking ({ v := .iface u pv, recovered := true } :: older) ∧ w' = w.setCell p (.bool false) := by
  refine callsD_of_wpS Try.func86 rfl fun c₀ cs hu => ?_
  apply wpS_region
  simp [wpOpsS, go_sem, recoverD, hu, Try.ntmps86, Exit.thenS, hc, hz, bodyPostS, results, Try.results86]
theorem catchPt_idle (p : Addr) (x : Bool) (w : World) (hc : w.cell? p = some (.bool x)) (hz : w.frozen? p = false) :
    CallsD Try.prog 86 #[.pointer (some p)] .returning w fun e u' w' => e = .returned (.tuple #[]) ∧ u' = .returning ∧ w' = w.setCell p (.bool true) := by
  refine callsD_of_wpS Try.func86 rfl fun c₀ cs hu => ?_
  apply wpS_region
  simp [wpOpsS, go_sem, recoverD, hu, Try.ntmps86, Exit.thenS, hc, hz, bodyPostS, results, Try.results86]
  cases c₀
  simp_all
def AttPtRes (OK : Int → Int → Prop) (NO : Prop) (w : World) (e : Ending) (w' : World) : Prop :=
  ((∃ x y, e = .returned (.tuple #[.agg #[.int .i64 x, .int .i64 y], .bool true]) ∧ OK x y) ∨ (e = .returned (.tuple #[.agg #[.int .i64 0, .int .i64 0], .bool false]) ∧ NO)) ∧ Below w.heap.size w w'
set_option maxRecDepth 100000 in
set_option maxHeartbeats 1600000 in
theorem attemptPt_any (G : Nat) (caps : Array Value) (w : World) (OK : Int → Int → Prop) (NO : Prop) (eg : ∀ args w, (callFunc G args).run Try.prog w = .ok (.enter G args) w)
    (hc : Calls Try.prog G caps ((w.alloc (.cells #[.int .i64 0, .int .i64 0] 33)).alloc (.cells #[.bool false] 4)) fun e w' => ((∃ x y, e = .returned (.agg #[.int .i64 x, .int .i64 y]) ∧ OK x y) ∨ (Pan e ∧ NO)) ∧ Below ((w.alloc (.cells #[.int .i64 0, .int .i64 0] 33)).alloc (.cells #[.bool false] 4)).heap.size ((w.alloc (.cells #[.int .i64 0, .int .i64 0] 33)).alloc (.cells #[.bool false] 4)) w') :
    Calls Try.prog 47 #[.func (.func G) #[] caps] w (AttPtRes OK NO w) := by
  have hmf : ∀ (fn : Fn) (first cap : Array Value) (w : World), (Instr.makeFunc fn first cap).run Try.prog w = .ok (.func fn first cap) w := fun _ _ _ _ => rfl
  go_enter_defers Try.func47, Try.ntmps47
  go_wp2_with fail
  refine hc.mono ?_
  rintro e w1 ⟨h, hb1⟩
  have c0 : w1.cell? ⟨w.heap.size + 1, 0, none⟩ = some (.bool false) := (hb1.cell (p := ⟨w.heap.size + 1, 0, none⟩) (by simp)).trans (by go_simp)
  have f0 : w1.frozen? ⟨w.heap.size + 1, 0, none⟩ = false := (hb1.frozen (p := ⟨w.heap.size + 1, 0, none⟩) (by simp)).trans (by go_simp)
  have hR0 : One (w.alloc (.cells #[.int .i64 0, .int .i64 0] 33)) w.heap.size 0 0 := heap_alloc_at _ _ rfl
  have hR : One w1 w.heap.size 0 0 := (hR0.alloc _).to hb1
  have b1 : Below w.heap.size w w1 := bl_trans (by (repeat (first | assumption | exact Below.refl _ _ | (refine bl_alloc ?_ _) | (refine Below.drew ?_) | (refine bl_drewN ?_ _) | (refine bl_set ?_ (by first | (simp; done) | omega | (simp; omega)) _) | (refine bl_trans ?_ (by assumption)) | (refine bl_step ?_ (by assumption) (by first | omega | exact Below.size (by assumption) | (simp; omega) | (simp; exact Below.size (by assumption))))))) hb1
  have hne : w.heap.size ≠ (⟨w.heap.size + 1, 0, none⟩ : Addr).block := by simp
  have hna : ∀ o, (⟨w.heap.size, o, none⟩ : Addr) ≠ ⟨w.heap.size + 1, 0, none⟩ := fun o e => by injection e with e; omega
  obtain ⟨a0, a1, q0, q1⟩ := hR.cells
  rcases h with ⟨x, y, rfl, hv⟩ | ⟨⟨u, pv, rfl⟩, hno⟩
  · go_wp2
    have c1 : ((w1.setCell ⟨w.heap.size, 0, none⟩ (.int .i64 x)).setCell ⟨w.heap.size, 1, none⟩ (.int .i64 y)).cell? ⟨w.heap.size + 1, 0, none⟩ = some (.bool false) := by
      simp only [World.cell?_setCell_other _ _ _ _ (hna _)]; exact c0
    have hZ0 : One ((w1.setCell ⟨w.heap.size, 0, none⟩ (.int .i64 x)).setCell ⟨w.heap.size, 1, none⟩ (.int .i64 y)) w.heap.size x y := (hR.set0 x).set1 y
    have bZ : Below w.heap.size w ((w1.setCell ⟨w.heap.size, 0, none⟩ (.int .i64 x)).setCell ⟨w.heap.size, 1, none⟩ (.int .i64 y)) := ((b1.setCell (p := ⟨w.heap.size, 0, none⟩) (Nat.le_refl _) (.int .i64 x)).setCell (p := ⟨w.heap.size, 1, none⟩) (Nat.le_refl _) (.int .i64 y))
    have fZ : ((w1.setCell ⟨w.heap.size, 0, none⟩ (.int .i64 x)).setCell ⟨w.heap.size, 1, none⟩ (.int .i64 y)).frozen? ⟨w.heap.size + 1, 0, none⟩ = false := by simp [f0]
    generalize ((w1.setCell ⟨w.heap.size, 0, none⟩ (.int .i64 x)).setCell ⟨w.heap.size, 1, none⟩ (.int .i64 y)) = wZ at *
    have c2 : (wZ.setCell ⟨w.heap.size + 1, 0, none⟩ (.bool true)).cell? ⟨w.heap.size + 1, 0, none⟩ = some (.bool true) := World.cell?_setCell_same _ _ _ c1
    refine leaves_cons (f := 86) (args := #[.pointer (some ⟨w.heap.size + 1, 0, none⟩)]) (by simp) (by simp [go_sem]) ?_
    refine (catchPt_idle ⟨w.heap.size + 1, 0, none⟩ true _ c2 (by simp [fZ])).mono ?_
    rintro e u' w'' ⟨rfl, rfl, rfl⟩
    have c3 : ((wZ.setCell ⟨w.heap.size + 1, 0, none⟩ (.bool true)).setCell ⟨w.heap.size + 1, 0, none⟩ (.bool true)).cell? ⟨w.heap.size + 1, 0, none⟩ = some (.bool true) := World.cell?_setCell_same _ _ _ c2
    have hZ := (hZ0.far (p := ⟨w.heap.size + 1, 0, none⟩) hne (.bool true)).far (p := ⟨w.heap.size + 1, 0, none⟩) hne (.bool true)
    have bE := (bZ.setCell (p := ⟨w.heap.size + 1, 0, none⟩) (by simp) (.bool true)).setCell (p := ⟨w.heap.size + 1, 0, none⟩) (by simp) (.bool true)
    generalize (wZ.setCell ⟨w.heap.size + 1, 0, none⟩ (.bool true)).setCell ⟨w.heap.size + 1, 0, none⟩ (.bool true) = wE at *
    obtain ⟨z0, z1, _, _⟩ := hZ.cells
    simp [Leaves, settle, results, Try.results47, go_sem, c3, z0, z1]
    exact ⟨.inl ⟨_, _, rfl, hv⟩, bE⟩
  · go_wp2
    refine leaves_cons (f := 86) (args := #[.pointer (some ⟨w.heap.size + 1, 0, none⟩)]) (by simp) (by simp [go_sem]) ?_
    refine (catchPt_panicking ⟨w.heap.size + 1, 0, none⟩ false _ _ _ _ c0 f0).mono ?_
    rintro e u' w'' ⟨rfl, rfl, rfl⟩
    have c3 : (w1.setCell ⟨w.heap.size + 1, 0, none⟩ (.bool false)).cell? ⟨w.heap.size + 1, 0, none⟩ = some (.bool false) := World.cell?_setCell_same _ _ _ c0
    have hZ := hR.far (p := ⟨w.heap.size + 1, 0, none⟩) hne (.bool false)
    have bE := b1.setCell (p := ⟨w.heap.size + 1, 0, none⟩) (by simp) (.bool false)
    generalize w1.setCell ⟨w.heap.size + 1, 0, none⟩ (.bool false) = wE at *
    obtain ⟨z0, z1, _, _⟩ := hZ.cells
    simp [Leaves, settle, results, Try.results47, go_sem, c3, z0, z1]
    exact ⟨.inr ⟨rfl, hno⟩, bE⟩
end Go.Proofs.Ytepamhdopmfkfaa
