/-
  Contracts: an attempt whose result is a star.
-/
import Derived.Test.YtepamhdopmfkfaaStar
namespace Go.Proofs.Ytepamhdopmfkfaa
set_option linter.unusedSimpArgs false
set_option linter.unusedVariables false
open Go.ChangeShapes Go.WideShapes Go.ChangeAt Go.RowKit
open Go.Proofs.Ytepamhdopmfkfaa.fnExactBoxOf

theorem catchStar_panicking (p : Addr) (x : Bool) (u : TypeId) (pv : Value) (older : List PanicEntry) (w : World) (hc : w.cell? p = some (.bool x)) (hz : w.frozen? p = false) :
    CallsD Try.prog 94 #[.pointer (some p)] (.panicking ({ v := .iface u pv, recovered := false } :: older)) w fun e u' w' =>
      e = .returned (.tuple #[]) ∧ u' = .panicking ({ v := .iface u pv, recovered := true } :: older) ∧ w' = w.setCell p (.bool false) := by
  refine callsD_of_wpS Try.func94 rfl fun c₀ cs hu => ?_
  apply wpS_region
  simp [wpOpsS, go_sem, recoverD, hu, Try.ntmps94, Exit.thenS, hc, hz, bodyPostS, results, Try.results94]
theorem catchStar_idle (p : Addr) (x : Bool) (w : World) (hc : w.cell? p = some (.bool x)) (hz : w.frozen? p = false) :
    CallsD Try.prog 94 #[.pointer (some p)] .returning w fun e u' w' => e = .returned (.tuple #[]) ∧ u' = .returning ∧ w' = w.setCell p (.bool true) := by
  refine callsD_of_wpS Try.func94 rfl fun c₀ cs hu => ?_
  apply wpS_region
  simp [wpOpsS, go_sem, recoverD, hu, Try.ntmps94, Exit.thenS, hc, hz, bodyPostS, results, Try.results94]
  cases c₀
  simp_all
def AttStarRes (OK : Int → Int → Int → Prop) (NO : Prop) (w : World) (e : Ending) (w' : World) : Prop :=
  ((∃ x y n, e = .returned (.tuple #[.agg #[.int .i64 x, .int .i64 y, .int .i64 n], .bool true]) ∧ OK x y n) ∨ (e = .returned (.tuple #[.agg #[.int .i64 0, .int .i64 0, .int .i64 0], .bool false]) ∧ NO)) ∧ Below w.heap.size w w'
set_option maxRecDepth 100000 in
set_option maxHeartbeats 1600000 in
theorem attemptStar_any (G : Nat) (caps : Array Value) (w : World) (OK : Int → Int → Int → Prop) (NO : Prop) (eg : ∀ args w, (callFunc G args).run Try.prog w = .ok (.enter G args) w)
    (hc : Calls Try.prog G caps ((w.alloc (.cells #[.int .i64 0, .int .i64 0, .int .i64 0] 77)).alloc (.cells #[.bool false] 4)) fun e w' => ((∃ x y n, e = .returned (.agg #[.int .i64 x, .int .i64 y, .int .i64 n]) ∧ OK x y n) ∨ (Pan e ∧ NO)) ∧ Below ((w.alloc (.cells #[.int .i64 0, .int .i64 0, .int .i64 0] 77)).alloc (.cells #[.bool false] 4)).heap.size ((w.alloc (.cells #[.int .i64 0, .int .i64 0, .int .i64 0] 77)).alloc (.cells #[.bool false] 4)) w') :
    Calls Try.prog 60 #[.func (.func G) #[] caps] w (AttStarRes OK NO w) := by
  have hmf : ∀ (fn : Fn) (first cap : Array Value) (w : World), (Instr.makeFunc fn first cap).run Try.prog w = .ok (.func fn first cap) w := fun _ _ _ _ => rfl
  go_enter_defers Try.func60, Try.ntmps60
  go_wp2_with fail
  refine hc.mono ?_
  rintro e w1 ⟨h, hb1⟩
  have c0 : w1.cell? ⟨w.heap.size + 1, 0, none⟩ = some (.bool false) := (hb1.cell (p := ⟨w.heap.size + 1, 0, none⟩) (by simp)).trans (by go_simp)
  have f0 : w1.frozen? ⟨w.heap.size + 1, 0, none⟩ = false := (hb1.frozen (p := ⟨w.heap.size + 1, 0, none⟩) (by simp)).trans (by go_simp)
  have hR0 : Star3 (w.alloc (.cells #[.int .i64 0, .int .i64 0, .int .i64 0] 77)) w.heap.size 0 0 0 := Star3.new _ _ _ rfl
  have hR : Star3 w1 w.heap.size 0 0 0 := (hR0.alloc _).to hb1
  have b1 : Below w.heap.size w w1 := bl_trans (by (repeat (first | assumption | exact Below.refl _ _ | (refine bl_alloc ?_ _) | (refine Below.drew ?_) | (refine bl_drewN ?_ _) | (refine bl_set ?_ (by first | (simp; done) | omega | (simp; omega)) _) | (refine bl_trans ?_ (by assumption)) | (refine bl_step ?_ (by assumption) (by first | omega | exact Below.size (by assumption) | (simp; omega) | (simp; exact Below.size (by assumption))))))) hb1
  have hne : w.heap.size ≠ (⟨w.heap.size + 1, 0, none⟩ : Addr).block := by simp
  have hna : ∀ o, (⟨w.heap.size, o, none⟩ : Addr) ≠ ⟨w.heap.size + 1, 0, none⟩ := fun o e => by injection e with e; omega
  have a0 := hR.cell0
  have a1 := hR.cell1
  have a2 := hR.cell2
  have q0 := hR.frozen 0
  have q1 := hR.frozen 1
  have q2 := hR.frozen 2
  rcases h with ⟨x, y, n, rfl, hv⟩ | ⟨⟨u, pv, rfl⟩, hno⟩
  · go_wp2
    have c1 : (((w1.setCell ⟨w.heap.size, 0, none⟩ (.int .i64 x)).setCell ⟨w.heap.size, 1, none⟩ (.int .i64 y)).setCell ⟨w.heap.size, 2, none⟩ (.int .i64 n)).cell? ⟨w.heap.size + 1, 0, none⟩ = some (.bool false) := by
      simp only [World.cell?_setCell_other _ _ _ _ (hna _)]; exact c0
    have hZ0 : Star3 (((w1.setCell ⟨w.heap.size, 0, none⟩ (.int .i64 x)).setCell ⟨w.heap.size, 1, none⟩ (.int .i64 y)).setCell ⟨w.heap.size, 2, none⟩ (.int .i64 n)) w.heap.size x y n := hR.put x y n
    have bZ : Below w.heap.size w (((w1.setCell ⟨w.heap.size, 0, none⟩ (.int .i64 x)).setCell ⟨w.heap.size, 1, none⟩ (.int .i64 y)).setCell ⟨w.heap.size, 2, none⟩ (.int .i64 n)) := (((b1.setCell (p := ⟨w.heap.size, 0, none⟩) (Nat.le_refl _) (.int .i64 x)).setCell (p := ⟨w.heap.size, 1, none⟩) (Nat.le_refl _) (.int .i64 y)).setCell (p := ⟨w.heap.size, 2, none⟩) (Nat.le_refl _) (.int .i64 n))
    have fZ : (((w1.setCell ⟨w.heap.size, 0, none⟩ (.int .i64 x)).setCell ⟨w.heap.size, 1, none⟩ (.int .i64 y)).setCell ⟨w.heap.size, 2, none⟩ (.int .i64 n)).frozen? ⟨w.heap.size + 1, 0, none⟩ = false := by simp [f0]
    generalize (((w1.setCell ⟨w.heap.size, 0, none⟩ (.int .i64 x)).setCell ⟨w.heap.size, 1, none⟩ (.int .i64 y)).setCell ⟨w.heap.size, 2, none⟩ (.int .i64 n)) = wZ at *
    have c2 : (wZ.setCell ⟨w.heap.size + 1, 0, none⟩ (.bool true)).cell? ⟨w.heap.size + 1, 0, none⟩ = some (.bool true) := World.cell?_setCell_same _ _ _ c1
    refine leaves_cons (f := 94) (args := #[.pointer (some ⟨w.heap.size + 1, 0, none⟩)]) (by simp) (by simp [go_sem]) ?_
    refine (catchStar_idle ⟨w.heap.size + 1, 0, none⟩ true _ c2 (by simp [fZ])).mono ?_
    rintro e u' w'' ⟨rfl, rfl, rfl⟩
    have c3 : ((wZ.setCell ⟨w.heap.size + 1, 0, none⟩ (.bool true)).setCell ⟨w.heap.size + 1, 0, none⟩ (.bool true)).cell? ⟨w.heap.size + 1, 0, none⟩ = some (.bool true) := World.cell?_setCell_same _ _ _ c2
    have hZ := (hZ0.far (p := ⟨w.heap.size + 1, 0, none⟩) hne (.bool true)).far (p := ⟨w.heap.size + 1, 0, none⟩) hne (.bool true)
    have bE := (bZ.setCell (p := ⟨w.heap.size + 1, 0, none⟩) (by simp) (.bool true)).setCell (p := ⟨w.heap.size + 1, 0, none⟩) (by simp) (.bool true)
    generalize (wZ.setCell ⟨w.heap.size + 1, 0, none⟩ (.bool true)).setCell ⟨w.heap.size + 1, 0, none⟩ (.bool true) = wE at *
    have z0 := hZ.cell0
    have z1 := hZ.cell1
    have z2 := hZ.cell2
    simp [Leaves, settle, results, Try.results60, go_sem, c3, z0, z1, z2]
    exact ⟨.inl ⟨_, _, _, rfl, hv⟩, bE⟩
  · go_wp2
    refine leaves_cons (f := 94) (args := #[.pointer (some ⟨w.heap.size + 1, 0, none⟩)]) (by simp) (by simp [go_sem]) ?_
    refine (catchStar_panicking ⟨w.heap.size + 1, 0, none⟩ false _ _ _ _ c0 f0).mono ?_
    rintro e u' w'' ⟨rfl, rfl, rfl⟩
    have c3 : (w1.setCell ⟨w.heap.size + 1, 0, none⟩ (.bool false)).cell? ⟨w.heap.size + 1, 0, none⟩ = some (.bool false) := World.cell?_setCell_same _ _ _ c0
    have hZ := hR.far (p := ⟨w.heap.size + 1, 0, none⟩) hne (.bool false)
    have bE := b1.setCell (p := ⟨w.heap.size + 1, 0, none⟩) (by simp) (.bool false)
    generalize w1.setCell ⟨w.heap.size + 1, 0, none⟩ (.bool false) = wE at *
    have z0 := hZ.cell0
    have z1 := hZ.cell1
    have z2 := hZ.cell2
    simp [Leaves, settle, results, Try.results60, go_sem, c3, z0, z1, z2]
    exact ⟨.inr ⟨rfl, hno⟩, bE⟩
end Go.Proofs.Ytepamhdopmfkfaa
