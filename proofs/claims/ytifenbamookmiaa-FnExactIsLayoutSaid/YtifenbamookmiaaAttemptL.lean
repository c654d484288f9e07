/-
  Contracts: an attempt whose result lies in 3 cells (L).
-/
import Derived.Test.YtifenbamookmiaaPan
namespace Go.Proofs.Ytifenbamookmiaa
set_option linter.unusedSimpArgs false
set_option linter.unusedVariables false
open Go.ChangeShapes Go.WideShapes Go.ChangeAt Go.RowKit

theorem catchL_panicking (p : Addr) (x : Bool) (u : TypeId) (pv : Value) (older : List PanicEntry) (w : World) (hc : w.cell? p = some (.bool x)) (hz : w.frozen? p = false) :
    CallsD Try.prog 50 #[.pointer (some p)] (.panicking ({ v := .iface u pv, recovered := false } :: older)) w fun e u' w' =>
      e = .returned (.tuple #[]) ∧ u' = .panicking ({ v := .iface u pv, recovered := true } :: older) ∧ w' = w.setCell p (.bool false) := by
  refine callsD_of_wpS Try.func50 rfl fun c₀ cs hu => ?_
  apply wpS_region
  simp [wpOpsS, go_sem, recoverD, hu, Try.ntmps50, Exit.thenS, hc, hz, bodyPostS, results, Try.results50]
theorem catchL_idle (p : Addr) (x : Bool) (w : World) (hc : w.cell? p = some (.bool x)) (hz : w.frozen? p = false) :
    CallsD Try.prog 50 #[.pointer (some p)] .returning w fun e u' w' => e = .returned (.tuple #[]) ∧ u' = .returning ∧ w' = w.setCell p (.bool true) := by
  refine callsD_of_wpS Try.func50 rfl fun c₀ cs hu => ?_
  apply wpS_region
  simp [wpOpsS, go_sem, recoverD, hu, Try.ntmps50, Exit.thenS, hc, hz, bodyPostS, results, Try.results50]
  cases c₀
  simp_all
def AttLRes (OK : Value → World → Prop) (NO : Prop) (w : World) (e : Ending) (w' : World) : Prop :=
  ((∃ A0 n0 k0 A1 n1 k1 x2 w1, e = .returned (.tuple #[.agg #[.slice A0 n0 k0, .slice A1 n1 k1, .int .u64 x2], .bool true]) ∧ OK (.agg #[.slice A0 n0 k0, .slice A1 n1 k1, .int .u64 x2]) w1 ∧ Twin w.heap.size w1 w') ∨ (e = .returned (.tuple #[.agg #[.slice none 0 0, .slice none 0 0, .int .u64 0], .bool false]) ∧ NO)) ∧ Below w.heap.size w w'
set_option maxRecDepth 100000 in
set_option maxHeartbeats 3200000 in
theorem attemptL_any (G : Nat) (caps : Array Value) (w : World) (OK : Value → World → Prop) (NO : Prop) (eg : ∀ args w, (callFunc G args).run Try.prog w = .ok (.enter G args) w)
    (hc : Calls Try.prog G caps ((w.alloc (.cells #[.slice none 0 0, .slice none 0 0, .int .u64 0] 66)).alloc (.cells #[.bool false] 4)) fun e w' => ((∃ A0 n0 k0 A1 n1 k1 x2, e = .returned (.agg #[.slice A0 n0 k0, .slice A1 n1 k1, .int .u64 x2]) ∧ OK (.agg #[.slice A0 n0 k0, .slice A1 n1 k1, .int .u64 x2]) w') ∨ (Pan e ∧ NO)) ∧ Below ((w.alloc (.cells #[.slice none 0 0, .slice none 0 0, .int .u64 0] 66)).alloc (.cells #[.bool false] 4)).heap.size ((w.alloc (.cells #[.slice none 0 0, .slice none 0 0, .int .u64 0] 66)).alloc (.cells #[.bool false] 4)) w') :
    Calls Try.prog 30 #[.func (.func G) #[] caps] w (AttLRes OK NO w) := by
  have hmf : ∀ (fn : Fn) (first cap : Array Value) (w : World), (Instr.makeFunc fn first cap).run Try.prog w = .ok (.func fn first cap) w := fun _ _ _ _ => rfl
  go_enter_defers Try.func30, Try.ntmps30
  go_wp2_with fail
  refine hc.mono ?_
  rintro e w1 ⟨h, hb1⟩
  have c0 : w1.cell? ⟨w.heap.size + 1, 0, none⟩ = some (.bool false) := (hb1.cell (p := ⟨w.heap.size + 1, 0, none⟩) (by simp)).trans (by go_simp)
  have f0 : w1.frozen? ⟨w.heap.size + 1, 0, none⟩ = false := (hb1.frozen (p := ⟨w.heap.size + 1, 0, none⟩) (by simp)).trans (by go_simp)
  have hR0 : Blk (w.alloc (.cells #[.slice none 0 0, .slice none 0 0, .int .u64 0] 66)) w.heap.size #[.slice none 0 0, .slice none 0 0, .int .u64 0] 66 := Blk.new _ _ _
  have hR : Blk w1 w.heap.size #[.slice none 0 0, .slice none 0 0, .int .u64 0] 66 := (hR0.alloc _).to hb1
  have b1 : Below w.heap.size w w1 := bl_trans (by (repeat (first | assumption | exact Below.refl _ _ | (refine bl_alloc ?_ _) | (refine Below.drew ?_) | (refine bl_drewN ?_ _) | (refine bl_set ?_ (by first | (simp; done) | omega | (simp; omega)) _) | (refine bl_trans ?_ (by assumption)) | (refine bl_step ?_ (by assumption) (by first | omega | exact Below.size (by assumption) | (simp; omega) | (simp; exact Below.size (by assumption))))))) hb1
  have hne : w.heap.size ≠ (⟨w.heap.size + 1, 0, none⟩ : Addr).block := by simp
  have hna : ∀ o, (⟨w.heap.size, o, none⟩ : Addr) ≠ ⟨w.heap.size + 1, 0, none⟩ := fun o e => by injection e with e; omega
  have a0 : w1.cell? ⟨w.heap.size, 0, none⟩ = some (.slice none 0 0) := hR.cell 0 (by rfl)
  have q0 : w1.frozen? ⟨w.heap.size, 0, none⟩ = false := hR.frozen 0
  have a1 : w1.cell? ⟨w.heap.size, 1, none⟩ = some (.slice none 0 0) := hR.cell 1 (by rfl)
  have q1 : w1.frozen? ⟨w.heap.size, 1, none⟩ = false := hR.frozen 1
  have a2 : w1.cell? ⟨w.heap.size, 2, none⟩ = some (.int .u64 0) := hR.cell 2 (by rfl)
  have q2 : w1.frozen? ⟨w.heap.size, 2, none⟩ = false := hR.frozen 2
  rcases h with ⟨A0, n0, k0, A1, n1, k1, x2, rfl, hv⟩ | ⟨⟨u, pv, rfl⟩, hno⟩
  · go_wp2
    have c1 : (((w1.setCell ⟨w.heap.size, 0, none⟩ (.slice A0 n0 k0)).setCell ⟨w.heap.size, 1, none⟩ (.slice A1 n1 k1)).setCell ⟨w.heap.size, 2, none⟩ (.int .u64 x2)).cell? ⟨w.heap.size + 1, 0, none⟩ = some (.bool false) := by
      simp only [World.cell?_setCell_other _ _ _ _ (hna _)]; exact c0
    have hZ0 : Blk (((w1.setCell ⟨w.heap.size, 0, none⟩ (.slice A0 n0 k0)).setCell ⟨w.heap.size, 1, none⟩ (.slice A1 n1 k1)).setCell ⟨w.heap.size, 2, none⟩ (.int .u64 x2)) w.heap.size #[.slice A0 n0 k0, .slice A1 n1 k1, .int .u64 x2] 66 := (((hR.set 0 (.slice A0 n0 k0)).set 1 (.slice A1 n1 k1)).set 2 (.int .u64 x2))
    have bZ : Below w.heap.size w (((w1.setCell ⟨w.heap.size, 0, none⟩ (.slice A0 n0 k0)).setCell ⟨w.heap.size, 1, none⟩ (.slice A1 n1 k1)).setCell ⟨w.heap.size, 2, none⟩ (.int .u64 x2)) := (((b1.setCell (p := ⟨w.heap.size, 0, none⟩) (Nat.le_refl _) (.slice A0 n0 k0)).setCell (p := ⟨w.heap.size, 1, none⟩) (Nat.le_refl _) (.slice A1 n1 k1)).setCell (p := ⟨w.heap.size, 2, none⟩) (Nat.le_refl _) (.int .u64 x2))
    have bK : Twin w.heap.size w1 (((w1.setCell ⟨w.heap.size, 0, none⟩ (.slice A0 n0 k0)).setCell ⟨w.heap.size, 1, none⟩ (.slice A1 n1 k1)).setCell ⟨w.heap.size, 2, none⟩ (.int .u64 x2)) := ((((Twin.refl _ _).set (p := ⟨w.heap.size, 0, none⟩) (.inl rfl) (.slice A0 n0 k0)).set (p := ⟨w.heap.size, 1, none⟩) (.inl rfl) (.slice A1 n1 k1)).set (p := ⟨w.heap.size, 2, none⟩) (.inl rfl) (.int .u64 x2))
    have fZ : (((w1.setCell ⟨w.heap.size, 0, none⟩ (.slice A0 n0 k0)).setCell ⟨w.heap.size, 1, none⟩ (.slice A1 n1 k1)).setCell ⟨w.heap.size, 2, none⟩ (.int .u64 x2)).frozen? ⟨w.heap.size + 1, 0, none⟩ = false := by simp [f0]
    generalize (((w1.setCell ⟨w.heap.size, 0, none⟩ (.slice A0 n0 k0)).setCell ⟨w.heap.size, 1, none⟩ (.slice A1 n1 k1)).setCell ⟨w.heap.size, 2, none⟩ (.int .u64 x2)) = wZ at *
    have c2 : (wZ.setCell ⟨w.heap.size + 1, 0, none⟩ (.bool true)).cell? ⟨w.heap.size + 1, 0, none⟩ = some (.bool true) := World.cell?_setCell_same _ _ _ c1
    refine leaves_cons (f := 50) (args := #[.pointer (some ⟨w.heap.size + 1, 0, none⟩)]) (by simp) (by simp [go_sem]) ?_
    refine (catchL_idle ⟨w.heap.size + 1, 0, none⟩ true _ c2 (by simp [fZ])).mono ?_
    rintro e u' w'' ⟨rfl, rfl, rfl⟩
    have c3 : ((wZ.setCell ⟨w.heap.size + 1, 0, none⟩ (.bool true)).setCell ⟨w.heap.size + 1, 0, none⟩ (.bool true)).cell? ⟨w.heap.size + 1, 0, none⟩ = some (.bool true) := World.cell?_setCell_same _ _ _ c2
    have hZ := (hZ0.far (p := ⟨w.heap.size + 1, 0, none⟩) hne (.bool true)).far (p := ⟨w.heap.size + 1, 0, none⟩) hne (.bool true)
    have bE := (bZ.setCell (p := ⟨w.heap.size + 1, 0, none⟩) (by simp) (.bool true)).setCell (p := ⟨w.heap.size + 1, 0, none⟩) (by simp) (.bool true)
    have bL : Twin w.heap.size w1 ((wZ.setCell ⟨w.heap.size + 1, 0, none⟩ (.bool true)).setCell ⟨w.heap.size + 1, 0, none⟩ (.bool true)) := (bK.set (.inr rfl) _).set (.inr rfl) _
    generalize (wZ.setCell ⟨w.heap.size + 1, 0, none⟩ (.bool true)).setCell ⟨w.heap.size + 1, 0, none⟩ (.bool true) = wE at *
    have z0 : wE.cell? ⟨w.heap.size, 0, none⟩ = some (.slice A0 n0 k0) := hZ.cell 0 (by rfl)
    have z1 : wE.cell? ⟨w.heap.size, 1, none⟩ = some (.slice A1 n1 k1) := hZ.cell 1 (by rfl)
    have z2 : wE.cell? ⟨w.heap.size, 2, none⟩ = some (.int .u64 x2) := hZ.cell 2 (by rfl)
    simp [Leaves, settle, results, Try.results30, go_sem, c3, z0, z1, z2]
    exact ⟨.inl ⟨_, _, _, _, _, _, _, w1, rfl, hv, bL⟩, bE⟩
  · go_wp2
    refine leaves_cons (f := 50) (args := #[.pointer (some ⟨w.heap.size + 1, 0, none⟩)]) (by simp) (by simp [go_sem]) ?_
    refine (catchL_panicking ⟨w.heap.size + 1, 0, none⟩ false _ _ _ _ c0 f0).mono ?_
    rintro e u' w'' ⟨rfl, rfl, rfl⟩
    have c3 : (w1.setCell ⟨w.heap.size + 1, 0, none⟩ (.bool false)).cell? ⟨w.heap.size + 1, 0, none⟩ = some (.bool false) := World.cell?_setCell_same _ _ _ c0
    have hZ := hR.far (p := ⟨w.heap.size + 1, 0, none⟩) hne (.bool false)
    have bE := b1.setCell (p := ⟨w.heap.size + 1, 0, none⟩) (by simp) (.bool false)
    generalize w1.setCell ⟨w.heap.size + 1, 0, none⟩ (.bool false) = wE at *
    have z0 : wE.cell? ⟨w.heap.size, 0, none⟩ = some (.slice none 0 0) := hZ.cell 0 (by rfl)
    have z1 : wE.cell? ⟨w.heap.size, 1, none⟩ = some (.slice none 0 0) := hZ.cell 1 (by rfl)
    have z2 : wE.cell? ⟨w.heap.size, 2, none⟩ = some (.int .u64 0) := hZ.cell 2 (by rfl)
    simp [Leaves, settle, results, Try.results30, go_sem, c3, z0, z1, z2]
    exact ⟨.inr ⟨rfl, hno⟩, bE⟩
end Go.Proofs.Ytifenbamookmiaa
