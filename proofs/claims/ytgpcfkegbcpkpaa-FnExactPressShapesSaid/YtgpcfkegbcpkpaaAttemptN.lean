/-
  Contracts: an attempt whose result is a slice of numbers of its own.
-/
import Derived.Test.YtgpcfkegbcpkpaaPan
import Derived.Test.YtgpcfkegbcpkpaaMarkI
import Derived.Test.YtgpcfkegbcpkpaaOwnJ
namespace Go.Proofs.Ytgpcfkegbcpkpaa
set_option linter.unusedSimpArgs false
set_option linter.unusedVariables false
open Go.ChangeShapes Go.WideShapes Go.ChangeAt Go.RowKit

theorem catchNs_panicking (p : Addr) (x : Bool) (u : TypeId) (pv : Value) (older : List PanicEntry) (w : World) (hc : w.cell? p = some (.bool x)) (hz : w.frozen? p = false) :
    CallsD Try.prog 109 #[.pointer (some p)] (.panicking ({ v := .iface u pv, recovered := false } :: older)) w fun e u' w' =>
      e = .returned (.tuple #[]) ∧ u' = .panicking ({ v := .iface u pv, recovered := true } :: older) ∧ w' = w.setCell p (.bool false) := by
  refine callsD_of_wpS Try.func109 rfl fun c₀ cs hu => ?_
  apply wpS_region
  simp [wpOpsS, go_sem, recoverD, hu, Try.ntmps109, Exit.thenS, hc, hz, bodyPostS, results, Try.results109]
theorem catchNs_idle (p : Addr) (x : Bool) (w : World) (hc : w.cell? p = some (.bool x)) (hz : w.frozen? p = false) :
    CallsD Try.prog 109 #[.pointer (some p)] .returning w fun e u' w' => e = .returned (.tuple #[]) ∧ u' = .returning ∧ w' = w.setCell p (.bool true) := by
  refine callsD_of_wpS Try.func109 rfl fun c₀ cs hu => ?_
  apply wpS_region
  simp [wpOpsS, go_sem, recoverD, hu, Try.ntmps109, Exit.thenS, hc, hz, bodyPostS, results, Try.results109]
  cases c₀
  simp_all
def AttNsRes (OK : Value → World → Prop) (NO : Prop) (B : Nat) (w : World) (e : Ending) (w' : World) : Prop :=
  ((∃ v w1, e = .returned (.tuple #[v, .bool true]) ∧ OK v w1 ∧ w' = (w1.setCell ⟨B, 0, none⟩ (.bool true)).setCell ⟨B, 0, none⟩ (.bool true)) ∨ (e = .returned (.tuple #[.slice none 0 0, .bool false]) ∧ NO)) ∧ Below w.heap.size w w'
theorem attemptNs_any (G : Nat) (caps : Array Value) (w : World) (OK : Value → World → Prop) (NO : Prop) (eg : ∀ args w, (callFunc G args).run Try.prog w = .ok (.enter G args) w)
    (hc : Calls Try.prog G caps (w.alloc (.cells #[.bool false] 4)) fun e w' => ((∃ v, e = .returned v ∧ OK v w') ∨ (Pan e ∧ NO)) ∧ Below (w.alloc (.cells #[.bool false] 4)).heap.size (w.alloc (.cells #[.bool false] 4)) w') :
    Calls Try.prog 67 #[.func (.func G) #[] caps] w (AttNsRes OK NO w.heap.size w) := by
  have hmf : ∀ (fn : Fn) (first cap : Array Value) (w : World), (Instr.makeFunc fn first cap).run Try.prog w = .ok (.func fn first cap) w := fun _ _ _ _ => rfl
  go_enter_defers Try.func67, Try.ntmps67
  go_wp2_with fail
  refine hc.mono ?_
  rintro e w1 ⟨h, hb1⟩
  have c0 : w1.cell? ⟨w.heap.size, 0, none⟩ = some (.bool false) := (hb1.cell (p := ⟨w.heap.size, 0, none⟩) (by simp)).trans (by go_simp)
  have f0 : w1.frozen? ⟨w.heap.size, 0, none⟩ = false := (hb1.frozen (p := ⟨w.heap.size, 0, none⟩) (by simp)).trans (by go_simp)
  have b1 : Below w.heap.size w w1 := bl_trans (by (repeat (first | assumption | exact Below.refl _ _ | (refine bl_alloc ?_ _) | (refine Below.drew ?_) | (refine bl_drewN ?_ _) | (refine bl_set ?_ (by first | (simp; done) | omega | (simp; omega)) _) | (refine bl_trans ?_ (by assumption)) | (refine bl_step ?_ (by assumption) (by first | omega | exact Below.size (by assumption) | (simp; omega) | (simp; exact Below.size (by assumption))))))) hb1
  rcases h with ⟨v, rfl, hv⟩ | ⟨⟨u, pv, rfl⟩, hno⟩
  · go_wp2
    refine leaves_cons (f := 109) (args := #[.pointer (some ⟨w.heap.size, 0, none⟩)]) (by simp) (by simp [go_sem]) ?_
    refine (catchNs_idle ⟨w.heap.size, 0, none⟩ true _ ?_ ?_).mono ?_
    · exact World.cell?_setCell_same _ _ _ c0
    · simp [f0]
    rintro e u' w'' ⟨rfl, rfl, rfl⟩
    have c1 : (w1.setCell ⟨w.heap.size, 0, none⟩ (.bool true)).cell? ⟨w.heap.size, 0, none⟩ = some (.bool true) := World.cell?_setCell_same _ _ _ c0
    have c2 : ((w1.setCell ⟨w.heap.size, 0, none⟩ (.bool true)).setCell ⟨w.heap.size, 0, none⟩ (.bool true)).cell? ⟨w.heap.size, 0, none⟩ = some (.bool true) := World.cell?_setCell_same _ _ _ c1
    simp [Leaves, settle, results, Try.results67, go_sem, c2]
    exact ⟨.inl ⟨_, _, rfl, hv, rfl⟩, (b1.setCell (p := ⟨w.heap.size, 0, none⟩) (Nat.le_refl _) _).setCell (p := ⟨w.heap.size, 0, none⟩) (Nat.le_refl _) _⟩
  · go_wp2
    refine leaves_cons (f := 109) (args := #[.pointer (some ⟨w.heap.size, 0, none⟩)]) (by simp) (by simp [go_sem]) ?_
    refine (catchNs_panicking ⟨w.heap.size, 0, none⟩ false _ _ _ _ c0 f0).mono ?_
    rintro e u' w'' ⟨rfl, rfl, rfl⟩
    have c1 : (w1.setCell ⟨w.heap.size, 0, none⟩ (.bool false)).cell? ⟨w.heap.size, 0, none⟩ = some (.bool false) := World.cell?_setCell_same _ _ _ c0
    simp [Leaves, settle, results, Try.results67, go_sem, c1]
    exact ⟨.inr ⟨rfl, hno⟩, b1.setCell (p := ⟨w.heap.size, 0, none⟩) (Nat.le_refl _) _⟩


/-- A function's answer: numbers in memory of its own. -/
def NOwn (L : List Int) (w : World) (e : Ending) (w' : World) : Prop := (∃ v, e = .returned v ∧ OwnI w' w.heap.size v L) ∧ Below w.heap.size w w'
/-- .. and whether it succeeds. -/
def NRes (L : List Int) (ok : Bool) (w : World) (e : Ending) (w' : World) : Prop :=
  ∃ A c, e = .returned (.tuple #[.slice A L.length c, .bool ok]) ∧ Own4 w' w.heap.size A L ∧ Below w.heap.size w w'
theorem NRes.no (w : World) : NRes [] false w (.returned (.tuple #[.slice none 0 0, .bool false])) w := ⟨none, 0, rfl, Own4.none_ _ _ _, Below.refl _ _⟩
theorem OwnI.mono {w : World} {B C : Nat} {v : Value} {L : List Int} (h : OwnI w B v L) (hC : C ≤ B) : OwnI w C v L := by
  refine ⟨h.1, ?_⟩
  rcases h.2 with h0 | ⟨g, cap, cur, rfl, hB, r⟩
  · exact .inl h0
  · exact .inr ⟨g, cap, cur, rfl, Nat.le_trans hC hB, r⟩
theorem nres_att {L : List Int} {NO : Prop} {ok : Bool} {w : World} {e : Ending} {w' : World} (h : AttNsRes (fun v w1 => OwnI w1 (w.heap.size + 1) v L ∧ ok = true) NO w.heap.size w e w') (hno : NO → L = [] ∧ ok = false) : NRes L ok w e w' := by
  obtain ⟨⟨v, w1, rfl, ⟨ho, rfl⟩, rfl⟩ | ⟨rfl, hn⟩, hb⟩ := h
  · have ho2 : OwnI ((w1.setCell ⟨w.heap.size, 0, none⟩ (.bool true)).setCell ⟨w.heap.size, 0, none⟩ (.bool true)) (w.heap.size + 1) v L := ho.keep fun i hi => by
      have hB : w.heap.size + 1 ≤ i := by
        rcases ho.2 with ⟨rfl, _⟩ | ⟨g, cap, cur, rfl, hB, _⟩
        · simp [Value.ownBlock] at hi
        · simp [Value.ownBlock] at hi; omega
      rw [Below.heap_setCell _ _ _ i (by simp; omega), Below.heap_setCell _ _ _ i (by simp; omega)]
    obtain ⟨A, c, rfl, h4⟩ := own4_of (ho2.mono (C := w.heap.size) (by omega))
    exact ⟨A, c, rfl, h4, hb⟩
  · obtain ⟨rfl, rfl⟩ := hno hn
    exact ⟨none, 0, rfl, Own4.none_ _ _ _, hb⟩
end Go.Proofs.Ytgpcfkegbcpkpaa
