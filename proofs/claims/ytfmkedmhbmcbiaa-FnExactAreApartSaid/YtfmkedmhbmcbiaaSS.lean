/-
  Slices of slices of points: opened; their size, copied, compared.
-/
import Derived.Test.YtfmkedmhbmcbiaaThroughS
import Derived.Deep.Slices
import Derived.Deep.SlicePairs
namespace Go.Proofs.Ytfmkedmhbmcbiaa
set_option linter.unusedSimpArgs false
set_option linter.unusedVariables false
open Go.ChangeShapes Go.WideShapes Go.ChangeAt Go.RowKit

/-- A slice of points: its address, what it holds, its room. -/
abbrev Sl := Option Addr × List (Int × Int) × Nat
def sl0 : Sl := (none, [], 0)
/-- The slice with the address A holds the slices Ls, all below block B. -/
def SSAt (w : World) (B : Nat) (A : Option Addr) (Ls : List Sl) : Prop :=
  0 < Ls.length → ∃ b off, A = some ⟨b, off, none⟩ ∧ b < B ∧ ∀ i, i < Ls.length →
    w.cell? ⟨b, off + i, none⟩ = some (.slice (Ls.getD i sl0).1 (Ls.getD i sl0).2.1.length (Ls.getD i sl0).2.2) ∧ PtsAt w B (Ls.getD i sl0).1 (Ls.getD i sl0).2.1 ∧ (Ls.getD i sl0).2.1.length ≤ (Ls.getD i sl0).2.2 ∧ (Ls.getD i sl0).2.2 ≤ maxLen
theorem SSAt.keepB {w w1 : World} {B : Nat} {A : Option Addr} {Ls : List Sl} (h : SSAt w B A Ls) (hb : Below B w w1) : SSAt w1 B A Ls := fun h0 => by
  obtain ⟨b, off, e, hlt, hc⟩ := h h0
  exact ⟨b, off, e, hlt, fun i hi => ⟨(hb.cell (p := ⟨b, _, none⟩) hlt).trans (hc i hi).1, (hc i hi).2.1.keepB hb, (hc i hi).2.2⟩⟩
theorem SSAt.mono {w : World} {B B' : Nat} {A : Option Addr} {Ls : List Sl} (h : SSAt w B A Ls) (hB : B ≤ B') : SSAt w B' A Ls := fun h0 => by
  obtain ⟨b, off, e, hlt, hc⟩ := h h0
  exact ⟨b, off, e, by omega, fun i hi => ⟨(hc i hi).1, (hc i hi).2.1.mono hB, (hc i hi).2.2⟩⟩
theorem SSAt.to {w w1 : World} {A : Option Addr} {Ls : List Sl} (h : SSAt w w.heap.size A Ls) (hb : Below w.heap.size w w1) : SSAt w1 w1.heap.size A Ls := (h.keepB hb).mono hb.size

variable {H : Type} {enc : TypeId × Value → H}
set_option maxRecDepth 100000 in
theorem open_points_trod {w : World} {v : Value} {n : Nat} {y : DataW H × List MemPlace} (hf : DataW.trod enc Try.prog w 0 (fun _ => true) true n 48 [v] = some y) :
    ∃ z : Sl, v = .slice z.1 z.2.1.length z.2.2 ∧ PtsAt w w.heap.size z.1 z.2.1 ∧ z.2.1.length ≤ z.2.2 ∧ z.2.2 ≤ maxLen := by
  rcases Go.Deep.open_slice_pairs Try.underlying48 Try.underlying90 (by kernel_rfl) rfl rfl (by kernel_rfl) (by kernel_rfl) hf with ⟨hcs, _⟩ | ⟨a, l, c, m, n, V0, V1, D0, D1, P0, P1, hcs, _, hl, hm, hmm, _, hx⟩
  · injection hcs with hcs
    exact ⟨(none, [], 0), by simpa using hcs, fun h => by simp at h, by simp, by simp⟩
  · injection hcs with hcs
    subst hcs
    simp only [if_true] at hmm
    subst hmm
    have hvv : ∀ i, i < l → ∃ x y, V0 i = .int .i64 x ∧ V1 i = .int .i64 y := by
      intro i hi
      obtain ⟨_, _, t0, t1⟩ := hx i (by omega)
      obtain ⟨x, e0, _, wx⟩ := DataW.trod_int Try.underlying2 t0
      obtain ⟨y, e1, _, wy⟩ := DataW.trod_int Try.underlying2 t1
      simp at e0 e1
      exact ⟨x, y, e0, e1⟩
    let g : Value → Int := fun v => match v with | .int _ n => n | _ => 0
    refine ⟨(some a, (List.range l).map fun i => (g (V0 i), g (V1 i)), m), by simp, ?_, by simpa using hl, hm⟩
    intro h0
    simp at h0
    obtain ⟨b, off, spot⟩ := a
    have hc0 := (hx 0 (by omega)).1
    have hspot : spot = none := by simpa [Addr.add] using World.cell?_spot hc0
    subst hspot
    refine ⟨b, off, rfl, World.block_lt_of_cell? w ⟨b, off, none⟩ (by simpa [Addr.add] using hc0), fun i hi => ?_⟩
    simp at hi
    obtain ⟨x, y, e0, e1⟩ := hvv i hi
    obtain ⟨h0, h1, _, _⟩ := hx i (by omega)
    rw [add_plain] at h0 h1
    rw [h0, Nat.add_assoc, h1]
    simp [hi, g, e0, e1]

set_option maxRecDepth 100000 in
theorem open_pointss {w : World} {v : Value} {d : DataW H} {p : List MemPlace} {r : Reach} {b0 : Nat} (hv : Value.okWide Try.prog w r b0 56 v) (h : DataW.Trod enc Try.prog w 0 (fun _ => true) true 56 v d p) :
    ∃ (A : Option Addr) (Ls : List Sl) (c : Nat), v = .slice A Ls.length c ∧ SSAt w w.heap.size A Ls ∧ Ls.length ≤ c ∧ c ≤ maxLen := by
  obtain ⟨a0, len, cap, rfl⟩ := okWide_slice Try.underlying56 hv
  obtain ⟨fuel, hf⟩ := h
  rcases Go.Deep.open_slice1 Try.underlying56 (by kernel_rfl) hf with ⟨hcs, _⟩ | ⟨a, l, c, m, n, V, D, Pl, hcs, _, hl, hm, hmm, _, hx⟩
  · simp [Value.cells] at hcs
    obtain ⟨rfl, rfl, rfl⟩ := hcs
    exact ⟨none, [], 0, rfl, fun h => by simp at h, by simp, by simp⟩
  · simp [Value.cells] at hcs
    obtain ⟨rfl, rfl, rfl⟩ := hcs
    simp only [if_true] at hmm
    subst hmm
    have each : ∀ i, i < len → ∃ z : Sl, V i = .slice z.1 z.2.1.length z.2.2 ∧ PtsAt w w.heap.size z.1 z.2.1 ∧ z.2.1.length ≤ z.2.2 ∧ z.2.2 ≤ maxLen := fun i hi => open_points_trod (hx i (by omega)).2
    obtain ⟨z, hz⟩ := Go.Deep.choose_lt each
    refine ⟨some a, (List.range len).map z, m, by simp, ?_, by simpa using hl, hm⟩
    intro h0
    simp at h0
    obtain ⟨b, off, spot⟩ := a
    have hc0 := (hx 0 (by omega)).1
    have hspot : spot = none := by simpa [Addr.add] using World.cell?_spot hc0
    subst hspot
    refine ⟨b, off, rfl, World.block_lt_of_cell? w ⟨b, off, none⟩ (by simpa [Addr.add] using hc0), fun i hi => ?_⟩
    simp at hi
    have e : ((List.range len).map z).getD i sl0 = z i := by simp [List.getD_eq_getElem?_getD, hi]
    rw [e]
    obtain ⟨h1, h2, h3, h4⟩ := hz i hi
    have h5 := (hx i (by omega)).1
    rw [add_plain] at h5
    exact ⟨by rw [h5, h1], h2, h3, h4⟩

/-- What szPointS leaves. -/
theorem szPointS_gen (A : Option Addr) (n c : Nat) (left : Int) (w : World) (hn : n ≤ maxLen) (h0 : 0 ≤ left) (h1 : left ≤ 1048576) :
    Calls Try.prog 41 #[.slice A n c, .int .i64 left] w fun e w' => e = .returned (.int .i64 (if (n : Int) ≤ left then left - n else -1)) ∧ w = w' := by
  unfold maxLen at hn
  by_cases h : (n : Int) ≤ left
  · have F : Hid ((if (n : Int) ≤ left then left - n else -1) = left - n) := by show _ = _; rw [if_pos h]
    have hz : ¬ (left - (n : Int)) < 0 := by omega
    have e1 : IntKind.i64.wrap (left - (n : Int)) = left - (n : Int) := IntWalk.i64_in _ (by omega)
    go_enter Try.func41, Try.ntmps41
    go_wp2
    go_ret
    exact ⟨retI (by first | rfl | exact F.out.symm | simp [F.out]), rfl⟩
  · have F : Hid ((if (n : Int) ≤ left then left - n else -1) = -1) := by show _ = _; rw [if_neg h]
    have hz : (left - (n : Int)) < 0 := by omega
    have e1 : IntKind.i64.wrap (left - (n : Int)) = left - (n : Int) := IntWalk.i64_in _ (by omega)
    go_enter Try.func41, Try.ntmps41
    go_wp2
    go_ret
    exact ⟨retI (by first | rfl | exact F.out.symm | simp [F.out]), rfl⟩
end Go.Proofs.Ytfmkedmhbmcbiaa
