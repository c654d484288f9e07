/-
  Contracts: drawn points.
-/
import Derived.Test.YtfmkedmhbmcbiaaRow
import Derived.Test.YtfmkedmhbmcbiaaThroughS
namespace Go.Proofs.Ytfmkedmhbmcbiaa
set_option linter.unusedSimpArgs false
set_option linter.unusedVariables false
open Go.ChangeShapes Go.WideShapes Go.ChangeAt Go.RowKit

theorem Gr.only {g : Nat} {w w' : World} (h : Only g w w') : w.grownBy w' (some g) :=
  ⟨h.1, h.2.1, h.2.2.1, Nat.le_of_eq h.2.2.2.1.symm, fun i _ hne => h.2.2.2.2 i (fun e => hne (by rw [e]))⟩
theorem Gr.trans {g : Nat} {w w1 w2 : World} (h : w.grownBy w1 (some g)) (k : w1.grownBy w2 (some g)) : w.grownBy w2 (some g) :=
  ⟨k.os.trans h.os, k.tape.trans h.tape, k.output.trans h.output, Nat.le_trans h.size k.size, fun i hi hne => (k.block i (Nat.lt_of_lt_of_le hi h.size) hne).trans (h.block i hi hne)⟩
theorem Gr.below {g : Nat} {w w1 w2 : World} (h : w.grownBy w1 (some g)) (k : Below w.heap.size w1 w2) : w.grownBy w2 (some g) :=
  ⟨k.os.trans h.os, k.tape.trans h.tape, k.output.trans h.output, Nat.le_trans h.size k.size, fun i hi hne => (k.block i hi).trans (h.block i hi hne)⟩
theorem Gr.start {g : Nat} {w w1 : World} (k : Below w.heap.size w w1) : w.grownBy w1 (some g) :=
  ⟨k.os, k.tape, k.output, k.size, fun i hi _ => k.block i hi⟩

def OnePost (g : Nat) (A : Option Addr) (cs : List Int) (c k : Nat) (w : World) (e : Ending) (w' : World) : Prop :=
  ∃ b : Bool, e = .returned (.bool b) ∧ Src w' g A cs c (k + 1) ∧ Only g w w'
theorem one_any (g c k B : Nat) (A : Option Addr) (cs : List Int) (m : Int) (w : World) (hS : Src w g A cs c k) (hp : NumsAt .u8 w B A cs) (hB : B ≤ g) (hw : ∀ n ∈ cs, (Lit.int .u8 n).wf = true) (hl : cs.length ≤ 1048576) (hk : k ≤ 1048576) (hm : 1 < m) (hm2 : m ≤ 200) :
    Calls Try.prog 68 #[.pointer (some ⟨g, 0, none⟩), .int .i64 m] w (OnePost g A cs c k w) := by
  go_enter Try.func68, Try.ntmps68
  go_wp2_with fail
  refine (pick_any _ _ _ _ _ _ _ _ hS hp hB hw hl hk hm hm2).mono ?_
  rintro e w1 ⟨x, ⟨x0, x1⟩, rfl, hS1, hO⟩
  go_wp2
  go_ret
  exact ⟨_, rfl, hS1, hO⟩

theorem PtB.only {w w' : World} {g b : Nat} {p : Pt} (h : PtB w b p) (ho : Only g w w') (hne : b ≠ g) : PtB w' b p := h.keep (ho.2.2.2.2 b hne)

def DrawPost (g : Nat) (A : Option Addr) (cs : List Int) (c k : Nat) (w : World) (e : Ending) (w' : World) : Prop :=
  ∃ x y : Int, (0 ≤ x ∧ x ≤ 99) ∧ (0 ≤ y ∧ y ≤ 99) ∧ e = .returned (.agg #[.int .i64 x, .int .i64 y]) ∧ Src w' g A cs c (k + 3) ∧ w.grownBy w' (some g)

set_option maxRecDepth 100000 in
set_option maxHeartbeats 1600000 in
theorem DrawGood_any (g c k B : Nat) (A : Option Addr) (cs : List Int) (w : World) (hS : Src w g A cs c k) (hp : NumsAt .u8 w B A cs) (hB : B ≤ g) (hw : ∀ n ∈ cs, (Lit.int .u8 n).wf = true) (hl : cs.length ≤ 1048576) (hk : k ≤ 1000000) :
    Calls Try.prog 66 #[.pointer (some ⟨g, 0, none⟩)] w (DrawPost g A cs c k w) := by
  have hgw := hS.lt
  go_enter Try.func66, Try.ntmps66
  go_wp2_with fail
  have b0 : Below w.heap.size w (w.alloc (.cells #[.int .i64 0, .int .i64 0] 34)) := by (repeat (first | assumption | exact Below.refl _ _ | (refine bl_alloc ?_ _) | (refine Below.drew ?_) | (refine bl_drewN ?_ _) | (refine bl_set ?_ (by simp) _) | (refine bl_trans ?_ (by assumption)) | (refine bl_step ?_ (by assumption) (by first | omega | exact Below.size (by assumption) | (simp; omega) | (simp; exact Below.size (by assumption))))))
  have hS0 := hS.to b0
  have r0 : PtB (w.alloc (.cells #[.int .i64 0, .int .i64 0] 34)) w.heap.size (0, 0) := PtB.new w (0, 0)
  refine (one_any _ _ _ _ _ _ _ _ hS0 (hp.keepB (b0.mono (by omega))) hB hw hl (by omega) (by omega) (by omega)).mono ?_
  rintro e w1 ⟨b, rfl, hS1, hO1⟩
  have g1 : w.grownBy w1 (some g) := (Gr.start b0).trans (Gr.only hO1)
  have r1 := r0.only hO1 (by omega)
  have p1 : NumsAt .u8 w1 B A cs := (hp.keepB (b0.mono (by omega))).keepB (hO1.below (Below.refl _ _) hB)
  have hz1 : w.heap.size < w1.heap.size := r1.lt
  clear hS0 r0 hO1 b0 hS hp
  cases b
  all_goals
    go_wp2_with fail
    refine (pick_any _ _ _ _ _ _ _ _ hS1 p1 hB hw hl (by omega) (by omega) (by omega)).mono ?_
    rintro e w2 ⟨x, ⟨x0, x1⟩, rfl, hS2, hO2⟩
    have g2 := g1.trans (Gr.only hO2)
    have r2 := r1.only hO2 (by omega)
    have p2 : NumsAt .u8 w2 B A cs := p1.keepB (hO2.below (Below.refl _ _) hB)
    have hz2 : w.heap.size < w2.heap.size := r2.lt
    clear hS1 p1 r1 hO2 g1 hz1
    have b3 : Below w2.heap.size w2 (w2.alloc (.cells #[.int .i64 x, .int .i64 0] 34)) := (Below.refl _ _).alloc (Nat.le_refl _) _
    have hS3 := hS2.to b3
    have p3 := p2.keepB (b3.mono (B' := B) (by omega))
    have r3 := r2.to b3
    have q3 : PtB (w2.alloc (.cells #[.int .i64 x, .int .i64 0] 34)) w2.heap.size (x, 0) := PtB.new w2 (x, 0)
    have g3 := Gr.below g2 (b3.mono (by omega))
    clear hS2 p2 r2 b3 g2
    go_wp2_with fail
    refine (pick_any _ _ _ _ _ _ _ _ hS3 p3 hB hw hl (by omega) (by omega) (by omega)).mono ?_
    rintro e w4 ⟨y, ⟨y0, y1⟩, rfl, hS4, hO4⟩
    have g4 := g3.trans (Gr.only hO4)
    have r4 := r3.only hO4 (by omega)
    have q4 := q3.only hO4 (by omega)
    clear hS3 p3 r3 q3 hO4 g3
    obtain ⟨d0, d1, f0, f1⟩ := r4.cells
    obtain ⟨d2, d3, f2, f3⟩ := q4.cells
    simp only at d2 d3
    go_wp2
    have hB5 : Below w.heap.size w4 (((w4.setCell ⟨w2.heap.size, 1, none⟩ (.int .i64 y)).setCell ⟨w.heap.size, 0, none⟩ (.int .i64 x)).setCell ⟨w.heap.size, 1, none⟩ (.int .i64 y)) :=
      (((Below.refl _ w4).setCell (p := ⟨w2.heap.size, 1, none⟩) (Nat.le_of_lt hz2) _).setCell (p := ⟨w.heap.size, 0, none⟩) (Nat.le_refl _) _).setCell (p := ⟨w.heap.size, 1, none⟩) (Nat.le_refl _) _
    have c1 : (((w4.setCell ⟨w2.heap.size, 1, none⟩ (.int .i64 y)).setCell ⟨w.heap.size, 0, none⟩ (.int .i64 x)).setCell ⟨w.heap.size, 1, none⟩ (.int .i64 y)).heap[w.heap.size]? = some (.cells #[.int .i64 x, .int .i64 y] 34 (0, 0)) := by
      have hne : w.heap.size ≠ w2.heap.size := by omega
      have := (((r4.far1 hne (o := 1) (.int .i64 y)).set0 x).set1 y)
      exact this
    refine bodyPost_ret (v := .agg #[.int .i64 x, .int .i64 y]) ?_ rfl ⟨x, y, ⟨x0, by omega⟩, ⟨y0, by omega⟩, rfl, hS4.keepB hB5 hgw, Gr.below g4 hB5⟩
    have q0 := cell_of_row _ w.heap.size 0 _ _ _ c1
    have q1 := cell_of_row _ w.heap.size 1 _ _ _ c1
    simp [results, Try.results66, go_sem, q0, q1]
end Go.Proofs.Ytfmkedmhbmcbiaa
