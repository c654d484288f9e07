/-
  Contracts: a way walked, as the program has it, with nothing done at its cells; EndOf.
-/
import Derived.Test.YtdpamieheefhdaaEndS
import Derived.Deep.DeepCutAuto
import Derived.Deep.CutRange
namespace Go.Proofs.Ytdpamieheefhdaa
set_option linter.unusedSimpArgs false
set_option linter.unusedVariables false
open Go.ChangeShapes Go.WideShapes Go.ChangeAt Go.RowKit

theorem stepL_way {x y c : Int} (h : ¬ wayI c < 0) : stepL x y c = stepW x y (wayI c) := by unfold stepL; rw [if_neg h]
theorem stepL_no {x y c : Int} (h : wayI c < 0) : stepL x y c = (x, y) := by unfold stepL; rw [if_pos h]
theorem stepW_ne {x y k : Int} (h0 : 0 ≤ k) (h3 : k ≤ 3) : ((stepW x y k).1 = x → ¬ (stepW x y k).2 = y) := by
  unfold stepW; split <;> (try split) <;> (try split) <;> (simp only []; omega)

theorem step_a {wr w1 : World} (h : Below wr.drew.heap.size wr.drew w1) : Below wr.heap.size wr w1 := ((Below.refl wr.heap.size wr).drew).trans h
theorem step_b {wr w1 : World} {o : Obj} (h : Below (wr.alloc o).drew.heap.size (wr.alloc o).drew w1) : Below wr.heap.size wr w1 ∧ w1.heap[wr.heap.size]? = some o :=
  ⟨((((Below.refl wr.heap.size wr).alloc (Nat.le_refl _) o).drew)).trans (h.mono (by show _ ≤ (wr.alloc o).heap.size; simp)), (h.block wr.heap.size (by show _ < (wr.alloc o).heap.size; simp)).trans (heap_alloc_new wr o)⟩
theorem pt_new (wr w1 : World) (x y : Int) (h : Below wr.drew.heap.size wr.drew w1) : ∃ H : Nat, Value.pointer (some ⟨w1.heap.size, 0, none⟩) = .pointer (some ⟨H, 0, none⟩) ∧ PtBox (w1.alloc (.cells #[.int .i64 x, .int .i64 y] 37)) H (x, y) ∧ Below wr.heap.size wr (w1.alloc (.cells #[.int .i64 x, .int .i64 y] 37)) ∧ wr.heap.size ≤ H :=
  ⟨_, rfl, PtBox.new _ _ _, bl_alloc (step_a h) _, (step_a h).size⟩
theorem pt_set (wr w1 : World) (x y a b : Int) (h : Below (wr.alloc (.cells #[.int .i64 a, .int .i64 b] 37)).drew.heap.size (wr.alloc (.cells #[.int .i64 a, .int .i64 b] 37)).drew w1) : ∃ H : Nat, Value.pointer (some ⟨wr.heap.size, 0, none⟩) = .pointer (some ⟨H, 0, none⟩) ∧ PtBox ((w1.setCell ⟨wr.heap.size, 0, none⟩ (.int .i64 x)).setCell ⟨wr.heap.size, 1, none⟩ (.int .i64 y)) H (x, y) ∧ Below wr.heap.size wr ((w1.setCell ⟨wr.heap.size, 0, none⟩ (.int .i64 x)).setCell ⟨wr.heap.size, 1, none⟩ (.int .i64 y)) ∧ wr.heap.size ≤ H :=
  ⟨_, rfl, PtBox.set_ (p := (a, b)) (step_b h).2 x y, bl_set (bl_set (step_b h).1 (Nat.le_refl _) _) (Nat.le_refl _) _, Nat.le_refl _⟩
/-- What a walk comes to. -/
def WalkV (M : Mz) (p : Int × Int) (s : ByteArray) : Value := .tuple #[ptA (endP (posTo M p s s.size)), .bool (endO (posTo M p s s.size))]
theorem WalkV_no {M : Mz} {p : Int × Int} {s : ByteArray} (h : posTo M p s s.size = none) : WalkV M p s = .tuple #[.agg #[.int .i64 0, .int .i64 0], .bool false] := by unfold WalkV; rw [h]; rfl
theorem WalkV_yes {M : Mz} {p q : Int × Int} {s : ByteArray} (h : posTo M p s s.size = some q) : WalkV M p s = .tuple #[.agg #[.int .i64 q.1, .int .i64 q.2], .bool true] := by unfold WalkV; rw [h]; rfl

end Go.Proofs.Ytdpamieheefhdaa
