/-
  What the walk of stackOf holds: cells of its own, blocks of sets, pieces of its own.
-/
import Derived.Test.YtefcfpagbjflbaaDoorWholeN
import Derived.Test.YtefcfpagbjflbaaDoorStackM
import Derived.Test.YtefcfpagbjflbaaDoorEachN
import Derived.Sort.CutIn
namespace Go.Proofs.YtefcfpagbjflbaaDoor
set_option linter.unusedSimpArgs false
set_option linter.unusedVariables false
open Go.ChangeShapes Go.WideShapes Go.ChangeAt Go.RowKit Go.Shelf
attribute [local go_sem] Oper.semAt_some

theorem BitBlk.own (g m : Nat) (F : Nat → Nat → Nat → Bool) : Own (fun k W => BitBlk W g m (F k)) := fun k W W' row hs hg hr => by
  obtain ⟨cs, h0, h1⟩ := hs
  exact ⟨cs, (grownBy_keeps_cells hg hr h0 rfl).trans h0, h1⟩
theorem BitBlk.other {w : World} {g m : Nat} {F : Nat → Nat → Bool} (h : BitBlk w g m F) (p : Addr) (v : Value) (hp : g ≠ p.block) : BitBlk (w.setCell p v) g m F := h.keep (Below.heap_setCell _ _ _ _ hp)
theorem PcBlk.other {w : World} {g m : Nat} {p : Nat → Bool} {N L H : Nat → Nat} (h : PcBlk w g m p N L H) (a : Addr) (v : Value) (hp : g ≠ a.block) : PcBlk (w.setCell a v) g m p N L H := h.keep (Below.heap_setCell _ _ _ _ hp)
/-- The cells of the call's own: the three arguments, the answer, the stack. -/
structure SCells (Z gs : Nat) (V Pv A B C : Value) (W : World) : Prop where
  c0 : W.cell? ⟨Z, 0, none⟩ = some V
  c1 : W.cell? ⟨Z + 1, 0, none⟩ = some Pv
  c2 : W.cell? ⟨Z + 1 + 1, 0, none⟩ = some A
  r0 : W.cell? ⟨Z + 1 + 1 + 1, 0, none⟩ = some (.int .u64 0)
  r1 : W.cell? ⟨Z + 1 + 1 + 1, 1, none⟩ = some (.slice none 0 0)
  r2 : W.cell? ⟨Z + 1 + 1 + 1, 2, none⟩ = some (.slice none 0 0)
  f0 : W.frozen? ⟨Z + 1 + 1 + 1, 0, none⟩ = false
  f1 : W.frozen? ⟨Z + 1 + 1 + 1, 1, none⟩ = false
  f2 : W.frozen? ⟨Z + 1 + 1 + 1, 2, none⟩ = false
  s0 : W.cell? ⟨gs, 0, none⟩ = some A
  s1 : W.cell? ⟨gs, 1, none⟩ = some B
  s2 : W.cell? ⟨gs, 2, none⟩ = some C
theorem SCells.own (Z gs : Nat) (V Pv A B C : Value) : Own (fun (_ : Nat) W => SCells Z gs V Pv A B C W) := fun _ _ _ _ hs hg hr =>
  ⟨cell_kept hs.c0 hg hr, cell_kept hs.c1 hg hr, cell_kept hs.c2 hg hr, cell_kept hs.r0 hg hr, cell_kept hs.r1 hg hr, cell_kept hs.r2 hg hr,
   (frozen_kept hs.r0 hg hr).trans hs.f0, (frozen_kept hs.r1 hg hr).trans hs.f1, (frozen_kept hs.r2 hg hr).trans hs.f2, cell_kept hs.s0 hg hr, cell_kept hs.s1 hg hr, cell_kept hs.s2 hg hr⟩
theorem cellB {W W1 : World} {p : Addr} {v : Value} (h : W.cell? p = some v) (hb : Below W.heap.size W W1) : W1.cell? p = some v := (hb.cell (World.block_lt_of_cell? _ _ h)).trans h
theorem frozenB {W W1 : World} {p : Addr} {v : Value} (h : W.cell? p = some v) (hf : W.frozen? p = false) (hb : Below W.heap.size W W1) : W1.frozen? p = false := (hb.frozen (World.block_lt_of_cell? _ _ h)).trans hf
theorem SCells.to {Z gs : Nat} {V Pv A B C : Value} {W W1 : World} (h : SCells Z gs V Pv A B C W) (hb : Below W.heap.size W W1) : SCells Z gs V Pv A B C W1 :=
  ⟨cellB h.c0 hb, cellB h.c1 hb, cellB h.c2 hb, cellB h.r0 hb, cellB h.r1 hb, cellB h.r2 hb, frozenB h.r0 h.f0 hb, frozenB h.r1 h.f1 hb, frozenB h.r2 h.f2 hb, cellB h.s0 hb, cellB h.s1 hb, cellB h.s2 hb⟩
/-- The call's own boxes. -/
structure FCells (Z : Nat) (V Pv A : Value) (W : World) : Prop where
  c0 : W.cell? ⟨Z, 0, none⟩ = some V
  c1 : W.cell? ⟨Z + 1, 0, none⟩ = some Pv
  c2 : W.cell? ⟨Z + 1 + 1, 0, none⟩ = some A
  r0 : W.cell? ⟨Z + 1 + 1 + 1, 0, none⟩ = some (.int .u64 0)
  r1 : W.cell? ⟨Z + 1 + 1 + 1, 1, none⟩ = some (.slice none 0 0)
  r2 : W.cell? ⟨Z + 1 + 1 + 1, 2, none⟩ = some (.slice none 0 0)
  f0 : W.frozen? ⟨Z + 1 + 1 + 1, 0, none⟩ = false
  f1 : W.frozen? ⟨Z + 1 + 1 + 1, 1, none⟩ = false
  f2 : W.frozen? ⟨Z + 1 + 1 + 1, 2, none⟩ = false
theorem FCells.to {Z : Nat} {V Pv A : Value} {W W1 : World} (h : FCells Z V Pv A W) (hb : Below W.heap.size W W1) : FCells Z V Pv A W1 :=
  ⟨cellB h.c0 hb, cellB h.c1 hb, cellB h.c2 hb, cellB h.r0 hb, cellB h.r1 hb, cellB h.r2 hb, frozenB h.r0 h.f0 hb, frozenB h.r1 h.f1 hb, frozenB h.r2 h.f2 hb⟩
theorem alloc_below (W : World) (o : Obj) : Below W.heap.size W (W.alloc o) := (Below.refl _ _).alloc (Nat.le_refl _) _
theorem FCells.new (w : World) (V Pv A : Value) (s t u r : TypeId) :
    FCells w.heap.size V Pv A ((((w.alloc (.cells #[V] s)).alloc (.cells #[Pv] t)).alloc (.cells #[A] u)).alloc (.cells #[.int .u64 0, .slice none 0 0, .slice none 0 0] r)) := by
  have a0 := cellB (cellB (cellB (new_cell w V s) (alloc_below _ (.cells #[Pv] t))) (alloc_below _ (.cells #[A] u))) (alloc_below _ (.cells #[.int .u64 0, .slice none 0 0, .slice none 0 0] r))
  have a1 := cellB (cellB (new_cell (w.alloc (.cells #[V] s)) Pv t) (alloc_below _ (.cells #[A] u))) (alloc_below _ (.cells #[.int .u64 0, .slice none 0 0, .slice none 0 0] r))
  have a2 := cellB (new_cell ((w.alloc (.cells #[V] s)).alloc (.cells #[Pv] t)) A u) (alloc_below _ (.cells #[.int .u64 0, .slice none 0 0, .slice none 0 0] r))
  generalize hW : ((w.alloc (.cells #[V] s)).alloc (.cells #[Pv] t)).alloc (.cells #[A] u) = W at *
  have hz : W.heap.size = w.heap.size + 1 + 1 + 1 := by rw [← hW]; simp
  refine ⟨a0, ?_, ?_, ?_, ?_, ?_, ?_, ?_, ?_⟩
  · simpa only [World.size_alloc] using a1
  · simpa only [World.size_alloc] using a2
  all_goals
    rw [← hz]
    simp
theorem SCells.set {Z gs : Nat} {V Pv A B C : Value} {W : World} (h : SCells Z gs V Pv A B C W) (p : Addr) (v : Value) (hp : Z + 1 + 1 + 1 < p.block) (hs : gs ≠ p.block) : SCells Z gs V Pv A B C (W.setCell p v) :=
  ⟨(cell_other _ _ _ _ (by dsimp only; omega)).trans h.c0, (cell_other _ _ _ _ (by dsimp only; omega)).trans h.c1, (cell_other _ _ _ _ (by dsimp only; omega)).trans h.c2,
   (cell_other _ _ _ _ (by dsimp only; omega)).trans h.r0, (cell_other _ _ _ _ (by dsimp only; omega)).trans h.r1, (cell_other _ _ _ _ (by dsimp only; omega)).trans h.r2,
   (by rw [World.frozen?_setCell]; exact h.f0), (by rw [World.frozen?_setCell]; exact h.f1), (by rw [World.frozen?_setCell]; exact h.f2),
   (cell_other _ _ _ _ hs).trans h.s0, (cell_other _ _ _ _ hs).trans h.s1, (cell_other _ _ _ _ hs).trans h.s2⟩
/-- A piece in a block of its own. -/
def One3 (W : World) (p a b c : Nat) : Prop :=
  W.cell? ⟨p, 0, none⟩ = some (.int .i64 a) ∧ W.cell? ⟨p, 1, none⟩ = some (.int .i64 b) ∧ W.cell? ⟨p, 2, none⟩ = some (.int .i64 c)
theorem One3.to {W W1 : World} {p a b c : Nat} (h : One3 W p a b c) (hb : Below W.heap.size W W1) : One3 W1 p a b c := ⟨cellB h.1 hb, cellB h.2.1 hb, cellB h.2.2 hb⟩
theorem One3.set {W : World} {p a b c : Nat} (h : One3 W p a b c) (q : Addr) (v : Value) (hq : p ≠ q.block) : One3 (W.setCell q v) p a b c :=
  ⟨(cell_other _ _ _ _ hq).trans h.1, (cell_other _ _ _ _ hq).trans h.2.1, (cell_other _ _ _ _ hq).trans h.2.2⟩
theorem or_pow (v y : Nat) (hv : v < 18446744073709551616) (hy : y < 64) : bits .or .u64 (v : Int) ((2 : Int) ^ y) = ((v ||| 2 ^ y : Nat) : Int) := by
  have e : (2 : Int) ^ y = ((2 ^ y : Nat) : Int) := by simp
  have h64 : 2 ^ y < 2 ^ 64 := Nat.pow_lt_pow_right (by omega) hy
  rw [e, bits_or_u64_nat _ _ hv (by omega)]
theorem three_blocks {X : World} {z : Nat} (hz : X.heap.size = z) (a b c : Obj) :
    (((X.alloc a).alloc b).alloc c).heap[z]? = some a ∧ (((X.alloc a).alloc b).alloc c).heap[z + 1]? = some b ∧ (((X.alloc a).alloc b).alloc c).heap[z + 1 + 1]? = some c ∧ Below z X (((X.alloc a).alloc b).alloc c) := by
  subst hz
  have a0 := World.alloc_heap_new X a
  have a1 := World.alloc_heap_new (X.alloc a) b
  have a2 := World.alloc_heap_new ((X.alloc a).alloc b) c
  have b0 := alloc_below X a
  have b1 := alloc_below (X.alloc a) b
  have b2 := alloc_below ((X.alloc a).alloc b) c
  refine ⟨(b2.block _ (by simp; omega)).trans ((b1.block _ (by simp)).trans a0), ?_, ?_, bl_step (bl_step b0 b1 b0.size) b2 (by simp; omega)⟩
  · simpa only [World.size_alloc] using (b2.block _ (by simp)).trans a1
  · simpa only [World.size_alloc] using a2
theorem BitBlk.of_zeros {W : World} {g m : Nat} (h : W.heap[g]? = some (.cells (zeros m) 88)) : BitBlk W g m (fun _ _ => false) :=
  ⟨zeros m, h, by simp [zeros, size_madeCells], fun i hi => ⟨0, by omega, zeros_at hi, fun j => Nat.zero_testBit j⟩⟩
theorem set3 {W : World} {p : Nat} {a b c x y z : Value} (r0 : W.cell? ⟨p, 0, none⟩ = some a) (r1 : W.cell? ⟨p, 1, none⟩ = some b) (r2 : W.cell? ⟨p, 2, none⟩ = some c) :
    (((W.setCell ⟨p, 0, none⟩ x).setCell ⟨p, 1, none⟩ y).setCell ⟨p, 2, none⟩ z).cell? ⟨p, 0, none⟩ = some x ∧ (((W.setCell ⟨p, 0, none⟩ x).setCell ⟨p, 1, none⟩ y).setCell ⟨p, 2, none⟩ z).cell? ⟨p, 1, none⟩ = some y ∧ (((W.setCell ⟨p, 0, none⟩ x).setCell ⟨p, 1, none⟩ y).setCell ⟨p, 2, none⟩ z).cell? ⟨p, 2, none⟩ = some z := by
  have n01 : (⟨p, 0, none⟩ : Addr) ≠ ⟨p, 1, none⟩ := fun e => by cases e
  have n02 : (⟨p, 0, none⟩ : Addr) ≠ ⟨p, 2, none⟩ := fun e => by cases e
  have n12 : (⟨p, 1, none⟩ : Addr) ≠ ⟨p, 2, none⟩ := fun e => by cases e
  refine ⟨?_, ?_, ?_⟩
  · rw [World.cell?_setCell_other _ _ _ _ n02.symm, World.cell?_setCell_other _ _ _ _ n01.symm]; exact World.cell?_setCell_same _ _ _ r0
  · rw [World.cell?_setCell_other _ _ _ _ n12.symm]; exact World.cell?_setCell_same _ _ _ ((World.cell?_setCell_other _ _ _ _ n01).trans r1)
  · exact World.cell?_setCell_same _ _ _ ((World.cell?_setCell_other _ _ _ _ n12).trans ((World.cell?_setCell_other _ _ _ _ n02).trans r2))
theorem two_blocks (X : World) (a b : Obj) :
    ((X.alloc a).alloc b).heap[X.heap.size]? = some a ∧ ((X.alloc a).alloc b).heap[X.heap.size + 1]? = some b ∧ Below X.heap.size X ((X.alloc a).alloc b) := by
  have a0 := World.alloc_heap_new X a
  have a1 := World.alloc_heap_new (X.alloc a) b
  have b1 := alloc_below (X.alloc a) b
  refine ⟨(b1.block _ (by simp)).trans a0, ?_, bl_step (alloc_below X a) b1 (by simp)⟩
  simpa only [World.size_alloc] using a1
theorem ownFrom_keeps (B : Nat) (W : World) : OwnFrom W.heap.size (fun (_ : Nat) W1 => KeepsFrom B W W1) := fun _ W1 W2 row hs hg hr =>
  ⟨Nat.le_trans hs.size hg.size, fun k o hB hk ho => (hg.block k (Array.getElem?_eq_some_iff.1 (hs.same k o hB hk ho)).1 (fun e => by
    have h1 := (hr k e.symm).1
    have h2 := (Array.getElem?_eq_some_iff.1 hk).1
    omega)).trans (hs.same k o hB hk ho)⟩
end Go.Proofs.YtefcfpagbjflbaaDoor
