/-
  A loop over any iterator value that makes memory as it goes; its body never leaves.
-/
import Derived.RangeFuncNested
import Derived.RangeFuncBound
import Derived.RangeFuncCalls
import Derived.RangeFuncLeaves
import Derived.RangeFuncBox
import Derived.Shelf.Abstract
import Derived.Shelf.RegionOpen
import Derived.WalkKit
import Derived.OwnWalkIn
import Derived.TacticsInMore
import Derived.LoopNIn
import Derived.LoopIn
import Derived.Test.YtijnjcamfbnmgaaRangeV
namespace Go.Proofs.Ytijnjcamfbnmgaa
set_option linter.unusedSimpArgs false
set_option linter.unusedVariables false
open Go.ChangeShapes Go.WideShapes Go.ChangeAt Go.RowKit Go.Shelf
attribute [local go_sem] Oper.semAt_some

/-- The cells from B on lie as they lay. -/
def KeepC (B : Nat) (W W' : World) : Prop := W.heap.size ≤ W'.heap.size ∧ ∀ b o, B ≤ b → W.heap[b]? = some o → o.isCells = true → W'.heap[b]? = some o
theorem KeepC.refl (B : Nat) (W : World) : KeepC B W W := ⟨Nat.le_refl _, fun _ _ _ h _ => h⟩
theorem KeepC.trans {B : Nat} {a b c : World} (h : KeepC B a b) (k : KeepC B b c) : KeepC B a c := ⟨Nat.le_trans h.1 k.1, fun i o hi ho hc => k.2 i o hi (h.2 i o hi ho hc) hc⟩
theorem KeepC.of {B : Nat} {a b : World} (h : Below a.heap.size a b) : KeepC B a b := ⟨h.size, fun i o _ ho _ => (h.block i (Array.getElem?_eq_some_iff.1 ho).1).trans ho⟩
theorem KeepC.set_ {B : Nat} (W : World) {p : Addr} (hp : p.block < B) (v : Value) : KeepC B W (W.setCell p v) := ⟨by simp [World.setCell], fun i o hi ho _ => (Below.heap_setCell W p v i (by omega)).trans ho⟩
theorem KeepC.put {B l : Nat} {W : World} {o' : Obj} (o : Obj) (hl : W.heap[l]? = some o') (hc : o'.isCells = false) : KeepC B W (W.putObj l o) := by
  refine ⟨by simp [World.putObj], fun i oi _ hoi hci => ?_⟩
  rw [World.putObj_heap_other (fun e => by subst e; rw [hl] at hoi; cases hoi; rw [hc] at hci; cases hci)]
  exact hoi
theorem KeepC.cell {B : Nat} {W W' : World} (h : KeepC B W W') {p : Addr} {v : Value} (hp : B ≤ p.block) (hv : W.cell? p = some v) : W'.cell? p = some v := by
  obtain ⟨o, ho, hc⟩ := cells_of_cell hv
  exact (World.cell?_of_block ((h.2 _ o hp ho hc).trans ho.symm)).trans hv
/-- How a round ends. -/
def evPostB (B : Nat) (I : Nat → World → Prop) (k : Nat) (W : World) : Exit → Act → World → Prop
  | .normal, _, W' => KeepsFrom B W W' ∧ KeepC B W W' ∧ I k W'
  | _, _, _ => False
/-- The function f, called with a yield between pre and post, hands N lists of values to it, one after another, and makes memory in between. -/
def GivesB (n : Nat) (f : Nat) (pre post : Array Value) (N : Nat) (xs : Nat → Array Value) (Kq : World → Prop) : Prop :=
  ∀ (l B : Nat) (J : Nat → World → Prop) (W : World), B ≤ W.heap.size → (∀ k W1, J k W1 → Kq W1) → (∀ k W1 W2, J k W1 → Below W1.heap.size W1 W2 → J k W2) →
    (∀ k W1, k < N → J k W1 → YieldAt Fence.wide (n - 1) Try.prog l (xs k) W1 fun e W' => e = .returned (.bool true) ∧ J (k + 1) W' ∧ KeepC B W1 W') →
    J 0 W → CallsIn Fence.wide n Try.prog f (pre ++ #[.func (.yield l) #[] #[]] ++ post) W fun e W' => (∃ v, e = .returned v) ∧ J N W'
theorem range_givesB {g : Operand} {ps : Array Tmp} {assign body : Code} {Q : Exit → Act → World → Prop} {a : Act} {w : World} {n gf : Nat} {pre post : Array Value} {N m : Nat} {xs : Nat → Array Value} {Kq : World → Prop} (h1 : 1 ≤ n)
    (hg : a.eval g = .func (.func gf) pre post) (eg : ∀ args w, (callFunc gf args).run Try.prog w = .ok (.enter gf args) w) (hseq : GivesB (n - 1) gf pre post N xs Kq) (hps : ps.size = m) (hxs : ∀ k, (xs k).size = m)
    (I : Nat → World → Prop) (hI : OwnFrom w.heap.size I) (hIB : ∀ k W1 W2, I k W1 → Below W1.heap.size W1 W2 → I k W2) (hK : ∀ k W, I k W → Kq W) (h0 : I 0 w)
    (Ax : Nat → Act → World → Prop) (hAx : ∀ k a', OwnFrom w.heap.size (fun (_ : Unit) W => Ax k a' W))
    (hassign : ∀ (l k : Nat) (W : World) (K : Act → World → Prop), k < N → I k W → (∀ a' W', KeepsFrom w.heap.size W W' → KeepC w.heap.size W W' → I k W' → Ax k a' W' → K a' W') →
      assign.wpIn (Fence.wide.inRound l) (n - 1 - 1) Try.prog (Exit.then K (fun _ _ _ => False)) { tmps := (ps.zip (xs k)).foldl (fun t (p, v) => t.setIfInBounds p v) a.tmps, defers := [] } W)
    (hbody : ∀ (l k : Nat) (a' : Act) (W : World), w.heap.size ≤ l → (∃ r, W.heap[l]? = some (.loop r)) → k < N → I k W → Ax k a' W → body.wpIn (Fence.wide.inRound l) (n - 1 - 1) Try.prog (evPostB w.heap.size I (k + 1) W) a' W)
    (hdone : ∀ (D : Nat) (W : World), w.heap.size ≤ D → I N W → W.heap[D]? = some (.deferred (some [])) → Q .normal { a with defers := { target := .collected D, args := #[] } :: a.defers } W) :
    (Code.rangeFunc g ps assign body).wpIn Fence.wide n Try.prog Q a w := by
  refine wpIn_rangeFunc ?_
  intro fn hfn
  obtain ⟨R, hR⟩ : ∃ R : LoopState → Loop, R = fun st => { state := st, pending := none, fn, tmps := a.tmps, params := ps, assign, body, defers := w.heap.size } := ⟨_, rfl⟩
  obtain ⟨W1, hW1⟩ : ∃ W1, (w.alloc (.deferred (some []))).alloc (.loop (R .ready)) = W1 := ⟨_, rfl⟩
  have hL : W1.heap[w.heap.size + 1]? = some (.loop (R .ready)) := by
    have := World.alloc_heap_new (w.alloc (.deferred (some []))) (.loop (R .ready))
    rw [World.size_alloc, hW1] at this
    exact this
  have hD : W1.heap[w.heap.size]? = some (.deferred (some [])) := by
    rw [← hW1]; exact (Below.heap_alloc _ _ _ (by simp)).trans (World.alloc_heap_new w _)
  have hI1 : I 0 W1 := by rw [← hW1]; exact hI.alloc _ (hI.alloc _ h0)
  refine ⟨w.heap.size + 1, [{ target := .collected w.heap.size, args := #[] }], W1, { target := .fn (.func gf) post, args := pre ++ #[.func (.yield (w.heap.size + 1)) #[] #[]] }, W1, gf,
    pre ++ #[.func (.yield (w.heap.size + 1)) #[] #[]] ++ post, W1, ?_, ?_, fun _ _ => trivial, ?_, fun _ => h1, ?_⟩
  · rw [← hW1, hR]; exact run_enterLoop_outer _ _ _ _ _
  · simp only [resolve, hg]
    simp [go_sem]
  · simp [invoke, go_sem, eg]
  · refine (hseq (w.heap.size + 1) w.heap.size (fun k W => I k W ∧ W.heap[w.heap.size + 1]? = some (.loop (R .ready)) ∧ W.heap[w.heap.size]? = some (.deferred (some []))) W1 (by rw [← hW1]; simp; omega) (fun k W hj => hK k W hj.1) (fun k Wa Wb hj hb => ⟨hIB k Wa Wb hj.1 hb, (hb.block _ (Array.getElem?_eq_some_iff.1 hj.2.1).1).trans hj.2.1, (hb.block _ (Array.getElem?_eq_some_iff.1 hj.2.2).1).trans hj.2.2⟩) ?_ ⟨hI1, hL, hD⟩).mono ?_
    · rintro k W hk ⟨hi, hl, hd⟩
      have hy := run_yield (P := Try.prog) (args := xs k) hl (by rw [hR, hxs]; exact hps.symm)
      rw [hR] at hy
      refine ⟨fn, _, assign, body, hy, roundIn_of_wpIn hfn (hassign _ k W _ hk hi fun a' W' hkf hkc hi' hax => ?_)⟩
      have hl' := hkf.same _ _ (by omega) hl rfl
      have hd' := hkf.same _ _ (Nat.le_refl _) hd rfl
      have hlt : w.heap.size + 1 < W'.heap.size := (Array.getElem?_eq_some_iff.1 hl').1
      refine ⟨_, run_beginRound hl' (by rw [hR]), ?_⟩
      have l2 : (W'.putObj (w.heap.size + 1) (.loop { R .ready with state := .busy })).heap[w.heap.size + 1]? = some (.loop { R .ready with state := .busy }) := World.putObj_heap_same hlt
      have d2 : (W'.putObj (w.heap.size + 1) (.loop { R .ready with state := .busy })).heap[w.heap.size]? = some (.deferred (some [])) := (World.putObj_heap_other (by omega)).trans hd'
      refine wpIn_mono (hbody _ k a' _ (by omega) ⟨_, l2⟩ hk (hI.putObj _ hi' (by omega) hl' rfl) ((hAx k a').putObj (s := ()) _ hax (by omega) hl' rfl)) ?_
      rintro e a3 W3 hp
      cases e with
      | normal =>
        obtain ⟨hk3, hkc3, hi3⟩ := hp
        have l3 := hk3.same _ _ (by omega) l2 rfl
        have hr := run_endRound (P := Try.prog) none l3
        rw [hR] at hr
        have lt3 := (Array.getElem?_eq_some_iff.1 l3).1
        refine ⟨_, _, hr, rfl, ⟨hI.putObj _ hi3 (by omega) l3 rfl, ?_, (World.putObj_heap_other (by omega)).trans (hk3.same _ _ (Nat.le_refl _) d2 rfl)⟩, ((hkc.trans (KeepC.put _ hl' rfl)).trans hkc3).trans (KeepC.put _ l3 rfl)⟩
        rw [hR]
        exact World.putObj_heap_same lt3
      | ret => exact hp.elim
      | exit id => exact hp.elim
      | goto t => exact hp.elim
      | panic ch => exact hp.elim
      | outgrown => exact hp.elim
    · rintro e W2 ⟨⟨v, rfl⟩, hi, hl, hd⟩
      have hend := run_endLoop (P := Try.prog) hl (by rw [hR]; simp)
      rw [hR] at hend
      exact ⟨none, _, hend, hdone _ _ (Nat.le_refl _) (hI.putObj _ hi (by omega) hl rfl) ((World.putObj_heap_other (by omega)).trans hd)⟩
end Go.Proofs.Ytijnjcamfbnmgaa
