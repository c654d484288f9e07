/-
  'for x := range s.each': an iterator value that is a method's value, bound to its receiver; a loop whose body never leaves.
-/
import Derived.Test.YtifenbamookmiaaDoorMem
import Derived.Test.YtifenbamookmiaaDoorSpan
import Derived.RangeFuncNested
import Derived.RangeFuncBound
import Derived.RangeFuncCalls
import Derived.RangeFuncLeaves
import Derived.RangeFuncBox
import Derived.Shelf.Abstract
import Derived.Shelf.RegionOpen
import Derived.WalkKit
import Derived.OwnWalkIn
import Derived.TacticsInMore
import Derived.LoopNIn
import Derived.LoopIn
namespace Go.Proofs.YtifenbamookmiaaDoor
set_option linter.unusedSimpArgs false
set_option linter.unusedVariables false
open Go.ChangeShapes Go.WideShapes Go.ChangeAt Go.RowKit Go.Shelf
attribute [local go_sem] Oper.semAt_some

/-- The function f, bound to b, hands the numbers xs to yield, one after another. -/
def Gives (n : Nat) (f : Nat) (b : Value) (xs : List Nat) (Kq : World → Prop) : Prop :=
  ∀ (l : Nat) (J : Nat → World → Prop) (W : World), (∀ k W1, J k W1 → Kq W1) →
    (∀ k x W1, J k W1 → xs[k]? = some x → YieldAt Fence.wide (n - 1) Tryd.prog l #[.int .i64 (x : Int)] W1 fun e W' => e = .returned (.bool true) ∧ J (k + 1) W') →
    J 0 W → CallsIn Fence.wide n Tryd.prog f #[b, .func (.yield l) #[] #[]] W fun e W' => (∃ v, e = .returned v) ∧ J xs.length W'
/-- How a round ends. -/
def evPost (B : Nat) (I : Nat → World → Prop) (k : Nat) (W : World) : Exit → Act → World → Prop
  | .normal, _, W' => KeepsFrom B W W' ∧ I k W'
  | _, _, _ => False

theorem range_gives {g : Operand} {ps : Array Tmp} {assign body : Code} {Q : Exit → Act → World → Prop} {a : Act} {w : World} {n gf : Nat} {b : Value} {xs : List Nat} {Kq : World → Prop} (h1 : 1 ≤ n)
    (hg : a.eval g = .func (.func gf) #[b] #[]) (eg : ∀ args w, (callFunc gf args).run Tryd.prog w = .ok (.enter gf args) w) (hseq : Gives (n - 1) gf b xs Kq) (hps : ps.size = 1)
    (I : Nat → World → Prop) (hI : OwnFrom w.heap.size I) (hK : ∀ k W, I k W → Kq W) (h0 : I 0 w) (a₁ : Nat → Act)
    (hassign : ∀ (l x : Nat) (W : World) (K : Act → World → Prop), K (a₁ x) W →
      assign.wpIn (Fence.wide.inRound l) (n - 1 - 1) Tryd.prog (Exit.then K (fun _ _ _ => False)) { tmps := (ps.zip #[Value.int .i64 (x : Int)]).foldl (fun t (p, v) => t.setIfInBounds p v) a.tmps, defers := [] } W)
    (hbody : ∀ (l k x : Nat) (W : World), I k W → xs[k]? = some x → body.wpIn (Fence.wide.inRound l) (n - 1 - 1) Tryd.prog (evPost w.heap.size I (k + 1) W) (a₁ x) W)
    (hdone : ∀ (D : Nat) (W : World), w.heap.size ≤ D → I xs.length W → W.heap[D]? = some (.deferred (some [])) → Q .normal { a with defers := { target := .collected D, args := #[] } :: a.defers } W) :
    (Code.rangeFunc g ps assign body).wpIn Fence.wide n Tryd.prog Q a w := by
  refine wpIn_rangeFunc ?_
  intro fn hfn
  obtain ⟨R, hR⟩ : ∃ R : LoopState → Loop, R = fun st => { state := st, pending := none, fn, tmps := a.tmps, params := ps, assign, body, defers := w.heap.size } := ⟨_, rfl⟩
  obtain ⟨W1, hW1⟩ : ∃ W1, (w.alloc (.deferred (some []))).alloc (.loop (R .ready)) = W1 := ⟨_, rfl⟩
  have hL : W1.heap[w.heap.size + 1]? = some (.loop (R .ready)) := by
    have := World.alloc_heap_new (w.alloc (.deferred (some []))) (.loop (R .ready))
    rw [World.size_alloc, hW1] at this
    exact this
  have hD : W1.heap[w.heap.size]? = some (.deferred (some [])) := by
    rw [← hW1]; exact (Below.heap_alloc _ _ _ (by simp)).trans (World.alloc_heap_new w _)
  have hI1 : I 0 W1 := by rw [← hW1]; exact hI.alloc _ (hI.alloc _ h0)
  refine ⟨w.heap.size + 1, [{ target := .collected w.heap.size, args := #[] }], W1, { target := .fn (.func gf) #[], args := #[b, .func (.yield (w.heap.size + 1)) #[] #[]] }, W1, gf,
    #[b, .func (.yield (w.heap.size + 1)) #[] #[]], W1, ?_, ?_, fun _ _ => trivial, ?_, fun _ => h1, ?_⟩
  · rw [← hW1, hR]; exact run_enterLoop_outer _ _ _ _ _
  · simp only [resolve, hg]
    simp [go_sem]
  · simp [invoke, go_sem, eg]
  · refine (hseq (w.heap.size + 1) (fun k W => I k W ∧ W.heap[w.heap.size + 1]? = some (.loop (R .ready)) ∧ W.heap[w.heap.size]? = some (.deferred (some []))) W1 (fun k W hj => hK k W hj.1) ?_ ⟨hI1, hL, hD⟩).mono ?_
    · rintro k x W ⟨hi, hl, hd⟩ hx
      have hlt : w.heap.size + 1 < W.heap.size := (Array.getElem?_eq_some_iff.1 hl).1
      have hy := run_yield (P := Tryd.prog) (args := #[Value.int .i64 (x : Int)]) hl (by rw [hR]; exact hps.symm)
      rw [hR] at hy
      refine ⟨fn, _, assign, body, hy, roundIn_of_wpIn hfn (hassign _ x W _ ⟨_, run_beginRound hl (by rw [hR]), ?_⟩)⟩
      have l2 : (W.putObj (w.heap.size + 1) (.loop { R .ready with state := .busy })).heap[w.heap.size + 1]? = some (.loop { R .ready with state := .busy }) := World.putObj_heap_same hlt
      have d2 : (W.putObj (w.heap.size + 1) (.loop { R .ready with state := .busy })).heap[w.heap.size]? = some (.deferred (some [])) := (World.putObj_heap_other (by omega)).trans hd
      refine wpIn_mono (hbody _ k x _ (hI.putObj _ hi (by omega) hl rfl) hx) ?_
      rintro e a3 W3 hp
      cases e with
      | normal =>
        obtain ⟨hk3, hi3⟩ := hp
        have l3 := hk3.same _ _ (by omega) l2 rfl
        have hr := run_endRound (P := Tryd.prog) none l3
        rw [hR] at hr
        have lt3 := (Array.getElem?_eq_some_iff.1 l3).1
        refine ⟨_, _, hr, rfl, hI.putObj _ hi3 (by omega) l3 rfl, ?_, (World.putObj_heap_other (by omega)).trans (hk3.same _ _ (Nat.le_refl _) d2 rfl)⟩
        rw [hR]
        exact World.putObj_heap_same lt3
      | ret => exact hp.elim
      | exit id => exact hp.elim
      | goto t => exact hp.elim
      | panic ch => exact hp.elim
      | outgrown => exact hp.elim
    · rintro e W2 ⟨⟨v, rfl⟩, hi, hl, hd⟩
      have hend := run_endLoop (P := Tryd.prog) hl (by rw [hR]; simp)
      rw [hR] at hend
      exact ⟨none, _, hend, hdone _ _ (Nat.le_refl _) (hI.putObj _ hi (by omega) hl rfl) ((World.putObj_heap_other (by omega)).trans hd)⟩

set_option maxRecDepth 100000 in
set_option maxHeartbeats 1000000 in
theorem each_gives (n : Nat) (p : Nat → Bool) (k : Nat) (hk : k ≤ 63) : Gives n 66 (.int .u64 (maskTo p k)) (memL p 0 k) BruAt := fun l J W hK hY h0 => by
  have hlt : ∀ j, maskTo (pFrom p j) k < 9223372036854775808 := fun j => Nat.lt_of_lt_of_le (maskTo_lt _ _) (Nat.pow_le_pow_right (n := 2) (i := k) (j := 63) (by omega) hk)
  refine callsIn_of_wp Tryd.func66 rfl trivial ?_ rfl
  simp only [Tryd.ntmps66, List.size_toArray, List.length_cons, List.length_nil, Nat.reduceAdd, Nat.reduceSub, Array.replicate_succ, Array.replicate_zero, List.push_toArray, List.append_toArray, List.nil_append, List.cons_append]
  gi_wp2
  gi_loopw [4] (fun r wr => ∃ j c : Nat, r = .int .u64 (maskTo (pFrom p j) k) ∧ Hid (c ≤ (memL p 0 k).length ∧ (memL p 0 k).drop c = memL p j k) ∧ J c wr) (fun r _ => (intOf r).toNat)
  case atStart => exact ⟨0, 0, by rw [pFrom_zero], ⟨by omega, rfl⟩, h0⟩
  case round =>
    obtain ⟨j, c, rfl, HC, hJ⟩ := hrel
    have hM := hlt j
    by_cases hz : maskTo (pFrom p j) k = 0
    · have hc : Hid (c = (memL p 0 k).length) := by
        have h2 := HC.out.2
        rw [memL_nil hz] at h2
        have := congrArg List.length h2
        simp at this
        have h1 := HC.out.1
        show _ = _
        omega
      rw [hz]
      clear hY
      gi_wp2
      go_end0
      exact ⟨⟨_, rfl⟩, by rw [← hc.out]; exact hJ⟩
    · obtain ⟨l', h1, h2, h3, h4, h5⟩ := mask_step p j k (by omega) hz
      have hx : (memL p 0 k)[c]? = some l' := by
        have h := congrArg (fun L => L[0]?) HC.out.2
        simp only [List.getElem?_drop, Nat.add_zero, h5] at h
        simpa using h
      have HC' : Hid (c + 1 ≤ (memL p 0 k).length ∧ (memL p 0 k).drop (c + 1) = memL p (l' + 1) k) := by
        have hlt : c < (memL p 0 k).length := by
          rcases Nat.lt_or_ge c (memL p 0 k).length with h | h
          · exact h
          · rw [List.getElem?_eq_none h] at hx; cases hx
        exact ⟨hlt, by rw [← List.drop_drop, HC.out.2, h5]; rfl⟩
      obtain ⟨fn, tmps, assign, body, hy, hR⟩ := hY c l' wr hJ hx
      have htz := tz_any (maskTo (pFrom p j) k) (by omega) hz wr (hK c wr hJ)
      rw [h3] at htz
      have hnb : ((maskTo (pFrom p j) k : Int) == 0) = false := by simp; exact hz
      have hnz : ¬ (maskTo (pFrom p j) k : Int) = 0 := by omega
      have hand : bits .and .u64 (maskTo (pFrom p j) k : Int) ((maskTo (pFrom p j) k : Int) - 1) = (maskTo (pFrom p (l' + 1)) k : Int) := by
        rw [← h4, show (maskTo (pFrom p j) k : Int) - 1 = ((maskTo (pFrom p j) k - 1 : Nat) : Int) by omega, bits_and_u64_nat _ _ (by omega) (by omega)]
      have hlt2 : maskTo (pFrom p (l' + 1)) k < maskTo (pFrom p j) k := by
        have h6 : maskTo (pFrom p j) k &&& (maskTo (pFrom p j) k - 1) ≤ maskTo (pFrom p j) k - 1 := Nat.and_le_right
        omega
      have HL := Lib.hid hlt2
      clear hlt2 h3 h4 h5 hY
      generalize maskTo (pFrom p j) k = M at *
      gi_wp2
      refine ⟨trivial, fun h => (by cases h), (callsIn_wide.2 htz).mono ?_⟩
      rintro e w' ⟨rfl, rfl⟩
      gi_wp2
      refine ⟨fun h => (by cases h), hR.mono ?_⟩
      rintro e W' ⟨rfl, hJ'⟩
      gi_wp2
      exact ⟨⟨l' + 1, c + 1, rfl, HC', hJ'⟩, by have := HL.out; simp [intOf]; omega⟩
end Go.Proofs.YtifenbamookmiaaDoor
