/-
  'for p := range eachCell': a function of its own that hands points on; a loop whose body never leaves, whose variable is boxed in each round.
-/
import Derived.Test.YtepamhdopmfkfaaReachP
import Derived.RangeFuncNested
import Derived.RangeFuncBound
import Derived.RangeFuncCalls
import Derived.RangeFuncLeaves
import Derived.RangeFuncBox
import Derived.Shelf.Abstract
import Derived.Shelf.RegionOpen
import Derived.WalkKit
import Derived.OwnWalkIn
import Derived.TacticsInMore
import Derived.LoopNIn
import Derived.LoopIn
namespace Go.Proofs.Ytepamhdopmfkfaa
set_option linter.unusedSimpArgs false
set_option linter.unusedVariables false
open Go.ChangeShapes Go.WideShapes Go.ChangeAt Go.RowKit Go.Shelf
attribute [local go_sem] Oper.semAt_some

abbrev ptN (p : Pt) : Value := .agg #[.int .i64 p.1, .int .i64 p.2]
/-- The function f hands the points xs to yield, one after another. -/
def GivesP (n : Nat) (f : Nat) (xs : List Pt) : Prop :=
  ∀ (l : Nat) (J : Nat → World → Prop) (W : World),
    (∀ k x W1, J k W1 → xs[k]? = some x → YieldAt Fence.wide (n - 1) Try.prog l #[ptN x] W1 fun e W' => e = .returned (.bool true) ∧ J (k + 1) W') →
    J 0 W → CallsIn Fence.wide n Try.prog f #[.func (.yield l) #[] #[]] W fun e W' => (∃ v, e = .returned v) ∧ J xs.length W'
/-- How a round ends. -/
def evPostP (B : Nat) (I : Nat → World → Prop) (k : Nat) (W : World) : Exit → Act → World → Prop
  | .normal, _, W' => KeepsFrom B W W' ∧ I k W'
  | _, _, _ => False
theorem range_givesP {g : Operand} {ps : Array Tmp} {assign body : Code} {Q : Exit → Act → World → Prop} {a : Act} {w : World} {n gf : Nat} {xs : List Pt} (h1 : 1 ≤ n)
    (hg : a.eval g = .func (.func gf) #[] #[]) (eg : ∀ args w, (callFunc gf args).run Try.prog w = .ok (.enter gf args) w) (hseq : GivesP (n - 1) gf xs) (hps : ps.size = 1)
    (I : Nat → World → Prop) (hI : OwnFrom w.heap.size I) (h0 : I 0 w)
    (Ax : Pt → Act → World → Prop) (hAx : ∀ x a', OwnFrom w.heap.size (fun (_ : Unit) W => Ax x a' W))
    (hassign : ∀ (l k : Nat) (x : Pt) (W : World) (K : Act → World → Prop), I k W → (∀ a' W', KeepsFrom w.heap.size W W' → I k W' → Ax x a' W' → K a' W') →
      assign.wpIn (Fence.wide.inRound l) (n - 1 - 1) Try.prog (Exit.then K (fun _ _ _ => False)) { tmps := (ps.zip #[ptN x]).foldl (fun t (p, v) => t.setIfInBounds p v) a.tmps, defers := [] } W)
    (hbody : ∀ (l k : Nat) (x : Pt) (a' : Act) (W : World), w.heap.size ≤ l → (∃ r, W.heap[l]? = some (.loop r)) → I k W → Ax x a' W → xs[k]? = some x → body.wpIn (Fence.wide.inRound l) (n - 1 - 1) Try.prog (evPostP w.heap.size I (k + 1) W) a' W)
    (hdone : ∀ (D : Nat) (W : World), w.heap.size ≤ D → I xs.length W → W.heap[D]? = some (.deferred (some [])) → Q .normal { a with defers := { target := .collected D, args := #[] } :: a.defers } W) :
    (Code.rangeFunc g ps assign body).wpIn Fence.wide n Try.prog Q a w := by
  refine wpIn_rangeFunc ?_
  intro fn hfn
  obtain ⟨R, hR⟩ : ∃ R : LoopState → Loop, R = fun st => { state := st, pending := none, fn, tmps := a.tmps, params := ps, assign, body, defers := w.heap.size } := ⟨_, rfl⟩
  obtain ⟨W1, hW1⟩ : ∃ W1, (w.alloc (.deferred (some []))).alloc (.loop (R .ready)) = W1 := ⟨_, rfl⟩
  have hL : W1.heap[w.heap.size + 1]? = some (.loop (R .ready)) := by
    have := World.alloc_heap_new (w.alloc (.deferred (some []))) (.loop (R .ready))
    rw [World.size_alloc, hW1] at this
    exact this
  have hD : W1.heap[w.heap.size]? = some (.deferred (some [])) := by
    rw [← hW1]; exact (Below.heap_alloc _ _ _ (by simp)).trans (World.alloc_heap_new w _)
  have hI1 : I 0 W1 := by rw [← hW1]; exact hI.alloc _ (hI.alloc _ h0)
  refine ⟨w.heap.size + 1, [{ target := .collected w.heap.size, args := #[] }], W1, { target := .fn (.func gf) #[], args := #[.func (.yield (w.heap.size + 1)) #[] #[]] }, W1, gf,
    #[.func (.yield (w.heap.size + 1)) #[] #[]], W1, ?_, ?_, fun _ _ => trivial, ?_, fun _ => h1, ?_⟩
  · rw [← hW1, hR]; exact run_enterLoop_outer _ _ _ _ _
  · simp only [resolve, hg]
    simp [go_sem]
  · simp [invoke, go_sem, eg]
  · refine (hseq (w.heap.size + 1) (fun k W => I k W ∧ W.heap[w.heap.size + 1]? = some (.loop (R .ready)) ∧ W.heap[w.heap.size]? = some (.deferred (some []))) W1 ?_ ⟨hI1, hL, hD⟩).mono ?_
    · rintro k x W ⟨hi, hl, hd⟩ hx
      have hy := run_yield (P := Try.prog) (args := #[ptN x]) hl (by rw [hR]; exact hps.symm)
      rw [hR] at hy
      refine ⟨fn, _, assign, body, hy, roundIn_of_wpIn hfn (hassign _ k x W _ hi fun a' W' hkf hi' hax => ?_)⟩
      have hl' := hkf.same _ _ (by omega) hl rfl
      have hd' := hkf.same _ _ (Nat.le_refl _) hd rfl
      have hlt : w.heap.size + 1 < W'.heap.size := (Array.getElem?_eq_some_iff.1 hl').1
      refine ⟨_, run_beginRound hl' (by rw [hR]), ?_⟩
      have l2 : (W'.putObj (w.heap.size + 1) (.loop { R .ready with state := .busy })).heap[w.heap.size + 1]? = some (.loop { R .ready with state := .busy }) := World.putObj_heap_same hlt
      have d2 : (W'.putObj (w.heap.size + 1) (.loop { R .ready with state := .busy })).heap[w.heap.size]? = some (.deferred (some [])) := (World.putObj_heap_other (by omega)).trans hd'
      refine wpIn_mono (hbody _ k x a' _ (by omega) ⟨_, l2⟩ (hI.putObj _ hi' (by omega) hl' rfl) ((hAx x a').putObj (s := ()) _ hax (by omega) hl' rfl) hx) ?_
      rintro e a3 W3 hp
      cases e with
      | normal =>
        obtain ⟨hk3, hi3⟩ := hp
        have l3 := hk3.same _ _ (by omega) l2 rfl
        have hr := run_endRound (P := Try.prog) none l3
        rw [hR] at hr
        have lt3 := (Array.getElem?_eq_some_iff.1 l3).1
        refine ⟨_, _, hr, rfl, hI.putObj _ hi3 (by omega) l3 rfl, ?_, (World.putObj_heap_other (by omega)).trans (hk3.same _ _ (Nat.le_refl _) d2 rfl)⟩
        rw [hR]
        exact World.putObj_heap_same lt3
      | ret => exact hp.elim
      | exit id => exact hp.elim
      | goto t => exact hp.elim
      | panic ch => exact hp.elim
      | outgrown => exact hp.elim
    · rintro e W2 ⟨⟨v, rfl⟩, hi, hl, hd⟩
      have hend := run_endLoop (P := Try.prog) hl (by rw [hR]; simp)
      rw [hR] at hend
      exact ⟨none, _, hend, hdone _ _ (Nat.le_refl _) (hI.putObj _ hi (by omega) hl rfl) ((World.putObj_heap_other (by omega)).trans hd)⟩

/-- The point of number k, and the points of all cells in order. -/
def ptK (k : Nat) : Pt := (((k / 12 : Nat) : Int), ((k % 12 : Nat) : Int))
def allP : List Pt := (List.range 144).map ptK
theorem allP_len : allP.length = 144 := by simp [allP]
theorem allP_at {k : Nat} (h : k < 144) : allP[k]? = some (ptK k) := by simp [allP, h]
theorem ptK_of {x y : Nat} (hy : y < 12) : ptK (x * 12 + y) = ((x : Int), (y : Int)) := by
  unfold ptK
  rw [show (x * 12 + y) / 12 = x by omega, show (x * 12 + y) % 12 = y by omega]
/-- The first k points that S has. -/
def accS (S : Pt → Bool) : Nat → List Pt
  | 0 => []
  | k + 1 => accS S k ++ if S (ptK k) then [ptK k] else []
theorem accS_succ (S : Pt → Bool) (k : Nat) : accS S (k + 1) = accS S k ++ if S (ptK k) then [ptK k] else [] := rfl
theorem accS_len (S : Pt → Bool) : ∀ k, (accS S k).length ≤ k
  | 0 => by simp [accS]
  | k + 1 => by
    have := accS_len S k
    rw [accS_succ, List.length_append]
    split <;> simp <;> omega
theorem accS_col (S : Pt → Bool) (x : Nat) : ∀ y, y ≤ 12 → accS S (x * 12 + y) = accS S (x * 12) ++ colS S x y
  | 0, _ => by simp [colS]
  | y + 1, h => by
    rw [show x * 12 + (y + 1) = (x * 12 + y) + 1 by omega, accS_succ, accS_col S x y (by omega), ptK_of (by omega), colS_succ, List.append_assoc]
theorem accS_cols (S : Pt → Bool) : ∀ x, accS S (x * 12) = colsS S 12 x
  | 0 => rfl
  | x + 1 => by
    rw [show (x + 1) * 12 = x * 12 + 12 by omega, accS_col S x 12 (by omega), accS_cols S x, colsS_succ]

set_option maxRecDepth 100000 in
set_option maxHeartbeats 1000000 in
theorem eachCell_gives (n : Nat) : GivesP n 72 allP := fun l J W hY h0 => by
  rw [allP_len]
  refine callsIn_of_wp Try.func72 rfl trivial ?_ rfl
  simp only [Try.ntmps72, List.size_toArray, List.length_cons, List.length_nil, Nat.reduceAdd, Nat.reduceSub, Array.replicate_succ, Array.replicate_zero, List.push_toArray, List.append_toArray, List.nil_append, List.cons_append]
  gi_wp2
  gi_loopw [2, 3, 4, 7] (fun _ _ r _ wr => ∃ x : Nat, x ≤ 12 ∧ r = .int .i64 x ∧ J (x * 12) wr) (fun _ _ r _ _ => 12 - (intOf r).toNat)
  case atStart => exact ⟨0, by omega, rfl, by simpa using h0⟩
  case round =>
    obtain ⟨x, hx, rfl, hJ⟩ := hrel
    by_cases hx12 : x < 12
    · have hxI : (x : Int) < 12 := by omega
      gi_wp2
      gi_loopw [3, 7] (fun _ r wr => ∃ y : Nat, y ≤ 12 ∧ r = .int .i64 y ∧ J (x * 12 + y) wr) (fun _ r _ => 12 - (intOf r).toNat)
      case atStart => exact ⟨0, by omega, rfl, by simpa using hJ⟩
      case round =>
        clear hJ
        obtain ⟨y, hy, rfl, hJ⟩ := hrel
        by_cases hy12 : y < 12
        · have hyI : (y : Int) < 12 := by omega
          obtain ⟨fn, tmps, assign, body, hy', hR⟩ := hY (x * 12 + y) ((x : Int), (y : Int)) wr hJ (by rw [allP_at (by omega), ptK_of hy12])
          clear hY
          gi_wp2
          refine ⟨fun h => (by cases h), hR.mono ?_⟩
          rintro e W' ⟨rfl, hJ'⟩
          gi_wp2
          exact ⟨⟨y + 1, by omega, by go_num, hJ'⟩, by simp [intOf]; omega⟩
        · obtain rfl : y = 12 := by omega
          gi_wp2
          exact ⟨⟨x + 1, by omega, by go_num, by rw [show (x + 1) * 12 = x * 12 + 12 by omega]; exact hJ⟩, by simp [intOf]; omega⟩
    · obtain rfl : x = 12 := by omega
      gi_wp2
      go_end0
      exact ⟨⟨_, rfl⟩, hJ⟩
end Go.Proofs.Ytepamhdopmfkfaa
