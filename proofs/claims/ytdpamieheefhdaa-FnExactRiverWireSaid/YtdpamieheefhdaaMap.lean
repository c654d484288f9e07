/-
  A map from points to true, as the program's check of a path fills it: look-up, store, make.
-/
import Derived.Test.YtdpamieheefhdaaRows
import Derived.WalkKit
import Derived.ProofKit
import Derived.Laws.StructEq
import Derived.ChangeMaps5
namespace Go.Proofs.Ytdpamieheefhdaa
set_option linter.unusedSimpArgs false
set_option linter.unusedVariables false
open Go.RowKit

theorem fieldsPt : Try.prog.underlying 37 = some (.struct (Try.prog.fieldsOf 37)) := by kernel_rfl
theorem notStood : Try.prog.stoodInHeld 37 = false := by kernel_rfl

/-- A point as a value. -/
def ptV (p : Int × Int) : Value := .agg #[.int .i64 p.1, .int .i64 p.2]

theorem run_equal_pt (p q : Int × Int) (w : World) : (Op.equal 37 (ptV p) (ptV q)).run Try.prog w = .ok (decide (p = q)) w := by
  unfold Op.equal ptV
  rw [show Op.maxDepth = 9999 + 1 from rfl]
  by_cases h1 : p.1 = q.1
  · by_cases h2 : p.2 = q.2
    · have : p = q := Prod.ext h1 h2
      subst this
      go_simp
    · have hn : ¬ p = q := fun e => h2 (by rw [e])
      go_simp
  · have hn : ¬ p = q := fun e => h1 (by rw [e])
    go_simp

/-- Block b is a map whose keys are the points l, each once, each with the value true. -/
def SetMap (w : World) (b : Nat) (l : List (Int × Int)) : Prop :=
  ∃ es clock, w.heap[b]? = some (.map es clock) ∧ es.toList.map (fun e => (e.key, e.val)) = l.map fun p => (ptV p, .bool true)
theorem SetMap.lt {w : World} {b : Nat} {l : List (Int × Int)} (h : SetMap w b l) : b < w.heap.size := by
  obtain ⟨es, c, h, _⟩ := h
  rcases Nat.lt_or_ge b w.heap.size with hlt | hge
  · exact hlt
  · rw [Array.getElem?_eq_none hge] at h; cases h
theorem SetMap.keep {w w' : World} {b : Nat} {l : List (Int × Int)} (h : SetMap w b l) (hk : w'.heap[b]? = w.heap[b]?) : SetMap w' b l := by
  obtain ⟨es, c, h0, h1⟩ := h
  exact ⟨es, c, hk.trans h0, h1⟩
theorem SetMap.to {w w1 : World} {b : Nat} {l : List (Int × Int)} (h : SetMap w b l) (hb : Below w.heap.size w w1) : SetMap w1 b l := h.keep (hb.block b h.lt)
theorem SetMap.alloc {w : World} {b : Nat} {l : List (Int × Int)} (h : SetMap w b l) (o : Obj) : SetMap (w.alloc o) b l := h.keep (Below.heap_alloc w o b h.lt)
theorem SetMap.drew {w : World} {b : Nat} {l : List (Int × Int)} (h : SetMap w b l) : SetMap w.drew b l := h
theorem SetMap.far {w : World} {b : Nat} {l : List (Int × Int)} (h : SetMap w b l) {p : Addr} (hp : b ≠ p.block) (u : Value) : SetMap (w.setCell p u) b l := h.keep (Below.heap_setCell w p u b hp)
theorem SetMap.new (w : World) : SetMap (w.alloc (.map #[] 0)) w.heap.size [] := ⟨#[], 0, by exact (MapKept.heap_alloc w _).1, rfl⟩

theorem run_findAsking (p : Int × Int) (w : World) : ∀ (es : List MapEntry) (l : List (Int × Int)) (i : Nat), es.map (fun e => (e.key, e.val)) = l.map (fun p => (ptV p, Value.bool true)) →
    if p ∈ l then ∃ j, (Instr.findAsking 37 (ptV p) es i).run Try.prog w = .ok (some (j, .bool true)) w else (Instr.findAsking 37 (ptV p) es i).run Try.prog w = .ok none w := by
  intro es
  induction es with
  | nil =>
    intro l i h
    cases l with
    | nil => simp [Instr.findAsking, Sem.run]
    | cons => simp at h
  | cons e es ih =>
    intro l i h
    cases l with
    | nil => simp at h
    | cons q l =>
      simp only [List.map_cons, List.cons.injEq, Prod.mk.injEq] at h
      obtain ⟨⟨hk, hv⟩, hr⟩ := h
      have hih := ih l (i + 1) hr
      have he := run_equal_pt p q w
      rw [← hk] at he
      by_cases hpq : p = q
      · subst hpq
        simp only [List.mem_cons, true_or, if_true]
        refine ⟨i, ?_⟩
        simp [Instr.findAsking, Sem.run_bind, he, Result.andThen, hv, Sem.run]
      · simp only [List.mem_cons, hpq, false_or]
        simp only [Instr.findAsking, Sem.run_bind, he, Result.andThen, hpq, decide_false, Bool.false_eq_true, if_false]
        exact hih

theorem run_checkKey_pt (p : Int × Int) (b : Bool) (w : World) : (Instr.checkKey b 10000 37 (ptV p)).run Try.prog w = .ok () w := by kernel_rfl

theorem run_findKey_pt (p : Int × Int) (w : World) (es : List MapEntry) (l : List (Int × Int)) (h : es.map (fun e => (e.key, e.val)) = l.map (fun p => (ptV p, Value.bool true))) :
    if p ∈ l then ∃ j, (Instr.findKey 37 (ptV p) es).run Try.prog w = .ok (some (j, .bool true)) w else (Instr.findKey 37 (ptV p) es).run Try.prog w = .ok none w := by
  have h0 := run_findAsking p w es l 0 h
  cases es with
  | nil =>
    cases l with
    | nil => simp [Instr.findKey, Instr.findNow, Sem.run_bind, run_underlying fieldsPt, Result.andThen, Sem.run]
    | cons => simp at h
  | cons e es =>
    have hk : ∃ q, e.key = ptV q := by
      cases l with
      | nil => simp at h
      | cons q l => simp at h; exact ⟨q, h.1.1⟩
    obtain ⟨q, hq⟩ := hk
    have hn : Instr.findNow (.struct (Try.prog.fieldsOf 37)) (ptV p) (e :: es) 0 = none := by
      unfold Instr.findNow
      rw [hq]
      rfl
    have hr : (Instr.findKey 37 (ptV p) (e :: es)).run Try.prog w = (Instr.findAsking 37 (ptV p) (e :: es) 0).run Try.prog w := by
      simp only [Instr.findKey, Sem.run_bind, run_underlying fieldsPt, Result.andThen, hn]
    rw [hr]
    exact h0

theorem SetMap.look {w : World} {b : Nat} {l : List (Int × Int)} (h : SetMap w b l) (p : Int × Int) :
    (Instr.lookup 123 (.map (some b)) (ptV p) false).run Try.prog w = .ok (.bool (decide (p ∈ l))) w := by
  obtain ⟨es, c, h0, h1⟩ := h
  have hf := run_findKey_pt p w es.toList l h1
  have hz : (zeroValue 4).run Try.prog w = .ok (.bool false) w := by kernel_rfl
  by_cases hp : p ∈ l
  · rw [if_pos hp] at hf
    obtain ⟨j, hf⟩ := hf
    simp [Instr.lookup, Sem.run_bind, run_underlying Try.underlying123, Result.andThen, getObj, Sem.run, h0, run_checkKey_pt, hf, hp]
  · rw [if_neg hp] at hf
    simp [Instr.lookup, Sem.run_bind, run_underlying Try.underlying123, Result.andThen, getObj, Sem.run, h0, run_checkKey_pt, hf, hp, hz]

theorem SetMap.store {w : World} {b : Nat} {l : List (Int × Int)} (h : SetMap w b l) (p : Int × Int) (hp : p ∉ l) :
    ∃ w', (Instr.mapUpdate 123 (.map (some b)) (ptV p) (.bool true)).run Try.prog w = .ok () w' ∧ SetMap w' b (l ++ [p]) ∧ w.grownBy w' (some b) := by
  obtain ⟨es, c, h0, h1⟩ := h
  have hf := run_findKey_pt p w es.toList l h1
  rw [if_neg hp] at hf
  refine ⟨Go.ChangeMaps.setBlock w b (.map (es.push { key := ptV p, val := .bool true, born := c }) (c + 1)), ?_, ⟨_, _, Go.ChangeMaps.heap_setBlock_same h0 _, ?_⟩, ?_⟩
  · simp [Instr.mapUpdate, Sem.run_bind, run_underlying Try.underlying123, Result.andThen, getObj, Sem.run, h0, run_checkKey_pt, hf, setObj, Go.ChangeMaps.setBlock]
  · simp [h1]
  · exact ⟨rfl, rfl, rfl, by simp [Go.ChangeMaps.setBlock], fun i _ hi => Go.ChangeMaps.heap_setBlock_other h0 _ (fun e => hi (by rw [e]))⟩

theorem run_makeMapN (n : Int) (w : World) : (Instr.makeMap 123 (some (.int .i64 n))).run Try.prog w = .ok (.map (some w.heap.size)) (w.alloc (.map #[] 0)) := by
  simp [Instr.makeMap, Sem.run_bind, run_underlying Try.underlying123, Result.andThen, Sem.run, asInt, asIntOf, newObj]
end Go.Proofs.Ytdpamieheefhdaa
