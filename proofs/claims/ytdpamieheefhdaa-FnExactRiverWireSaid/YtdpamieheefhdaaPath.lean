/-
  Contracts: the model's index of a point in a list.
-/
import Derived.Test.YtdpamieheefhdaaSlices
import Derived.Test.YtdpamieheefhdaaMap
import Derived.Test.YtdpamieheefhdaaPlan
namespace Go.Proofs.Ytdpamieheefhdaa
set_option linter.unusedSimpArgs false
set_option linter.unusedVariables false
open Go.ChangeShapes Go.WideShapes Go.ChangeAt Go.RowKit

theorem run_eql_pt (p q : Int × Int) (w : World) : (binOp .eql 37 (.agg #[.int .i64 p.1, .int .i64 p.2]) (.agg #[.int .i64 q.1, .int .i64 q.2])).run Try.prog w = .ok (.bool (decide (p = q))) w := by
  have h := run_equal_pt p q w
  unfold Op.equal ptV at h
  rw [run_eql_struct, show (10000 : Nat) = Op.maxDepth from rfl, h]
  rfl

/-- What the index of p in l comes to. -/
def IdxPost (l : List (Int × Int)) (p : Int × Int) (w : World) (e : Ending) (w' : World) : Prop :=
  (p ∈ l → ∃ k : Nat, e = .returned (.int .i64 k) ∧ k ≤ l.length) ∧ (p ∉ l → e = .returned (.int .i64 (-1))) ∧ Below w.heap.size w w'

theorem PtsAt.take {w : World} {B : Nat} {A : Option Addr} {ps : List (Int × Int)} (h : PtsAt w B A ps) (k : Nat) : PtsAt w B A (ps.take k) := fun h0 => by
  have hl : (ps.take k).length = min k ps.length := List.length_take
  obtain ⟨b, off, e, hb, hc⟩ := h (by omega)
  refine ⟨b, off, e, hb, fun i hi => ?_⟩
  have hik : i < k := by omega
  have := hc i (by omega)
  simpa [List.getD_eq_getElem?_getD, List.getElem?_take, hik] using this
/-- A list is a path up to k, apart from the bounds of the grid. -/
def stepB (ps : List (Int × Int)) (k : Nat) : Bool :=
  !decide (ps.getD k (0, 0) ∈ ps.take k) && (decide (k = 0) || decide (farI (ps.getD (k - 1) (0, 0)).1 (ps.getD (k - 1) (0, 0)).2 (ps.getD k (0, 0)).1 (ps.getD k (0, 0)).2 = 1))
def pathS (ps : List (Int × Int)) : Nat → Bool
  | 0 => true
  | k + 1 => pathS ps k && (isPt (ps.getD k (0, 0)).1 (ps.getD k (0, 0)).2 && stepB ps k)
def pathI (ps : List (Int × Int)) : Nat → Bool
  | 0 => true
  | k + 1 => pathI ps k && stepB ps k
def sizeB (ps : List (Int × Int)) : Bool := decide (1 ≤ ps.length ∧ ps.length ≤ 576)
def isPathB (ps : List (Int × Int)) : Bool := sizeB ps && pathS ps ps.length
theorem pathS_bad (ps : List (Int × Int)) (k n : Nat) (h : k ≤ n) (hk : pathS ps k = false) : pathS ps n = false := by
  induction n with
  | zero => obtain rfl : k = 0 := by omega
            exact hk
  | succ n ih =>
    by_cases e : k = n + 1
    · subst e; exact hk
    · unfold pathS; rw [ih (by omega)]; rfl
theorem pathI_bad (ps : List (Int × Int)) (k n : Nat) (h : k ≤ n) (hk : pathI ps k = false) : pathI ps n = false := by
  induction n with
  | zero => obtain rfl : k = 0 := by omega
            exact hk
  | succ n ih =>
    by_cases e : k = n + 1
    · subst e; exact hk
    · unfold pathI; rw [ih (by omega)]; rfl
theorem pathS_eq (ps : List (Int × Int)) : ∀ k, k ≤ ps.length → pathS ps k = (allPt (ps.take k) && pathI ps k)
  | 0, _ => by simp [pathS, pathI, allPt]
  | k + 1, h => by
    unfold pathS pathI
    rw [pathS_eq ps k (by omega), allPt_snoc ps k (by omega)]
    cases allPt (ps.take k) <;> cases pathI ps k <;> cases isPt (ps.getD k (0, 0)).1 (ps.getD k (0, 0)).2 <;> cases stepB ps k <;> rfl
theorem pathS_len (ps : List (Int × Int)) : pathS ps ps.length = (allPt ps && pathI ps ps.length) := by
  rw [pathS_eq ps _ (Nat.le_refl _), List.take_length]

theorem keep2b {N : Nat} {w wr wr' : World} {b1 o1 : Nat} {X Y : Value}
    (h : wr.cell? ⟨b1, o1, none⟩ = some X ∧ wr.cell? ⟨b1, o1 + 1, none⟩ = some Y ∧ Below N w wr ∧ N ≤ wr.heap.size) (hs : Below wr.heap.size wr wr') :
    wr'.cell? ⟨b1, o1, none⟩ = some X ∧ wr'.cell? ⟨b1, o1 + 1, none⟩ = some Y ∧ Below N w wr' ∧ N ≤ wr'.heap.size := by
  obtain ⟨h0, h1, hb, hz⟩ := h
  have l1 : b1 < wr.heap.size := World.block_lt_of_cell? wr _ h0
  exact ⟨(hs.cell (p := ⟨b1, o1, none⟩) l1).trans h0, (hs.cell (p := ⟨b1, o1 + 1, none⟩) l1).trans h1, hb.trans (hs.mono hz), Nat.le_trans hz hs.size⟩
theorem PtsAt.at_ {w wr : World} {A : Option Addr} {ps : List (Int × Int)} (h : PtsAt w w.heap.size A ps) (hb : Below w.heap.size w wr) : PtsAt wr wr.heap.size A ps := h.to hb
theorem pathS_at {ps : List (Int × Int)} {n : Nat} (h : pathS ps n = true) {k : Nat} (hk : k < n) : isPt (ps.getD k (0, 0)).1 (ps.getD k (0, 0)).2 = true := by
  cases hv : isPt (ps.getD k (0, 0)).1 (ps.getD k (0, 0)).2
  · have : pathS ps (k + 1) = false := by unfold pathS; rw [hv]; simp
    rw [pathS_bad ps (k + 1) n (by omega) this] at h; cases h
  · rfl

end Go.Proofs.Ytdpamieheefhdaa
