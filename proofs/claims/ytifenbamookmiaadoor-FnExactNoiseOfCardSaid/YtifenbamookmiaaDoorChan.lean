/-
  Channels: the argument opened; the law's size, copy and comparison.
-/
import Derived.Test.YtifenbamookmiaaDoorNums
import Derived.Laws.ResultCell
namespace Go.Proofs.YtifenbamookmiaaDoor
set_option linter.unusedSimpArgs false
set_option linter.unusedVariables false
open Go.ChangeShapes Go.WideShapes Go.ChangeAt Go.RowKit

variable {H : Type} {enc : TypeId × Value → H}
set_option maxRecDepth 100000 in
theorem open_nums_trod {w : World} {v : Value} {n : Nat} {y : DataW H × List MemPlace} (hf : DataW.trod enc Tryd.prog w 0 (fun _ => true) true n 25 [v] = some y) :
    ∃ (A : Option Addr) (ns : List Int) (c : Nat), v = .slice A ns.length c ∧ IntsAt w w.heap.size A ns ∧ (∀ n ∈ ns, Fits n) ∧ ns.length ≤ c ∧ c ≤ maxLen := by
  rcases open_ints Tryd.underlying25 Tryd.underlying2 (by kernel_rfl) hf with ⟨hcs, _⟩ | ⟨x, len, cap, zs, hcs, _, hl, hm, hz, _, hcell, hwz⟩
  · injection hcs with hcs
    exact ⟨none, [], 0, by simpa using hcs, fun h => by simp at h, by simp, by simp, by simp⟩
  · injection hcs with hcs
    subst hcs
    simp only [if_true] at hz
    have hlz : (zs.take len).length = len := by simp; omega
    refine ⟨some x, zs.take len, cap, by rw [hlz], ?_, fun n hn => fits_of (hwz n (List.mem_of_mem_take hn)), by omega, hm⟩
    intro h0
    rw [hlz] at h0
    obtain ⟨b, off, spot⟩ := x
    have hc0 := hcell 0 (by omega)
    have hspot : spot = none := by simpa [Addr.add] using World.cell?_spot hc0
    subst hspot
    refine ⟨b, off, rfl, World.block_lt_of_cell? w ⟨b, off, none⟩ (by simpa [Addr.add] using hc0), fun i hi => ?_⟩
    rw [hlz] at hi
    have := hcell i (by omega)
    rw [add_plain] at this
    rw [this]
    simp [List.getD_eq_getElem?_getD, List.getElem?_take, hi]
/-- What a row of a channel is. -/
def RowIn (w : World) (A : Option Addr) (ns : List Int) (c : Nat) : Prop := IntsAt w w.heap.size A ns ∧ (∀ n ∈ ns, Fits n) ∧ ns.length ≤ c ∧ c ≤ maxLen
theorem szInt64S_any (A : Option Addr) (n c : Nat) (k : Int) (w : World) (hn : (n : Int) ≤ k) (hk : k ≤ 1048576) :
    Calls Tryd.prog 60 #[.slice A n c, .int .i64 k] w fun e w' => e = .returned (.int .i64 (k - n)) ∧ w = w' := by
  have hz : ¬ (k - (n : Int)) < 0 := by omega
  go_enter Tryd.func60, Tryd.ntmps60
  go_wp2
  go_ret
  exact ⟨rfl, rfl⟩
theorem szInt64S_big (A : Option Addr) (n c : Nat) (k : Int) (w : World) (hn : k < (n : Int)) (hk : 0 ≤ k ∧ k ≤ 1048576) (hm : n ≤ maxLen) :
    Calls Tryd.prog 60 #[.slice A n c, .int .i64 k] w fun e w' => e = .returned (.int .i64 (-1)) ∧ w = w' := by
  unfold maxLen at hm
  obtain ⟨hk0, hk1⟩ := hk
  have hz : (k - (n : Int)) < 0 := by omega
  go_enter Tryd.func60, Tryd.ntmps60
  go_wp2
  go_ret
  exact ⟨rfl, rfl⟩
/-- A channel's value. -/
abbrev chV (g g' n n' : Nat) : Value := .agg #[.slice (some ⟨g, 0, none⟩) n n, .slice (some ⟨g', 0, none⟩) n' n']
/-- A new channel with the rows T and B. -/
def NewChan (w : World) (T B : List Int) (e : Ending) (w' : World) : Prop :=
  ∃ g g', e = .returned (chV g g' T.length B.length) ∧ NBlk w' g T T.length ∧ NBlk w' g' B B.length ∧ Below w.heap.size w w' ∧ w.heap.size ≤ g ∧ g < g'
/-! ### Valid channels -/
/-- The pins of the first i columns, in order. -/
def pinsTo (T B : List Int) : Nat → List Int
  | 0 => []
  | i + 1 => pinsTo T B i ++ [T.getD i 0, B.getD i 0]
def inNet (n : Int) : Bool := inB n 0 12
def single (L : List Int) : Bool := (List.range 12).any fun k => L.count ((k + 1 : Nat) : Int) == 1
def formB (T B : List Int) : Bool := decide (1 ≤ T.length ∧ T.length ≤ 24 ∧ B.length = T.length)
/-- Is a channel valid? -/
def chanB (T B : List Int) : Bool := formB T B && (pinsTo T B T.length).all inNet && !single (pinsTo T B T.length)
theorem pinsTo_len (T B : List Int) (i : Nat) : (pinsTo T B i).length = 2 * i := by
  induction i with
  | zero => rfl
  | succ i ih => simp [pinsTo, ih]; omega
theorem pinsTo_bad {T B : List Int} {i n : Nat} (hi : i ≤ n) (h : (pinsTo T B i).all inNet = false) : (pinsTo T B n).all inNet = false := by
  induction n with
  | zero => obtain rfl : i = 0 := by omega
            exact h
  | succ n ih =>
    by_cases e : i = n + 1
    · subst e; exact h
    · simp only [pinsTo, List.all_append, ih (by omega), Bool.false_and]
theorem all_snoc2 {L : List Int} {a b : Int} (h : L.all inNet = true) : (L ++ [a, b]).all inNet = (inNet a && inNet b) := by simp [h]

/-- Block g holds how often each of the numbers 0 to 12 is in L. -/
def CntAt (w : World) (g : Nat) (t : TypeId) (L : List Int) : Prop :=
  ∃ cs, w.heap[g]? = some (.cells cs t (0, 0)) ∧ cs.size = 13 ∧ ∀ j, j < 13 → cs[j]? = some (.int .i64 (L.count (j : Int) : Int))
theorem CntAt.lt {w : World} {g : Nat} {t : TypeId} {L : List Int} (h : CntAt w g t L) : g < w.heap.size := by
  obtain ⟨cs, h, _⟩ := h
  rcases Nat.lt_or_ge g w.heap.size with hlt | hge
  · exact hlt
  · rw [Array.getElem?_eq_none hge] at h; cases h
theorem CntAt.keep {w w' : World} {g : Nat} {t : TypeId} {L : List Int} (h : CntAt w g t L) (hk : w'.heap[g]? = w.heap[g]?) : CntAt w' g t L := by
  obtain ⟨cs, h0, h1⟩ := h
  exact ⟨cs, hk.trans h0, h1⟩
theorem CntAt.to {w w1 : World} {g : Nat} {t : TypeId} {L : List Int} (h : CntAt w g t L) (hb : Below w.heap.size w w1) : CntAt w1 g t L := h.keep (hb.block g h.lt)
theorem CntAt.at_ {w : World} {g : Nat} {t : TypeId} {L : List Int} (h : CntAt w g t L) {j : Nat} (hj : j < 13) : w.cell? ⟨g, j, none⟩ = some (.int .i64 (L.count (j : Int) : Int)) := by
  obtain ⟨cs, h0, _, h2⟩ := h
  rw [cell_of_row w g _ cs _ _ h0]
  exact h2 j hj
theorem CntAt.frozen {w : World} {g : Nat} {t : TypeId} {L : List Int} (h : CntAt w g t L) (i : Nat) : w.frozen? ⟨g, i, none⟩ = false := by
  obtain ⟨cs, h0, _⟩ := h
  simp [World.frozen?, h0]
theorem CntAt.inc {w : World} {g : Nat} {t : TypeId} {L : List Int} (h : CntAt w g t L) {j : Nat} (hj : j < 13) : CntAt (w.setCell ⟨g, j, none⟩ (.int .i64 ((L.count (j : Int) : Int) + 1))) g t (L ++ [(j : Int)]) := by
  obtain ⟨cs, h0, h1, h2⟩ := h
  refine ⟨cs.setIfInBounds j (.int .i64 ((L.count (j : Int) : Int) + 1)), ?_, by simpa using h1, ?_⟩
  · simp [World.setCell, Array.getElem?_modify, h0]
  · intro i hi
    by_cases e : i = j
    · subst e
      simp only [Array.getElem?_setIfInBounds_self, h1]
      rw [if_pos (by omega)]
      simp
    · rw [Array.getElem?_setIfInBounds_ne (by omega), h2 i hi]
      have : (j : Int) ≠ (i : Int) := by omega
      simp [List.count_append, List.count_cons, this]
end Go.Proofs.YtifenbamookmiaaDoor
