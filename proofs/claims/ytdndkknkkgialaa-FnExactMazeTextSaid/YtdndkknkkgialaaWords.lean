/-
  A slice of texts that a call fills; joined by a mark.
-/
import Derived.Test.YtdndkknkkgialaaNums
import Derived.Test.YtdndkknkkgialaaSh
import Derived.Lib.Join
import Derived.Shelf.Strings.OnBuilder
namespace Go.Proofs.Ytdndkknkkgialaa
set_option linter.unusedSimpArgs false
set_option linter.unusedVariables false
open Go.ChangeShapes Go.WideShapes Go.ChangeAt Go.RowKit

/-- Block g holds the first k of the words, and has places for all of them. -/
def WBlk (w : World) (g : Nat) (fs : List (List UInt8)) (k : Nat) : Prop :=
  ∃ cs, w.heap[g]? = some (.cells cs 9 (0, 0)) ∧ cs.size = fs.length ∧ ∀ i, i < k → i < fs.length → cs[i]? = some (.string ⟨(fs.getD i []).toArray⟩)
theorem WBlk.lt {w : World} {g k : Nat} {fs : List (List UInt8)} (h : WBlk w g fs k) : g < w.heap.size := by
  obtain ⟨cs, h, _⟩ := h
  rcases Nat.lt_or_ge g w.heap.size with hlt | hge
  · exact hlt
  · rw [Array.getElem?_eq_none hge] at h; cases h
theorem WBlk.keep {w w' : World} {g k : Nat} {fs : List (List UInt8)} (h : WBlk w g fs k) (hk : w'.heap[g]? = w.heap[g]?) : WBlk w' g fs k := by
  obtain ⟨cs, h0, h1⟩ := h
  exact ⟨cs, hk.trans h0, h1⟩
theorem WBlk.to {w w1 : World} {g k : Nat} {fs : List (List UInt8)} (h : WBlk w g fs k) (hb : Below w.heap.size w w1) : WBlk w1 g fs k := h.keep (hb.block g h.lt)
theorem WBlk.at_ {w : World} {g k : Nat} {fs : List (List UInt8)} (h : WBlk w g fs k) {i : Nat} (hi : i < k) (hl : i < fs.length) :
    w.cell? ⟨g, i, none⟩ = some (.string ⟨(fs.getD i []).toArray⟩) := by
  obtain ⟨cs, h0, _, h2⟩ := h
  rw [cell_of_row w g _ cs _ _ h0]
  exact h2 i hi hl
theorem WBlk.frozen {w : World} {g k : Nat} {fs : List (List UInt8)} (h : WBlk w g fs k) (i : Nat) : w.frozen? ⟨g, i, none⟩ = false := by
  obtain ⟨cs, h0, _⟩ := h
  simp [World.frozen?, h0]
theorem WBlk.there {w : World} {g k : Nat} {fs : List (List UInt8)} (h : WBlk w g fs k) {i : Nat} (hi : i < fs.length) : ∃ v, w.cell? ⟨g, i, none⟩ = some v := by
  obtain ⟨cs, h0, h1, _⟩ := h
  rw [cell_of_row w g _ cs _ _ h0]
  exact ⟨cs[i], by simp [h1, hi]⟩
theorem WBlk.set_ {w : World} {g k : Nat} {fs : List (List UInt8)} (h : WBlk w g fs k) (hk : k < fs.length) :
    WBlk (w.setCell ⟨g, k, none⟩ (.string ⟨(fs.getD k []).toArray⟩)) g fs (k + 1) := by
  obtain ⟨cs, h0, h1, h2⟩ := h
  refine ⟨cs.setIfInBounds k (.string ⟨(fs.getD k []).toArray⟩), ?_, by simpa using h1, ?_⟩
  · simp [World.setCell, Array.getElem?_modify, h0]
  · intro i hi hl
    rcases Nat.lt_or_ge i k with hlt | hge
    · rw [Array.getElem?_setIfInBounds_ne (by omega)]
      exact h2 i hlt hl
    · obtain rfl : i = k := by omega
      simp only [Array.getElem?_setIfInBounds_self, h1]
      rw [if_pos (by omega)]
/-- The empty places of a new slice of strings. -/
def blankS (n : Nat) : Array Value := madeCells #[.string ⟨#[]⟩] n
theorem infoS : (Try.prog.info? 9).map (fun i => (i.zero, i.size, i.bytes)) = some (some (.string ⟨#[]⟩), 1, 16) := by kernel_rfl
theorem run_mkstrs (n : Nat) (h : n ≤ 1048576) (w : World) :
    (Instr.makeSlice 87 (.int .i64 (n : Int)) (.int .i64 (n : Int))).run Try.prog w = .ok (.slice (some ⟨w.heap.size, 0, none⟩) n n) (w.alloc (.cells (blankS n) 9)) := by
  obtain ⟨i, hi, hzz⟩ := Option.map_eq_some_iff.1 infoS
  simp only [Prod.mk.injEq] at hzz
  obtain ⟨hz, hs, hb⟩ := hzz
  have := run_make (P := Try.prog) w 87 9 i _ Try.underlying87 hi hz .i64 .i64 n n (by omega) (by omega) (by rw [hb]; omega) (by omega)
  rw [this, hs, Nat.mul_one]
  rfl
theorem WBlk.new (w : World) (fs : List (List UInt8)) : WBlk (w.alloc (.cells (blankS fs.length) 9)) w.heap.size fs 0 :=
  ⟨blankS fs.length, heap_alloc_new w _, by simp [blankS, size_madeCells], fun i hi => by omega⟩
theorem map_toList (fs : List (List UInt8)) : (fs.map fun l => (⟨l.toArray⟩ : ByteArray)).map (·.data.toList) = fs := by
  induction fs with
  | nil => rfl
  | cons x r ih => rw [List.map_cons, List.map_cons, ih]
/-- The first words, with a mark between them. -/
def jn (m : UInt8) (fs : List (List UInt8)) : Nat → List UInt8
  | 0 => []
  | k + 1 => if k = 0 then fs.getD 0 [] else jn m fs k ++ (m :: fs.getD k [])
theorem jn_one (m : UInt8) (fs : List (List UInt8)) : jn m fs 1 = fs.getD 0 [] := rfl
theorem jn_next {m : UInt8} {fs : List (List UInt8)} {k : Nat} (h : 1 ≤ k) : jn m fs (k + 1) = jn m fs k ++ (m :: fs.getD k []) := by
  show (if k = 0 then fs.getD 0 [] else jn m fs k ++ (m :: fs.getD k [])) = _
  rw [if_neg (by omega)]
theorem jn_join (m : UInt8) : ∀ (fs : List (List UInt8)), fs ≠ [] → jn m fs fs.length = Lib.join fs [m]
  | [], h => absurd rfl h
  | x :: r, _ => by
    rw [Lib.join_cons]
    have : ∀ k, k ≤ r.length → jn m (x :: r) (k + 1) = x ++ Lib.joinTail [m] (r.take k) := by
      intro k
      induction k with
      | zero => intro _; simp [jn, Lib.joinTail]
      | succ k ih =>
        intro hk
        rw [jn_next (by omega), ih (by omega)]
        have hy : r[k]? = some (r[k]'(by omega)) := by simp [show k < r.length by omega]
        rw [Lib.joinTail_take_succ [m] r k _ hy]
        simp [List.getD_eq_getElem?_getD, show k < r.length by omega]
    have := this r.length (Nat.le_refl _)
    rw [List.take_length] at this
    exact this
theorem WBlk.joinBy {w : World} {g : Nat} {fs : List (List UInt8)} (m : UInt8) (h : WBlk w g fs fs.length) (n : Nat) (hn : fs.length = n) (h0 : 1 ≤ n) (h60 : n ≤ 60) (hl : (jn m fs n).length ≤ 100000) :
    Calls Try.prog 71 #[.slice (some ⟨g, 0, none⟩) n n, .string ⟨#[m]⟩] w fun e w' => e = .returned (.string ⟨(jn m fs n).toArray⟩) ∧ Below w.heap.size w w' := by
  have hne : fs ≠ [] := by intro e; subst e; simp at hn; omega
  have hlen := hl
  rw [← hn, jn_join m fs hne] at hlen
  have hcon := Any.strings_Join Try.lays156 Try.Builder_Extra_156 g 0 n (fs.map fun l => (⟨l.toArray⟩ : ByteArray)) ⟨#[m]⟩ w (fun j x hx => by
      rw [List.getElem?_map] at hx
      cases hj : fs[j]? with
      | none => rw [hj] at hx; cases hx
      | some l =>
        rw [hj] at hx
        simp only [Option.map_some, Option.some.injEq] at hx
        subst hx
        have hjl : j < fs.length := by
          rcases Nat.lt_or_ge j fs.length with hh | hh
          · exact hh
          · rw [List.getElem?_eq_none hh] at hj; cases hj
        rw [Nat.zero_add, h.at_ hjl hjl]
        simp [List.getD_eq_getElem?_getD, hj])
    h.lt (by simp; omega) (by simp; omega) (by rw [map_toList]; show (Lib.join fs [m]).length ≤ _; omega)
  rw [map_toList] at hcon
  change Calls Try.prog 71 _ _ _ at hcon
  rw [List.length_map, hn] at hcon
  rw [← hn, jn_join m fs hne, hn]
  exact hcon
end Go.Proofs.Ytdndkknkkgialaa
