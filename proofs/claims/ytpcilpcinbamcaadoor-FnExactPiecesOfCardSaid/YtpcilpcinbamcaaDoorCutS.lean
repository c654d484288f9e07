/-
  A slice of texts of the call's own, appended to; spec's l01Cut.
-/
import Derived.Test.YtpcilpcinbamcaaDoorSplit
import Derived.Test.YtpcilpcinbamcaaDoorText
import Derived.Lib.Strings
namespace Go.Proofs.YtpcilpcinbamcaaDoor
set_option linter.unusedSimpArgs false
set_option linter.unusedVariables false
open Go.ChangeShapes Go.WideShapes Go.ChangeAt Go.RowKit

/-- The cells of texts. -/
def cellsS (l : List ByteArray) : List Value := l.map fun n => .string n
theorem cellsS_snoc (l : List ByteArray) (n : ByteArray) : cellsS (l ++ [n]) = cellsS l ++ [.string n] := by simp [cellsS]
theorem cellsS_at {l : List ByteArray} {i : Nat} {x : ByteArray} (h : l[i]? = some x) : (cellsS l)[i]? = some (.string x) := by
  simp [cellsS, h]
/-- A slice of the call's own holds the texts L. -/
def OwnS (w : World) (base : Nat) (v : Value) (L : List ByteArray) : Prop := w.ownsRow base 9 1 v L.length (cellsS L)
theorem OwnS.snoc {w : World} {base : Nat} {v : Value} {L : List ByteArray} {x : ByteArray} (h : w.ownsRow base 9 1 v (L.length + 1) (cellsS L ++ [.string x])) : OwnS w base v (L ++ [x]) := by
  unfold OwnS; rw [cellsS_snoc]; simpa using h
theorem OwnS.to {w w1 : World} {base : Nat} {v : Value} {L : List ByteArray} (h : OwnS w base v L) (hb : Below w.heap.size w w1) : OwnS w1 base v L :=
  World.ownsRow.kept (row := none) h ⟨hb.os, hb.tape, hb.output, hb.size, fun i hi _ => hb.block i hi⟩ (by
    rcases h.2 with ⟨rfl, _⟩ | ⟨g, cap, cur, rfl, _⟩
    · exact .inl rfl
    · exact .inr (by simp [Value.ownBlock]))
theorem OwnS.empty (w : World) (base : Nat) (hB : base ≤ w.heap.size) : OwnS (w.alloc (.cells #[] 9)) base (.slice (some ⟨w.heap.size, 0, none⟩) 0 0) [] :=
  ⟨rfl, .inr ⟨w.heap.size, 0, #[], rfl, hB, heap_alloc_new w _, Nat.le_refl _, Nat.zero_le _, rfl, rfl⟩⟩
/-- .. what it is to a reader. -/
def TxtAt (w : World) (B : Nat) (A : Option Addr) (L : List ByteArray) : Prop := 0 < L.length → ∃ b off, A = some ⟨b, off, none⟩ ∧ b < B ∧ ∀ i x, L[i]? = some x → w.cell? ⟨b, off + i, none⟩ = some (.string x)
theorem OwnS.txts {w : World} {B : Nat} {v : Value} {L : List ByteArray} (h : OwnS w B v L) : ∃ A c, v = .slice A L.length c ∧ TxtAt w w.heap.size A L := by
  rcases h.2 with ⟨rfl, h0⟩ | ⟨g, cap, cur, rfl, hB, hh, hn, _, hs, ht⟩
  · exact ⟨none, 0, by rw [h0], fun h1 => by omega⟩
  · refine ⟨_, _, rfl, fun _ => ⟨g, 0, rfl, ?_, fun i x hi => ?_⟩⟩
    · rcases Nat.lt_or_ge g w.heap.size with hlt | hge
      · exact hlt
      · rw [Array.getElem?_eq_none hge] at hh; cases hh
    · rw [cell_of_row w g _ cur _ _ hh, Nat.zero_add]
      have hi' : i < L.length := by
        rcases Nat.lt_or_ge i L.length with h | h
        · exact h
        · rw [List.getElem?_eq_none h] at hi; cases hi
      have key : cur[i]? = (cellsS L)[i]? := by
        rw [← ht, List.getElem?_take, if_pos (by omega), Array.getElem?_toList]
      rw [key]; exact cellsS_at hi
theorem infoS : (Tryd.prog.info? 9).map (fun i => (i.zero, i.size, i.bytes)) = some (some (.string ⟨#[]⟩), 1, 16) := by kernel_rfl
/-- The texts' bytes. -/
def byts (O : List ByteArray) : List (List UInt8) := O.map fun s => s.data.toList
theorem byts_snoc (O : List ByteArray) (s : ByteArray) : byts (O ++ [s]) = byts O ++ [s.data.toList] := by simp [byts]
theorem SplitAt.lens {m : UInt8} {l : List UInt8} {O : List ByteArray} {f k : Nat} (h : SplitAt m l (byts O) f k) : O.length ≤ l.length + 1 := by
  have h1 := congrArg List.length h
  have h2 := parts_len m l
  simp [byts] at h1
  omega
/-- The answer: the pieces, in a slice of the call's own. -/
def CutRes (m : UInt8) (s : ByteArray) (w : World) (e : Ending) (w' : World) : Prop :=
  ∃ v O, e = .returned v ∧ OwnS w' w.heap.size v O ∧ byts O = parts m s.data.toList ∧ Below w.heap.size w w'

end Go.Proofs.YtpcilpcinbamcaaDoor
