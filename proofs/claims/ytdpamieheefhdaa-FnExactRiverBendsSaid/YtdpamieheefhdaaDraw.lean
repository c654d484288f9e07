/-
  Contracts: drawn points.
-/
import Derived.Test.YtdpamieheefhdaaRow
import Derived.Test.YtdpamieheefhdaaThroughS
namespace Go.Proofs.Ytdpamieheefhdaa
set_option linter.unusedSimpArgs false
set_option linter.unusedVariables false
open Go.ChangeShapes Go.WideShapes Go.ChangeAt Go.RowKit

theorem Gr.only {g : Nat} {w w' : World} (h : Only g w w') : w.grownBy w' (some g) :=
  ⟨h.1, h.2.1, h.2.2.1, Nat.le_of_eq h.2.2.2.1.symm, fun i _ hne => h.2.2.2.2 i (fun e => hne (by rw [e]))⟩
theorem Gr.trans {g : Nat} {w w1 w2 : World} (h : w.grownBy w1 (some g)) (k : w1.grownBy w2 (some g)) : w.grownBy w2 (some g) :=
  ⟨k.os.trans h.os, k.tape.trans h.tape, k.output.trans h.output, Nat.le_trans h.size k.size, fun i hi hne => (k.block i (Nat.lt_of_lt_of_le hi h.size) hne).trans (h.block i hi hne)⟩
theorem Gr.below {g : Nat} {w w1 w2 : World} (h : w.grownBy w1 (some g)) (k : Below w.heap.size w1 w2) : w.grownBy w2 (some g) :=
  ⟨k.os.trans h.os, k.tape.trans h.tape, k.output.trans h.output, Nat.le_trans h.size k.size, fun i hi hne => (k.block i hi).trans (h.block i hi hne)⟩
theorem Gr.start {g : Nat} {w w1 : World} (k : Below w.heap.size w w1) : w.grownBy w1 (some g) :=
  ⟨k.os, k.tape, k.output, k.size, fun i hi _ => k.block i hi⟩

def OnePost (g : Nat) (A : Option Addr) (cs : List Int) (c k : Nat) (w : World) (e : Ending) (w' : World) : Prop :=
  ∃ b : Bool, e = .returned (.bool b) ∧ Src w' g A cs c (k + 1) ∧ Only g w w'
theorem PtB.only {w w' : World} {g b : Nat} {p : Pt} (h : PtB w b p) (ho : Only g w w') (hne : b ≠ g) : PtB w' b p := h.keep (ho.2.2.2.2 b hne)

def DrawPost (g : Nat) (A : Option Addr) (cs : List Int) (c k : Nat) (w : World) (e : Ending) (w' : World) : Prop :=
  ∃ x y : Int, (0 ≤ x ∧ x ≤ 99) ∧ (0 ≤ y ∧ y ≤ 99) ∧ e = .returned (.agg #[.int .i64 x, .int .i64 y]) ∧ Src w' g A cs c (k + 3) ∧ w.grownBy w' (some g)

end Go.Proofs.Ytdpamieheefhdaa
