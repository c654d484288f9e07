/-
  IsLayout of both, said over what a bundle holds.
-/
import Derived.Test.YtifenbamookmiaaBunW
import Derived.Test.YtifenbamookmiaaLayoS
import Derived.Test.YtifenbamookmiaaLayoK
namespace Go.Proofs.Ytifenbamookmiaa
set_option linter.unusedSimpArgs false
set_option linter.unusedVariables false
open Go.ChangeShapes Go.WideShapes Go.ChangeAt Go.RowKit

theorem IsLayoutS_in (A : Option Addr) (n c : Nat) (M : Mz) (AO : Option Addr) (L : List Int) (cO : Nat) (AS : Option Addr) (S : List Int) (cS : Nat) (w : World) (h : BnIn w A n M) (hL : IntsAt w w.heap.size AO L) (lL : L.length ≤ 1048576) (hS : IntsAt w w.heap.size AS S) (lS : S.length ≤ 1048576) :
    Calls Try.prog 11 #[.agg #[.slice A n c], .slice AO L.length cO, .slice AS S.length cS] w fun e w' => e = .returned (.bool (loB M L S)) ∧ Below w.heap.size w w' := by
  obtain ⟨Ms, rfl, rfl, h3, h4⟩ := h
  exact IsLayoutS_any A Ms c AO L cO AS S cS w h3 h4 hL lL hS lS
theorem IsLayoutI_in (A : Option Addr) (n c : Nat) (M : Mz) (AO : Option Addr) (L : List Int) (cO : Nat) (AS : Option Addr) (S : List Int) (cS : Nat) (w : World) (h : BnIn w A n M) (hL : IntsAt w w.heap.size AO L) (lL : L.length ≤ 1048576) (hS : IntsAt w w.heap.size AS S) (lS : S.length ≤ 1048576) :
    Calls Try.prog 13 #[.agg #[.slice A n c], .slice AO L.length cO, .slice AS S.length cS] w fun e w' => e = .returned (.bool (loB M L S)) ∧ Below w.heap.size w w' := by
  obtain ⟨Ms, rfl, rfl, h3, h4⟩ := h
  exact IsLayoutI_any A Ms c AO L cO AS S cS w h3 h4.1 h4.2 hL lL hS lS
end Go.Proofs.Ytifenbamookmiaa
