/-
  Contracts: absolute values, the two distances.
-/
import Derived.Test.YtifenbamookmiaaDoorOpen
namespace Go.Proofs.YtifenbamookmiaaDoor
set_option linter.unusedSimpArgs false
set_option linter.unusedVariables false
open Go.ChangeShapes Go.WideShapes Go.ChangeAt Go.RowKit

def absI (n : Int) : Int := if n < 0 then -n else n
def farI (x y x' y' : Int) : Int := absI (x - x') + absI (y - y')
theorem absI_le {n b : Int} (h1 : -b ≤ n) (h2 : n ≤ b) : 0 ≤ absI n ∧ absI n ≤ b := by unfold absI; split <;> omega

theorem max_abs {n : Int} : max n (-n) = absI n := by unfold absI; split <;> omega
theorem quiet_l {f : FuncId} {args : Array Value} {w : World} {v : Value} (h : Calls Tryd.prog f args w fun e w' => e = .returned v ∧ w = w') :
    Calls Tryd.prog f args w fun e w' => e = .returned v ∧ w' = w := h.mono fun _ _ ⟨he, hw⟩ => ⟨he, hw.symm⟩

theorem isPt_lo {x y : Int} (h : isPt x y = true) : (-1000 ≤ x ∧ x ≤ 1000) ∧ (-1000 ≤ y ∧ y ≤ 1000) := by
  have := isPt_iff.1 h; omega

def okPair (x y x' y' : Int) : Bool := isPt x y && isPt x' y'
/-- What both distances come to, as a value that the walk does not open. -/
def distV (x y x' y' : Int) : Value := .tuple #[.int .i64 (if okPair x y x' y' = true then farI x y x' y' else 0), .bool (okPair x y x' y')]
theorem distV_f {x y x' y' : Int} (h : okPair x y x' y' = false) : distV x y x' y' = .tuple #[.int .i64 0, .bool false] := by simp [distV, h]
theorem distV_t {x y x' y' : Int} (h : okPair x y x' y' = true) : distV x y x' y' = .tuple #[.int .i64 (farI x y x' y'), .bool true] := by simp [distV, h]

end Go.Proofs.YtifenbamookmiaaDoor
