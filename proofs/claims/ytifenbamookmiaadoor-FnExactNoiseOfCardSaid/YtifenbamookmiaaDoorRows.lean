/-
  NARROWER THAN 'FOR EVERY INPUT', by the rows' own cells (each row's printed sentence says how): FnExactCouplingOf: laid · FnExactNoiseOf: laid · FnExactSwapGain: laid · FnExactSettleOrder: laid · FnExactCountOrdersOf: laid.
  DERIVED. THE GIVEN ROWS OF THIS SEAT. 5 by the template 'for every input the law returns true; each argument reads behind the call as it read before'; 0 by the template 'total and deterministic' (their statements: YtifenbamookmiaaDoorTotals.lean).
  GIVEN WITH THE SEED: the statements are not yours to turn. If you find one false, say at which input.
  Laid BY PROGRAM, IN A SANDBOX (cutbox-rows.mjs): the forced cells as the released guide's own fill.sh prints them over the translation 131ac85ca954e309… (all of the seat's roots in one cut). By AI agents, Wed Nov 11 2026. No macro, syntax, notation, axiom, sorry.
-/
import Derived.Test.YtifenbamookmiaaDoorChecked
import GoSem.Claim
import GoSem.ClaimJoined
import GoSem.ClaimMapViews
import Derived.JoinedTies
import Derived.KernelRfl
namespace Go.Proofs.YtifenbamookmiaaDoor
/- THE CELL 'sum', in the pinned program and in every row, IS THE sha256 OF THE DUMP (.gsa) THAT YtifenbamookmiaaDoorProg.lean LOADS. Nothing in Lean hashes anything: it is a label: what it is worth is what the hold of that sum in a sandbox is worth. -/
noncomputable def Tryd.pinned : Pinned := { name := "ytifenbamookmiaadoor", sum := "131ac85ca954e30996c8402159f422bb2fd9edfe68313d61840f41fc6e89227a", checked := Tryd.checked }
namespace Rows
def none {H : Type} : Left H := { results := [], args := [] }

/- WHAT THE LISTED PACKAGE-LEVEL VARIABLES READ AS WHEN THE CALL BEGINS. Each datum BY PROGRAM (the guide's laid-datum.mjs) off the statement by which the dump's own 'gosem.cut.vars' lays the variable. In a bare row this is a premise. The card (YtifenbamookmiaaDoorCards.lean) ties it to the program's text. -/
def laid_math_bits_deBruijn64tab {H : Type} : DataW H := .agg [.lit (.int .u8 0), .lit (.int .u8 1), .lit (.int .u8 56), .lit (.int .u8 2), .lit (.int .u8 57), .lit (.int .u8 49), .lit (.int .u8 28), .lit (.int .u8 3), .lit (.int .u8 61), .lit (.int .u8 58), .lit (.int .u8 42), .lit (.int .u8 50), .lit (.int .u8 38), .lit (.int .u8 29), .lit (.int .u8 17), .lit (.int .u8 4), .lit (.int .u8 62), .lit (.int .u8 47), .lit (.int .u8 59), .lit (.int .u8 36), .lit (.int .u8 45), .lit (.int .u8 43), .lit (.int .u8 51), .lit (.int .u8 22), .lit (.int .u8 53), .lit (.int .u8 39), .lit (.int .u8 33), .lit (.int .u8 30), .lit (.int .u8 24), .lit (.int .u8 18), .lit (.int .u8 12), .lit (.int .u8 5), .lit (.int .u8 63), .lit (.int .u8 55), .lit (.int .u8 48), .lit (.int .u8 27), .lit (.int .u8 60), .lit (.int .u8 41), .lit (.int .u8 37), .lit (.int .u8 16), .lit (.int .u8 46), .lit (.int .u8 35), .lit (.int .u8 44), .lit (.int .u8 21), .lit (.int .u8 52), .lit (.int .u8 32), .lit (.int .u8 23), .lit (.int .u8 11), .lit (.int .u8 54), .lit (.int .u8 26), .lit (.int .u8 40), .lit (.int .u8 15), .lit (.int .u8 34), .lit (.int .u8 20), .lit (.int .u8 31), .lit (.int .u8 10), .lit (.int .u8 25), .lit (.int .u8 14), .lit (.int .u8 19), .lit (.int .u8 9), .lit (.int .u8 13), .lit (.int .u8 8), .lit (.int .u8 7), .lit (.int .u8 6)]

/-- 'laws.FnExactCouplingOf': WHATEVER THE INPUT: true; the input reads as it did. -/
def fnExactCouplingOfSpec : ChangeSpec := { name := "fnExactCouplingOf", fn := fun _ => fun
  | [d1, d2, d3] => { results := [.lit (.bool true)], args := [d1, d2, d3] }
  | _ => none }
def fnExactCouplingOfRow : OpenClaim := { program := "ytifenbamookmiaadoor", sum := "131ac85ca954e30996c8402159f422bb2fd9edfe68313d61840f41fc6e89227a", func := "loop.example/g01149/laws.FnExactCouplingOf", spec := "fnExactCouplingOf", unfollowed := true, recurses := true, named := ["math/bits.deBruijn64tab"], apart := false, laid := [("math/bits.deBruijn64tab", laid_math_bits_deBruijn64tab)] }
def FnExactCouplingOfSaid : Prop := fnExactCouplingOfRow.holds Tryd.pinned (OpenSpec.ofChange fnExactCouplingOfSpec)

/-- ITS FALSE NEIGHBOUR: 'it returns false'. Refute it at one input. -/
def fnExactCouplingOfWrong : ChangeSpec := { name := "fnExactCouplingOf", fn := fun _ => fun
  | [d1, d2, d3] => { results := [.lit (.bool false)], args := [d1, d2, d3] }
  | _ => none }
def FnExactCouplingOfWrongFalsely : Prop := fnExactCouplingOfRow.holds Tryd.pinned (OpenSpec.ofChange fnExactCouplingOfWrong)

/-- 'laws.FnExactNoiseOf': WHATEVER THE INPUT: true; the input reads as it did. -/
def fnExactNoiseOfSpec : ChangeSpec := { name := "fnExactNoiseOf", fn := fun _ => fun
  | [d1, d2, d3] => { results := [.lit (.bool true)], args := [d1, d2, d3] }
  | _ => none }
def fnExactNoiseOfRow : OpenClaim := { program := "ytifenbamookmiaadoor", sum := "131ac85ca954e30996c8402159f422bb2fd9edfe68313d61840f41fc6e89227a", func := "loop.example/g01149/laws.FnExactNoiseOf", spec := "fnExactNoiseOf", unfollowed := true, recurses := true, named := ["math/bits.deBruijn64tab"], apart := false, laid := [("math/bits.deBruijn64tab", laid_math_bits_deBruijn64tab)] }
def FnExactNoiseOfSaid : Prop := fnExactNoiseOfRow.holds Tryd.pinned (OpenSpec.ofChange fnExactNoiseOfSpec)

/-- ITS FALSE NEIGHBOUR: 'it returns false'. Refute it at one input. -/
def fnExactNoiseOfWrong : ChangeSpec := { name := "fnExactNoiseOf", fn := fun _ => fun
  | [d1, d2, d3] => { results := [.lit (.bool false)], args := [d1, d2, d3] }
  | _ => none }
def FnExactNoiseOfWrongFalsely : Prop := fnExactNoiseOfRow.holds Tryd.pinned (OpenSpec.ofChange fnExactNoiseOfWrong)

/-- 'laws.FnExactSwapGain': WHATEVER THE INPUT: true; the input reads as it did. -/
def fnExactSwapGainSpec : ChangeSpec := { name := "fnExactSwapGain", fn := fun _ => fun
  | [d1, d2, d3] => { results := [.lit (.bool true)], args := [d1, d2, d3] }
  | _ => none }
def fnExactSwapGainRow : OpenClaim := { program := "ytifenbamookmiaadoor", sum := "131ac85ca954e30996c8402159f422bb2fd9edfe68313d61840f41fc6e89227a", func := "loop.example/g01149/laws.FnExactSwapGain", spec := "fnExactSwapGain", unfollowed := true, recurses := true, named := ["math/bits.deBruijn64tab"], apart := false, laid := [("math/bits.deBruijn64tab", laid_math_bits_deBruijn64tab)] }
def FnExactSwapGainSaid : Prop := fnExactSwapGainRow.holds Tryd.pinned (OpenSpec.ofChange fnExactSwapGainSpec)

/-- ITS FALSE NEIGHBOUR: 'it returns false'. Refute it at one input. -/
def fnExactSwapGainWrong : ChangeSpec := { name := "fnExactSwapGain", fn := fun _ => fun
  | [d1, d2, d3] => { results := [.lit (.bool false)], args := [d1, d2, d3] }
  | _ => none }
def FnExactSwapGainWrongFalsely : Prop := fnExactSwapGainRow.holds Tryd.pinned (OpenSpec.ofChange fnExactSwapGainWrong)

/-- 'laws.FnExactSettleOrder': WHATEVER THE INPUT: true; the input reads as it did. -/
def fnExactSettleOrderSpec : ChangeSpec := { name := "fnExactSettleOrder", fn := fun _ => fun
  | [d1, d2] => { results := [.lit (.bool true)], args := [d1, d2] }
  | _ => none }
def fnExactSettleOrderRow : OpenClaim := { program := "ytifenbamookmiaadoor", sum := "131ac85ca954e30996c8402159f422bb2fd9edfe68313d61840f41fc6e89227a", func := "loop.example/g01149/laws.FnExactSettleOrder", spec := "fnExactSettleOrder", unfollowed := true, recurses := true, named := ["math/bits.deBruijn64tab"], apart := false, laid := [("math/bits.deBruijn64tab", laid_math_bits_deBruijn64tab)] }
def FnExactSettleOrderSaid : Prop := fnExactSettleOrderRow.holds Tryd.pinned (OpenSpec.ofChange fnExactSettleOrderSpec)

/-- ITS FALSE NEIGHBOUR: 'it returns false'. Refute it at one input. -/
def fnExactSettleOrderWrong : ChangeSpec := { name := "fnExactSettleOrder", fn := fun _ => fun
  | [d1, d2] => { results := [.lit (.bool false)], args := [d1, d2] }
  | _ => none }
def FnExactSettleOrderWrongFalsely : Prop := fnExactSettleOrderRow.holds Tryd.pinned (OpenSpec.ofChange fnExactSettleOrderWrong)

/-- 'laws.FnExactCountOrdersOf': WHATEVER THE INPUT: true; the input reads as it did. -/
def fnExactCountOrdersOfSpec : ChangeSpec := { name := "fnExactCountOrdersOf", fn := fun _ => fun
  | [d1, d2] => { results := [.lit (.bool true)], args := [d1, d2] }
  | _ => none }
def fnExactCountOrdersOfRow : OpenClaim := { program := "ytifenbamookmiaadoor", sum := "131ac85ca954e30996c8402159f422bb2fd9edfe68313d61840f41fc6e89227a", func := "loop.example/g01149/laws.FnExactCountOrdersOf", spec := "fnExactCountOrdersOf", unfollowed := true, recurses := true, named := ["math/bits.deBruijn64tab"], apart := false, laid := [("math/bits.deBruijn64tab", laid_math_bits_deBruijn64tab)] }
def FnExactCountOrdersOfSaid : Prop := fnExactCountOrdersOfRow.holds Tryd.pinned (OpenSpec.ofChange fnExactCountOrdersOfSpec)

/-- ITS FALSE NEIGHBOUR: 'it returns false'. Refute it at one input. -/
def fnExactCountOrdersOfWrong : ChangeSpec := { name := "fnExactCountOrdersOf", fn := fun _ => fun
  | [d1, d2] => { results := [.lit (.bool false)], args := [d1, d2] }
  | _ => none }
def FnExactCountOrdersOfWrongFalsely : Prop := fnExactCountOrdersOfRow.holds Tryd.pinned (OpenSpec.ofChange fnExactCountOrdersOfWrong)

/- THE SECOND FORM. 'bulk': how many values and letters a reading holds, each counted each time it is reached (what is shared counts as often as it is met; a slice's spare places count too). A statement '..UptoSaid' is the law's where the arguments, and the package variables that the reading takes, are together of bulk at most 1048576: NARROWER than '..Said'. Prove '..Said' where nothing that the law and all that it calls make is longer than what came in: it says more and counts as full. Else prove '..UptoSaid'. A law counts once. -/
mutual
def uptoBulk {H : Type} : DataW H → Nat
  | .lit (.string bytes) => bytes.length + 1
  | .lit _ => 1
  | .nil => 1
  | .ptr d => uptoBulk d + 1
  | .slice elems spare => uptoBulkAll elems + uptoBulkAll spare + 1
  | .agg parts => uptoBulkAll parts + 1
  | .iface _ d => uptoBulk d + 1
  | .map entries => uptoBulkEntries entries + 1
  | .held _ => 1
def uptoBulkAll {H : Type} : List (DataW H) → Nat
  | [] => 0
  | d :: r => uptoBulk d + uptoBulkAll r
def uptoBulkEntries {H : Type} : List (Lit × DataW H) → Nat
  | [] => 0
  | x :: r => uptoBulkEntry x + uptoBulkEntries r
def uptoBulkEntry {H : Type} : Lit × DataW H → Nat
  | (.string bytes, d) => bytes.length + uptoBulk d + 1
  | (_, d) => uptoBulk d + 1
 end
def uptoSmall : (H : Type) → List (DataW H) → Bool := fun _ ds => decide (uptoBulkAll ds ≤ 1048576)
def OpenSpec.upto (s : _root_.Go.ChangeSpec) : _root_.Go.OpenSpec := { _root_.Go.OpenSpec.ofChange s with cond := some uptoSmall }

/-- 'laws.FnExactCouplingOf', WHERE WHAT IT READS IS OF BULK AT MOST 1048576: true; the input reads as it did. -/
def fnExactCouplingOfUptoRow : OpenClaim := { program := "ytifenbamookmiaadoor", sum := "131ac85ca954e30996c8402159f422bb2fd9edfe68313d61840f41fc6e89227a", func := "loop.example/g01149/laws.FnExactCouplingOf", spec := "fnExactCouplingOf", unfollowed := true, recurses := true, named := ["math/bits.deBruijn64tab"], apart := false, laid := [("math/bits.deBruijn64tab", laid_math_bits_deBruijn64tab)], narrowed := true }
def FnExactCouplingOfUptoSaid : Prop := fnExactCouplingOfUptoRow.holds Tryd.pinned (OpenSpec.upto fnExactCouplingOfSpec)

/-- 'laws.FnExactNoiseOf', WHERE WHAT IT READS IS OF BULK AT MOST 1048576: true; the input reads as it did. -/
def fnExactNoiseOfUptoRow : OpenClaim := { program := "ytifenbamookmiaadoor", sum := "131ac85ca954e30996c8402159f422bb2fd9edfe68313d61840f41fc6e89227a", func := "loop.example/g01149/laws.FnExactNoiseOf", spec := "fnExactNoiseOf", unfollowed := true, recurses := true, named := ["math/bits.deBruijn64tab"], apart := false, laid := [("math/bits.deBruijn64tab", laid_math_bits_deBruijn64tab)], narrowed := true }
def FnExactNoiseOfUptoSaid : Prop := fnExactNoiseOfUptoRow.holds Tryd.pinned (OpenSpec.upto fnExactNoiseOfSpec)

/-- 'laws.FnExactSwapGain', WHERE WHAT IT READS IS OF BULK AT MOST 1048576: true; the input reads as it did. -/
def fnExactSwapGainUptoRow : OpenClaim := { program := "ytifenbamookmiaadoor", sum := "131ac85ca954e30996c8402159f422bb2fd9edfe68313d61840f41fc6e89227a", func := "loop.example/g01149/laws.FnExactSwapGain", spec := "fnExactSwapGain", unfollowed := true, recurses := true, named := ["math/bits.deBruijn64tab"], apart := false, laid := [("math/bits.deBruijn64tab", laid_math_bits_deBruijn64tab)], narrowed := true }
def FnExactSwapGainUptoSaid : Prop := fnExactSwapGainUptoRow.holds Tryd.pinned (OpenSpec.upto fnExactSwapGainSpec)

/-- 'laws.FnExactSettleOrder', WHERE WHAT IT READS IS OF BULK AT MOST 1048576: true; the input reads as it did. -/
def fnExactSettleOrderUptoRow : OpenClaim := { program := "ytifenbamookmiaadoor", sum := "131ac85ca954e30996c8402159f422bb2fd9edfe68313d61840f41fc6e89227a", func := "loop.example/g01149/laws.FnExactSettleOrder", spec := "fnExactSettleOrder", unfollowed := true, recurses := true, named := ["math/bits.deBruijn64tab"], apart := false, laid := [("math/bits.deBruijn64tab", laid_math_bits_deBruijn64tab)], narrowed := true }
def FnExactSettleOrderUptoSaid : Prop := fnExactSettleOrderUptoRow.holds Tryd.pinned (OpenSpec.upto fnExactSettleOrderSpec)

/-- 'laws.FnExactCountOrdersOf', WHERE WHAT IT READS IS OF BULK AT MOST 1048576: true; the input reads as it did. -/
def fnExactCountOrdersOfUptoRow : OpenClaim := { program := "ytifenbamookmiaadoor", sum := "131ac85ca954e30996c8402159f422bb2fd9edfe68313d61840f41fc6e89227a", func := "loop.example/g01149/laws.FnExactCountOrdersOf", spec := "fnExactCountOrdersOf", unfollowed := true, recurses := true, named := ["math/bits.deBruijn64tab"], apart := false, laid := [("math/bits.deBruijn64tab", laid_math_bits_deBruijn64tab)], narrowed := true }
def FnExactCountOrdersOfUptoSaid : Prop := fnExactCountOrdersOfUptoRow.holds Tryd.pinned (OpenSpec.upto fnExactCountOrdersOfSpec)

end Rows
end Go.Proofs.YtifenbamookmiaaDoor
