/-
  No cell of these rows narrows 'for every input' (looked for: loops, veiled, ifaces, maps, wideKeys, modest, calm, conditions, laid).
  DERIVED. THE GIVEN ROWS OF THIS SEAT. 11 by the template 'for every input the law returns true; each argument reads behind the call as it read before'; 0 by the template 'total and deterministic' (their statements: YtgpcfkegbcpkpaaTotals.lean).
  GIVEN WITH THE SEED: the statements are not yours to turn. If you find one false, say at which input.
  Laid BY PROGRAM, IN A SANDBOX (cutbox-rows.mjs): the forced cells as the released guide's own fill.sh prints them over the translation b9a28ef44c1dc4f0… (all of the seat's roots in one cut). By AI agents, Wed Nov 11 2026. No macro, syntax, notation, axiom, sorry.
-/
import Derived.Test.YtgpcfkegbcpkpaaChecked
import GoSem.Claim
import GoSem.ClaimJoined
import GoSem.ClaimMapViews
import Derived.JoinedTies
import Derived.KernelRfl
namespace Go.Proofs.Ytgpcfkegbcpkpaa
/- THE CELL 'sum', in the pinned program and in every row, IS THE sha256 OF THE DUMP (.gsa) THAT YtgpcfkegbcpkpaaProg.lean LOADS. Nothing in Lean hashes anything: it is a label: what it is worth is what the hold of that sum in a sandbox is worth. -/
noncomputable def Try.pinned : Pinned := { name := "ytgpcfkegbcpkpaa", sum := "b9a28ef44c1dc4f0ff4088d24ae0c5b143fe756617a74a33fb404fd3022ca26a", checked := Try.checked }
namespace Rows
def none {H : Type} : Left H := { results := [], args := [] }

/-- 'laws.FnExactValidPress': WHATEVER THE INPUT: true; the input reads as it did. -/
def fnExactValidPressSpec : ChangeSpec := { name := "fnExactValidPress", fn := fun _ => fun
  | [d] => { results := [.lit (.bool true)], args := [d] }
  | _ => none }
def fnExactValidPressRow : OpenClaim := { program := "ytgpcfkegbcpkpaa", sum := "b9a28ef44c1dc4f0ff4088d24ae0c5b143fe756617a74a33fb404fd3022ca26a", func := "loop.example/g01149/laws.FnExactValidPress", spec := "fnExactValidPress", unfollowed := true, recurses := true, apart := false }
def FnExactValidPressSaid : Prop := fnExactValidPressRow.holds Try.pinned (OpenSpec.ofChange fnExactValidPressSpec)

/-- ITS FALSE NEIGHBOUR: 'it returns false'. Refute it at one input. -/
def fnExactValidPressWrong : ChangeSpec := { name := "fnExactValidPress", fn := fun _ => fun
  | [d] => { results := [.lit (.bool false)], args := [d] }
  | _ => none }
def FnExactValidPressWrongFalsely : Prop := fnExactValidPressRow.holds Try.pinned (OpenSpec.ofChange fnExactValidPressWrong)

/-- 'laws.FnExactIsPlaced': WHATEVER THE INPUT: true; the input reads as it did. -/
def fnExactIsPlacedSpec : ChangeSpec := { name := "fnExactIsPlaced", fn := fun _ => fun
  | [d1, d2] => { results := [.lit (.bool true)], args := [d1, d2] }
  | _ => none }
def fnExactIsPlacedRow : OpenClaim := { program := "ytgpcfkegbcpkpaa", sum := "b9a28ef44c1dc4f0ff4088d24ae0c5b143fe756617a74a33fb404fd3022ca26a", func := "loop.example/g01149/laws.FnExactIsPlaced", spec := "fnExactIsPlaced", unfollowed := true, recurses := true, apart := false }
def FnExactIsPlacedSaid : Prop := fnExactIsPlacedRow.holds Try.pinned (OpenSpec.ofChange fnExactIsPlacedSpec)

/-- ITS FALSE NEIGHBOUR: 'it returns false'. Refute it at one input. -/
def fnExactIsPlacedWrong : ChangeSpec := { name := "fnExactIsPlaced", fn := fun _ => fun
  | [d1, d2] => { results := [.lit (.bool false)], args := [d1, d2] }
  | _ => none }
def FnExactIsPlacedWrongFalsely : Prop := fnExactIsPlacedRow.holds Try.pinned (OpenSpec.ofChange fnExactIsPlacedWrong)

/-- 'laws.FnExactAreShapes': WHATEVER THE INPUT: true; the input reads as it did. -/
def fnExactAreShapesSpec : ChangeSpec := { name := "fnExactAreShapes", fn := fun _ => fun
  | [d] => { results := [.lit (.bool true)], args := [d] }
  | _ => none }
def fnExactAreShapesRow : OpenClaim := { program := "ytgpcfkegbcpkpaa", sum := "b9a28ef44c1dc4f0ff4088d24ae0c5b143fe756617a74a33fb404fd3022ca26a", func := "loop.example/g01149/laws.FnExactAreShapes", spec := "fnExactAreShapes", unfollowed := true, recurses := true, apart := false }
def FnExactAreShapesSaid : Prop := fnExactAreShapesRow.holds Try.pinned (OpenSpec.ofChange fnExactAreShapesSpec)

/-- ITS FALSE NEIGHBOUR: 'it returns false'. Refute it at one input. -/
def fnExactAreShapesWrong : ChangeSpec := { name := "fnExactAreShapes", fn := fun _ => fun
  | [d] => { results := [.lit (.bool false)], args := [d] }
  | _ => none }
def FnExactAreShapesWrongFalsely : Prop := fnExactAreShapesRow.holds Try.pinned (OpenSpec.ofChange fnExactAreShapesWrong)

/-- 'laws.FnExactTightRules': WHATEVER THE INPUT: true; the input reads as it did. -/
def fnExactTightRulesSpec : ChangeSpec := { name := "fnExactTightRules", fn := fun _ => fun
  | [d1, d2] => { results := [.lit (.bool true)], args := [d1, d2] }
  | _ => none }
def fnExactTightRulesRow : OpenClaim := { program := "ytgpcfkegbcpkpaa", sum := "b9a28ef44c1dc4f0ff4088d24ae0c5b143fe756617a74a33fb404fd3022ca26a", func := "loop.example/g01149/laws.FnExactTightRules", spec := "fnExactTightRules", unfollowed := true, recurses := true, apart := false }
def FnExactTightRulesSaid : Prop := fnExactTightRulesRow.holds Try.pinned (OpenSpec.ofChange fnExactTightRulesSpec)

/-- ITS FALSE NEIGHBOUR: 'it returns false'. Refute it at one input. -/
def fnExactTightRulesWrong : ChangeSpec := { name := "fnExactTightRules", fn := fun _ => fun
  | [d1, d2] => { results := [.lit (.bool false)], args := [d1, d2] }
  | _ => none }
def FnExactTightRulesWrongFalsely : Prop := fnExactTightRulesRow.holds Try.pinned (OpenSpec.ofChange fnExactTightRulesWrong)

/-- 'laws.FnExactShapeRules': WHATEVER THE INPUT: true; the input reads as it did. -/
def fnExactShapeRulesSpec : ChangeSpec := { name := "fnExactShapeRules", fn := fun _ => fun
  | [d1, d2] => { results := [.lit (.bool true)], args := [d1, d2] }
  | _ => none }
def fnExactShapeRulesRow : OpenClaim := { program := "ytgpcfkegbcpkpaa", sum := "b9a28ef44c1dc4f0ff4088d24ae0c5b143fe756617a74a33fb404fd3022ca26a", func := "loop.example/g01149/laws.FnExactShapeRules", spec := "fnExactShapeRules", unfollowed := true, recurses := true, apart := false }
def FnExactShapeRulesSaid : Prop := fnExactShapeRulesRow.holds Try.pinned (OpenSpec.ofChange fnExactShapeRulesSpec)

/-- ITS FALSE NEIGHBOUR: 'it returns false'. Refute it at one input. -/
def fnExactShapeRulesWrong : ChangeSpec := { name := "fnExactShapeRules", fn := fun _ => fun
  | [d1, d2] => { results := [.lit (.bool false)], args := [d1, d2] }
  | _ => none }
def FnExactShapeRulesWrongFalsely : Prop := fnExactShapeRulesRow.holds Try.pinned (OpenSpec.ofChange fnExactShapeRulesWrong)

/-- 'laws.FnExactLeastPlaces': WHATEVER THE INPUT: true; the input reads as it did. -/
def fnExactLeastPlacesSpec : ChangeSpec := { name := "fnExactLeastPlaces", fn := fun _ => fun
  | [d] => { results := [.lit (.bool true)], args := [d] }
  | _ => none }
def fnExactLeastPlacesRow : OpenClaim := { program := "ytgpcfkegbcpkpaa", sum := "b9a28ef44c1dc4f0ff4088d24ae0c5b143fe756617a74a33fb404fd3022ca26a", func := "loop.example/g01149/laws.FnExactLeastPlaces", spec := "fnExactLeastPlaces", unfollowed := true, recurses := true, apart := false }
def FnExactLeastPlacesSaid : Prop := fnExactLeastPlacesRow.holds Try.pinned (OpenSpec.ofChange fnExactLeastPlacesSpec)

/-- ITS FALSE NEIGHBOUR: 'it returns false'. Refute it at one input. -/
def fnExactLeastPlacesWrong : ChangeSpec := { name := "fnExactLeastPlaces", fn := fun _ => fun
  | [d] => { results := [.lit (.bool false)], args := [d] }
  | _ => none }
def FnExactLeastPlacesWrongFalsely : Prop := fnExactLeastPlacesRow.holds Try.pinned (OpenSpec.ofChange fnExactLeastPlacesWrong)

/-- 'laws.FnExactWidthOf': WHATEVER THE INPUT: true; the input reads as it did. -/
def fnExactWidthOfSpec : ChangeSpec := { name := "fnExactWidthOf", fn := fun _ => fun
  | [d] => { results := [.lit (.bool true)], args := [d] }
  | _ => none }
def fnExactWidthOfRow : OpenClaim := { program := "ytgpcfkegbcpkpaa", sum := "b9a28ef44c1dc4f0ff4088d24ae0c5b143fe756617a74a33fb404fd3022ca26a", func := "loop.example/g01149/laws.FnExactWidthOf", spec := "fnExactWidthOf", unfollowed := true, recurses := true, apart := false }
def FnExactWidthOfSaid : Prop := fnExactWidthOfRow.holds Try.pinned (OpenSpec.ofChange fnExactWidthOfSpec)

/-- ITS FALSE NEIGHBOUR: 'it returns false'. Refute it at one input. -/
def fnExactWidthOfWrong : ChangeSpec := { name := "fnExactWidthOf", fn := fun _ => fun
  | [d] => { results := [.lit (.bool false)], args := [d] }
  | _ => none }
def FnExactWidthOfWrongFalsely : Prop := fnExactWidthOfRow.holds Try.pinned (OpenSpec.ofChange fnExactWidthOfWrong)

/-- 'laws.FnExactAddRule': WHATEVER THE INPUT: true; the input reads as it did. -/
def fnExactAddRuleSpec : ChangeSpec := { name := "fnExactAddRule", fn := fun _ => fun
  | [d1, d2] => { results := [.lit (.bool true)], args := [d1, d2] }
  | _ => none }
def fnExactAddRuleRow : OpenClaim := { program := "ytgpcfkegbcpkpaa", sum := "b9a28ef44c1dc4f0ff4088d24ae0c5b143fe756617a74a33fb404fd3022ca26a", func := "loop.example/g01149/laws.FnExactAddRule", spec := "fnExactAddRule", unfollowed := true, recurses := true, apart := false }
def FnExactAddRuleSaid : Prop := fnExactAddRuleRow.holds Try.pinned (OpenSpec.ofChange fnExactAddRuleSpec)

/-- ITS FALSE NEIGHBOUR: 'it returns false'. Refute it at one input. -/
def fnExactAddRuleWrong : ChangeSpec := { name := "fnExactAddRule", fn := fun _ => fun
  | [d1, d2] => { results := [.lit (.bool false)], args := [d1, d2] }
  | _ => none }
def FnExactAddRuleWrongFalsely : Prop := fnExactAddRuleRow.holds Try.pinned (OpenSpec.ofChange fnExactAddRuleWrong)

/-- 'laws.FnExactLatestPlaces': WHATEVER THE INPUT: true; the input reads as it did. -/
def fnExactLatestPlacesSpec : ChangeSpec := { name := "fnExactLatestPlaces", fn := fun _ => fun
  | [d1, d2] => { results := [.lit (.bool true)], args := [d1, d2] }
  | _ => none }
def fnExactLatestPlacesRow : OpenClaim := { program := "ytgpcfkegbcpkpaa", sum := "b9a28ef44c1dc4f0ff4088d24ae0c5b143fe756617a74a33fb404fd3022ca26a", func := "loop.example/g01149/laws.FnExactLatestPlaces", spec := "fnExactLatestPlaces", unfollowed := true, recurses := true, apart := false }
def FnExactLatestPlacesSaid : Prop := fnExactLatestPlacesRow.holds Try.pinned (OpenSpec.ofChange fnExactLatestPlacesSpec)

/-- ITS FALSE NEIGHBOUR: 'it returns false'. Refute it at one input. -/
def fnExactLatestPlacesWrong : ChangeSpec := { name := "fnExactLatestPlaces", fn := fun _ => fun
  | [d1, d2] => { results := [.lit (.bool false)], args := [d1, d2] }
  | _ => none }
def FnExactLatestPlacesWrongFalsely : Prop := fnExactLatestPlacesRow.holds Try.pinned (OpenSpec.ofChange fnExactLatestPlacesWrong)

/-- 'laws.FnExactFreedomOf': WHATEVER THE INPUT: true; the input reads as it did. -/
def fnExactFreedomOfSpec : ChangeSpec := { name := "fnExactFreedomOf", fn := fun _ => fun
  | [d1, d2] => { results := [.lit (.bool true)], args := [d1, d2] }
  | _ => none }
def fnExactFreedomOfRow : OpenClaim := { program := "ytgpcfkegbcpkpaa", sum := "b9a28ef44c1dc4f0ff4088d24ae0c5b143fe756617a74a33fb404fd3022ca26a", func := "loop.example/g01149/laws.FnExactFreedomOf", spec := "fnExactFreedomOf", unfollowed := true, recurses := true, apart := false }
def FnExactFreedomOfSaid : Prop := fnExactFreedomOfRow.holds Try.pinned (OpenSpec.ofChange fnExactFreedomOfSpec)

/-- ITS FALSE NEIGHBOUR: 'it returns false'. Refute it at one input. -/
def fnExactFreedomOfWrong : ChangeSpec := { name := "fnExactFreedomOf", fn := fun _ => fun
  | [d1, d2] => { results := [.lit (.bool false)], args := [d1, d2] }
  | _ => none }
def FnExactFreedomOfWrongFalsely : Prop := fnExactFreedomOfRow.holds Try.pinned (OpenSpec.ofChange fnExactFreedomOfWrong)

/-- 'laws.FnExactPressShapes': WHATEVER THE INPUT: true; the input reads as it did. -/
def fnExactPressShapesSpec : ChangeSpec := { name := "fnExactPressShapes", fn := fun _ => fun
  | [d1, d2] => { results := [.lit (.bool true)], args := [d1, d2] }
  | _ => none }
def fnExactPressShapesRow : OpenClaim := { program := "ytgpcfkegbcpkpaa", sum := "b9a28ef44c1dc4f0ff4088d24ae0c5b143fe756617a74a33fb404fd3022ca26a", func := "loop.example/g01149/laws.FnExactPressShapes", spec := "fnExactPressShapes", unfollowed := true, recurses := true, apart := false }
def FnExactPressShapesSaid : Prop := fnExactPressShapesRow.holds Try.pinned (OpenSpec.ofChange fnExactPressShapesSpec)

/-- ITS FALSE NEIGHBOUR: 'it returns false'. Refute it at one input. -/
def fnExactPressShapesWrong : ChangeSpec := { name := "fnExactPressShapes", fn := fun _ => fun
  | [d1, d2] => { results := [.lit (.bool false)], args := [d1, d2] }
  | _ => none }
def FnExactPressShapesWrongFalsely : Prop := fnExactPressShapesRow.holds Try.pinned (OpenSpec.ofChange fnExactPressShapesWrong)

/- THE SECOND FORM. 'bulk': how many values and letters a reading holds, each counted each time it is reached (what is shared counts as often as it is met; a slice's spare places count too). A statement '..UptoSaid' is the law's where the arguments, and the package variables that the reading takes, are together of bulk at most 1048576: NARROWER than '..Said'. Prove '..Said' where nothing that the law and all that it calls make is longer than what came in: it says more and counts as full. Else prove '..UptoSaid'. A law counts once. -/
mutual
def uptoBulk {H : Type} : DataW H → Nat
  | .lit (.string bytes) => bytes.length + 1
  | .lit _ => 1
  | .nil => 1
  | .ptr d => uptoBulk d + 1
  | .slice elems spare => uptoBulkAll elems + uptoBulkAll spare + 1
  | .agg parts => uptoBulkAll parts + 1
  | .iface _ d => uptoBulk d + 1
  | .map entries => uptoBulkEntries entries + 1
  | .held _ => 1
def uptoBulkAll {H : Type} : List (DataW H) → Nat
  | [] => 0
  | d :: r => uptoBulk d + uptoBulkAll r
def uptoBulkEntries {H : Type} : List (Lit × DataW H) → Nat
  | [] => 0
  | x :: r => uptoBulkEntry x + uptoBulkEntries r
def uptoBulkEntry {H : Type} : Lit × DataW H → Nat
  | (.string bytes, d) => bytes.length + uptoBulk d + 1
  | (_, d) => uptoBulk d + 1
 end
def uptoSmall : (H : Type) → List (DataW H) → Bool := fun _ ds => decide (uptoBulkAll ds ≤ 1048576)
def OpenSpec.upto (s : _root_.Go.ChangeSpec) : _root_.Go.OpenSpec := { _root_.Go.OpenSpec.ofChange s with cond := some uptoSmall }

/-- 'laws.FnExactValidPress', WHERE WHAT IT READS IS OF BULK AT MOST 1048576: true; the input reads as it did. -/
def fnExactValidPressUptoRow : OpenClaim := { program := "ytgpcfkegbcpkpaa", sum := "b9a28ef44c1dc4f0ff4088d24ae0c5b143fe756617a74a33fb404fd3022ca26a", func := "loop.example/g01149/laws.FnExactValidPress", spec := "fnExactValidPress", unfollowed := true, recurses := true, apart := false, narrowed := true }
def FnExactValidPressUptoSaid : Prop := fnExactValidPressUptoRow.holds Try.pinned (OpenSpec.upto fnExactValidPressSpec)

/-- 'laws.FnExactIsPlaced', WHERE WHAT IT READS IS OF BULK AT MOST 1048576: true; the input reads as it did. -/
def fnExactIsPlacedUptoRow : OpenClaim := { program := "ytgpcfkegbcpkpaa", sum := "b9a28ef44c1dc4f0ff4088d24ae0c5b143fe756617a74a33fb404fd3022ca26a", func := "loop.example/g01149/laws.FnExactIsPlaced", spec := "fnExactIsPlaced", unfollowed := true, recurses := true, apart := false, narrowed := true }
def FnExactIsPlacedUptoSaid : Prop := fnExactIsPlacedUptoRow.holds Try.pinned (OpenSpec.upto fnExactIsPlacedSpec)

/-- 'laws.FnExactAreShapes', WHERE WHAT IT READS IS OF BULK AT MOST 1048576: true; the input reads as it did. -/
def fnExactAreShapesUptoRow : OpenClaim := { program := "ytgpcfkegbcpkpaa", sum := "b9a28ef44c1dc4f0ff4088d24ae0c5b143fe756617a74a33fb404fd3022ca26a", func := "loop.example/g01149/laws.FnExactAreShapes", spec := "fnExactAreShapes", unfollowed := true, recurses := true, apart := false, narrowed := true }
def FnExactAreShapesUptoSaid : Prop := fnExactAreShapesUptoRow.holds Try.pinned (OpenSpec.upto fnExactAreShapesSpec)

/-- 'laws.FnExactTightRules', WHERE WHAT IT READS IS OF BULK AT MOST 1048576: true; the input reads as it did. -/
def fnExactTightRulesUptoRow : OpenClaim := { program := "ytgpcfkegbcpkpaa", sum := "b9a28ef44c1dc4f0ff4088d24ae0c5b143fe756617a74a33fb404fd3022ca26a", func := "loop.example/g01149/laws.FnExactTightRules", spec := "fnExactTightRules", unfollowed := true, recurses := true, apart := false, narrowed := true }
def FnExactTightRulesUptoSaid : Prop := fnExactTightRulesUptoRow.holds Try.pinned (OpenSpec.upto fnExactTightRulesSpec)

/-- 'laws.FnExactShapeRules', WHERE WHAT IT READS IS OF BULK AT MOST 1048576: true; the input reads as it did. -/
def fnExactShapeRulesUptoRow : OpenClaim := { program := "ytgpcfkegbcpkpaa", sum := "b9a28ef44c1dc4f0ff4088d24ae0c5b143fe756617a74a33fb404fd3022ca26a", func := "loop.example/g01149/laws.FnExactShapeRules", spec := "fnExactShapeRules", unfollowed := true, recurses := true, apart := false, narrowed := true }
def FnExactShapeRulesUptoSaid : Prop := fnExactShapeRulesUptoRow.holds Try.pinned (OpenSpec.upto fnExactShapeRulesSpec)

/-- 'laws.FnExactLeastPlaces', WHERE WHAT IT READS IS OF BULK AT MOST 1048576: true; the input reads as it did. -/
def fnExactLeastPlacesUptoRow : OpenClaim := { program := "ytgpcfkegbcpkpaa", sum := "b9a28ef44c1dc4f0ff4088d24ae0c5b143fe756617a74a33fb404fd3022ca26a", func := "loop.example/g01149/laws.FnExactLeastPlaces", spec := "fnExactLeastPlaces", unfollowed := true, recurses := true, apart := false, narrowed := true }
def FnExactLeastPlacesUptoSaid : Prop := fnExactLeastPlacesUptoRow.holds Try.pinned (OpenSpec.upto fnExactLeastPlacesSpec)

/-- 'laws.FnExactWidthOf', WHERE WHAT IT READS IS OF BULK AT MOST 1048576: true; the input reads as it did. -/
def fnExactWidthOfUptoRow : OpenClaim := { program := "ytgpcfkegbcpkpaa", sum := "b9a28ef44c1dc4f0ff4088d24ae0c5b143fe756617a74a33fb404fd3022ca26a", func := "loop.example/g01149/laws.FnExactWidthOf", spec := "fnExactWidthOf", unfollowed := true, recurses := true, apart := false, narrowed := true }
def FnExactWidthOfUptoSaid : Prop := fnExactWidthOfUptoRow.holds Try.pinned (OpenSpec.upto fnExactWidthOfSpec)

/-- 'laws.FnExactAddRule', WHERE WHAT IT READS IS OF BULK AT MOST 1048576: true; the input reads as it did. -/
def fnExactAddRuleUptoRow : OpenClaim := { program := "ytgpcfkegbcpkpaa", sum := "b9a28ef44c1dc4f0ff4088d24ae0c5b143fe756617a74a33fb404fd3022ca26a", func := "loop.example/g01149/laws.FnExactAddRule", spec := "fnExactAddRule", unfollowed := true, recurses := true, apart := false, narrowed := true }
def FnExactAddRuleUptoSaid : Prop := fnExactAddRuleUptoRow.holds Try.pinned (OpenSpec.upto fnExactAddRuleSpec)

/-- 'laws.FnExactLatestPlaces', WHERE WHAT IT READS IS OF BULK AT MOST 1048576: true; the input reads as it did. -/
def fnExactLatestPlacesUptoRow : OpenClaim := { program := "ytgpcfkegbcpkpaa", sum := "b9a28ef44c1dc4f0ff4088d24ae0c5b143fe756617a74a33fb404fd3022ca26a", func := "loop.example/g01149/laws.FnExactLatestPlaces", spec := "fnExactLatestPlaces", unfollowed := true, recurses := true, apart := false, narrowed := true }
def FnExactLatestPlacesUptoSaid : Prop := fnExactLatestPlacesUptoRow.holds Try.pinned (OpenSpec.upto fnExactLatestPlacesSpec)

/-- 'laws.FnExactFreedomOf', WHERE WHAT IT READS IS OF BULK AT MOST 1048576: true; the input reads as it did. -/
def fnExactFreedomOfUptoRow : OpenClaim := { program := "ytgpcfkegbcpkpaa", sum := "b9a28ef44c1dc4f0ff4088d24ae0c5b143fe756617a74a33fb404fd3022ca26a", func := "loop.example/g01149/laws.FnExactFreedomOf", spec := "fnExactFreedomOf", unfollowed := true, recurses := true, apart := false, narrowed := true }
def FnExactFreedomOfUptoSaid : Prop := fnExactFreedomOfUptoRow.holds Try.pinned (OpenSpec.upto fnExactFreedomOfSpec)

/-- 'laws.FnExactPressShapes', WHERE WHAT IT READS IS OF BULK AT MOST 1048576: true; the input reads as it did. -/
def fnExactPressShapesUptoRow : OpenClaim := { program := "ytgpcfkegbcpkpaa", sum := "b9a28ef44c1dc4f0ff4088d24ae0c5b143fe756617a74a33fb404fd3022ca26a", func := "loop.example/g01149/laws.FnExactPressShapes", spec := "fnExactPressShapes", unfollowed := true, recurses := true, apart := false, narrowed := true }
def FnExactPressShapesUptoSaid : Prop := fnExactPressShapesUptoRow.holds Try.pinned (OpenSpec.upto fnExactPressShapesSpec)

end Rows
end Go.Proofs.Ytgpcfkegbcpkpaa
