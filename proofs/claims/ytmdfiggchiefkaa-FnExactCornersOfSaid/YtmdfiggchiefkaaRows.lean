/-
  No cell of these rows narrows 'for every input' (looked for: loops, veiled, ifaces, maps, wideKeys, modest, calm, conditions, laid).
  DERIVED. THE GIVEN ROWS OF THIS SEAT. 14 by the template 'for every input the law returns true; each argument reads behind the call as it read before'; 0 by the template 'total and deterministic' (their statements: YtmdfiggchiefkaaTotals.lean).
  GIVEN WITH THE SEED: the statements are not yours to turn. If you find one false, say at which input.
  Laid BY PROGRAM, IN A SANDBOX (cutbox-rows.mjs): the forced cells as the released guide's own fill.sh prints them over the translation c305556f52e8a719… (all of the seat's roots in one cut). By AI agents, Wed Nov 11 2026. No macro, syntax, notation, axiom, sorry.
-/
import Derived.Test.YtmdfiggchiefkaaChecked
import GoSem.Claim
import GoSem.ClaimJoined
import GoSem.ClaimMapViews
import Derived.JoinedTies
import Derived.KernelRfl
namespace Go.Proofs.Ytmdfiggchiefkaa
/- THE CELL 'sum', in the pinned program and in every row, IS THE sha256 OF THE DUMP (.gsa) THAT YtmdfiggchiefkaaProg.lean LOADS. Nothing in Lean hashes anything: it is a label: what it is worth is what the hold of that sum in a sandbox is worth. -/
noncomputable def Try.pinned : Pinned := { name := "ytmdfiggchiefkaa", sum := "c305556f52e8a719161f033fa9a095ad68336df4025addcefec25906e67a4c33", checked := Try.checked }
namespace Rows
def none {H : Type} : Left H := { results := [], args := [] }

/-- 'laws.FnPathCorners': WHATEVER THE INPUT: true; the input reads as it did. -/
def fnPathCornersSpec : ChangeSpec := { name := "fnPathCorners", fn := fun _ => fun
  | [d1, d2] => { results := [.lit (.bool true)], args := [d1, d2] }
  | _ => none }
def fnPathCornersRow : OpenClaim := { program := "ytmdfiggchiefkaa", sum := "c305556f52e8a719161f033fa9a095ad68336df4025addcefec25906e67a4c33", func := "loop.example/g01149/laws.FnPathCorners", spec := "fnPathCorners", plainKeys := false, apart := false }
def FnPathCornersSaid : Prop := fnPathCornersRow.holds Try.pinned (OpenSpec.ofChange fnPathCornersSpec)

/-- ITS FALSE NEIGHBOUR: 'it returns false'. Refute it at one input. -/
def fnPathCornersWrong : ChangeSpec := { name := "fnPathCorners", fn := fun _ => fun
  | [d1, d2] => { results := [.lit (.bool false)], args := [d1, d2] }
  | _ => none }
def FnPathCornersWrongFalsely : Prop := fnPathCornersRow.holds Try.pinned (OpenSpec.ofChange fnPathCornersWrong)

/-- 'laws.FnExactIsName': WHATEVER THE INPUT: true; the input reads as it did. -/
def fnExactIsNameSpec : ChangeSpec := { name := "fnExactIsName", fn := fun _ => fun
  | [d] => { results := [.lit (.bool true)], args := [d] }
  | _ => none }
def fnExactIsNameRow : OpenClaim := { program := "ytmdfiggchiefkaa", sum := "c305556f52e8a719161f033fa9a095ad68336df4025addcefec25906e67a4c33", func := "loop.example/g01149/laws.FnExactIsName", spec := "fnExactIsName", plainKeys := false, apart := false }
def FnExactIsNameSaid : Prop := fnExactIsNameRow.holds Try.pinned (OpenSpec.ofChange fnExactIsNameSpec)

/-- ITS FALSE NEIGHBOUR: 'it returns false'. Refute it at one input. -/
def fnExactIsNameWrong : ChangeSpec := { name := "fnExactIsName", fn := fun _ => fun
  | [d] => { results := [.lit (.bool false)], args := [d] }
  | _ => none }
def FnExactIsNameWrongFalsely : Prop := fnExactIsNameRow.holds Try.pinned (OpenSpec.ofChange fnExactIsNameWrong)

/-- 'laws.FnExactIsPoint': WHATEVER THE INPUT: true; the input reads as it did. -/
def fnExactIsPointSpec : ChangeSpec := { name := "fnExactIsPoint", fn := fun _ => fun
  | [d] => { results := [.lit (.bool true)], args := [d] }
  | _ => none }
def fnExactIsPointRow : OpenClaim := { program := "ytmdfiggchiefkaa", sum := "c305556f52e8a719161f033fa9a095ad68336df4025addcefec25906e67a4c33", func := "loop.example/g01149/laws.FnExactIsPoint", spec := "fnExactIsPoint", plainKeys := false, apart := false }
def FnExactIsPointSaid : Prop := fnExactIsPointRow.holds Try.pinned (OpenSpec.ofChange fnExactIsPointSpec)

/-- ITS FALSE NEIGHBOUR: 'it returns false'. Refute it at one input. -/
def fnExactIsPointWrong : ChangeSpec := { name := "fnExactIsPoint", fn := fun _ => fun
  | [d] => { results := [.lit (.bool false)], args := [d] }
  | _ => none }
def FnExactIsPointWrongFalsely : Prop := fnExactIsPointRow.holds Try.pinned (OpenSpec.ofChange fnExactIsPointWrong)

/-- 'laws.FnExactDistanceOf': WHATEVER THE INPUT: true; the input reads as it did. -/
def fnExactDistanceOfSpec : ChangeSpec := { name := "fnExactDistanceOf", fn := fun _ => fun
  | [d1, d2] => { results := [.lit (.bool true)], args := [d1, d2] }
  | _ => none }
def fnExactDistanceOfRow : OpenClaim := { program := "ytmdfiggchiefkaa", sum := "c305556f52e8a719161f033fa9a095ad68336df4025addcefec25906e67a4c33", func := "loop.example/g01149/laws.FnExactDistanceOf", spec := "fnExactDistanceOf", plainKeys := false, apart := false }
def FnExactDistanceOfSaid : Prop := fnExactDistanceOfRow.holds Try.pinned (OpenSpec.ofChange fnExactDistanceOfSpec)

/-- ITS FALSE NEIGHBOUR: 'it returns false'. Refute it at one input. -/
def fnExactDistanceOfWrong : ChangeSpec := { name := "fnExactDistanceOf", fn := fun _ => fun
  | [d1, d2] => { results := [.lit (.bool false)], args := [d1, d2] }
  | _ => none }
def FnExactDistanceOfWrongFalsely : Prop := fnExactDistanceOfRow.holds Try.pinned (OpenSpec.ofChange fnExactDistanceOfWrong)

/-- 'laws.FnExactArePoints': WHATEVER THE INPUT: true; the input reads as it did. -/
def fnExactArePointsSpec : ChangeSpec := { name := "fnExactArePoints", fn := fun _ => fun
  | [d] => { results := [.lit (.bool true)], args := [d] }
  | _ => none }
def fnExactArePointsRow : OpenClaim := { program := "ytmdfiggchiefkaa", sum := "c305556f52e8a719161f033fa9a095ad68336df4025addcefec25906e67a4c33", func := "loop.example/g01149/laws.FnExactArePoints", spec := "fnExactArePoints", plainKeys := false, apart := false }
def FnExactArePointsSaid : Prop := fnExactArePointsRow.holds Try.pinned (OpenSpec.ofChange fnExactArePointsSpec)

/-- ITS FALSE NEIGHBOUR: 'it returns false'. Refute it at one input. -/
def fnExactArePointsWrong : ChangeSpec := { name := "fnExactArePoints", fn := fun _ => fun
  | [d] => { results := [.lit (.bool false)], args := [d] }
  | _ => none }
def FnExactArePointsWrongFalsely : Prop := fnExactArePointsRow.holds Try.pinned (OpenSpec.ofChange fnExactArePointsWrong)

/-- 'laws.FnExactBoxOf': WHATEVER THE INPUT: true; the input reads as it did. -/
def fnExactBoxOfSpec : ChangeSpec := { name := "fnExactBoxOf", fn := fun _ => fun
  | [d] => { results := [.lit (.bool true)], args := [d] }
  | _ => none }
def fnExactBoxOfRow : OpenClaim := { program := "ytmdfiggchiefkaa", sum := "c305556f52e8a719161f033fa9a095ad68336df4025addcefec25906e67a4c33", func := "loop.example/g01149/laws.FnExactBoxOf", spec := "fnExactBoxOf", plainKeys := false, apart := false }
def FnExactBoxOfSaid : Prop := fnExactBoxOfRow.holds Try.pinned (OpenSpec.ofChange fnExactBoxOfSpec)

/-- ITS FALSE NEIGHBOUR: 'it returns false'. Refute it at one input. -/
def fnExactBoxOfWrong : ChangeSpec := { name := "fnExactBoxOf", fn := fun _ => fun
  | [d] => { results := [.lit (.bool false)], args := [d] }
  | _ => none }
def FnExactBoxOfWrongFalsely : Prop := fnExactBoxOfRow.holds Try.pinned (OpenSpec.ofChange fnExactBoxOfWrong)

/-- 'laws.FnExactNearestPoint': WHATEVER THE INPUT: true; the input reads as it did. -/
def fnExactNearestPointSpec : ChangeSpec := { name := "fnExactNearestPoint", fn := fun _ => fun
  | [d1, d2] => { results := [.lit (.bool true)], args := [d1, d2] }
  | _ => none }
def fnExactNearestPointRow : OpenClaim := { program := "ytmdfiggchiefkaa", sum := "c305556f52e8a719161f033fa9a095ad68336df4025addcefec25906e67a4c33", func := "loop.example/g01149/laws.FnExactNearestPoint", spec := "fnExactNearestPoint", plainKeys := false, apart := false }
def FnExactNearestPointSaid : Prop := fnExactNearestPointRow.holds Try.pinned (OpenSpec.ofChange fnExactNearestPointSpec)

/-- ITS FALSE NEIGHBOUR: 'it returns false'. Refute it at one input. -/
def fnExactNearestPointWrong : ChangeSpec := { name := "fnExactNearestPoint", fn := fun _ => fun
  | [d1, d2] => { results := [.lit (.bool false)], args := [d1, d2] }
  | _ => none }
def FnExactNearestPointWrongFalsely : Prop := fnExactNearestPointRow.holds Try.pinned (OpenSpec.ofChange fnExactNearestPointWrong)

/-- 'laws.FnExactSortPoints': WHATEVER THE INPUT: true; the input reads as it did. -/
def fnExactSortPointsSpec : ChangeSpec := { name := "fnExactSortPoints", fn := fun _ => fun
  | [d] => { results := [.lit (.bool true)], args := [d] }
  | _ => none }
def fnExactSortPointsRow : OpenClaim := { program := "ytmdfiggchiefkaa", sum := "c305556f52e8a719161f033fa9a095ad68336df4025addcefec25906e67a4c33", func := "loop.example/g01149/laws.FnExactSortPoints", spec := "fnExactSortPoints", unfollowed := true, recurses := true, plainKeys := false, apart := false }
def FnExactSortPointsSaid : Prop := fnExactSortPointsRow.holds Try.pinned (OpenSpec.ofChange fnExactSortPointsSpec)

/-- ITS FALSE NEIGHBOUR: 'it returns false'. Refute it at one input. -/
def fnExactSortPointsWrong : ChangeSpec := { name := "fnExactSortPoints", fn := fun _ => fun
  | [d] => { results := [.lit (.bool false)], args := [d] }
  | _ => none }
def FnExactSortPointsWrongFalsely : Prop := fnExactSortPointsRow.holds Try.pinned (OpenSpec.ofChange fnExactSortPointsWrong)

/-- 'laws.FnExactIsPath': WHATEVER THE INPUT: true; the input reads as it did. -/
def fnExactIsPathSpec : ChangeSpec := { name := "fnExactIsPath", fn := fun _ => fun
  | [d] => { results := [.lit (.bool true)], args := [d] }
  | _ => none }
def fnExactIsPathRow : OpenClaim := { program := "ytmdfiggchiefkaa", sum := "c305556f52e8a719161f033fa9a095ad68336df4025addcefec25906e67a4c33", func := "loop.example/g01149/laws.FnExactIsPath", spec := "fnExactIsPath", plainKeys := false, apart := false }
def FnExactIsPathSaid : Prop := fnExactIsPathRow.holds Try.pinned (OpenSpec.ofChange fnExactIsPathSpec)

/-- ITS FALSE NEIGHBOUR: 'it returns false'. Refute it at one input. -/
def fnExactIsPathWrong : ChangeSpec := { name := "fnExactIsPath", fn := fun _ => fun
  | [d] => { results := [.lit (.bool false)], args := [d] }
  | _ => none }
def FnExactIsPathWrongFalsely : Prop := fnExactIsPathRow.holds Try.pinned (OpenSpec.ofChange fnExactIsPathWrong)

/-- 'laws.FnExactLengthOf': WHATEVER THE INPUT: true; the input reads as it did. -/
def fnExactLengthOfSpec : ChangeSpec := { name := "fnExactLengthOf", fn := fun _ => fun
  | [d] => { results := [.lit (.bool true)], args := [d] }
  | _ => none }
def fnExactLengthOfRow : OpenClaim := { program := "ytmdfiggchiefkaa", sum := "c305556f52e8a719161f033fa9a095ad68336df4025addcefec25906e67a4c33", func := "loop.example/g01149/laws.FnExactLengthOf", spec := "fnExactLengthOf", plainKeys := false, apart := false }
def FnExactLengthOfSaid : Prop := fnExactLengthOfRow.holds Try.pinned (OpenSpec.ofChange fnExactLengthOfSpec)

/-- ITS FALSE NEIGHBOUR: 'it returns false'. Refute it at one input. -/
def fnExactLengthOfWrong : ChangeSpec := { name := "fnExactLengthOf", fn := fun _ => fun
  | [d] => { results := [.lit (.bool false)], args := [d] }
  | _ => none }
def FnExactLengthOfWrongFalsely : Prop := fnExactLengthOfRow.holds Try.pinned (OpenSpec.ofChange fnExactLengthOfWrong)

/-- 'laws.FnExactBendsOf': WHATEVER THE INPUT: true; the input reads as it did. -/
def fnExactBendsOfSpec : ChangeSpec := { name := "fnExactBendsOf", fn := fun _ => fun
  | [d] => { results := [.lit (.bool true)], args := [d] }
  | _ => none }
def fnExactBendsOfRow : OpenClaim := { program := "ytmdfiggchiefkaa", sum := "c305556f52e8a719161f033fa9a095ad68336df4025addcefec25906e67a4c33", func := "loop.example/g01149/laws.FnExactBendsOf", spec := "fnExactBendsOf", plainKeys := false, apart := false }
def FnExactBendsOfSaid : Prop := fnExactBendsOfRow.holds Try.pinned (OpenSpec.ofChange fnExactBendsOfSpec)

/-- ITS FALSE NEIGHBOUR: 'it returns false'. Refute it at one input. -/
def fnExactBendsOfWrong : ChangeSpec := { name := "fnExactBendsOf", fn := fun _ => fun
  | [d] => { results := [.lit (.bool false)], args := [d] }
  | _ => none }
def FnExactBendsOfWrongFalsely : Prop := fnExactBendsOfRow.holds Try.pinned (OpenSpec.ofChange fnExactBendsOfWrong)

/-- 'laws.FnExactCornersOf': WHATEVER THE INPUT: true; the input reads as it did. -/
def fnExactCornersOfSpec : ChangeSpec := { name := "fnExactCornersOf", fn := fun _ => fun
  | [d] => { results := [.lit (.bool true)], args := [d] }
  | _ => none }
def fnExactCornersOfRow : OpenClaim := { program := "ytmdfiggchiefkaa", sum := "c305556f52e8a719161f033fa9a095ad68336df4025addcefec25906e67a4c33", func := "loop.example/g01149/laws.FnExactCornersOf", spec := "fnExactCornersOf", plainKeys := false, apart := false }
def FnExactCornersOfSaid : Prop := fnExactCornersOfRow.holds Try.pinned (OpenSpec.ofChange fnExactCornersOfSpec)

/-- ITS FALSE NEIGHBOUR: 'it returns false'. Refute it at one input. -/
def fnExactCornersOfWrong : ChangeSpec := { name := "fnExactCornersOf", fn := fun _ => fun
  | [d] => { results := [.lit (.bool false)], args := [d] }
  | _ => none }
def FnExactCornersOfWrongFalsely : Prop := fnExactCornersOfRow.holds Try.pinned (OpenSpec.ofChange fnExactCornersOfWrong)

/-- 'laws.FnExactPathThrough': WHATEVER THE INPUT: true; the input reads as it did. -/
def fnExactPathThroughSpec : ChangeSpec := { name := "fnExactPathThrough", fn := fun _ => fun
  | [d] => { results := [.lit (.bool true)], args := [d] }
  | _ => none }
def fnExactPathThroughRow : OpenClaim := { program := "ytmdfiggchiefkaa", sum := "c305556f52e8a719161f033fa9a095ad68336df4025addcefec25906e67a4c33", func := "loop.example/g01149/laws.FnExactPathThrough", spec := "fnExactPathThrough", plainKeys := false, apart := false }
def FnExactPathThroughSaid : Prop := fnExactPathThroughRow.holds Try.pinned (OpenSpec.ofChange fnExactPathThroughSpec)

/-- ITS FALSE NEIGHBOUR: 'it returns false'. Refute it at one input. -/
def fnExactPathThroughWrong : ChangeSpec := { name := "fnExactPathThrough", fn := fun _ => fun
  | [d] => { results := [.lit (.bool false)], args := [d] }
  | _ => none }
def FnExactPathThroughWrongFalsely : Prop := fnExactPathThroughRow.holds Try.pinned (OpenSpec.ofChange fnExactPathThroughWrong)

/-- 'laws.FnExactCheckOf': WHATEVER THE INPUT: true; the input reads as it did. -/
def fnExactCheckOfSpec : ChangeSpec := { name := "fnExactCheckOf", fn := fun _ => fun
  | [d1, d2] => { results := [.lit (.bool true)], args := [d1, d2] }
  | _ => none }
def fnExactCheckOfRow : OpenClaim := { program := "ytmdfiggchiefkaa", sum := "c305556f52e8a719161f033fa9a095ad68336df4025addcefec25906e67a4c33", func := "loop.example/g01149/laws.FnExactCheckOf", spec := "fnExactCheckOf", plainKeys := false, apart := false }
def FnExactCheckOfSaid : Prop := fnExactCheckOfRow.holds Try.pinned (OpenSpec.ofChange fnExactCheckOfSpec)

/-- ITS FALSE NEIGHBOUR: 'it returns false'. Refute it at one input. -/
def fnExactCheckOfWrong : ChangeSpec := { name := "fnExactCheckOf", fn := fun _ => fun
  | [d1, d2] => { results := [.lit (.bool false)], args := [d1, d2] }
  | _ => none }
def FnExactCheckOfWrongFalsely : Prop := fnExactCheckOfRow.holds Try.pinned (OpenSpec.ofChange fnExactCheckOfWrong)

/- THE SECOND FORM. 'bulk': how many values and letters a reading holds, each counted each time it is reached (what is shared counts as often as it is met; a slice's spare places count too). A statement '..UptoSaid' is the law's where the arguments, and the package variables that the reading takes, are together of bulk at most 1048576: NARROWER than '..Said'. Prove '..Said' where nothing that the law and all that it calls make is longer than what came in: it says more and counts as full. Else prove '..UptoSaid'. A law counts once. -/
mutual
def uptoBulk {H : Type} : DataW H → Nat
  | .lit (.string bytes) => bytes.length + 1
  | .lit _ => 1
  | .nil => 1
  | .ptr d => uptoBulk d + 1
  | .slice elems spare => uptoBulkAll elems + uptoBulkAll spare + 1
  | .agg parts => uptoBulkAll parts + 1
  | .iface _ d => uptoBulk d + 1
  | .map entries => uptoBulkEntries entries + 1
  | .held _ => 1
def uptoBulkAll {H : Type} : List (DataW H) → Nat
  | [] => 0
  | d :: r => uptoBulk d + uptoBulkAll r
def uptoBulkEntries {H : Type} : List (Lit × DataW H) → Nat
  | [] => 0
  | x :: r => uptoBulkEntry x + uptoBulkEntries r
def uptoBulkEntry {H : Type} : Lit × DataW H → Nat
  | (.string bytes, d) => bytes.length + uptoBulk d + 1
  | (_, d) => uptoBulk d + 1
 end
def uptoSmall : (H : Type) → List (DataW H) → Bool := fun _ ds => decide (uptoBulkAll ds ≤ 1048576)
def OpenSpec.upto (s : _root_.Go.ChangeSpec) : _root_.Go.OpenSpec := { _root_.Go.OpenSpec.ofChange s with cond := some uptoSmall }

/-- 'laws.FnPathCorners', WHERE WHAT IT READS IS OF BULK AT MOST 1048576: true; the input reads as it did. -/
def fnPathCornersUptoRow : OpenClaim := { program := "ytmdfiggchiefkaa", sum := "c305556f52e8a719161f033fa9a095ad68336df4025addcefec25906e67a4c33", func := "loop.example/g01149/laws.FnPathCorners", spec := "fnPathCorners", plainKeys := false, apart := false, narrowed := true }
def FnPathCornersUptoSaid : Prop := fnPathCornersUptoRow.holds Try.pinned (OpenSpec.upto fnPathCornersSpec)

/-- 'laws.FnExactIsName', WHERE WHAT IT READS IS OF BULK AT MOST 1048576: true; the input reads as it did. -/
def fnExactIsNameUptoRow : OpenClaim := { program := "ytmdfiggchiefkaa", sum := "c305556f52e8a719161f033fa9a095ad68336df4025addcefec25906e67a4c33", func := "loop.example/g01149/laws.FnExactIsName", spec := "fnExactIsName", plainKeys := false, apart := false, narrowed := true }
def FnExactIsNameUptoSaid : Prop := fnExactIsNameUptoRow.holds Try.pinned (OpenSpec.upto fnExactIsNameSpec)

/-- 'laws.FnExactIsPoint', WHERE WHAT IT READS IS OF BULK AT MOST 1048576: true; the input reads as it did. -/
def fnExactIsPointUptoRow : OpenClaim := { program := "ytmdfiggchiefkaa", sum := "c305556f52e8a719161f033fa9a095ad68336df4025addcefec25906e67a4c33", func := "loop.example/g01149/laws.FnExactIsPoint", spec := "fnExactIsPoint", plainKeys := false, apart := false, narrowed := true }
def FnExactIsPointUptoSaid : Prop := fnExactIsPointUptoRow.holds Try.pinned (OpenSpec.upto fnExactIsPointSpec)

/-- 'laws.FnExactDistanceOf', WHERE WHAT IT READS IS OF BULK AT MOST 1048576: true; the input reads as it did. -/
def fnExactDistanceOfUptoRow : OpenClaim := { program := "ytmdfiggchiefkaa", sum := "c305556f52e8a719161f033fa9a095ad68336df4025addcefec25906e67a4c33", func := "loop.example/g01149/laws.FnExactDistanceOf", spec := "fnExactDistanceOf", plainKeys := false, apart := false, narrowed := true }
def FnExactDistanceOfUptoSaid : Prop := fnExactDistanceOfUptoRow.holds Try.pinned (OpenSpec.upto fnExactDistanceOfSpec)

/-- 'laws.FnExactArePoints', WHERE WHAT IT READS IS OF BULK AT MOST 1048576: true; the input reads as it did. -/
def fnExactArePointsUptoRow : OpenClaim := { program := "ytmdfiggchiefkaa", sum := "c305556f52e8a719161f033fa9a095ad68336df4025addcefec25906e67a4c33", func := "loop.example/g01149/laws.FnExactArePoints", spec := "fnExactArePoints", plainKeys := false, apart := false, narrowed := true }
def FnExactArePointsUptoSaid : Prop := fnExactArePointsUptoRow.holds Try.pinned (OpenSpec.upto fnExactArePointsSpec)

/-- 'laws.FnExactBoxOf', WHERE WHAT IT READS IS OF BULK AT MOST 1048576: true; the input reads as it did. -/
def fnExactBoxOfUptoRow : OpenClaim := { program := "ytmdfiggchiefkaa", sum := "c305556f52e8a719161f033fa9a095ad68336df4025addcefec25906e67a4c33", func := "loop.example/g01149/laws.FnExactBoxOf", spec := "fnExactBoxOf", plainKeys := false, apart := false, narrowed := true }
def FnExactBoxOfUptoSaid : Prop := fnExactBoxOfUptoRow.holds Try.pinned (OpenSpec.upto fnExactBoxOfSpec)

/-- 'laws.FnExactNearestPoint', WHERE WHAT IT READS IS OF BULK AT MOST 1048576: true; the input reads as it did. -/
def fnExactNearestPointUptoRow : OpenClaim := { program := "ytmdfiggchiefkaa", sum := "c305556f52e8a719161f033fa9a095ad68336df4025addcefec25906e67a4c33", func := "loop.example/g01149/laws.FnExactNearestPoint", spec := "fnExactNearestPoint", plainKeys := false, apart := false, narrowed := true }
def FnExactNearestPointUptoSaid : Prop := fnExactNearestPointUptoRow.holds Try.pinned (OpenSpec.upto fnExactNearestPointSpec)

/-- 'laws.FnExactSortPoints', WHERE WHAT IT READS IS OF BULK AT MOST 1048576: true; the input reads as it did. -/
def fnExactSortPointsUptoRow : OpenClaim := { program := "ytmdfiggchiefkaa", sum := "c305556f52e8a719161f033fa9a095ad68336df4025addcefec25906e67a4c33", func := "loop.example/g01149/laws.FnExactSortPoints", spec := "fnExactSortPoints", unfollowed := true, recurses := true, plainKeys := false, apart := false, narrowed := true }
def FnExactSortPointsUptoSaid : Prop := fnExactSortPointsUptoRow.holds Try.pinned (OpenSpec.upto fnExactSortPointsSpec)

/-- 'laws.FnExactIsPath', WHERE WHAT IT READS IS OF BULK AT MOST 1048576: true; the input reads as it did. -/
def fnExactIsPathUptoRow : OpenClaim := { program := "ytmdfiggchiefkaa", sum := "c305556f52e8a719161f033fa9a095ad68336df4025addcefec25906e67a4c33", func := "loop.example/g01149/laws.FnExactIsPath", spec := "fnExactIsPath", plainKeys := false, apart := false, narrowed := true }
def FnExactIsPathUptoSaid : Prop := fnExactIsPathUptoRow.holds Try.pinned (OpenSpec.upto fnExactIsPathSpec)

/-- 'laws.FnExactLengthOf', WHERE WHAT IT READS IS OF BULK AT MOST 1048576: true; the input reads as it did. -/
def fnExactLengthOfUptoRow : OpenClaim := { program := "ytmdfiggchiefkaa", sum := "c305556f52e8a719161f033fa9a095ad68336df4025addcefec25906e67a4c33", func := "loop.example/g01149/laws.FnExactLengthOf", spec := "fnExactLengthOf", plainKeys := false, apart := false, narrowed := true }
def FnExactLengthOfUptoSaid : Prop := fnExactLengthOfUptoRow.holds Try.pinned (OpenSpec.upto fnExactLengthOfSpec)

/-- 'laws.FnExactBendsOf', WHERE WHAT IT READS IS OF BULK AT MOST 1048576: true; the input reads as it did. -/
def fnExactBendsOfUptoRow : OpenClaim := { program := "ytmdfiggchiefkaa", sum := "c305556f52e8a719161f033fa9a095ad68336df4025addcefec25906e67a4c33", func := "loop.example/g01149/laws.FnExactBendsOf", spec := "fnExactBendsOf", plainKeys := false, apart := false, narrowed := true }
def FnExactBendsOfUptoSaid : Prop := fnExactBendsOfUptoRow.holds Try.pinned (OpenSpec.upto fnExactBendsOfSpec)

/-- 'laws.FnExactCornersOf', WHERE WHAT IT READS IS OF BULK AT MOST 1048576: true; the input reads as it did. -/
def fnExactCornersOfUptoRow : OpenClaim := { program := "ytmdfiggchiefkaa", sum := "c305556f52e8a719161f033fa9a095ad68336df4025addcefec25906e67a4c33", func := "loop.example/g01149/laws.FnExactCornersOf", spec := "fnExactCornersOf", plainKeys := false, apart := false, narrowed := true }
def FnExactCornersOfUptoSaid : Prop := fnExactCornersOfUptoRow.holds Try.pinned (OpenSpec.upto fnExactCornersOfSpec)

/-- 'laws.FnExactPathThrough', WHERE WHAT IT READS IS OF BULK AT MOST 1048576: true; the input reads as it did. -/
def fnExactPathThroughUptoRow : OpenClaim := { program := "ytmdfiggchiefkaa", sum := "c305556f52e8a719161f033fa9a095ad68336df4025addcefec25906e67a4c33", func := "loop.example/g01149/laws.FnExactPathThrough", spec := "fnExactPathThrough", plainKeys := false, apart := false, narrowed := true }
def FnExactPathThroughUptoSaid : Prop := fnExactPathThroughUptoRow.holds Try.pinned (OpenSpec.upto fnExactPathThroughSpec)

/-- 'laws.FnExactCheckOf', WHERE WHAT IT READS IS OF BULK AT MOST 1048576: true; the input reads as it did. -/
def fnExactCheckOfUptoRow : OpenClaim := { program := "ytmdfiggchiefkaa", sum := "c305556f52e8a719161f033fa9a095ad68336df4025addcefec25906e67a4c33", func := "loop.example/g01149/laws.FnExactCheckOf", spec := "fnExactCheckOf", plainKeys := false, apart := false, narrowed := true }
def FnExactCheckOfUptoSaid : Prop := fnExactCheckOfUptoRow.holds Try.pinned (OpenSpec.upto fnExactCheckOfSpec)

end Rows
end Go.Proofs.Ytmdfiggchiefkaa
