/-
  No cell of these rows narrows 'for every input' (looked for: loops, veiled, ifaces, maps, wideKeys, modest, calm, conditions, laid).
  DERIVED. THE GIVEN ROWS OF THIS SEAT. 16 by the template 'for every input the law returns true; each argument reads behind the call as it read before'; 0 by the template 'total and deterministic' (their statements: YtfmkedmhbmcbiaaTotals.lean).
  GIVEN WITH THE SEED: the statements are not yours to turn. If you find one false, say at which input.
  Laid BY PROGRAM, IN A SANDBOX (cutbox-rows.mjs): the forced cells as the released guide's own fill.sh prints them over the translation 778ec87b28ad504d… (all of the seat's roots in one cut). By AI agents, Wed Nov 11 2026. No macro, syntax, notation, axiom, sorry.
-/
import Derived.Test.YtfmkedmhbmcbiaaChecked
import GoSem.Claim
import GoSem.ClaimJoined
import GoSem.ClaimMapViews
import Derived.JoinedTies
import Derived.KernelRfl
namespace Go.Proofs.Ytfmkedmhbmcbiaa
/- THE CELL 'sum', in the pinned program and in every row, IS THE sha256 OF THE DUMP (.gsa) THAT YtfmkedmhbmcbiaaProg.lean LOADS. Nothing in Lean hashes anything: it is a label: what it is worth is what the hold of that sum in a sandbox is worth. -/
noncomputable def Try.pinned : Pinned := { name := "ytfmkedmhbmcbiaa", sum := "778ec87b28ad504d42fc0b1b9e5448673b19c4bdb44f5dfce40d73b55e73db1a", checked := Try.checked }
namespace Rows
def none {H : Type} : Left H := { results := [], args := [] }

/-- 'laws.FnPathCorners': WHATEVER THE INPUT: true; the input reads as it did. -/
def fnPathCornersSpec : ChangeSpec := { name := "fnPathCorners", fn := fun _ => fun
  | [d1, d2] => { results := [.lit (.bool true)], args := [d1, d2] }
  | _ => none }
def fnPathCornersRow : OpenClaim := { program := "ytfmkedmhbmcbiaa", sum := "778ec87b28ad504d42fc0b1b9e5448673b19c4bdb44f5dfce40d73b55e73db1a", func := "loop.example/g01149/laws.FnPathCorners", spec := "fnPathCorners", plainKeys := false, apart := false }
def FnPathCornersSaid : Prop := fnPathCornersRow.holds Try.pinned (OpenSpec.ofChange fnPathCornersSpec)

/-- ITS FALSE NEIGHBOUR: 'it returns false'. Refute it at one input. -/
def fnPathCornersWrong : ChangeSpec := { name := "fnPathCorners", fn := fun _ => fun
  | [d1, d2] => { results := [.lit (.bool false)], args := [d1, d2] }
  | _ => none }
def FnPathCornersWrongFalsely : Prop := fnPathCornersRow.holds Try.pinned (OpenSpec.ofChange fnPathCornersWrong)

/-- 'laws.FnRivers': WHATEVER THE INPUT: true; the input reads as it did. -/
def fnRiversSpec : ChangeSpec := { name := "fnRivers", fn := fun _ => fun
  | [d1, d2] => { results := [.lit (.bool true)], args := [d1, d2] }
  | _ => none }
def fnRiversRow : OpenClaim := { program := "ytfmkedmhbmcbiaa", sum := "778ec87b28ad504d42fc0b1b9e5448673b19c4bdb44f5dfce40d73b55e73db1a", func := "loop.example/g01149/laws.FnRivers", spec := "fnRivers", unfollowed := true, recurses := true, plainKeys := false, apart := false }
def FnRiversSaid : Prop := fnRiversRow.holds Try.pinned (OpenSpec.ofChange fnRiversSpec)

/-- ITS FALSE NEIGHBOUR: 'it returns false'. Refute it at one input. -/
def fnRiversWrong : ChangeSpec := { name := "fnRivers", fn := fun _ => fun
  | [d1, d2] => { results := [.lit (.bool false)], args := [d1, d2] }
  | _ => none }
def FnRiversWrongFalsely : Prop := fnRiversRow.holds Try.pinned (OpenSpec.ofChange fnRiversWrong)

/-- 'laws.FnTight': WHATEVER THE INPUT: true; the input reads as it did. -/
def fnTightSpec : ChangeSpec := { name := "fnTight", fn := fun _ => fun
  | [d1, d2] => { results := [.lit (.bool true)], args := [d1, d2] }
  | _ => none }
def fnTightRow : OpenClaim := { program := "ytfmkedmhbmcbiaa", sum := "778ec87b28ad504d42fc0b1b9e5448673b19c4bdb44f5dfce40d73b55e73db1a", func := "loop.example/g01149/laws.FnTight", spec := "fnTight", unfollowed := true, recurses := true, plainKeys := false, apart := false }
def FnTightSaid : Prop := fnTightRow.holds Try.pinned (OpenSpec.ofChange fnTightSpec)

/-- ITS FALSE NEIGHBOUR: 'it returns false'. Refute it at one input. -/
def fnTightWrong : ChangeSpec := { name := "fnTight", fn := fun _ => fun
  | [d1, d2] => { results := [.lit (.bool false)], args := [d1, d2] }
  | _ => none }
def FnTightWrongFalsely : Prop := fnTightRow.holds Try.pinned (OpenSpec.ofChange fnTightWrong)

/-- 'laws.FnShifted': WHATEVER THE INPUT: true; the input reads as it did. -/
def fnShiftedSpec : ChangeSpec := { name := "fnShifted", fn := fun _ => fun
  | [d1, d2] => { results := [.lit (.bool true)], args := [d1, d2] }
  | _ => none }
def fnShiftedRow : OpenClaim := { program := "ytfmkedmhbmcbiaa", sum := "778ec87b28ad504d42fc0b1b9e5448673b19c4bdb44f5dfce40d73b55e73db1a", func := "loop.example/g01149/laws.FnShifted", spec := "fnShifted", unfollowed := true, recurses := true, plainKeys := false, apart := false }
def FnShiftedSaid : Prop := fnShiftedRow.holds Try.pinned (OpenSpec.ofChange fnShiftedSpec)

/-- ITS FALSE NEIGHBOUR: 'it returns false'. Refute it at one input. -/
def fnShiftedWrong : ChangeSpec := { name := "fnShifted", fn := fun _ => fun
  | [d1, d2] => { results := [.lit (.bool false)], args := [d1, d2] }
  | _ => none }
def FnShiftedWrongFalsely : Prop := fnShiftedRow.holds Try.pinned (OpenSpec.ofChange fnShiftedWrong)

/-- 'laws.FnExactSortPoints': WHATEVER THE INPUT: true; the input reads as it did. -/
def fnExactSortPointsSpec : ChangeSpec := { name := "fnExactSortPoints", fn := fun _ => fun
  | [d] => { results := [.lit (.bool true)], args := [d] }
  | _ => none }
def fnExactSortPointsRow : OpenClaim := { program := "ytfmkedmhbmcbiaa", sum := "778ec87b28ad504d42fc0b1b9e5448673b19c4bdb44f5dfce40d73b55e73db1a", func := "loop.example/g01149/laws.FnExactSortPoints", spec := "fnExactSortPoints", unfollowed := true, recurses := true, plainKeys := false, apart := false }
def FnExactSortPointsSaid : Prop := fnExactSortPointsRow.holds Try.pinned (OpenSpec.ofChange fnExactSortPointsSpec)

/-- ITS FALSE NEIGHBOUR: 'it returns false'. Refute it at one input. -/
def fnExactSortPointsWrong : ChangeSpec := { name := "fnExactSortPoints", fn := fun _ => fun
  | [d] => { results := [.lit (.bool false)], args := [d] }
  | _ => none }
def FnExactSortPointsWrongFalsely : Prop := fnExactSortPointsRow.holds Try.pinned (OpenSpec.ofChange fnExactSortPointsWrong)

/-- 'laws.FnExactPathThrough': WHATEVER THE INPUT: true; the input reads as it did. -/
def fnExactPathThroughSpec : ChangeSpec := { name := "fnExactPathThrough", fn := fun _ => fun
  | [d] => { results := [.lit (.bool true)], args := [d] }
  | _ => none }
def fnExactPathThroughRow : OpenClaim := { program := "ytfmkedmhbmcbiaa", sum := "778ec87b28ad504d42fc0b1b9e5448673b19c4bdb44f5dfce40d73b55e73db1a", func := "loop.example/g01149/laws.FnExactPathThrough", spec := "fnExactPathThrough", plainKeys := false, apart := false }
def FnExactPathThroughSaid : Prop := fnExactPathThroughRow.holds Try.pinned (OpenSpec.ofChange fnExactPathThroughSpec)

/-- ITS FALSE NEIGHBOUR: 'it returns false'. Refute it at one input. -/
def fnExactPathThroughWrong : ChangeSpec := { name := "fnExactPathThrough", fn := fun _ => fun
  | [d] => { results := [.lit (.bool false)], args := [d] }
  | _ => none }
def FnExactPathThroughWrongFalsely : Prop := fnExactPathThroughRow.holds Try.pinned (OpenSpec.ofChange fnExactPathThroughWrong)

/-- 'laws.FnExactValidRiver': WHATEVER THE INPUT: true; the input reads as it did. -/
def fnExactValidRiverSpec : ChangeSpec := { name := "fnExactValidRiver", fn := fun _ => fun
  | [d1, d2] => { results := [.lit (.bool true)], args := [d1, d2] }
  | _ => none }
def fnExactValidRiverRow : OpenClaim := { program := "ytfmkedmhbmcbiaa", sum := "778ec87b28ad504d42fc0b1b9e5448673b19c4bdb44f5dfce40d73b55e73db1a", func := "loop.example/g01149/laws.FnExactValidRiver", spec := "fnExactValidRiver", plainKeys := false, apart := false }
def FnExactValidRiverSaid : Prop := fnExactValidRiverRow.holds Try.pinned (OpenSpec.ofChange fnExactValidRiverSpec)

/-- ITS FALSE NEIGHBOUR: 'it returns false'. Refute it at one input. -/
def fnExactValidRiverWrong : ChangeSpec := { name := "fnExactValidRiver", fn := fun _ => fun
  | [d1, d2] => { results := [.lit (.bool false)], args := [d1, d2] }
  | _ => none }
def FnExactValidRiverWrongFalsely : Prop := fnExactValidRiverRow.holds Try.pinned (OpenSpec.ofChange fnExactValidRiverWrong)

/-- 'laws.FnExactFitsRiver': WHATEVER THE INPUT: true; the input reads as it did. -/
def fnExactFitsRiverSpec : ChangeSpec := { name := "fnExactFitsRiver", fn := fun _ => fun
  | [d1, d2, d3] => { results := [.lit (.bool true)], args := [d1, d2, d3] }
  | _ => none }
def fnExactFitsRiverRow : OpenClaim := { program := "ytfmkedmhbmcbiaa", sum := "778ec87b28ad504d42fc0b1b9e5448673b19c4bdb44f5dfce40d73b55e73db1a", func := "loop.example/g01149/laws.FnExactFitsRiver", spec := "fnExactFitsRiver", unfollowed := true, recurses := true, plainKeys := false, apart := false }
def FnExactFitsRiverSaid : Prop := fnExactFitsRiverRow.holds Try.pinned (OpenSpec.ofChange fnExactFitsRiverSpec)

/-- ITS FALSE NEIGHBOUR: 'it returns false'. Refute it at one input. -/
def fnExactFitsRiverWrong : ChangeSpec := { name := "fnExactFitsRiver", fn := fun _ => fun
  | [d1, d2, d3] => { results := [.lit (.bool false)], args := [d1, d2, d3] }
  | _ => none }
def FnExactFitsRiverWrongFalsely : Prop := fnExactFitsRiverRow.holds Try.pinned (OpenSpec.ofChange fnExactFitsRiverWrong)

/-- 'laws.FnExactLeastTracks': WHATEVER THE INPUT: true; the input reads as it did. -/
def fnExactLeastTracksSpec : ChangeSpec := { name := "fnExactLeastTracks", fn := fun _ => fun
  | [d1, d2] => { results := [.lit (.bool true)], args := [d1, d2] }
  | _ => none }
def fnExactLeastTracksRow : OpenClaim := { program := "ytfmkedmhbmcbiaa", sum := "778ec87b28ad504d42fc0b1b9e5448673b19c4bdb44f5dfce40d73b55e73db1a", func := "loop.example/g01149/laws.FnExactLeastTracks", spec := "fnExactLeastTracks", unfollowed := true, recurses := true, plainKeys := false, apart := false }
def FnExactLeastTracksSaid : Prop := fnExactLeastTracksRow.holds Try.pinned (OpenSpec.ofChange fnExactLeastTracksSpec)

/-- ITS FALSE NEIGHBOUR: 'it returns false'. Refute it at one input. -/
def fnExactLeastTracksWrong : ChangeSpec := { name := "fnExactLeastTracks", fn := fun _ => fun
  | [d1, d2] => { results := [.lit (.bool false)], args := [d1, d2] }
  | _ => none }
def FnExactLeastTracksWrongFalsely : Prop := fnExactLeastTracksRow.holds Try.pinned (OpenSpec.ofChange fnExactLeastTracksWrong)

/-- 'laws.FnExactRiverWire': WHATEVER THE INPUT: true; the input reads as it did. -/
def fnExactRiverWireSpec : ChangeSpec := { name := "fnExactRiverWire", fn := fun _ => fun
  | [d1, d2, d3, d4] => { results := [.lit (.bool true)], args := [d1, d2, d3, d4] }
  | _ => none }
def fnExactRiverWireRow : OpenClaim := { program := "ytfmkedmhbmcbiaa", sum := "778ec87b28ad504d42fc0b1b9e5448673b19c4bdb44f5dfce40d73b55e73db1a", func := "loop.example/g01149/laws.FnExactRiverWire", spec := "fnExactRiverWire", unfollowed := true, recurses := true, plainKeys := false, apart := false }
def FnExactRiverWireSaid : Prop := fnExactRiverWireRow.holds Try.pinned (OpenSpec.ofChange fnExactRiverWireSpec)

/-- ITS FALSE NEIGHBOUR: 'it returns false'. Refute it at one input. -/
def fnExactRiverWireWrong : ChangeSpec := { name := "fnExactRiverWire", fn := fun _ => fun
  | [d1, d2, d3, d4] => { results := [.lit (.bool false)], args := [d1, d2, d3, d4] }
  | _ => none }
def FnExactRiverWireWrongFalsely : Prop := fnExactRiverWireRow.holds Try.pinned (OpenSpec.ofChange fnExactRiverWireWrong)

/-- 'laws.FnExactRiverLength': WHATEVER THE INPUT: true; the input reads as it did. -/
def fnExactRiverLengthSpec : ChangeSpec := { name := "fnExactRiverLength", fn := fun _ => fun
  | [d1, d2, d3] => { results := [.lit (.bool true)], args := [d1, d2, d3] }
  | _ => none }
def fnExactRiverLengthRow : OpenClaim := { program := "ytfmkedmhbmcbiaa", sum := "778ec87b28ad504d42fc0b1b9e5448673b19c4bdb44f5dfce40d73b55e73db1a", func := "loop.example/g01149/laws.FnExactRiverLength", spec := "fnExactRiverLength", unfollowed := true, recurses := true, plainKeys := false, apart := false }
def FnExactRiverLengthSaid : Prop := fnExactRiverLengthRow.holds Try.pinned (OpenSpec.ofChange fnExactRiverLengthSpec)

/-- ITS FALSE NEIGHBOUR: 'it returns false'. Refute it at one input. -/
def fnExactRiverLengthWrong : ChangeSpec := { name := "fnExactRiverLength", fn := fun _ => fun
  | [d1, d2, d3] => { results := [.lit (.bool false)], args := [d1, d2, d3] }
  | _ => none }
def FnExactRiverLengthWrongFalsely : Prop := fnExactRiverLengthRow.holds Try.pinned (OpenSpec.ofChange fnExactRiverLengthWrong)

/-- 'laws.FnExactRiverBends': WHATEVER THE INPUT: true; the input reads as it did. -/
def fnExactRiverBendsSpec : ChangeSpec := { name := "fnExactRiverBends", fn := fun _ => fun
  | [d1, d2, d3] => { results := [.lit (.bool true)], args := [d1, d2, d3] }
  | _ => none }
def fnExactRiverBendsRow : OpenClaim := { program := "ytfmkedmhbmcbiaa", sum := "778ec87b28ad504d42fc0b1b9e5448673b19c4bdb44f5dfce40d73b55e73db1a", func := "loop.example/g01149/laws.FnExactRiverBends", spec := "fnExactRiverBends", unfollowed := true, recurses := true, plainKeys := false, apart := false }
def FnExactRiverBendsSaid : Prop := fnExactRiverBendsRow.holds Try.pinned (OpenSpec.ofChange fnExactRiverBendsSpec)

/-- ITS FALSE NEIGHBOUR: 'it returns false'. Refute it at one input. -/
def fnExactRiverBendsWrong : ChangeSpec := { name := "fnExactRiverBends", fn := fun _ => fun
  | [d1, d2, d3] => { results := [.lit (.bool false)], args := [d1, d2, d3] }
  | _ => none }
def FnExactRiverBendsWrongFalsely : Prop := fnExactRiverBendsRow.holds Try.pinned (OpenSpec.ofChange fnExactRiverBendsWrong)

/-- 'laws.FnExactTightPins': WHATEVER THE INPUT: true; the input reads as it did. -/
def fnExactTightPinsSpec : ChangeSpec := { name := "fnExactTightPins", fn := fun _ => fun
  | [d1, d2, d3] => { results := [.lit (.bool true)], args := [d1, d2, d3] }
  | _ => none }
def fnExactTightPinsRow : OpenClaim := { program := "ytfmkedmhbmcbiaa", sum := "778ec87b28ad504d42fc0b1b9e5448673b19c4bdb44f5dfce40d73b55e73db1a", func := "loop.example/g01149/laws.FnExactTightPins", spec := "fnExactTightPins", unfollowed := true, recurses := true, plainKeys := false, apart := false }
def FnExactTightPinsSaid : Prop := fnExactTightPinsRow.holds Try.pinned (OpenSpec.ofChange fnExactTightPinsSpec)

/-- ITS FALSE NEIGHBOUR: 'it returns false'. Refute it at one input. -/
def fnExactTightPinsWrong : ChangeSpec := { name := "fnExactTightPins", fn := fun _ => fun
  | [d1, d2, d3] => { results := [.lit (.bool false)], args := [d1, d2, d3] }
  | _ => none }
def FnExactTightPinsWrongFalsely : Prop := fnExactTightPinsRow.holds Try.pinned (OpenSpec.ofChange fnExactTightPinsWrong)

/-- 'laws.FnExactShiftRange': WHATEVER THE INPUT: true; the input reads as it did. -/
def fnExactShiftRangeSpec : ChangeSpec := { name := "fnExactShiftRange", fn := fun _ => fun
  | [d1, d2, d3] => { results := [.lit (.bool true)], args := [d1, d2, d3] }
  | _ => none }
def fnExactShiftRangeRow : OpenClaim := { program := "ytfmkedmhbmcbiaa", sum := "778ec87b28ad504d42fc0b1b9e5448673b19c4bdb44f5dfce40d73b55e73db1a", func := "loop.example/g01149/laws.FnExactShiftRange", spec := "fnExactShiftRange", plainKeys := false, apart := false }
def FnExactShiftRangeSaid : Prop := fnExactShiftRangeRow.holds Try.pinned (OpenSpec.ofChange fnExactShiftRangeSpec)

/-- ITS FALSE NEIGHBOUR: 'it returns false'. Refute it at one input. -/
def fnExactShiftRangeWrong : ChangeSpec := { name := "fnExactShiftRange", fn := fun _ => fun
  | [d1, d2, d3] => { results := [.lit (.bool false)], args := [d1, d2, d3] }
  | _ => none }
def FnExactShiftRangeWrongFalsely : Prop := fnExactShiftRangeRow.holds Try.pinned (OpenSpec.ofChange fnExactShiftRangeWrong)

/-- 'laws.FnExactBestShift': WHATEVER THE INPUT: true; the input reads as it did. -/
def fnExactBestShiftSpec : ChangeSpec := { name := "fnExactBestShift", fn := fun _ => fun
  | [d1, d2] => { results := [.lit (.bool true)], args := [d1, d2] }
  | _ => none }
def fnExactBestShiftRow : OpenClaim := { program := "ytfmkedmhbmcbiaa", sum := "778ec87b28ad504d42fc0b1b9e5448673b19c4bdb44f5dfce40d73b55e73db1a", func := "loop.example/g01149/laws.FnExactBestShift", spec := "fnExactBestShift", plainKeys := false, apart := false }
def FnExactBestShiftSaid : Prop := fnExactBestShiftRow.holds Try.pinned (OpenSpec.ofChange fnExactBestShiftSpec)

/-- ITS FALSE NEIGHBOUR: 'it returns false'. Refute it at one input. -/
def fnExactBestShiftWrong : ChangeSpec := { name := "fnExactBestShift", fn := fun _ => fun
  | [d1, d2] => { results := [.lit (.bool false)], args := [d1, d2] }
  | _ => none }
def FnExactBestShiftWrongFalsely : Prop := fnExactBestShiftRow.holds Try.pinned (OpenSpec.ofChange fnExactBestShiftWrong)

/-- 'laws.FnExactAreApart': WHATEVER THE INPUT: true; the input reads as it did. -/
def fnExactAreApartSpec : ChangeSpec := { name := "fnExactAreApart", fn := fun _ => fun
  | [d] => { results := [.lit (.bool true)], args := [d] }
  | _ => none }
def fnExactAreApartRow : OpenClaim := { program := "ytfmkedmhbmcbiaa", sum := "778ec87b28ad504d42fc0b1b9e5448673b19c4bdb44f5dfce40d73b55e73db1a", func := "loop.example/g01149/laws.FnExactAreApart", spec := "fnExactAreApart", plainKeys := false, apart := false }
def FnExactAreApartSaid : Prop := fnExactAreApartRow.holds Try.pinned (OpenSpec.ofChange fnExactAreApartSpec)

/-- ITS FALSE NEIGHBOUR: 'it returns false'. Refute it at one input. -/
def fnExactAreApartWrong : ChangeSpec := { name := "fnExactAreApart", fn := fun _ => fun
  | [d] => { results := [.lit (.bool false)], args := [d] }
  | _ => none }
def FnExactAreApartWrongFalsely : Prop := fnExactAreApartRow.holds Try.pinned (OpenSpec.ofChange fnExactAreApartWrong)

/- THE SECOND FORM. 'bulk': how many values and letters a reading holds, each counted each time it is reached (what is shared counts as often as it is met; a slice's spare places count too). A statement '..UptoSaid' is the law's where the arguments, and the package variables that the reading takes, are together of bulk at most 1048576: NARROWER than '..Said'. Prove '..Said' where nothing that the law and all that it calls make is longer than what came in: it says more and counts as full. Else prove '..UptoSaid'. A law counts once. -/
mutual
def uptoBulk {H : Type} : DataW H → Nat
  | .lit (.string bytes) => bytes.length + 1
  | .lit _ => 1
  | .nil => 1
  | .ptr d => uptoBulk d + 1
  | .slice elems spare => uptoBulkAll elems + uptoBulkAll spare + 1
  | .agg parts => uptoBulkAll parts + 1
  | .iface _ d => uptoBulk d + 1
  | .map entries => uptoBulkEntries entries + 1
  | .held _ => 1
def uptoBulkAll {H : Type} : List (DataW H) → Nat
  | [] => 0
  | d :: r => uptoBulk d + uptoBulkAll r
def uptoBulkEntries {H : Type} : List (Lit × DataW H) → Nat
  | [] => 0
  | x :: r => uptoBulkEntry x + uptoBulkEntries r
def uptoBulkEntry {H : Type} : Lit × DataW H → Nat
  | (.string bytes, d) => bytes.length + uptoBulk d + 1
  | (_, d) => uptoBulk d + 1
 end
def uptoSmall : (H : Type) → List (DataW H) → Bool := fun _ ds => decide (uptoBulkAll ds ≤ 1048576)
def OpenSpec.upto (s : _root_.Go.ChangeSpec) : _root_.Go.OpenSpec := { _root_.Go.OpenSpec.ofChange s with cond := some uptoSmall }

/-- 'laws.FnPathCorners', WHERE WHAT IT READS IS OF BULK AT MOST 1048576: true; the input reads as it did. -/
def fnPathCornersUptoRow : OpenClaim := { program := "ytfmkedmhbmcbiaa", sum := "778ec87b28ad504d42fc0b1b9e5448673b19c4bdb44f5dfce40d73b55e73db1a", func := "loop.example/g01149/laws.FnPathCorners", spec := "fnPathCorners", plainKeys := false, apart := false, narrowed := true }
def FnPathCornersUptoSaid : Prop := fnPathCornersUptoRow.holds Try.pinned (OpenSpec.upto fnPathCornersSpec)

/-- 'laws.FnRivers', WHERE WHAT IT READS IS OF BULK AT MOST 1048576: true; the input reads as it did. -/
def fnRiversUptoRow : OpenClaim := { program := "ytfmkedmhbmcbiaa", sum := "778ec87b28ad504d42fc0b1b9e5448673b19c4bdb44f5dfce40d73b55e73db1a", func := "loop.example/g01149/laws.FnRivers", spec := "fnRivers", unfollowed := true, recurses := true, plainKeys := false, apart := false, narrowed := true }
def FnRiversUptoSaid : Prop := fnRiversUptoRow.holds Try.pinned (OpenSpec.upto fnRiversSpec)

/-- 'laws.FnTight', WHERE WHAT IT READS IS OF BULK AT MOST 1048576: true; the input reads as it did. -/
def fnTightUptoRow : OpenClaim := { program := "ytfmkedmhbmcbiaa", sum := "778ec87b28ad504d42fc0b1b9e5448673b19c4bdb44f5dfce40d73b55e73db1a", func := "loop.example/g01149/laws.FnTight", spec := "fnTight", unfollowed := true, recurses := true, plainKeys := false, apart := false, narrowed := true }
def FnTightUptoSaid : Prop := fnTightUptoRow.holds Try.pinned (OpenSpec.upto fnTightSpec)

/-- 'laws.FnShifted', WHERE WHAT IT READS IS OF BULK AT MOST 1048576: true; the input reads as it did. -/
def fnShiftedUptoRow : OpenClaim := { program := "ytfmkedmhbmcbiaa", sum := "778ec87b28ad504d42fc0b1b9e5448673b19c4bdb44f5dfce40d73b55e73db1a", func := "loop.example/g01149/laws.FnShifted", spec := "fnShifted", unfollowed := true, recurses := true, plainKeys := false, apart := false, narrowed := true }
def FnShiftedUptoSaid : Prop := fnShiftedUptoRow.holds Try.pinned (OpenSpec.upto fnShiftedSpec)

/-- 'laws.FnExactSortPoints', WHERE WHAT IT READS IS OF BULK AT MOST 1048576: true; the input reads as it did. -/
def fnExactSortPointsUptoRow : OpenClaim := { program := "ytfmkedmhbmcbiaa", sum := "778ec87b28ad504d42fc0b1b9e5448673b19c4bdb44f5dfce40d73b55e73db1a", func := "loop.example/g01149/laws.FnExactSortPoints", spec := "fnExactSortPoints", unfollowed := true, recurses := true, plainKeys := false, apart := false, narrowed := true }
def FnExactSortPointsUptoSaid : Prop := fnExactSortPointsUptoRow.holds Try.pinned (OpenSpec.upto fnExactSortPointsSpec)

/-- 'laws.FnExactPathThrough', WHERE WHAT IT READS IS OF BULK AT MOST 1048576: true; the input reads as it did. -/
def fnExactPathThroughUptoRow : OpenClaim := { program := "ytfmkedmhbmcbiaa", sum := "778ec87b28ad504d42fc0b1b9e5448673b19c4bdb44f5dfce40d73b55e73db1a", func := "loop.example/g01149/laws.FnExactPathThrough", spec := "fnExactPathThrough", plainKeys := false, apart := false, narrowed := true }
def FnExactPathThroughUptoSaid : Prop := fnExactPathThroughUptoRow.holds Try.pinned (OpenSpec.upto fnExactPathThroughSpec)

/-- 'laws.FnExactValidRiver', WHERE WHAT IT READS IS OF BULK AT MOST 1048576: true; the input reads as it did. -/
def fnExactValidRiverUptoRow : OpenClaim := { program := "ytfmkedmhbmcbiaa", sum := "778ec87b28ad504d42fc0b1b9e5448673b19c4bdb44f5dfce40d73b55e73db1a", func := "loop.example/g01149/laws.FnExactValidRiver", spec := "fnExactValidRiver", plainKeys := false, apart := false, narrowed := true }
def FnExactValidRiverUptoSaid : Prop := fnExactValidRiverUptoRow.holds Try.pinned (OpenSpec.upto fnExactValidRiverSpec)

/-- 'laws.FnExactFitsRiver', WHERE WHAT IT READS IS OF BULK AT MOST 1048576: true; the input reads as it did. -/
def fnExactFitsRiverUptoRow : OpenClaim := { program := "ytfmkedmhbmcbiaa", sum := "778ec87b28ad504d42fc0b1b9e5448673b19c4bdb44f5dfce40d73b55e73db1a", func := "loop.example/g01149/laws.FnExactFitsRiver", spec := "fnExactFitsRiver", unfollowed := true, recurses := true, plainKeys := false, apart := false, narrowed := true }
def FnExactFitsRiverUptoSaid : Prop := fnExactFitsRiverUptoRow.holds Try.pinned (OpenSpec.upto fnExactFitsRiverSpec)

/-- 'laws.FnExactLeastTracks', WHERE WHAT IT READS IS OF BULK AT MOST 1048576: true; the input reads as it did. -/
def fnExactLeastTracksUptoRow : OpenClaim := { program := "ytfmkedmhbmcbiaa", sum := "778ec87b28ad504d42fc0b1b9e5448673b19c4bdb44f5dfce40d73b55e73db1a", func := "loop.example/g01149/laws.FnExactLeastTracks", spec := "fnExactLeastTracks", unfollowed := true, recurses := true, plainKeys := false, apart := false, narrowed := true }
def FnExactLeastTracksUptoSaid : Prop := fnExactLeastTracksUptoRow.holds Try.pinned (OpenSpec.upto fnExactLeastTracksSpec)

/-- 'laws.FnExactRiverWire', WHERE WHAT IT READS IS OF BULK AT MOST 1048576: true; the input reads as it did. -/
def fnExactRiverWireUptoRow : OpenClaim := { program := "ytfmkedmhbmcbiaa", sum := "778ec87b28ad504d42fc0b1b9e5448673b19c4bdb44f5dfce40d73b55e73db1a", func := "loop.example/g01149/laws.FnExactRiverWire", spec := "fnExactRiverWire", unfollowed := true, recurses := true, plainKeys := false, apart := false, narrowed := true }
def FnExactRiverWireUptoSaid : Prop := fnExactRiverWireUptoRow.holds Try.pinned (OpenSpec.upto fnExactRiverWireSpec)

/-- 'laws.FnExactRiverLength', WHERE WHAT IT READS IS OF BULK AT MOST 1048576: true; the input reads as it did. -/
def fnExactRiverLengthUptoRow : OpenClaim := { program := "ytfmkedmhbmcbiaa", sum := "778ec87b28ad504d42fc0b1b9e5448673b19c4bdb44f5dfce40d73b55e73db1a", func := "loop.example/g01149/laws.FnExactRiverLength", spec := "fnExactRiverLength", unfollowed := true, recurses := true, plainKeys := false, apart := false, narrowed := true }
def FnExactRiverLengthUptoSaid : Prop := fnExactRiverLengthUptoRow.holds Try.pinned (OpenSpec.upto fnExactRiverLengthSpec)

/-- 'laws.FnExactRiverBends', WHERE WHAT IT READS IS OF BULK AT MOST 1048576: true; the input reads as it did. -/
def fnExactRiverBendsUptoRow : OpenClaim := { program := "ytfmkedmhbmcbiaa", sum := "778ec87b28ad504d42fc0b1b9e5448673b19c4bdb44f5dfce40d73b55e73db1a", func := "loop.example/g01149/laws.FnExactRiverBends", spec := "fnExactRiverBends", unfollowed := true, recurses := true, plainKeys := false, apart := false, narrowed := true }
def FnExactRiverBendsUptoSaid : Prop := fnExactRiverBendsUptoRow.holds Try.pinned (OpenSpec.upto fnExactRiverBendsSpec)

/-- 'laws.FnExactTightPins', WHERE WHAT IT READS IS OF BULK AT MOST 1048576: true; the input reads as it did. -/
def fnExactTightPinsUptoRow : OpenClaim := { program := "ytfmkedmhbmcbiaa", sum := "778ec87b28ad504d42fc0b1b9e5448673b19c4bdb44f5dfce40d73b55e73db1a", func := "loop.example/g01149/laws.FnExactTightPins", spec := "fnExactTightPins", unfollowed := true, recurses := true, plainKeys := false, apart := false, narrowed := true }
def FnExactTightPinsUptoSaid : Prop := fnExactTightPinsUptoRow.holds Try.pinned (OpenSpec.upto fnExactTightPinsSpec)

/-- 'laws.FnExactShiftRange', WHERE WHAT IT READS IS OF BULK AT MOST 1048576: true; the input reads as it did. -/
def fnExactShiftRangeUptoRow : OpenClaim := { program := "ytfmkedmhbmcbiaa", sum := "778ec87b28ad504d42fc0b1b9e5448673b19c4bdb44f5dfce40d73b55e73db1a", func := "loop.example/g01149/laws.FnExactShiftRange", spec := "fnExactShiftRange", plainKeys := false, apart := false, narrowed := true }
def FnExactShiftRangeUptoSaid : Prop := fnExactShiftRangeUptoRow.holds Try.pinned (OpenSpec.upto fnExactShiftRangeSpec)

/-- 'laws.FnExactBestShift', WHERE WHAT IT READS IS OF BULK AT MOST 1048576: true; the input reads as it did. -/
def fnExactBestShiftUptoRow : OpenClaim := { program := "ytfmkedmhbmcbiaa", sum := "778ec87b28ad504d42fc0b1b9e5448673b19c4bdb44f5dfce40d73b55e73db1a", func := "loop.example/g01149/laws.FnExactBestShift", spec := "fnExactBestShift", plainKeys := false, apart := false, narrowed := true }
def FnExactBestShiftUptoSaid : Prop := fnExactBestShiftUptoRow.holds Try.pinned (OpenSpec.upto fnExactBestShiftSpec)

/-- 'laws.FnExactAreApart', WHERE WHAT IT READS IS OF BULK AT MOST 1048576: true; the input reads as it did. -/
def fnExactAreApartUptoRow : OpenClaim := { program := "ytfmkedmhbmcbiaa", sum := "778ec87b28ad504d42fc0b1b9e5448673b19c4bdb44f5dfce40d73b55e73db1a", func := "loop.example/g01149/laws.FnExactAreApart", spec := "fnExactAreApart", plainKeys := false, apart := false, narrowed := true }
def FnExactAreApartUptoSaid : Prop := fnExactAreApartUptoRow.holds Try.pinned (OpenSpec.upto fnExactAreApartSpec)

end Rows
end Go.Proofs.Ytfmkedmhbmcbiaa
