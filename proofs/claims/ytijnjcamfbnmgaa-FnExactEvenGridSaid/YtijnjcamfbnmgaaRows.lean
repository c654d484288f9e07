/-
  No cell of these rows narrows 'for every input' (looked for: loops, veiled, ifaces, maps, wideKeys, modest, calm, conditions, laid).
  DERIVED. THE GIVEN ROWS OF THIS SEAT. 7 by the template 'for every input the law returns true; each argument reads behind the call as it read before'; 0 by the template 'total and deterministic' (their statements: YtijnjcamfbnmgaaTotals.lean).
  GIVEN WITH THE SEED: the statements are not yours to turn. If you find one false, say at which input.
  Laid BY PROGRAM, IN A SANDBOX (cutbox-rows.mjs): the forced cells as the released guide's own fill.sh prints them over the translation 9c9601ccb30f33d6… (all of the seat's roots in one cut). By AI agents, Wed Nov 11 2026. No macro, syntax, notation, axiom, sorry.
-/
import Derived.Test.YtijnjcamfbnmgaaChecked
import GoSem.Claim
import GoSem.ClaimJoined
import GoSem.ClaimMapViews
import Derived.JoinedTies
import Derived.KernelRfl
namespace Go.Proofs.Ytijnjcamfbnmgaa
/- THE CELL 'sum', in the pinned program and in every row, IS THE sha256 OF THE DUMP (.gsa) THAT YtijnjcamfbnmgaaProg.lean LOADS. Nothing in Lean hashes anything: it is a label: what it is worth is what the hold of that sum in a sandbox is worth. -/
noncomputable def Try.pinned : Pinned := { name := "ytijnjcamfbnmgaa", sum := "9c9601ccb30f33d6d846554d0a5098c8844848b612e7be1a7f320f7bff476dd9", checked := Try.checked }
namespace Rows
def none {H : Type} : Left H := { results := [], args := [] }

/-- 'laws.FnExactClockMerges': WHATEVER THE INPUT: true; the input reads as it did. -/
def fnExactClockMergesSpec : ChangeSpec := { name := "fnExactClockMerges", fn := fun _ => fun
  | [d1, d2] => { results := [.lit (.bool true)], args := [d1, d2] }
  | _ => none }
def fnExactClockMergesRow : OpenClaim := { program := "ytijnjcamfbnmgaa", sum := "9c9601ccb30f33d6d846554d0a5098c8844848b612e7be1a7f320f7bff476dd9", func := "loop.example/g01149/laws.FnExactClockMerges", spec := "fnExactClockMerges", inPlace := ["maps.clone"], unfollowed := true, recurses := true, apart := false }
def FnExactClockMergesSaid : Prop := fnExactClockMergesRow.holds Try.pinned (OpenSpec.ofChange fnExactClockMergesSpec)

/-- ITS FALSE NEIGHBOUR: 'it returns false'. Refute it at one input. -/
def fnExactClockMergesWrong : ChangeSpec := { name := "fnExactClockMerges", fn := fun _ => fun
  | [d1, d2] => { results := [.lit (.bool false)], args := [d1, d2] }
  | _ => none }
def FnExactClockMergesWrongFalsely : Prop := fnExactClockMergesRow.holds Try.pinned (OpenSpec.ofChange fnExactClockMergesWrong)

/-- 'laws.FnExactClockWires': WHATEVER THE INPUT: true; the input reads as it did. -/
def fnExactClockWiresSpec : ChangeSpec := { name := "fnExactClockWires", fn := fun _ => fun
  | [d1, d2] => { results := [.lit (.bool true)], args := [d1, d2] }
  | _ => none }
def fnExactClockWiresRow : OpenClaim := { program := "ytijnjcamfbnmgaa", sum := "9c9601ccb30f33d6d846554d0a5098c8844848b612e7be1a7f320f7bff476dd9", func := "loop.example/g01149/laws.FnExactClockWires", spec := "fnExactClockWires", inPlace := ["maps.clone"], unfollowed := true, recurses := true, apart := false }
def FnExactClockWiresSaid : Prop := fnExactClockWiresRow.holds Try.pinned (OpenSpec.ofChange fnExactClockWiresSpec)

/-- ITS FALSE NEIGHBOUR: 'it returns false'. Refute it at one input. -/
def fnExactClockWiresWrong : ChangeSpec := { name := "fnExactClockWires", fn := fun _ => fun
  | [d1, d2] => { results := [.lit (.bool false)], args := [d1, d2] }
  | _ => none }
def FnExactClockWiresWrongFalsely : Prop := fnExactClockWiresRow.holds Try.pinned (OpenSpec.ofChange fnExactClockWiresWrong)

/-- 'laws.FnExactClockPlaces': WHATEVER THE INPUT: true; the input reads as it did. -/
def fnExactClockPlacesSpec : ChangeSpec := { name := "fnExactClockPlaces", fn := fun _ => fun
  | [d1, d2] => { results := [.lit (.bool true)], args := [d1, d2] }
  | _ => none }
def fnExactClockPlacesRow : OpenClaim := { program := "ytijnjcamfbnmgaa", sum := "9c9601ccb30f33d6d846554d0a5098c8844848b612e7be1a7f320f7bff476dd9", func := "loop.example/g01149/laws.FnExactClockPlaces", spec := "fnExactClockPlaces", inPlace := ["maps.clone"], unfollowed := true, recurses := true, apart := false }
def FnExactClockPlacesSaid : Prop := fnExactClockPlacesRow.holds Try.pinned (OpenSpec.ofChange fnExactClockPlacesSpec)

/-- ITS FALSE NEIGHBOUR: 'it returns false'. Refute it at one input. -/
def fnExactClockPlacesWrong : ChangeSpec := { name := "fnExactClockPlaces", fn := fun _ => fun
  | [d1, d2] => { results := [.lit (.bool false)], args := [d1, d2] }
  | _ => none }
def FnExactClockPlacesWrongFalsely : Prop := fnExactClockPlacesRow.holds Try.pinned (OpenSpec.ofChange fnExactClockPlacesWrong)

/-- 'laws.FnExactSkewOf': WHATEVER THE INPUT: true; the input reads as it did. -/
def fnExactSkewOfSpec : ChangeSpec := { name := "fnExactSkewOf", fn := fun _ => fun
  | [d1, d2, d3] => { results := [.lit (.bool true)], args := [d1, d2, d3] }
  | _ => none }
def fnExactSkewOfRow : OpenClaim := { program := "ytijnjcamfbnmgaa", sum := "9c9601ccb30f33d6d846554d0a5098c8844848b612e7be1a7f320f7bff476dd9", func := "loop.example/g01149/laws.FnExactSkewOf", spec := "fnExactSkewOf", unfollowed := true, recurses := true, apart := false }
def FnExactSkewOfSaid : Prop := fnExactSkewOfRow.holds Try.pinned (OpenSpec.ofChange fnExactSkewOfSpec)

/-- ITS FALSE NEIGHBOUR: 'it returns false'. Refute it at one input. -/
def fnExactSkewOfWrong : ChangeSpec := { name := "fnExactSkewOf", fn := fun _ => fun
  | [d1, d2, d3] => { results := [.lit (.bool false)], args := [d1, d2, d3] }
  | _ => none }
def FnExactSkewOfWrongFalsely : Prop := fnExactSkewOfRow.holds Try.pinned (OpenSpec.ofChange fnExactSkewOfWrong)

/-- 'laws.FnExactValidGrid': WHATEVER THE INPUT: true; the input reads as it did. -/
def fnExactValidGridSpec : ChangeSpec := { name := "fnExactValidGrid", fn := fun _ => fun
  | [d] => { results := [.lit (.bool true)], args := [d] }
  | _ => none }
def fnExactValidGridRow : OpenClaim := { program := "ytijnjcamfbnmgaa", sum := "9c9601ccb30f33d6d846554d0a5098c8844848b612e7be1a7f320f7bff476dd9", func := "loop.example/g01149/laws.FnExactValidGrid", spec := "fnExactValidGrid", unfollowed := true, recurses := true, apart := false }
def FnExactValidGridSaid : Prop := fnExactValidGridRow.holds Try.pinned (OpenSpec.ofChange fnExactValidGridSpec)

/-- ITS FALSE NEIGHBOUR: 'it returns false'. Refute it at one input. -/
def fnExactValidGridWrong : ChangeSpec := { name := "fnExactValidGrid", fn := fun _ => fun
  | [d] => { results := [.lit (.bool false)], args := [d] }
  | _ => none }
def FnExactValidGridWrongFalsely : Prop := fnExactValidGridRow.holds Try.pinned (OpenSpec.ofChange fnExactValidGridWrong)

/-- 'laws.FnExactEvenGrid': WHATEVER THE INPUT: true; the input reads as it did. -/
def fnExactEvenGridSpec : ChangeSpec := { name := "fnExactEvenGrid", fn := fun _ => fun
  | [d1, d2, d3] => { results := [.lit (.bool true)], args := [d1, d2, d3] }
  | _ => none }
def fnExactEvenGridRow : OpenClaim := { program := "ytijnjcamfbnmgaa", sum := "9c9601ccb30f33d6d846554d0a5098c8844848b612e7be1a7f320f7bff476dd9", func := "loop.example/g01149/laws.FnExactEvenGrid", spec := "fnExactEvenGrid", unfollowed := true, recurses := true, apart := false }
def FnExactEvenGridSaid : Prop := fnExactEvenGridRow.holds Try.pinned (OpenSpec.ofChange fnExactEvenGridSpec)

/-- ITS FALSE NEIGHBOUR: 'it returns false'. Refute it at one input. -/
def fnExactEvenGridWrong : ChangeSpec := { name := "fnExactEvenGrid", fn := fun _ => fun
  | [d1, d2, d3] => { results := [.lit (.bool false)], args := [d1, d2, d3] }
  | _ => none }
def FnExactEvenGridWrongFalsely : Prop := fnExactEvenGridRow.holds Try.pinned (OpenSpec.ofChange fnExactEvenGridWrong)

/-- 'laws.FnExactIsNet': WHATEVER THE INPUT: true; the input reads as it did. -/
def fnExactIsNetSpec : ChangeSpec := { name := "fnExactIsNet", fn := fun _ => fun
  | [d1, d2] => { results := [.lit (.bool true)], args := [d1, d2] }
  | _ => none }
def fnExactIsNetRow : OpenClaim := { program := "ytijnjcamfbnmgaa", sum := "9c9601ccb30f33d6d846554d0a5098c8844848b612e7be1a7f320f7bff476dd9", func := "loop.example/g01149/laws.FnExactIsNet", spec := "fnExactIsNet", unfollowed := true, recurses := true, apart := false }
def FnExactIsNetSaid : Prop := fnExactIsNetRow.holds Try.pinned (OpenSpec.ofChange fnExactIsNetSpec)

/-- ITS FALSE NEIGHBOUR: 'it returns false'. Refute it at one input. -/
def fnExactIsNetWrong : ChangeSpec := { name := "fnExactIsNet", fn := fun _ => fun
  | [d1, d2] => { results := [.lit (.bool false)], args := [d1, d2] }
  | _ => none }
def FnExactIsNetWrongFalsely : Prop := fnExactIsNetRow.holds Try.pinned (OpenSpec.ofChange fnExactIsNetWrong)

/- THE SECOND FORM. 'bulk': how many values and letters a reading holds, each counted each time it is reached (what is shared counts as often as it is met; a slice's spare places count too). A statement '..UptoSaid' is the law's where the arguments, and the package variables that the reading takes, are together of bulk at most 1048576: NARROWER than '..Said'. Prove '..Said' where nothing that the law and all that it calls make is longer than what came in: it says more and counts as full. Else prove '..UptoSaid'. A law counts once. -/
mutual
def uptoBulk {H : Type} : DataW H → Nat
  | .lit (.string bytes) => bytes.length + 1
  | .lit _ => 1
  | .nil => 1
  | .ptr d => uptoBulk d + 1
  | .slice elems spare => uptoBulkAll elems + uptoBulkAll spare + 1
  | .agg parts => uptoBulkAll parts + 1
  | .iface _ d => uptoBulk d + 1
  | .map entries => uptoBulkEntries entries + 1
  | .held _ => 1
def uptoBulkAll {H : Type} : List (DataW H) → Nat
  | [] => 0
  | d :: r => uptoBulk d + uptoBulkAll r
def uptoBulkEntries {H : Type} : List (Lit × DataW H) → Nat
  | [] => 0
  | x :: r => uptoBulkEntry x + uptoBulkEntries r
def uptoBulkEntry {H : Type} : Lit × DataW H → Nat
  | (.string bytes, d) => bytes.length + uptoBulk d + 1
  | (_, d) => uptoBulk d + 1
 end
def uptoSmall : (H : Type) → List (DataW H) → Bool := fun _ ds => decide (uptoBulkAll ds ≤ 1048576)
def OpenSpec.upto (s : _root_.Go.ChangeSpec) : _root_.Go.OpenSpec := { _root_.Go.OpenSpec.ofChange s with cond := some uptoSmall }

/-- 'laws.FnExactClockMerges', WHERE WHAT IT READS IS OF BULK AT MOST 1048576: true; the input reads as it did. -/
def fnExactClockMergesUptoRow : OpenClaim := { program := "ytijnjcamfbnmgaa", sum := "9c9601ccb30f33d6d846554d0a5098c8844848b612e7be1a7f320f7bff476dd9", func := "loop.example/g01149/laws.FnExactClockMerges", spec := "fnExactClockMerges", inPlace := ["maps.clone"], unfollowed := true, recurses := true, apart := false, narrowed := true }
def FnExactClockMergesUptoSaid : Prop := fnExactClockMergesUptoRow.holds Try.pinned (OpenSpec.upto fnExactClockMergesSpec)

/-- 'laws.FnExactClockWires', WHERE WHAT IT READS IS OF BULK AT MOST 1048576: true; the input reads as it did. -/
def fnExactClockWiresUptoRow : OpenClaim := { program := "ytijnjcamfbnmgaa", sum := "9c9601ccb30f33d6d846554d0a5098c8844848b612e7be1a7f320f7bff476dd9", func := "loop.example/g01149/laws.FnExactClockWires", spec := "fnExactClockWires", inPlace := ["maps.clone"], unfollowed := true, recurses := true, apart := false, narrowed := true }
def FnExactClockWiresUptoSaid : Prop := fnExactClockWiresUptoRow.holds Try.pinned (OpenSpec.upto fnExactClockWiresSpec)

/-- 'laws.FnExactClockPlaces', WHERE WHAT IT READS IS OF BULK AT MOST 1048576: true; the input reads as it did. -/
def fnExactClockPlacesUptoRow : OpenClaim := { program := "ytijnjcamfbnmgaa", sum := "9c9601ccb30f33d6d846554d0a5098c8844848b612e7be1a7f320f7bff476dd9", func := "loop.example/g01149/laws.FnExactClockPlaces", spec := "fnExactClockPlaces", inPlace := ["maps.clone"], unfollowed := true, recurses := true, apart := false, narrowed := true }
def FnExactClockPlacesUptoSaid : Prop := fnExactClockPlacesUptoRow.holds Try.pinned (OpenSpec.upto fnExactClockPlacesSpec)

/-- 'laws.FnExactSkewOf', WHERE WHAT IT READS IS OF BULK AT MOST 1048576: true; the input reads as it did. -/
def fnExactSkewOfUptoRow : OpenClaim := { program := "ytijnjcamfbnmgaa", sum := "9c9601ccb30f33d6d846554d0a5098c8844848b612e7be1a7f320f7bff476dd9", func := "loop.example/g01149/laws.FnExactSkewOf", spec := "fnExactSkewOf", unfollowed := true, recurses := true, apart := false, narrowed := true }
def FnExactSkewOfUptoSaid : Prop := fnExactSkewOfUptoRow.holds Try.pinned (OpenSpec.upto fnExactSkewOfSpec)

/-- 'laws.FnExactValidGrid', WHERE WHAT IT READS IS OF BULK AT MOST 1048576: true; the input reads as it did. -/
def fnExactValidGridUptoRow : OpenClaim := { program := "ytijnjcamfbnmgaa", sum := "9c9601ccb30f33d6d846554d0a5098c8844848b612e7be1a7f320f7bff476dd9", func := "loop.example/g01149/laws.FnExactValidGrid", spec := "fnExactValidGrid", unfollowed := true, recurses := true, apart := false, narrowed := true }
def FnExactValidGridUptoSaid : Prop := fnExactValidGridUptoRow.holds Try.pinned (OpenSpec.upto fnExactValidGridSpec)

/-- 'laws.FnExactEvenGrid', WHERE WHAT IT READS IS OF BULK AT MOST 1048576: true; the input reads as it did. -/
def fnExactEvenGridUptoRow : OpenClaim := { program := "ytijnjcamfbnmgaa", sum := "9c9601ccb30f33d6d846554d0a5098c8844848b612e7be1a7f320f7bff476dd9", func := "loop.example/g01149/laws.FnExactEvenGrid", spec := "fnExactEvenGrid", unfollowed := true, recurses := true, apart := false, narrowed := true }
def FnExactEvenGridUptoSaid : Prop := fnExactEvenGridUptoRow.holds Try.pinned (OpenSpec.upto fnExactEvenGridSpec)

/-- 'laws.FnExactIsNet', WHERE WHAT IT READS IS OF BULK AT MOST 1048576: true; the input reads as it did. -/
def fnExactIsNetUptoRow : OpenClaim := { program := "ytijnjcamfbnmgaa", sum := "9c9601ccb30f33d6d846554d0a5098c8844848b612e7be1a7f320f7bff476dd9", func := "loop.example/g01149/laws.FnExactIsNet", spec := "fnExactIsNet", unfollowed := true, recurses := true, apart := false, narrowed := true }
def FnExactIsNetUptoSaid : Prop := fnExactIsNetUptoRow.holds Try.pinned (OpenSpec.upto fnExactIsNetSpec)

end Rows
end Go.Proofs.Ytijnjcamfbnmgaa
