/-
  No cell of these rows narrows 'for every input' (looked for: loops, veiled, ifaces, maps, wideKeys, modest, calm, conditions, laid).
  DERIVED. THE GIVEN ROWS OF THIS SEAT. 7 by the template 'for every input the law returns true; each argument reads behind the call as it read before'; 0 by the template 'total and deterministic' (their statements: YtepamhdopmfkfaaTotals.lean).
  GIVEN WITH THE SEED: the statements are not yours to turn. If you find one false, say at which input.
  Laid BY PROGRAM, IN A SANDBOX (cutbox-rows.mjs): the forced cells as the released guide's own fill.sh prints them over the translation 18c08ac11b3af977… (all of the seat's roots in one cut). By AI agents, Wed Nov 11 2026. No macro, syntax, notation, axiom, sorry.
-/
import Derived.Test.YtepamhdopmfkfaaChecked
import GoSem.Claim
import GoSem.ClaimJoined
import GoSem.ClaimMapViews
import Derived.JoinedTies
import Derived.KernelRfl
namespace Go.Proofs.Ytepamhdopmfkfaa
/- THE CELL 'sum', in the pinned program and in every row, IS THE sha256 OF THE DUMP (.gsa) THAT YtepamhdopmfkfaaProg.lean LOADS. Nothing in Lean hashes anything: it is a label: what it is worth is what the hold of that sum in a sandbox is worth. -/
noncomputable def Try.pinned : Pinned := { name := "ytepamhdopmfkfaa", sum := "18c08ac11b3af9776b70bc128ee8a00177536c8ec8238442ef9fc3ff551a1e6d", checked := Try.checked }
namespace Rows
def none {H : Type} : Left H := { results := [], args := [] }

/-- 'laws.FnExactArePins': WHATEVER THE INPUT: true; the input reads as it did. -/
def fnExactArePinsSpec : ChangeSpec := { name := "fnExactArePins", fn := fun _ => fun
  | [d] => { results := [.lit (.bool true)], args := [d] }
  | _ => none }
def fnExactArePinsRow : OpenClaim := { program := "ytepamhdopmfkfaa", sum := "18c08ac11b3af9776b70bc128ee8a00177536c8ec8238442ef9fc3ff551a1e6d", func := "loop.example/g01149/laws.FnExactArePins", spec := "fnExactArePins", plainKeys := false, apart := false }
def FnExactArePinsSaid : Prop := fnExactArePinsRow.holds Try.pinned (OpenSpec.ofChange fnExactArePinsSpec)

/-- ITS FALSE NEIGHBOUR: 'it returns false'. Refute it at one input. -/
def fnExactArePinsWrong : ChangeSpec := { name := "fnExactArePins", fn := fun _ => fun
  | [d] => { results := [.lit (.bool false)], args := [d] }
  | _ => none }
def FnExactArePinsWrongFalsely : Prop := fnExactArePinsRow.holds Try.pinned (OpenSpec.ofChange fnExactArePinsWrong)

/-- 'laws.FnExactBoxBound': WHATEVER THE INPUT: true; the input reads as it did. -/
def fnExactBoxBoundSpec : ChangeSpec := { name := "fnExactBoxBound", fn := fun _ => fun
  | [d] => { results := [.lit (.bool true)], args := [d] }
  | _ => none }
def fnExactBoxBoundRow : OpenClaim := { program := "ytepamhdopmfkfaa", sum := "18c08ac11b3af9776b70bc128ee8a00177536c8ec8238442ef9fc3ff551a1e6d", func := "loop.example/g01149/laws.FnExactBoxBound", spec := "fnExactBoxBound", unfollowed := true, recurses := true, plainKeys := false, apart := false }
def FnExactBoxBoundSaid : Prop := fnExactBoxBoundRow.holds Try.pinned (OpenSpec.ofChange fnExactBoxBoundSpec)

/-- ITS FALSE NEIGHBOUR: 'it returns false'. Refute it at one input. -/
def fnExactBoxBoundWrong : ChangeSpec := { name := "fnExactBoxBound", fn := fun _ => fun
  | [d] => { results := [.lit (.bool false)], args := [d] }
  | _ => none }
def FnExactBoxBoundWrongFalsely : Prop := fnExactBoxBoundRow.holds Try.pinned (OpenSpec.ofChange fnExactBoxBoundWrong)

/-- 'laws.FnExactMedianPoint': WHATEVER THE INPUT: true; the input reads as it did. -/
def fnExactMedianPointSpec : ChangeSpec := { name := "fnExactMedianPoint", fn := fun _ => fun
  | [d1, d2, d3] => { results := [.lit (.bool true)], args := [d1, d2, d3] }
  | _ => none }
def fnExactMedianPointRow : OpenClaim := { program := "ytepamhdopmfkfaa", sum := "18c08ac11b3af9776b70bc128ee8a00177536c8ec8238442ef9fc3ff551a1e6d", func := "loop.example/g01149/laws.FnExactMedianPoint", spec := "fnExactMedianPoint", unfollowed := true, recurses := true, plainKeys := false, apart := false }
def FnExactMedianPointSaid : Prop := fnExactMedianPointRow.holds Try.pinned (OpenSpec.ofChange fnExactMedianPointSpec)

/-- ITS FALSE NEIGHBOUR: 'it returns false'. Refute it at one input. -/
def fnExactMedianPointWrong : ChangeSpec := { name := "fnExactMedianPoint", fn := fun _ => fun
  | [d1, d2, d3] => { results := [.lit (.bool false)], args := [d1, d2, d3] }
  | _ => none }
def FnExactMedianPointWrongFalsely : Prop := fnExactMedianPointRow.holds Try.pinned (OpenSpec.ofChange fnExactMedianPointWrong)

/-- 'laws.FnExactHananPoints': WHATEVER THE INPUT: true; the input reads as it did. -/
def fnExactHananPointsSpec : ChangeSpec := { name := "fnExactHananPoints", fn := fun _ => fun
  | [d] => { results := [.lit (.bool true)], args := [d] }
  | _ => none }
def fnExactHananPointsRow : OpenClaim := { program := "ytepamhdopmfkfaa", sum := "18c08ac11b3af9776b70bc128ee8a00177536c8ec8238442ef9fc3ff551a1e6d", func := "loop.example/g01149/laws.FnExactHananPoints", spec := "fnExactHananPoints", unfollowed := true, recurses := true, plainKeys := false, apart := false }
def FnExactHananPointsSaid : Prop := fnExactHananPointsRow.holds Try.pinned (OpenSpec.ofChange fnExactHananPointsSpec)

/-- ITS FALSE NEIGHBOUR: 'it returns false'. Refute it at one input. -/
def fnExactHananPointsWrong : ChangeSpec := { name := "fnExactHananPoints", fn := fun _ => fun
  | [d] => { results := [.lit (.bool false)], args := [d] }
  | _ => none }
def FnExactHananPointsWrongFalsely : Prop := fnExactHananPointsRow.holds Try.pinned (OpenSpec.ofChange fnExactHananPointsWrong)

/-- 'laws.FnExactStarLength': WHATEVER THE INPUT: true; the input reads as it did. -/
def fnExactStarLengthSpec : ChangeSpec := { name := "fnExactStarLength", fn := fun _ => fun
  | [d1, d2] => { results := [.lit (.bool true)], args := [d1, d2] }
  | _ => none }
def fnExactStarLengthRow : OpenClaim := { program := "ytepamhdopmfkfaa", sum := "18c08ac11b3af9776b70bc128ee8a00177536c8ec8238442ef9fc3ff551a1e6d", func := "loop.example/g01149/laws.FnExactStarLength", spec := "fnExactStarLength", unfollowed := true, recurses := true, plainKeys := false, apart := false }
def FnExactStarLengthSaid : Prop := fnExactStarLengthRow.holds Try.pinned (OpenSpec.ofChange fnExactStarLengthSpec)

/-- ITS FALSE NEIGHBOUR: 'it returns false'. Refute it at one input. -/
def fnExactStarLengthWrong : ChangeSpec := { name := "fnExactStarLength", fn := fun _ => fun
  | [d1, d2] => { results := [.lit (.bool false)], args := [d1, d2] }
  | _ => none }
def FnExactStarLengthWrongFalsely : Prop := fnExactStarLengthRow.holds Try.pinned (OpenSpec.ofChange fnExactStarLengthWrong)

/-- 'laws.FnExactBestRoot': WHATEVER THE INPUT: true; the input reads as it did. -/
def fnExactBestRootSpec : ChangeSpec := { name := "fnExactBestRoot", fn := fun _ => fun
  | [d] => { results := [.lit (.bool true)], args := [d] }
  | _ => none }
def fnExactBestRootRow : OpenClaim := { program := "ytepamhdopmfkfaa", sum := "18c08ac11b3af9776b70bc128ee8a00177536c8ec8238442ef9fc3ff551a1e6d", func := "loop.example/g01149/laws.FnExactBestRoot", spec := "fnExactBestRoot", unfollowed := true, recurses := true, plainKeys := false, apart := false }
def FnExactBestRootSaid : Prop := fnExactBestRootRow.holds Try.pinned (OpenSpec.ofChange fnExactBestRootSpec)

/-- ITS FALSE NEIGHBOUR: 'it returns false'. Refute it at one input. -/
def fnExactBestRootWrong : ChangeSpec := { name := "fnExactBestRoot", fn := fun _ => fun
  | [d] => { results := [.lit (.bool false)], args := [d] }
  | _ => none }
def FnExactBestRootWrongFalsely : Prop := fnExactBestRootRow.holds Try.pinned (OpenSpec.ofChange fnExactBestRootWrong)

/-- 'laws.FnExactWallAround': WHATEVER THE INPUT: true; the input reads as it did. -/
def fnExactWallAroundSpec : ChangeSpec := { name := "fnExactWallAround", fn := fun _ => fun
  | [d1, d2] => { results := [.lit (.bool true)], args := [d1, d2] }
  | _ => none }
def fnExactWallAroundRow : OpenClaim := { program := "ytepamhdopmfkfaa", sum := "18c08ac11b3af9776b70bc128ee8a00177536c8ec8238442ef9fc3ff551a1e6d", func := "loop.example/g01149/laws.FnExactWallAround", spec := "fnExactWallAround", unfollowed := true, recurses := true, plainKeys := false, apart := false }
def FnExactWallAroundSaid : Prop := fnExactWallAroundRow.holds Try.pinned (OpenSpec.ofChange fnExactWallAroundSpec)

/-- ITS FALSE NEIGHBOUR: 'it returns false'. Refute it at one input. -/
def fnExactWallAroundWrong : ChangeSpec := { name := "fnExactWallAround", fn := fun _ => fun
  | [d1, d2] => { results := [.lit (.bool false)], args := [d1, d2] }
  | _ => none }
def FnExactWallAroundWrongFalsely : Prop := fnExactWallAroundRow.holds Try.pinned (OpenSpec.ofChange fnExactWallAroundWrong)

/- THE SECOND FORM. 'bulk': how many values and letters a reading holds, each counted each time it is reached (what is shared counts as often as it is met; a slice's spare places count too). A statement '..UptoSaid' is the law's where the arguments, and the package variables that the reading takes, are together of bulk at most 1048576: NARROWER than '..Said'. Prove '..Said' where nothing that the law and all that it calls make is longer than what came in: it says more and counts as full. Else prove '..UptoSaid'. A law counts once. -/
mutual
def uptoBulk {H : Type} : DataW H → Nat
  | .lit (.string bytes) => bytes.length + 1
  | .lit _ => 1
  | .nil => 1
  | .ptr d => uptoBulk d + 1
  | .slice elems spare => uptoBulkAll elems + uptoBulkAll spare + 1
  | .agg parts => uptoBulkAll parts + 1
  | .iface _ d => uptoBulk d + 1
  | .map entries => uptoBulkEntries entries + 1
  | .held _ => 1
def uptoBulkAll {H : Type} : List (DataW H) → Nat
  | [] => 0
  | d :: r => uptoBulk d + uptoBulkAll r
def uptoBulkEntries {H : Type} : List (Lit × DataW H) → Nat
  | [] => 0
  | x :: r => uptoBulkEntry x + uptoBulkEntries r
def uptoBulkEntry {H : Type} : Lit × DataW H → Nat
  | (.string bytes, d) => bytes.length + uptoBulk d + 1
  | (_, d) => uptoBulk d + 1
 end
def uptoSmall : (H : Type) → List (DataW H) → Bool := fun _ ds => decide (uptoBulkAll ds ≤ 1048576)
def OpenSpec.upto (s : _root_.Go.ChangeSpec) : _root_.Go.OpenSpec := { _root_.Go.OpenSpec.ofChange s with cond := some uptoSmall }

/-- 'laws.FnExactArePins', WHERE WHAT IT READS IS OF BULK AT MOST 1048576: true; the input reads as it did. -/
def fnExactArePinsUptoRow : OpenClaim := { program := "ytepamhdopmfkfaa", sum := "18c08ac11b3af9776b70bc128ee8a00177536c8ec8238442ef9fc3ff551a1e6d", func := "loop.example/g01149/laws.FnExactArePins", spec := "fnExactArePins", plainKeys := false, apart := false, narrowed := true }
def FnExactArePinsUptoSaid : Prop := fnExactArePinsUptoRow.holds Try.pinned (OpenSpec.upto fnExactArePinsSpec)

/-- 'laws.FnExactBoxBound', WHERE WHAT IT READS IS OF BULK AT MOST 1048576: true; the input reads as it did. -/
def fnExactBoxBoundUptoRow : OpenClaim := { program := "ytepamhdopmfkfaa", sum := "18c08ac11b3af9776b70bc128ee8a00177536c8ec8238442ef9fc3ff551a1e6d", func := "loop.example/g01149/laws.FnExactBoxBound", spec := "fnExactBoxBound", unfollowed := true, recurses := true, plainKeys := false, apart := false, narrowed := true }
def FnExactBoxBoundUptoSaid : Prop := fnExactBoxBoundUptoRow.holds Try.pinned (OpenSpec.upto fnExactBoxBoundSpec)

/-- 'laws.FnExactMedianPoint', WHERE WHAT IT READS IS OF BULK AT MOST 1048576: true; the input reads as it did. -/
def fnExactMedianPointUptoRow : OpenClaim := { program := "ytepamhdopmfkfaa", sum := "18c08ac11b3af9776b70bc128ee8a00177536c8ec8238442ef9fc3ff551a1e6d", func := "loop.example/g01149/laws.FnExactMedianPoint", spec := "fnExactMedianPoint", unfollowed := true, recurses := true, plainKeys := false, apart := false, narrowed := true }
def FnExactMedianPointUptoSaid : Prop := fnExactMedianPointUptoRow.holds Try.pinned (OpenSpec.upto fnExactMedianPointSpec)

/-- 'laws.FnExactHananPoints', WHERE WHAT IT READS IS OF BULK AT MOST 1048576: true; the input reads as it did. -/
def fnExactHananPointsUptoRow : OpenClaim := { program := "ytepamhdopmfkfaa", sum := "18c08ac11b3af9776b70bc128ee8a00177536c8ec8238442ef9fc3ff551a1e6d", func := "loop.example/g01149/laws.FnExactHananPoints", spec := "fnExactHananPoints", unfollowed := true, recurses := true, plainKeys := false, apart := false, narrowed := true }
def FnExactHananPointsUptoSaid : Prop := fnExactHananPointsUptoRow.holds Try.pinned (OpenSpec.upto fnExactHananPointsSpec)

/-- 'laws.FnExactStarLength', WHERE WHAT IT READS IS OF BULK AT MOST 1048576: true; the input reads as it did. -/
def fnExactStarLengthUptoRow : OpenClaim := { program := "ytepamhdopmfkfaa", sum := "18c08ac11b3af9776b70bc128ee8a00177536c8ec8238442ef9fc3ff551a1e6d", func := "loop.example/g01149/laws.FnExactStarLength", spec := "fnExactStarLength", unfollowed := true, recurses := true, plainKeys := false, apart := false, narrowed := true }
def FnExactStarLengthUptoSaid : Prop := fnExactStarLengthUptoRow.holds Try.pinned (OpenSpec.upto fnExactStarLengthSpec)

/-- 'laws.FnExactBestRoot', WHERE WHAT IT READS IS OF BULK AT MOST 1048576: true; the input reads as it did. -/
def fnExactBestRootUptoRow : OpenClaim := { program := "ytepamhdopmfkfaa", sum := "18c08ac11b3af9776b70bc128ee8a00177536c8ec8238442ef9fc3ff551a1e6d", func := "loop.example/g01149/laws.FnExactBestRoot", spec := "fnExactBestRoot", unfollowed := true, recurses := true, plainKeys := false, apart := false, narrowed := true }
def FnExactBestRootUptoSaid : Prop := fnExactBestRootUptoRow.holds Try.pinned (OpenSpec.upto fnExactBestRootSpec)

/-- 'laws.FnExactWallAround', WHERE WHAT IT READS IS OF BULK AT MOST 1048576: true; the input reads as it did. -/
def fnExactWallAroundUptoRow : OpenClaim := { program := "ytepamhdopmfkfaa", sum := "18c08ac11b3af9776b70bc128ee8a00177536c8ec8238442ef9fc3ff551a1e6d", func := "loop.example/g01149/laws.FnExactWallAround", spec := "fnExactWallAround", unfollowed := true, recurses := true, plainKeys := false, apart := false, narrowed := true }
def FnExactWallAroundUptoSaid : Prop := fnExactWallAroundUptoRow.holds Try.pinned (OpenSpec.upto fnExactWallAroundSpec)

end Rows
end Go.Proofs.Ytepamhdopmfkfaa
