/-
  No cell of these rows narrows 'for every input' (looked for: loops, veiled, ifaces, maps, wideKeys, modest, calm, conditions, laid).
  DERIVED. THE GIVEN ROWS OF THIS SEAT. 7 by the template 'for every input the law returns true; each argument reads behind the call as it read before'; 0 by the template 'total and deterministic' (their statements: YtkkeodceihjbgaaTotals.lean).
  GIVEN WITH THE SEED: the statements are not yours to turn. If you find one false, say at which input.
  Laid BY PROGRAM, IN A SANDBOX (cutbox-rows.mjs): the forced cells as the released guide's own fill.sh prints them over the translation ddca71a3978122d4… (all of the seat's roots in one cut). By AI agents, Wed Nov 11 2026. No macro, syntax, notation, axiom, sorry.
-/
import Derived.Test.YtkkeodceihjbgaaChecked
import GoSem.Claim
import GoSem.ClaimJoined
import GoSem.ClaimMapViews
import Derived.JoinedTies
import Derived.KernelRfl
namespace Go.Proofs.Ytkkeodceihjbgaa
/- THE CELL 'sum', in the pinned program and in every row, IS THE sha256 OF THE DUMP (.gsa) THAT YtkkeodceihjbgaaProg.lean LOADS. Nothing in Lean hashes anything: it is a label: what it is worth is what the hold of that sum in a sandbox is worth. -/
noncomputable def Try.pinned : Pinned := { name := "ytkkeodceihjbgaa", sum := "ddca71a3978122d4152b1859f811d1551192f4af0f2da0794e21d2f4448e815b", checked := Try.checked }
namespace Rows
def none {H : Type} : Left H := { results := [], args := [] }

/-- 'laws.FnExactValidRegion': WHATEVER THE INPUT: true; the input reads as it did. -/
def fnExactValidRegionSpec : ChangeSpec := { name := "fnExactValidRegion", fn := fun _ => fun
  | [d] => { results := [.lit (.bool true)], args := [d] }
  | _ => none }
def fnExactValidRegionRow : OpenClaim := { program := "ytkkeodceihjbgaa", sum := "ddca71a3978122d4152b1859f811d1551192f4af0f2da0794e21d2f4448e815b", func := "loop.example/g01149/laws.FnExactValidRegion", spec := "fnExactValidRegion", apart := false }
def FnExactValidRegionSaid : Prop := fnExactValidRegionRow.holds Try.pinned (OpenSpec.ofChange fnExactValidRegionSpec)

/-- ITS FALSE NEIGHBOUR: 'it returns false'. Refute it at one input. -/
def fnExactValidRegionWrong : ChangeSpec := { name := "fnExactValidRegion", fn := fun _ => fun
  | [d] => { results := [.lit (.bool false)], args := [d] }
  | _ => none }
def FnExactValidRegionWrongFalsely : Prop := fnExactValidRegionRow.holds Try.pinned (OpenSpec.ofChange fnExactValidRegionWrong)

/-- 'laws.FnExactLeafRegion': WHATEVER THE INPUT: true; the input reads as it did. -/
def fnExactLeafRegionSpec : ChangeSpec := { name := "fnExactLeafRegion", fn := fun _ => fun
  | [d] => { results := [.lit (.bool true)], args := [d] }
  | _ => none }
def fnExactLeafRegionRow : OpenClaim := { program := "ytkkeodceihjbgaa", sum := "ddca71a3978122d4152b1859f811d1551192f4af0f2da0794e21d2f4448e815b", func := "loop.example/g01149/laws.FnExactLeafRegion", spec := "fnExactLeafRegion", unfollowed := true, recurses := true, apart := false }
def FnExactLeafRegionSaid : Prop := fnExactLeafRegionRow.holds Try.pinned (OpenSpec.ofChange fnExactLeafRegionSpec)

/-- ITS FALSE NEIGHBOUR: 'it returns false'. Refute it at one input. -/
def fnExactLeafRegionWrong : ChangeSpec := { name := "fnExactLeafRegion", fn := fun _ => fun
  | [d] => { results := [.lit (.bool false)], args := [d] }
  | _ => none }
def FnExactLeafRegionWrongFalsely : Prop := fnExactLeafRegionRow.holds Try.pinned (OpenSpec.ofChange fnExactLeafRegionWrong)

/-- 'laws.FnExactGrowRegion': WHATEVER THE INPUT: true; the input reads as it did. -/
def fnExactGrowRegionSpec : ChangeSpec := { name := "fnExactGrowRegion", fn := fun _ => fun
  | [d1, d2] => { results := [.lit (.bool true)], args := [d1, d2] }
  | _ => none }
def fnExactGrowRegionRow : OpenClaim := { program := "ytkkeodceihjbgaa", sum := "ddca71a3978122d4152b1859f811d1551192f4af0f2da0794e21d2f4448e815b", func := "loop.example/g01149/laws.FnExactGrowRegion", spec := "fnExactGrowRegion", unfollowed := true, recurses := true, apart := false }
def FnExactGrowRegionSaid : Prop := fnExactGrowRegionRow.holds Try.pinned (OpenSpec.ofChange fnExactGrowRegionSpec)

/-- ITS FALSE NEIGHBOUR: 'it returns false'. Refute it at one input. -/
def fnExactGrowRegionWrong : ChangeSpec := { name := "fnExactGrowRegion", fn := fun _ => fun
  | [d1, d2] => { results := [.lit (.bool false)], args := [d1, d2] }
  | _ => none }
def FnExactGrowRegionWrongFalsely : Prop := fnExactGrowRegionRow.holds Try.pinned (OpenSpec.ofChange fnExactGrowRegionWrong)

/-- 'laws.FnExactMeetRegions': WHATEVER THE INPUT: true; the input reads as it did. -/
def fnExactMeetRegionsSpec : ChangeSpec := { name := "fnExactMeetRegions", fn := fun _ => fun
  | [d1, d2] => { results := [.lit (.bool true)], args := [d1, d2] }
  | _ => none }
def fnExactMeetRegionsRow : OpenClaim := { program := "ytkkeodceihjbgaa", sum := "ddca71a3978122d4152b1859f811d1551192f4af0f2da0794e21d2f4448e815b", func := "loop.example/g01149/laws.FnExactMeetRegions", spec := "fnExactMeetRegions", unfollowed := true, recurses := true, apart := false }
def FnExactMeetRegionsSaid : Prop := fnExactMeetRegionsRow.holds Try.pinned (OpenSpec.ofChange fnExactMeetRegionsSpec)

/-- ITS FALSE NEIGHBOUR: 'it returns false'. Refute it at one input. -/
def fnExactMeetRegionsWrong : ChangeSpec := { name := "fnExactMeetRegions", fn := fun _ => fun
  | [d1, d2] => { results := [.lit (.bool false)], args := [d1, d2] }
  | _ => none }
def FnExactMeetRegionsWrongFalsely : Prop := fnExactMeetRegionsRow.holds Try.pinned (OpenSpec.ofChange fnExactMeetRegionsWrong)

/-- 'laws.FnExactFarRegions': WHATEVER THE INPUT: true; the input reads as it did. -/
def fnExactFarRegionsSpec : ChangeSpec := { name := "fnExactFarRegions", fn := fun _ => fun
  | [d1, d2] => { results := [.lit (.bool true)], args := [d1, d2] }
  | _ => none }
def fnExactFarRegionsRow : OpenClaim := { program := "ytkkeodceihjbgaa", sum := "ddca71a3978122d4152b1859f811d1551192f4af0f2da0794e21d2f4448e815b", func := "loop.example/g01149/laws.FnExactFarRegions", spec := "fnExactFarRegions", unfollowed := true, recurses := true, apart := false }
def FnExactFarRegionsSaid : Prop := fnExactFarRegionsRow.holds Try.pinned (OpenSpec.ofChange fnExactFarRegionsSpec)

/-- ITS FALSE NEIGHBOUR: 'it returns false'. Refute it at one input. -/
def fnExactFarRegionsWrong : ChangeSpec := { name := "fnExactFarRegions", fn := fun _ => fun
  | [d1, d2] => { results := [.lit (.bool false)], args := [d1, d2] }
  | _ => none }
def FnExactFarRegionsWrongFalsely : Prop := fnExactFarRegionsRow.holds Try.pinned (OpenSpec.ofChange fnExactFarRegionsWrong)

/-- 'laws.FnExactMergePair': WHATEVER THE INPUT: true; the input reads as it did. -/
def fnExactMergePairSpec : ChangeSpec := { name := "fnExactMergePair", fn := fun _ => fun
  | [d1, d2] => { results := [.lit (.bool true)], args := [d1, d2] }
  | _ => none }
def fnExactMergePairRow : OpenClaim := { program := "ytkkeodceihjbgaa", sum := "ddca71a3978122d4152b1859f811d1551192f4af0f2da0794e21d2f4448e815b", func := "loop.example/g01149/laws.FnExactMergePair", spec := "fnExactMergePair", unfollowed := true, recurses := true, apart := false }
def FnExactMergePairSaid : Prop := fnExactMergePairRow.holds Try.pinned (OpenSpec.ofChange fnExactMergePairSpec)

/-- ITS FALSE NEIGHBOUR: 'it returns false'. Refute it at one input. -/
def fnExactMergePairWrong : ChangeSpec := { name := "fnExactMergePair", fn := fun _ => fun
  | [d1, d2] => { results := [.lit (.bool false)], args := [d1, d2] }
  | _ => none }
def FnExactMergePairWrongFalsely : Prop := fnExactMergePairRow.holds Try.pinned (OpenSpec.ofChange fnExactMergePairWrong)

/-- 'laws.FnExactIsJoins': WHATEVER THE INPUT: true; the input reads as it did. -/
def fnExactIsJoinsSpec : ChangeSpec := { name := "fnExactIsJoins", fn := fun _ => fun
  | [d1, d2] => { results := [.lit (.bool true)], args := [d1, d2] }
  | _ => none }
def fnExactIsJoinsRow : OpenClaim := { program := "ytkkeodceihjbgaa", sum := "ddca71a3978122d4152b1859f811d1551192f4af0f2da0794e21d2f4448e815b", func := "loop.example/g01149/laws.FnExactIsJoins", spec := "fnExactIsJoins", apart := false }
def FnExactIsJoinsSaid : Prop := fnExactIsJoinsRow.holds Try.pinned (OpenSpec.ofChange fnExactIsJoinsSpec)

/-- ITS FALSE NEIGHBOUR: 'it returns false'. Refute it at one input. -/
def fnExactIsJoinsWrong : ChangeSpec := { name := "fnExactIsJoins", fn := fun _ => fun
  | [d1, d2] => { results := [.lit (.bool false)], args := [d1, d2] }
  | _ => none }
def FnExactIsJoinsWrongFalsely : Prop := fnExactIsJoinsRow.holds Try.pinned (OpenSpec.ofChange fnExactIsJoinsWrong)

/- THE SECOND FORM. 'bulk': how many values and letters a reading holds, each counted each time it is reached (what is shared counts as often as it is met; a slice's spare places count too). A statement '..UptoSaid' is the law's where the arguments, and the package variables that the reading takes, are together of bulk at most 1048576: NARROWER than '..Said'. Prove '..Said' where nothing that the law and all that it calls make is longer than what came in: it says more and counts as full. Else prove '..UptoSaid'. A law counts once. -/
mutual
def uptoBulk {H : Type} : DataW H → Nat
  | .lit (.string bytes) => bytes.length + 1
  | .lit _ => 1
  | .nil => 1
  | .ptr d => uptoBulk d + 1
  | .slice elems spare => uptoBulkAll elems + uptoBulkAll spare + 1
  | .agg parts => uptoBulkAll parts + 1
  | .iface _ d => uptoBulk d + 1
  | .map entries => uptoBulkEntries entries + 1
  | .held _ => 1
def uptoBulkAll {H : Type} : List (DataW H) → Nat
  | [] => 0
  | d :: r => uptoBulk d + uptoBulkAll r
def uptoBulkEntries {H : Type} : List (Lit × DataW H) → Nat
  | [] => 0
  | x :: r => uptoBulkEntry x + uptoBulkEntries r
def uptoBulkEntry {H : Type} : Lit × DataW H → Nat
  | (.string bytes, d) => bytes.length + uptoBulk d + 1
  | (_, d) => uptoBulk d + 1
 end
def uptoSmall : (H : Type) → List (DataW H) → Bool := fun _ ds => decide (uptoBulkAll ds ≤ 1048576)
def OpenSpec.upto (s : _root_.Go.ChangeSpec) : _root_.Go.OpenSpec := { _root_.Go.OpenSpec.ofChange s with cond := some uptoSmall }

/-- 'laws.FnExactValidRegion', WHERE WHAT IT READS IS OF BULK AT MOST 1048576: true; the input reads as it did. -/
def fnExactValidRegionUptoRow : OpenClaim := { program := "ytkkeodceihjbgaa", sum := "ddca71a3978122d4152b1859f811d1551192f4af0f2da0794e21d2f4448e815b", func := "loop.example/g01149/laws.FnExactValidRegion", spec := "fnExactValidRegion", apart := false, narrowed := true }
def FnExactValidRegionUptoSaid : Prop := fnExactValidRegionUptoRow.holds Try.pinned (OpenSpec.upto fnExactValidRegionSpec)

/-- 'laws.FnExactLeafRegion', WHERE WHAT IT READS IS OF BULK AT MOST 1048576: true; the input reads as it did. -/
def fnExactLeafRegionUptoRow : OpenClaim := { program := "ytkkeodceihjbgaa", sum := "ddca71a3978122d4152b1859f811d1551192f4af0f2da0794e21d2f4448e815b", func := "loop.example/g01149/laws.FnExactLeafRegion", spec := "fnExactLeafRegion", unfollowed := true, recurses := true, apart := false, narrowed := true }
def FnExactLeafRegionUptoSaid : Prop := fnExactLeafRegionUptoRow.holds Try.pinned (OpenSpec.upto fnExactLeafRegionSpec)

/-- 'laws.FnExactGrowRegion', WHERE WHAT IT READS IS OF BULK AT MOST 1048576: true; the input reads as it did. -/
def fnExactGrowRegionUptoRow : OpenClaim := { program := "ytkkeodceihjbgaa", sum := "ddca71a3978122d4152b1859f811d1551192f4af0f2da0794e21d2f4448e815b", func := "loop.example/g01149/laws.FnExactGrowRegion", spec := "fnExactGrowRegion", unfollowed := true, recurses := true, apart := false, narrowed := true }
def FnExactGrowRegionUptoSaid : Prop := fnExactGrowRegionUptoRow.holds Try.pinned (OpenSpec.upto fnExactGrowRegionSpec)

/-- 'laws.FnExactMeetRegions', WHERE WHAT IT READS IS OF BULK AT MOST 1048576: true; the input reads as it did. -/
def fnExactMeetRegionsUptoRow : OpenClaim := { program := "ytkkeodceihjbgaa", sum := "ddca71a3978122d4152b1859f811d1551192f4af0f2da0794e21d2f4448e815b", func := "loop.example/g01149/laws.FnExactMeetRegions", spec := "fnExactMeetRegions", unfollowed := true, recurses := true, apart := false, narrowed := true }
def FnExactMeetRegionsUptoSaid : Prop := fnExactMeetRegionsUptoRow.holds Try.pinned (OpenSpec.upto fnExactMeetRegionsSpec)

/-- 'laws.FnExactFarRegions', WHERE WHAT IT READS IS OF BULK AT MOST 1048576: true; the input reads as it did. -/
def fnExactFarRegionsUptoRow : OpenClaim := { program := "ytkkeodceihjbgaa", sum := "ddca71a3978122d4152b1859f811d1551192f4af0f2da0794e21d2f4448e815b", func := "loop.example/g01149/laws.FnExactFarRegions", spec := "fnExactFarRegions", unfollowed := true, recurses := true, apart := false, narrowed := true }
def FnExactFarRegionsUptoSaid : Prop := fnExactFarRegionsUptoRow.holds Try.pinned (OpenSpec.upto fnExactFarRegionsSpec)

/-- 'laws.FnExactMergePair', WHERE WHAT IT READS IS OF BULK AT MOST 1048576: true; the input reads as it did. -/
def fnExactMergePairUptoRow : OpenClaim := { program := "ytkkeodceihjbgaa", sum := "ddca71a3978122d4152b1859f811d1551192f4af0f2da0794e21d2f4448e815b", func := "loop.example/g01149/laws.FnExactMergePair", spec := "fnExactMergePair", unfollowed := true, recurses := true, apart := false, narrowed := true }
def FnExactMergePairUptoSaid : Prop := fnExactMergePairUptoRow.holds Try.pinned (OpenSpec.upto fnExactMergePairSpec)

/-- 'laws.FnExactIsJoins', WHERE WHAT IT READS IS OF BULK AT MOST 1048576: true; the input reads as it did. -/
def fnExactIsJoinsUptoRow : OpenClaim := { program := "ytkkeodceihjbgaa", sum := "ddca71a3978122d4152b1859f811d1551192f4af0f2da0794e21d2f4448e815b", func := "loop.example/g01149/laws.FnExactIsJoins", spec := "fnExactIsJoins", apart := false, narrowed := true }
def FnExactIsJoinsUptoSaid : Prop := fnExactIsJoinsUptoRow.holds Try.pinned (OpenSpec.upto fnExactIsJoinsSpec)

end Rows
end Go.Proofs.Ytkkeodceihjbgaa
