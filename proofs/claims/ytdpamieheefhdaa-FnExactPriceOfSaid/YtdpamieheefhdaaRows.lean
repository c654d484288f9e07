/-
  No cell of these rows narrows 'for every input' (looked for: loops, veiled, ifaces, maps, wideKeys, modest, calm, conditions, laid).
  DERIVED. THE GIVEN ROWS OF THIS SEAT. 5 by the template 'for every input the law returns true; each argument reads behind the call as it read before'; 0 by the template 'total and deterministic' (their statements: YtdpamieheefhdaaTotals.lean).
  GIVEN WITH THE SEED: the statements are not yours to turn. If you find one false, say at which input.
  Laid BY PROGRAM, IN A SANDBOX (cutbox-rows.mjs): the forced cells as the released guide's own fill.sh prints them over the translation 64cf2e231c6a7fa9… (all of the seat's roots in one cut). By AI agents, Wed Nov 11 2026. No macro, syntax, notation, axiom, sorry.
-/
import Derived.Test.YtdpamieheefhdaaChecked
import GoSem.Claim
import GoSem.ClaimJoined
import GoSem.ClaimMapViews
import Derived.JoinedTies
import Derived.KernelRfl
namespace Go.Proofs.Ytdpamieheefhdaa
/- THE CELL 'sum', in the pinned program and in every row, IS THE sha256 OF THE DUMP (.gsa) THAT YtdpamieheefhdaaProg.lean LOADS. Nothing in Lean hashes anything: it is a label: what it is worth is what the hold of that sum in a sandbox is worth. -/
noncomputable def Try.pinned : Pinned := { name := "ytdpamieheefhdaa", sum := "64cf2e231c6a7fa9936d33d6ec96279b9c117544ed969b19352d3b01f1f39472", checked := Try.checked }
namespace Rows
def none {H : Type} : Left H := { results := [], args := [] }

/-- 'laws.FnRivers': WHATEVER THE INPUT: true; the input reads as it did. -/
def fnRiversSpec : ChangeSpec := { name := "fnRivers", fn := fun _ => fun
  | [d1, d2] => { results := [.lit (.bool true)], args := [d1, d2] }
  | _ => none }
def fnRiversRow : OpenClaim := { program := "ytdpamieheefhdaa", sum := "64cf2e231c6a7fa9936d33d6ec96279b9c117544ed969b19352d3b01f1f39472", func := "loop.example/g01149/laws.FnRivers", spec := "fnRivers", unfollowed := true, recurses := true, plainKeys := false, apart := false }
def FnRiversSaid : Prop := fnRiversRow.holds Try.pinned (OpenSpec.ofChange fnRiversSpec)

/-- ITS FALSE NEIGHBOUR: 'it returns false'. Refute it at one input. -/
def fnRiversWrong : ChangeSpec := { name := "fnRivers", fn := fun _ => fun
  | [d1, d2] => { results := [.lit (.bool false)], args := [d1, d2] }
  | _ => none }
def FnRiversWrongFalsely : Prop := fnRiversRow.holds Try.pinned (OpenSpec.ofChange fnRiversWrong)

/-- 'laws.FnExactRiverWire': WHATEVER THE INPUT: true; the input reads as it did. -/
def fnExactRiverWireSpec : ChangeSpec := { name := "fnExactRiverWire", fn := fun _ => fun
  | [d1, d2, d3, d4] => { results := [.lit (.bool true)], args := [d1, d2, d3, d4] }
  | _ => none }
def fnExactRiverWireRow : OpenClaim := { program := "ytdpamieheefhdaa", sum := "64cf2e231c6a7fa9936d33d6ec96279b9c117544ed969b19352d3b01f1f39472", func := "loop.example/g01149/laws.FnExactRiverWire", spec := "fnExactRiverWire", unfollowed := true, recurses := true, plainKeys := false, apart := false }
def FnExactRiverWireSaid : Prop := fnExactRiverWireRow.holds Try.pinned (OpenSpec.ofChange fnExactRiverWireSpec)

/-- ITS FALSE NEIGHBOUR: 'it returns false'. Refute it at one input. -/
def fnExactRiverWireWrong : ChangeSpec := { name := "fnExactRiverWire", fn := fun _ => fun
  | [d1, d2, d3, d4] => { results := [.lit (.bool false)], args := [d1, d2, d3, d4] }
  | _ => none }
def FnExactRiverWireWrongFalsely : Prop := fnExactRiverWireRow.holds Try.pinned (OpenSpec.ofChange fnExactRiverWireWrong)

/-- 'laws.FnExactRiverLength': WHATEVER THE INPUT: true; the input reads as it did. -/
def fnExactRiverLengthSpec : ChangeSpec := { name := "fnExactRiverLength", fn := fun _ => fun
  | [d1, d2, d3] => { results := [.lit (.bool true)], args := [d1, d2, d3] }
  | _ => none }
def fnExactRiverLengthRow : OpenClaim := { program := "ytdpamieheefhdaa", sum := "64cf2e231c6a7fa9936d33d6ec96279b9c117544ed969b19352d3b01f1f39472", func := "loop.example/g01149/laws.FnExactRiverLength", spec := "fnExactRiverLength", unfollowed := true, recurses := true, plainKeys := false, apart := false }
def FnExactRiverLengthSaid : Prop := fnExactRiverLengthRow.holds Try.pinned (OpenSpec.ofChange fnExactRiverLengthSpec)

/-- ITS FALSE NEIGHBOUR: 'it returns false'. Refute it at one input. -/
def fnExactRiverLengthWrong : ChangeSpec := { name := "fnExactRiverLength", fn := fun _ => fun
  | [d1, d2, d3] => { results := [.lit (.bool false)], args := [d1, d2, d3] }
  | _ => none }
def FnExactRiverLengthWrongFalsely : Prop := fnExactRiverLengthRow.holds Try.pinned (OpenSpec.ofChange fnExactRiverLengthWrong)

/-- 'laws.FnExactRiverBends': WHATEVER THE INPUT: true; the input reads as it did. -/
def fnExactRiverBendsSpec : ChangeSpec := { name := "fnExactRiverBends", fn := fun _ => fun
  | [d1, d2, d3] => { results := [.lit (.bool true)], args := [d1, d2, d3] }
  | _ => none }
def fnExactRiverBendsRow : OpenClaim := { program := "ytdpamieheefhdaa", sum := "64cf2e231c6a7fa9936d33d6ec96279b9c117544ed969b19352d3b01f1f39472", func := "loop.example/g01149/laws.FnExactRiverBends", spec := "fnExactRiverBends", unfollowed := true, recurses := true, plainKeys := false, apart := false }
def FnExactRiverBendsSaid : Prop := fnExactRiverBendsRow.holds Try.pinned (OpenSpec.ofChange fnExactRiverBendsSpec)

/-- ITS FALSE NEIGHBOUR: 'it returns false'. Refute it at one input. -/
def fnExactRiverBendsWrong : ChangeSpec := { name := "fnExactRiverBends", fn := fun _ => fun
  | [d1, d2, d3] => { results := [.lit (.bool false)], args := [d1, d2, d3] }
  | _ => none }
def FnExactRiverBendsWrongFalsely : Prop := fnExactRiverBendsRow.holds Try.pinned (OpenSpec.ofChange fnExactRiverBendsWrong)

/-- 'laws.FnExactPriceOf': WHATEVER THE INPUT: true; the input reads as it did. -/
def fnExactPriceOfSpec : ChangeSpec := { name := "fnExactPriceOf", fn := fun _ => fun
  | [d1, d2, d3, d4] => { results := [.lit (.bool true)], args := [d1, d2, d3, d4] }
  | _ => none }
def fnExactPriceOfRow : OpenClaim := { program := "ytdpamieheefhdaa", sum := "64cf2e231c6a7fa9936d33d6ec96279b9c117544ed969b19352d3b01f1f39472", func := "loop.example/g01149/laws.FnExactPriceOf", spec := "fnExactPriceOf", unfollowed := true, recurses := true, plainKeys := false, apart := false }
def FnExactPriceOfSaid : Prop := fnExactPriceOfRow.holds Try.pinned (OpenSpec.ofChange fnExactPriceOfSpec)

/-- ITS FALSE NEIGHBOUR: 'it returns false'. Refute it at one input. -/
def fnExactPriceOfWrong : ChangeSpec := { name := "fnExactPriceOf", fn := fun _ => fun
  | [d1, d2, d3, d4] => { results := [.lit (.bool false)], args := [d1, d2, d3, d4] }
  | _ => none }
def FnExactPriceOfWrongFalsely : Prop := fnExactPriceOfRow.holds Try.pinned (OpenSpec.ofChange fnExactPriceOfWrong)

/- THE SECOND FORM. 'bulk': how many values and letters a reading holds, each counted each time it is reached (what is shared counts as often as it is met; a slice's spare places count too). A statement '..UptoSaid' is the law's where the arguments, and the package variables that the reading takes, are together of bulk at most 1048576: NARROWER than '..Said'. Prove '..Said' where nothing that the law and all that it calls make is longer than what came in: it says more and counts as full. Else prove '..UptoSaid'. A law counts once. -/
mutual
def uptoBulk {H : Type} : DataW H → Nat
  | .lit (.string bytes) => bytes.length + 1
  | .lit _ => 1
  | .nil => 1
  | .ptr d => uptoBulk d + 1
  | .slice elems spare => uptoBulkAll elems + uptoBulkAll spare + 1
  | .agg parts => uptoBulkAll parts + 1
  | .iface _ d => uptoBulk d + 1
  | .map entries => uptoBulkEntries entries + 1
  | .held _ => 1
def uptoBulkAll {H : Type} : List (DataW H) → Nat
  | [] => 0
  | d :: r => uptoBulk d + uptoBulkAll r
def uptoBulkEntries {H : Type} : List (Lit × DataW H) → Nat
  | [] => 0
  | x :: r => uptoBulkEntry x + uptoBulkEntries r
def uptoBulkEntry {H : Type} : Lit × DataW H → Nat
  | (.string bytes, d) => bytes.length + uptoBulk d + 1
  | (_, d) => uptoBulk d + 1
 end
def uptoSmall : (H : Type) → List (DataW H) → Bool := fun _ ds => decide (uptoBulkAll ds ≤ 1048576)
def OpenSpec.upto (s : _root_.Go.ChangeSpec) : _root_.Go.OpenSpec := { _root_.Go.OpenSpec.ofChange s with cond := some uptoSmall }

/-- 'laws.FnRivers', WHERE WHAT IT READS IS OF BULK AT MOST 1048576: true; the input reads as it did. -/
def fnRiversUptoRow : OpenClaim := { program := "ytdpamieheefhdaa", sum := "64cf2e231c6a7fa9936d33d6ec96279b9c117544ed969b19352d3b01f1f39472", func := "loop.example/g01149/laws.FnRivers", spec := "fnRivers", unfollowed := true, recurses := true, plainKeys := false, apart := false, narrowed := true }
def FnRiversUptoSaid : Prop := fnRiversUptoRow.holds Try.pinned (OpenSpec.upto fnRiversSpec)

/-- 'laws.FnExactRiverWire', WHERE WHAT IT READS IS OF BULK AT MOST 1048576: true; the input reads as it did. -/
def fnExactRiverWireUptoRow : OpenClaim := { program := "ytdpamieheefhdaa", sum := "64cf2e231c6a7fa9936d33d6ec96279b9c117544ed969b19352d3b01f1f39472", func := "loop.example/g01149/laws.FnExactRiverWire", spec := "fnExactRiverWire", unfollowed := true, recurses := true, plainKeys := false, apart := false, narrowed := true }
def FnExactRiverWireUptoSaid : Prop := fnExactRiverWireUptoRow.holds Try.pinned (OpenSpec.upto fnExactRiverWireSpec)

/-- 'laws.FnExactRiverLength', WHERE WHAT IT READS IS OF BULK AT MOST 1048576: true; the input reads as it did. -/
def fnExactRiverLengthUptoRow : OpenClaim := { program := "ytdpamieheefhdaa", sum := "64cf2e231c6a7fa9936d33d6ec96279b9c117544ed969b19352d3b01f1f39472", func := "loop.example/g01149/laws.FnExactRiverLength", spec := "fnExactRiverLength", unfollowed := true, recurses := true, plainKeys := false, apart := false, narrowed := true }
def FnExactRiverLengthUptoSaid : Prop := fnExactRiverLengthUptoRow.holds Try.pinned (OpenSpec.upto fnExactRiverLengthSpec)

/-- 'laws.FnExactRiverBends', WHERE WHAT IT READS IS OF BULK AT MOST 1048576: true; the input reads as it did. -/
def fnExactRiverBendsUptoRow : OpenClaim := { program := "ytdpamieheefhdaa", sum := "64cf2e231c6a7fa9936d33d6ec96279b9c117544ed969b19352d3b01f1f39472", func := "loop.example/g01149/laws.FnExactRiverBends", spec := "fnExactRiverBends", unfollowed := true, recurses := true, plainKeys := false, apart := false, narrowed := true }
def FnExactRiverBendsUptoSaid : Prop := fnExactRiverBendsUptoRow.holds Try.pinned (OpenSpec.upto fnExactRiverBendsSpec)

/-- 'laws.FnExactPriceOf', WHERE WHAT IT READS IS OF BULK AT MOST 1048576: true; the input reads as it did. -/
def fnExactPriceOfUptoRow : OpenClaim := { program := "ytdpamieheefhdaa", sum := "64cf2e231c6a7fa9936d33d6ec96279b9c117544ed969b19352d3b01f1f39472", func := "loop.example/g01149/laws.FnExactPriceOf", spec := "fnExactPriceOf", unfollowed := true, recurses := true, plainKeys := false, apart := false, narrowed := true }
def FnExactPriceOfUptoSaid : Prop := fnExactPriceOfUptoRow.holds Try.pinned (OpenSpec.upto fnExactPriceOfSpec)

end Rows
end Go.Proofs.Ytdpamieheefhdaa
