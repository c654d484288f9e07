/-
  No cell of these rows narrows 'for every input' (looked for: loops, veiled, ifaces, maps, wideKeys, modest, calm, conditions, laid).
  DERIVED. THE GIVEN ROWS OF THIS SEAT. 8 by the template 'for every input the law returns true; each argument reads behind the call as it read before'; 0 by the template 'total and deterministic' (their statements: YtdndkknkkgialaaTotals.lean).
  GIVEN WITH THE SEED: the statements are not yours to turn. If you find one false, say at which input.
  Laid BY PROGRAM, IN A SANDBOX (cutbox-rows.mjs): the forced cells as the released guide's own fill.sh prints them over the translation 9e231e45cc50be72… (all of the seat's roots in one cut). By AI agents, Wed Nov 11 2026. No macro, syntax, notation, axiom, sorry.
-/
import Derived.Test.YtdndkknkkgialaaChecked
import GoSem.Claim
import GoSem.ClaimJoined
import GoSem.ClaimMapViews
import Derived.JoinedTies
import Derived.KernelRfl
namespace Go.Proofs.Ytdndkknkkgialaa
/- THE CELL 'sum', in the pinned program and in every row, IS THE sha256 OF THE DUMP (.gsa) THAT YtdndkknkkgialaaProg.lean LOADS. Nothing in Lean hashes anything: it is a label: what it is worth is what the hold of that sum in a sandbox is worth. -/
noncomputable def Try.pinned : Pinned := { name := "ytdndkknkkgialaa", sum := "9e231e45cc50be720bf8fd515aecaea2bda7039a424db4125d9ae29a5eae590f", checked := Try.checked }
namespace Rows
def none {H : Type} : Left H := { results := [], args := [] }

/-- 'laws.FnExactValidMaze': WHATEVER THE INPUT: true; the input reads as it did. -/
def fnExactValidMazeSpec : ChangeSpec := { name := "fnExactValidMaze", fn := fun _ => fun
  | [d] => { results := [.lit (.bool true)], args := [d] }
  | _ => none }
def fnExactValidMazeRow : OpenClaim := { program := "ytdndkknkkgialaa", sum := "9e231e45cc50be720bf8fd515aecaea2bda7039a424db4125d9ae29a5eae590f", func := "loop.example/g01149/laws.FnExactValidMaze", spec := "fnExactValidMaze", unfollowed := true, recurses := true, plainKeys := false, apart := false }
def FnExactValidMazeSaid : Prop := fnExactValidMazeRow.holds Try.pinned (OpenSpec.ofChange fnExactValidMazeSpec)

/-- ITS FALSE NEIGHBOUR: 'it returns false'. Refute it at one input. -/
def fnExactValidMazeWrong : ChangeSpec := { name := "fnExactValidMaze", fn := fun _ => fun
  | [d] => { results := [.lit (.bool false)], args := [d] }
  | _ => none }
def FnExactValidMazeWrongFalsely : Prop := fnExactValidMazeRow.holds Try.pinned (OpenSpec.ofChange fnExactValidMazeWrong)

/-- 'laws.FnExactIsOpen': WHATEVER THE INPUT: true; the input reads as it did. -/
def fnExactIsOpenSpec : ChangeSpec := { name := "fnExactIsOpen", fn := fun _ => fun
  | [d1, d2] => { results := [.lit (.bool true)], args := [d1, d2] }
  | _ => none }
def fnExactIsOpenRow : OpenClaim := { program := "ytdndkknkkgialaa", sum := "9e231e45cc50be720bf8fd515aecaea2bda7039a424db4125d9ae29a5eae590f", func := "loop.example/g01149/laws.FnExactIsOpen", spec := "fnExactIsOpen", unfollowed := true, recurses := true, plainKeys := false, apart := false }
def FnExactIsOpenSaid : Prop := fnExactIsOpenRow.holds Try.pinned (OpenSpec.ofChange fnExactIsOpenSpec)

/-- ITS FALSE NEIGHBOUR: 'it returns false'. Refute it at one input. -/
def fnExactIsOpenWrong : ChangeSpec := { name := "fnExactIsOpen", fn := fun _ => fun
  | [d1, d2] => { results := [.lit (.bool false)], args := [d1, d2] }
  | _ => none }
def FnExactIsOpenWrongFalsely : Prop := fnExactIsOpenRow.holds Try.pinned (OpenSpec.ofChange fnExactIsOpenWrong)

/-- 'laws.FnExactEndOf': WHATEVER THE INPUT: true; the input reads as it did. -/
def fnExactEndOfSpec : ChangeSpec := { name := "fnExactEndOf", fn := fun _ => fun
  | [d1, d2, d3] => { results := [.lit (.bool true)], args := [d1, d2, d3] }
  | _ => none }
def fnExactEndOfRow : OpenClaim := { program := "ytdndkknkkgialaa", sum := "9e231e45cc50be720bf8fd515aecaea2bda7039a424db4125d9ae29a5eae590f", func := "loop.example/g01149/laws.FnExactEndOf", spec := "fnExactEndOf", unfollowed := true, recurses := true, plainKeys := false, apart := false }
def FnExactEndOfSaid : Prop := fnExactEndOfRow.holds Try.pinned (OpenSpec.ofChange fnExactEndOfSpec)

/-- ITS FALSE NEIGHBOUR: 'it returns false'. Refute it at one input. -/
def fnExactEndOfWrong : ChangeSpec := { name := "fnExactEndOf", fn := fun _ => fun
  | [d1, d2, d3] => { results := [.lit (.bool false)], args := [d1, d2, d3] }
  | _ => none }
def FnExactEndOfWrongFalsely : Prop := fnExactEndOfRow.holds Try.pinned (OpenSpec.ofChange fnExactEndOfWrong)

/-- 'laws.FnExactPriceOf': WHATEVER THE INPUT: true; the input reads as it did. -/
def fnExactPriceOfSpec : ChangeSpec := { name := "fnExactPriceOf", fn := fun _ => fun
  | [d1, d2, d3, d4] => { results := [.lit (.bool true)], args := [d1, d2, d3, d4] }
  | _ => none }
def fnExactPriceOfRow : OpenClaim := { program := "ytdndkknkkgialaa", sum := "9e231e45cc50be720bf8fd515aecaea2bda7039a424db4125d9ae29a5eae590f", func := "loop.example/g01149/laws.FnExactPriceOf", spec := "fnExactPriceOf", unfollowed := true, recurses := true, plainKeys := false, apart := false }
def FnExactPriceOfSaid : Prop := fnExactPriceOfRow.holds Try.pinned (OpenSpec.ofChange fnExactPriceOfSpec)

/-- ITS FALSE NEIGHBOUR: 'it returns false'. Refute it at one input. -/
def fnExactPriceOfWrong : ChangeSpec := { name := "fnExactPriceOf", fn := fun _ => fun
  | [d1, d2, d3, d4] => { results := [.lit (.bool false)], args := [d1, d2, d3, d4] }
  | _ => none }
def FnExactPriceOfWrongFalsely : Prop := fnExactPriceOfRow.holds Try.pinned (OpenSpec.ofChange fnExactPriceOfWrong)

/-- 'laws.FnExactReachedCells': WHATEVER THE INPUT: true; the input reads as it did. -/
def fnExactReachedCellsSpec : ChangeSpec := { name := "fnExactReachedCells", fn := fun _ => fun
  | [d1, d2] => { results := [.lit (.bool true)], args := [d1, d2] }
  | _ => none }
def fnExactReachedCellsRow : OpenClaim := { program := "ytdndkknkkgialaa", sum := "9e231e45cc50be720bf8fd515aecaea2bda7039a424db4125d9ae29a5eae590f", func := "loop.example/g01149/laws.FnExactReachedCells", spec := "fnExactReachedCells", unfollowed := true, recurses := true, plainKeys := false, apart := false }
def FnExactReachedCellsSaid : Prop := fnExactReachedCellsRow.holds Try.pinned (OpenSpec.ofChange fnExactReachedCellsSpec)

/-- ITS FALSE NEIGHBOUR: 'it returns false'. Refute it at one input. -/
def fnExactReachedCellsWrong : ChangeSpec := { name := "fnExactReachedCells", fn := fun _ => fun
  | [d1, d2] => { results := [.lit (.bool false)], args := [d1, d2] }
  | _ => none }
def FnExactReachedCellsWrongFalsely : Prop := fnExactReachedCellsRow.holds Try.pinned (OpenSpec.ofChange fnExactReachedCellsWrong)

/-- 'laws.FnExactWallAround': WHATEVER THE INPUT: true; the input reads as it did. -/
def fnExactWallAroundSpec : ChangeSpec := { name := "fnExactWallAround", fn := fun _ => fun
  | [d1, d2] => { results := [.lit (.bool true)], args := [d1, d2] }
  | _ => none }
def fnExactWallAroundRow : OpenClaim := { program := "ytdndkknkkgialaa", sum := "9e231e45cc50be720bf8fd515aecaea2bda7039a424db4125d9ae29a5eae590f", func := "loop.example/g01149/laws.FnExactWallAround", spec := "fnExactWallAround", unfollowed := true, recurses := true, plainKeys := false, apart := false }
def FnExactWallAroundSaid : Prop := fnExactWallAroundRow.holds Try.pinned (OpenSpec.ofChange fnExactWallAroundSpec)

/-- ITS FALSE NEIGHBOUR: 'it returns false'. Refute it at one input. -/
def fnExactWallAroundWrong : ChangeSpec := { name := "fnExactWallAround", fn := fun _ => fun
  | [d1, d2] => { results := [.lit (.bool false)], args := [d1, d2] }
  | _ => none }
def FnExactWallAroundWrongFalsely : Prop := fnExactWallAroundRow.holds Try.pinned (OpenSpec.ofChange fnExactWallAroundWrong)

/-- 'laws.FnExactCrowdCells': WHATEVER THE INPUT: true; the input reads as it did. -/
def fnExactCrowdCellsSpec : ChangeSpec := { name := "fnExactCrowdCells", fn := fun _ => fun
  | [d1, d2, d3] => { results := [.lit (.bool true)], args := [d1, d2, d3] }
  | _ => none }
def fnExactCrowdCellsRow : OpenClaim := { program := "ytdndkknkkgialaa", sum := "9e231e45cc50be720bf8fd515aecaea2bda7039a424db4125d9ae29a5eae590f", func := "loop.example/g01149/laws.FnExactCrowdCells", spec := "fnExactCrowdCells", unfollowed := true, recurses := true, plainKeys := false, apart := false }
def FnExactCrowdCellsSaid : Prop := fnExactCrowdCellsRow.holds Try.pinned (OpenSpec.ofChange fnExactCrowdCellsSpec)

/-- ITS FALSE NEIGHBOUR: 'it returns false'. Refute it at one input. -/
def fnExactCrowdCellsWrong : ChangeSpec := { name := "fnExactCrowdCells", fn := fun _ => fun
  | [d1, d2, d3] => { results := [.lit (.bool false)], args := [d1, d2, d3] }
  | _ => none }
def FnExactCrowdCellsWrongFalsely : Prop := fnExactCrowdCellsRow.holds Try.pinned (OpenSpec.ofChange fnExactCrowdCellsWrong)

/-- 'laws.FnExactMazeText': WHATEVER THE INPUT: true; the input reads as it did. -/
def fnExactMazeTextSpec : ChangeSpec := { name := "fnExactMazeText", fn := fun _ => fun
  | [d] => { results := [.lit (.bool true)], args := [d] }
  | _ => none }
def fnExactMazeTextRow : OpenClaim := { program := "ytdndkknkkgialaa", sum := "9e231e45cc50be720bf8fd515aecaea2bda7039a424db4125d9ae29a5eae590f", func := "loop.example/g01149/laws.FnExactMazeText", spec := "fnExactMazeText", inPlace := ["internal/abi.NoEscape", "internal/bytealg.MakeNoZero"], unfollowed := true, recurses := true, plainKeys := false, apart := false }
def FnExactMazeTextSaid : Prop := fnExactMazeTextRow.holds Try.pinned (OpenSpec.ofChange fnExactMazeTextSpec)

/-- ITS FALSE NEIGHBOUR: 'it returns false'. Refute it at one input. -/
def fnExactMazeTextWrong : ChangeSpec := { name := "fnExactMazeText", fn := fun _ => fun
  | [d] => { results := [.lit (.bool false)], args := [d] }
  | _ => none }
def FnExactMazeTextWrongFalsely : Prop := fnExactMazeTextRow.holds Try.pinned (OpenSpec.ofChange fnExactMazeTextWrong)

/- THE SECOND FORM. 'bulk': how many values and letters a reading holds, each counted each time it is reached (what is shared counts as often as it is met; a slice's spare places count too). A statement '..UptoSaid' is the law's where the arguments, and the package variables that the reading takes, are together of bulk at most 1048576: NARROWER than '..Said'. Prove '..Said' where nothing that the law and all that it calls make is longer than what came in: it says more and counts as full. Else prove '..UptoSaid'. A law counts once. -/
mutual
def uptoBulk {H : Type} : DataW H → Nat
  | .lit (.string bytes) => bytes.length + 1
  | .lit _ => 1
  | .nil => 1
  | .ptr d => uptoBulk d + 1
  | .slice elems spare => uptoBulkAll elems + uptoBulkAll spare + 1
  | .agg parts => uptoBulkAll parts + 1
  | .iface _ d => uptoBulk d + 1
  | .map entries => uptoBulkEntries entries + 1
  | .held _ => 1
def uptoBulkAll {H : Type} : List (DataW H) → Nat
  | [] => 0
  | d :: r => uptoBulk d + uptoBulkAll r
def uptoBulkEntries {H : Type} : List (Lit × DataW H) → Nat
  | [] => 0
  | x :: r => uptoBulkEntry x + uptoBulkEntries r
def uptoBulkEntry {H : Type} : Lit × DataW H → Nat
  | (.string bytes, d) => bytes.length + uptoBulk d + 1
  | (_, d) => uptoBulk d + 1
 end
def uptoSmall : (H : Type) → List (DataW H) → Bool := fun _ ds => decide (uptoBulkAll ds ≤ 1048576)
def OpenSpec.upto (s : _root_.Go.ChangeSpec) : _root_.Go.OpenSpec := { _root_.Go.OpenSpec.ofChange s with cond := some uptoSmall }

/-- 'laws.FnExactValidMaze', WHERE WHAT IT READS IS OF BULK AT MOST 1048576: true; the input reads as it did. -/
def fnExactValidMazeUptoRow : OpenClaim := { program := "ytdndkknkkgialaa", sum := "9e231e45cc50be720bf8fd515aecaea2bda7039a424db4125d9ae29a5eae590f", func := "loop.example/g01149/laws.FnExactValidMaze", spec := "fnExactValidMaze", unfollowed := true, recurses := true, plainKeys := false, apart := false, narrowed := true }
def FnExactValidMazeUptoSaid : Prop := fnExactValidMazeUptoRow.holds Try.pinned (OpenSpec.upto fnExactValidMazeSpec)

/-- 'laws.FnExactIsOpen', WHERE WHAT IT READS IS OF BULK AT MOST 1048576: true; the input reads as it did. -/
def fnExactIsOpenUptoRow : OpenClaim := { program := "ytdndkknkkgialaa", sum := "9e231e45cc50be720bf8fd515aecaea2bda7039a424db4125d9ae29a5eae590f", func := "loop.example/g01149/laws.FnExactIsOpen", spec := "fnExactIsOpen", unfollowed := true, recurses := true, plainKeys := false, apart := false, narrowed := true }
def FnExactIsOpenUptoSaid : Prop := fnExactIsOpenUptoRow.holds Try.pinned (OpenSpec.upto fnExactIsOpenSpec)

/-- 'laws.FnExactEndOf', WHERE WHAT IT READS IS OF BULK AT MOST 1048576: true; the input reads as it did. -/
def fnExactEndOfUptoRow : OpenClaim := { program := "ytdndkknkkgialaa", sum := "9e231e45cc50be720bf8fd515aecaea2bda7039a424db4125d9ae29a5eae590f", func := "loop.example/g01149/laws.FnExactEndOf", spec := "fnExactEndOf", unfollowed := true, recurses := true, plainKeys := false, apart := false, narrowed := true }
def FnExactEndOfUptoSaid : Prop := fnExactEndOfUptoRow.holds Try.pinned (OpenSpec.upto fnExactEndOfSpec)

/-- 'laws.FnExactPriceOf', WHERE WHAT IT READS IS OF BULK AT MOST 1048576: true; the input reads as it did. -/
def fnExactPriceOfUptoRow : OpenClaim := { program := "ytdndkknkkgialaa", sum := "9e231e45cc50be720bf8fd515aecaea2bda7039a424db4125d9ae29a5eae590f", func := "loop.example/g01149/laws.FnExactPriceOf", spec := "fnExactPriceOf", unfollowed := true, recurses := true, plainKeys := false, apart := false, narrowed := true }
def FnExactPriceOfUptoSaid : Prop := fnExactPriceOfUptoRow.holds Try.pinned (OpenSpec.upto fnExactPriceOfSpec)

/-- 'laws.FnExactReachedCells', WHERE WHAT IT READS IS OF BULK AT MOST 1048576: true; the input reads as it did. -/
def fnExactReachedCellsUptoRow : OpenClaim := { program := "ytdndkknkkgialaa", sum := "9e231e45cc50be720bf8fd515aecaea2bda7039a424db4125d9ae29a5eae590f", func := "loop.example/g01149/laws.FnExactReachedCells", spec := "fnExactReachedCells", unfollowed := true, recurses := true, plainKeys := false, apart := false, narrowed := true }
def FnExactReachedCellsUptoSaid : Prop := fnExactReachedCellsUptoRow.holds Try.pinned (OpenSpec.upto fnExactReachedCellsSpec)

/-- 'laws.FnExactWallAround', WHERE WHAT IT READS IS OF BULK AT MOST 1048576: true; the input reads as it did. -/
def fnExactWallAroundUptoRow : OpenClaim := { program := "ytdndkknkkgialaa", sum := "9e231e45cc50be720bf8fd515aecaea2bda7039a424db4125d9ae29a5eae590f", func := "loop.example/g01149/laws.FnExactWallAround", spec := "fnExactWallAround", unfollowed := true, recurses := true, plainKeys := false, apart := false, narrowed := true }
def FnExactWallAroundUptoSaid : Prop := fnExactWallAroundUptoRow.holds Try.pinned (OpenSpec.upto fnExactWallAroundSpec)

/-- 'laws.FnExactCrowdCells', WHERE WHAT IT READS IS OF BULK AT MOST 1048576: true; the input reads as it did. -/
def fnExactCrowdCellsUptoRow : OpenClaim := { program := "ytdndkknkkgialaa", sum := "9e231e45cc50be720bf8fd515aecaea2bda7039a424db4125d9ae29a5eae590f", func := "loop.example/g01149/laws.FnExactCrowdCells", spec := "fnExactCrowdCells", unfollowed := true, recurses := true, plainKeys := false, apart := false, narrowed := true }
def FnExactCrowdCellsUptoSaid : Prop := fnExactCrowdCellsUptoRow.holds Try.pinned (OpenSpec.upto fnExactCrowdCellsSpec)

/-- 'laws.FnExactMazeText', WHERE WHAT IT READS IS OF BULK AT MOST 1048576: true; the input reads as it did. -/
def fnExactMazeTextUptoRow : OpenClaim := { program := "ytdndkknkkgialaa", sum := "9e231e45cc50be720bf8fd515aecaea2bda7039a424db4125d9ae29a5eae590f", func := "loop.example/g01149/laws.FnExactMazeText", spec := "fnExactMazeText", inPlace := ["internal/abi.NoEscape", "internal/bytealg.MakeNoZero"], unfollowed := true, recurses := true, plainKeys := false, apart := false, narrowed := true }
def FnExactMazeTextUptoSaid : Prop := fnExactMazeTextUptoRow.holds Try.pinned (OpenSpec.upto fnExactMazeTextSpec)

end Rows
end Go.Proofs.Ytdndkknkkgialaa
